import Derived.Test.YtfppfjklakdlfaaDoorJForms17
import Derived.Test.YtfppfjklakdlfaaDoorJForms42
import Derived.Test.YtfppfjklakdlfaaDoorJForms9
import Derived.Test.YtfppfjklakdlfaaDoorJForms0
import Derived.Test.YtfppfjklakdlfaaDoorJForms7
import Derived.Deep.RegionHeld
import Derived.Test.YtfppfjklakdlfaaDoorJForms15
import Derived.Test.YtfppfjklakdlfaaDoorJForms18
import Derived.Test.YtfppfjklakdlfaaDoorJForms10
import Derived.Test.YtfppfjklakdlfaaDoorJForms16
import Derived.Test.YtfppfjklakdlfaaDoorJForms4
namespace Go.Proofs.YtfppfjklakdlfaaDoor
open Go.RowKit
theorem sum_evn (bs : List (List Nat)) : tot bs ≤ (bs.map fun b => evn b.length).sum := by
  induction bs with
  | nil => simp [tot]
  | cons b bs ih =>
    have := (evn_le b.length).1
    simp only [tot, List.map_cons, List.sum_cons] at ih ⊢
    omega
theorem decP_fits (xs : List Nat) : (decP xs).bufs.length ≤ 40 ∧ tot (decP xs).bufs ≤ 20000 := by
  cases h : decR xs with
  | none => rw [(dec_none h).1]; simp [noMsg, tot]
  | some m =>
    rw [(dec_some h).1]
    obtain ⟨he, hne⟩ := decR_enc h
    obtain ⟨h1, h2, h3⟩ := encR_some he hne
    rw [sizeM_len] at h2
    have h4 := sum_evn m.bufs
    unfold sizeM at h2
    simp only [msgOK, decide_eq_true_eq] at h1
    exact ⟨h1.2.2.2.2.2.2.1, by omega⟩
end Go.Proofs.YtfppfjklakdlfaaDoor
namespace Go.Proofs.YtfppfjklakdlfaaDoor
open Go.RowKit
def PdPost (w : World) (p : PP) (C : Int) (e : Ending) (w' : World) : Prop :=
  ∃ a c, e = .returned (.tuple #[.agg #[.int .i64 p.kind, .int .i64 p.epoch, .int .i64 p.seq, .int .i64 p.count, .bool p.last, .slice a p.data.length c], .int .i64 C]) ∧ w'.ownsRow w.heap.size 5 1 (.slice a p.data.length c) p.data.length (byt p.data) ∧ Below w.heap.size w w'
theorem pdPost_nil {w w' : World} {p : PP} {C C' : Int} (hb : Below w.heap.size w w') (hp : p = noPkt) (hC : C = C') : PdPost w p C (.returned (.tuple #[.agg #[.int .i64 0, .int .i64 0, .int .i64 0, .int .i64 0, .bool false, .slice none 0 0], .int .i64 C'])) w' := by
  subst hp hC
  exact ⟨none, 0, rfl, World.ownsRow_nil _ _ _ _, hb⟩
def fcRowD (lo : Nat) (D : List Nat) : Fct := ⟨fun v w => w.ownsRow lo 5 1 v D.length (byt D), fun _ _ _ h hb => own_later h hb⟩
def fcAggD (lo K E C : Nat) (SI : Int) (LB : Bool) (D : List Nat) : Fct := ⟨fun v w => ∃ a c, v = .agg #[.int .i64 (K : Int), .int .i64 (E : Int), .int .i64 SI, .int .i64 (C : Int), .bool LB, .slice a D.length c] ∧ w.ownsRow lo 5 1 (.slice a D.length c) D.length (byt D), fun _ _ _ ⟨a, c, e, h⟩ hb => ⟨a, c, e, own_later h hb⟩⟩
def fcNewD (lo : Nat) : Fct := ⟨fun v w => ∃ g, v = .pointer (some ⟨g, 0, none⟩) ∧ lo ≤ g ∧ w.heap[g]? = some (.cells #[.int .i64 0, .int .i64 0, .int .i64 0, .int .i64 0, .bool false, .slice none 0 0] 39 (0, 0)), fun _ _ _ ⟨g, e, l, h⟩ hb => ⟨g, e, l, (hb.block _ (Array.getElem?_eq_some_iff.1 h).1).trans h⟩⟩
theorem box_far {w : World} {gm : Nat} {cs : Array Value} {t : TypeId} {B n s : Nat} {e : TypeId} {u : Value} {vs : List Value} {k : Nat} (hb : w.heap[gm]? = some (.cells cs t (0, 0))) (ho : w.ownsRow B e s u n vs) (hne : e ≠ t) (hk : u.ownBlock = some k) : k ≠ gm := by
  intro he
  subst he
  rcases ho.2 with ⟨rfl, _⟩ | ⟨g, cap, cur, rfl, _, hh, _⟩
  · simp [Value.ownBlock] at hk
  · simp [Value.ownBlock] at hk
    subst hk
    rw [hb] at hh
    simp at hh
    exact hne hh.2.symm
theorem box_laterP {w w' : World} {g : Nat} {o : Obj} (h : w.heap[g]? = some o) (hb : Below w.heap.size w w') : w'.heap[g]? = some o := (hb.block g (Array.getElem?_eq_some_iff.1 h).1).trans h
theorem pktG_in {xs : List Nat} {K E S C : Nat} {L : Bool} {D : List Nat} (hK : K < 256) (hE : E < 4294967296) (_hS : S < 18446744073709551616) (hC : C < 4294967296) (h : pktG xs = ⟨(K : Int), (E : Int), wrap64 (S : Int), (C : Int), L, D⟩) : PPIn (pktG xs) := by
  rw [h]
  refine ⟨?_, ?_, ?_, ?_⟩ <;> unfold IntIn <;> try (unfold wrap64) <;> dsimp only <;> omega
end Go.Proofs.YtfppfjklakdlfaaDoor
namespace Go.Proofs.YtfppfjklakdlfaaDoor
open Go.RowKit
theorem wrap64_step (N x : Nat) : wrap64 (wrap64 (wrap64 (N : Int) * 256) + (x : Int)) = wrap64 ((x + 256 * N : Nat) : Int) := by unfold wrap64; omega
theorem wrap64_step2 (N x : Nat) : wrap64 (wrap64 (N : Int) * 256 + (x : Int)) = wrap64 ((x + 256 * N : Nat) : Int) := by unfold wrap64; omega
theorem num_below {xs : List Nat} {n : Nat} (h : ∀ x ∈ xs, x < 256) (hl : xs.length ≤ n) : num xs < 256 ^ n := Nat.lt_of_lt_of_le (num_lt xs h) (Nat.pow_le_pow_right (by omega) hl)
set_option maxHeartbeats 2000000 in
theorem number8_any (a : Option Addr) (cap : Nat) (xs : List Nat) (w : World) (hr : RdSl cByte w xs (.slice a xs.length cap)) (hl : xs.length ≤ 8) :
    Calls Tryd.prog 28 #[.slice a xs.length cap] w fun e w' => e = .returned (.int .i64 (wrap64 ((num xs : Nat) : Int))) ∧ w' = w := by
  have HR := hid hr
  have HBY := hid hr.rdB.2
  clear hr
  go_enter Tryd.func28, Tryd.ntmps28
  go_wp2
  go_loop [3, 4] (fun v i => ∃ k : Nat, k ≤ xs.length ∧ i = .int .i64 ((k : Int) - 1) ∧ v = .int .i64 (wrap64 ((num (xs.drop k) : Nat) : Int))) (fun _ i => ((intOf i) + 1).toNat)
  case atStart => exact ⟨xs.length, Nat.le_refl _, rfl, by simp [num, wrap64]⟩
  case round =>
    obtain ⟨k, hk, rfl, rfl⟩ := hrel
    cases k with
    | zero =>
      have h0 : num (xs.drop 0) = num xs := by rw [List.drop_zero]
      rw [h0]
      go_wp2
      go_ret
      exact ⟨rfl, rfl⟩
    | succ k =>
      have hk' : k < xs.length := hk
      obtain ⟨b, off, rfl, hcb⟩ : ∃ b off, a = some ⟨b, off, none⟩ ∧ w.cell? ⟨b, off + k, none⟩ = some (.int .u8 (xs[k] : Int)) := by
        obtain ⟨b, off, v, e, ⟨h1, _⟩, h2⟩ := HR.out.at1 (k := k) rfl hk'
        simp only [List.cons.injEq, and_true] at h1
        exact ⟨b, off, e, by rw [h2, h1]⟩
      have HS := hid (num_drop xs k hk')
      have hx := HBY.out _ (List.getElem_mem hk')
      have hki : (((k + 1 : Nat) : Int) - 1) = (k : Int) := by omega
      rw [hki]
      have HST := hid (wrap64_step (num (xs.drop (k + 1))) xs[k])
      have HST2 := hid (wrap64_step2 (num (xs.drop (k + 1))) xs[k])
      generalize num (xs.drop (k + 1)) = t at *
      generalize hv : wrap64 (t : Int) = tv at *
      clear hv
      go_wp2
      go_round
      case rel => exact ⟨k, by omega, by go_num, by rw [HS.out]; first | rw [← HST.out] | rw [← HST2.out]⟩
      case measure => simp [intOf]
end Go.Proofs.YtfppfjklakdlfaaDoor
