import Derived.Test.YtmaccmgmcahopaaJWindow8
import Derived.Test.YtmaccmgmcahopaaJWindow10
import Derived.Test.YtmaccmgmcahopaaJWindow7
import Derived.Test.YtmaccmgmcahopaaJWindow9
import Derived.Test.YtmaccmgmcahopaaJWindow4
import Derived.Test.YtmaccmgmcahopaaJWindow14
namespace Go.Proofs.Ytmaccmgmcahopaa
open Go.RowKit
def PdPost (w : World) (p : PP) (C : Int) (e : Ending) (w' : World) : Prop :=
  ∃ a c, e = .returned (.tuple #[.agg #[.int .i64 p.kind, .int .i64 p.epoch, .int .i64 p.seq, .int .i64 p.count, .bool p.last, .slice a p.data.length c], .int .i64 C]) ∧ w'.ownsRow w.heap.size 5 1 (.slice a p.data.length c) p.data.length (byt p.data) ∧ Below w.heap.size w w'
theorem pdPost_nil {w w' : World} {p : PP} {C C' : Int} (hb : Below w.heap.size w w') (hp : p = noPkt) (hC : C = C') : PdPost w p C (.returned (.tuple #[.agg #[.int .i64 0, .int .i64 0, .int .i64 0, .int .i64 0, .bool false, .slice none 0 0], .int .i64 C'])) w' := by
  subst hp hC
  exact ⟨none, 0, rfl, World.ownsRow_nil _ _ _ _, hb⟩
def fcRowD (lo : Nat) (D : List Nat) : Fct := ⟨fun v w => w.ownsRow lo 5 1 v D.length (byt D), fun _ _ _ h hb => own_later h hb⟩
def fcAggD (lo K E C : Nat) (SI : Int) (LB : Bool) (D : List Nat) : Fct := ⟨fun v w => ∃ a c, v = .agg #[.int .i64 (K : Int), .int .i64 (E : Int), .int .i64 SI, .int .i64 (C : Int), .bool LB, .slice a D.length c] ∧ w.ownsRow lo 5 1 (.slice a D.length c) D.length (byt D), fun _ _ _ ⟨a, c, e, h⟩ hb => ⟨a, c, e, own_later h hb⟩⟩
def fcNewD (lo : Nat) : Fct := ⟨fun v w => ∃ g, v = .pointer (some ⟨g, 0, none⟩) ∧ lo ≤ g ∧ w.heap[g]? = some (.cells #[.int .i64 0, .int .i64 0, .int .i64 0, .int .i64 0, .bool false, .slice none 0 0] 35 (0, 0)), fun _ _ _ ⟨g, e, l, h⟩ hb => ⟨g, e, l, (hb.block _ (Array.getElem?_eq_some_iff.1 h).1).trans h⟩⟩
theorem box_far {w : World} {gm : Nat} {cs : Array Value} {t : TypeId} {B n s : Nat} {e : TypeId} {u : Value} {vs : List Value} {k : Nat} (hb : w.heap[gm]? = some (.cells cs t (0, 0))) (ho : w.ownsRow B e s u n vs) (hne : e ≠ t) (hk : u.ownBlock = some k) : k ≠ gm := by
  intro he
  subst he
  rcases ho.2 with ⟨rfl, _⟩ | ⟨g, cap, cur, rfl, _, hh, _⟩
  · simp [Value.ownBlock] at hk
  · simp [Value.ownBlock] at hk
    subst hk
    rw [hb] at hh
    simp at hh
    exact hne hh.2.symm
theorem box_laterP {w w' : World} {g : Nat} {o : Obj} (h : w.heap[g]? = some o) (hb : Below w.heap.size w w') : w'.heap[g]? = some o := (hb.block g (Array.getElem?_eq_some_iff.1 h).1).trans h
theorem pktG_in {xs : List Nat} {K E S C : Nat} {L : Bool} {D : List Nat} (hK : K < 256) (hE : E < 4294967296) (_hS : S < 18446744073709551616) (hC : C < 4294967296) (h : pktG xs = ⟨(K : Int), (E : Int), wrap64 (S : Int), (C : Int), L, D⟩) : PPIn (pktG xs) := by
  rw [h]
  refine ⟨?_, ?_, ?_, ?_⟩ <;> unfold IntIn <;> try (unfold wrap64) <;> dsimp only <;> omega
end Go.Proofs.Ytmaccmgmcahopaa
namespace Go.Proofs.Ytmaccmgmcahopaa
open Go.RowKit
def fcAggW (lo : Nat) (e nx : Int) (k N : Nat) (D : List Nat) : Fct := ⟨fun v w => ∃ a c, v = .agg #[.int .i64 1, .int .i64 e, .int .i64 (nx + (k : Int)), .int .i64 0, .bool ((k : Int) == (N : Int) - 1), .slice a D.length c] ∧ w.ownsRow lo 5 1 (.slice a D.length c) D.length (byt D), fun _ _ _ ⟨a, c, e, h⟩ hb => ⟨a, c, e, own_later h hb⟩⟩
def npH (lo : Nat) (e nx : Int) (k N : Nat) (D : List Nat) (AL ST : Nat) (x : Nat → Bool) (t : Nat → Value) (w : World) : Prop := x ST = true → ∃ g a c, t AL = .pointer (some ⟨g, 0, none⟩) ∧ lo ≤ g ∧ w.heap[g]? = some (.cells #[.int .i64 1, .int .i64 e, .int .i64 (nx + (k : Int)), .int .i64 0, .bool ((k : Int) == (N : Int) - 1), .slice a D.length c] 35 (0, 0)) ∧ w.ownsRow lo 5 1 (.slice a D.length c) D.length (byt D) ∧ ∀ x, (Value.slice a D.length c).ownBlock = some x → x ≠ g
set_option linter.unusedVariables false in
def npST (lo gO k N bm om cm PL : Nat) (e nx : Int) (D : List Nat) : Nat → FX
  | 0 => FX.eq (.pointer (some ⟨gO, 0, none⟩))
  | 1 => FX.eq (.int .i64 e)
  | 2 => FX.eq (.pointer (some ⟨gO, 1, none⟩))
  | 3 => FX.eq (.int .i64 nx)
  | 4 => FX.eq (.int .i64 (k : Int))
  | 5 => FX.eq (.int .i64 (nx + (k : Int)))
  | 6 => FX.eq (.int .i64 (k : Int))
  | 7 => FX.eq (.int .i64 (N : Int))
  | 8 => FX.eq (.int .i64 ((N : Int) - 1))
  | 9 => FX.eq (.bool ((k : Int) == (N : Int) - 1))
  | 10 => FX.eq (.slice (some ⟨bm, om + k * 100, none⟩) PL (cm - k * 100))
  | 11 => FX.pre [14] (fcRowD lo D)
  | 12 => FX.pre [14] (fcAggW lo e nx k N D)
  | 13 => FX.pre [14] (fcNewD lo)
  | 14 => FX.is Fct.any
  | _ => FX.eq undef
end Go.Proofs.Ytmaccmgmcahopaa
namespace Go.Proofs.Ytmaccmgmcahopaa
open Go.RowKit
theorem isNilC (w : World) : (binOp .eql 22 (.slice none 0 0) (.slice none 0 0)).run Try.prog w = .ok (.bool true) w := by kernel_rfl
theorem notNilC (w : World) (ad : Addr) (n c : Nat) : (binOp .eql 22 (.slice (some ad) n c) (.slice none 0 0)).run Try.prog w = .ok (.bool false) w := by kernel_rfl
set_option maxRecDepth 100000 in
set_option maxHeartbeats 1000000 in
theorem bclone_any (a : Option Addr) (cap : Nat) (xs : List Nat) (w : World) (hr : RdSl cByte w xs (.slice a xs.length cap)) (hl : xs.length ≤ 1048576) :
    Calls Try.prog 48 #[.slice a xs.length cap] w fun e w' => ∃ v, e = .returned v ∧ w'.ownsRow w.heap.size 5 1 v xs.length (byt xs) ∧ Below w.heap.size w w' := by
  obtain ⟨i0, hi, hz0, hz1, hz2⟩ := info_parts infoByteT
  have HR := hid hr.rdB.1
  have HN := hid hr.nil0
  clear hr
  cases a with
  | none =>
    obtain ⟨e1, e2⟩ := HN.out rfl
    obtain rfl : xs = [] := List.length_eq_zero_iff.1 e1
    subst e2
    have hnl := isNilC w
    go_enter Try.func48, Try.ntmps48
    go_wp2
    go_ret
    exact ⟨_, rfl, World.ownsRow_nil _ _ _ _, Below.refl _ _⟩
  | some ad =>
    have HB0 := hid (below_new1 w (.cells #[] 5))
    have HO0 : Hid ((w.alloc (.cells #[] 5)).ownsRow w.heap.size 5 1 (.slice (some ⟨w.heap.size, 0, none⟩) 0 0) 0 []) := hid ⟨rfl, .inr ⟨w.heap.size, 0, #[], rfl, Nat.le_refl _, heap_alloc_new w _, Nat.le_refl _, Nat.zero_le _, rfl, rfl⟩⟩
    have HR0 := hid (HR.out.later HB0.out)
    have hnl := notNilC w ad xs.length cap
    go_enter Try.func48, Try.ntmps48
    go_wp2_with (first | (at_builtin; refine append_any rfl _ _ 22 rfl w.heap.size 5 i0 (.int .u8 0) 1 Try.underlying22 hi hz0 hz1 hz2 rfl _ 0 [] rfl HO0.out (some ad) xs.length cap (byt xs) rfl (byt_len _) HN.out HR0.out (byt_one _) (by unfold maxLen; omega) (by omega) (by simp) ?_))
    intro v' w1 hown hgrow
    have HB : Hid (Below w.heap.size w w1) := hid (HB0.out.grown hgrow (by simp) (fun k h => by simp [Value.ownBlock] at h; omega))
    have HO : Hid (w1.ownsRow w.heap.size 5 1 v' xs.length (byt xs)) := hid (by simpa using hown)
    clear hown hgrow
    go_wp2
    go_ret
    exact ⟨_, rfl, HO.out, HB.out⟩
end Go.Proofs.Ytmaccmgmcahopaa
namespace Go.Proofs.Ytmaccmgmcahopaa
open Go.RowKit
end Go.Proofs.Ytmaccmgmcahopaa
