/- LawDecodeMessage, PkDecKit, NumRd. -/
import Derived.Test.YtfppfjklakdlfaaDoorJForms17
import Derived.Test.YtfppfjklakdlfaaDoorJForms42
import Derived.Test.YtfppfjklakdlfaaDoorJForms9
import Derived.Test.YtfppfjklakdlfaaDoorJForms0
import Derived.Test.YtfppfjklakdlfaaDoorJForms7
import Derived.Deep.RegionHeld
import Derived.Test.YtfppfjklakdlfaaDoorJForms15
import Derived.Test.YtfppfjklakdlfaaDoorJForms18
import Derived.Test.YtfppfjklakdlfaaDoorJForms10
import Derived.Test.YtfppfjklakdlfaaDoorJForms16
import Derived.Test.YtfppfjklakdlfaaDoorJForms4
/- The law of DecodeMessage. -/
namespace Go.Proofs.YtfppfjklakdlfaaDoor
open Go.RowKit

theorem boxM {w w' : World} {g : Nat} {o : Obj} (h : w.heap[g]? = some o) (hb : Below w.heap.size w w') : w'.heap[g]? = some o := (hb.block g (Array.getElem?_eq_some_iff.1 h).1).trans h
theorem ownM {w w' : World} {xs : List (List Nat)} {v : Value} {bs : List Nat} (h : OwnSl cSS 22 w xs v bs) (hb : Below w.heap.size w w') : OwnSl cSS 22 w' xs v bs := h.kept (fun b hm => hb.block b (h.lt b hm))
theorem sum_evn (bs : List (List Nat)) : tot bs ≤ (bs.map fun b => evn b.length).sum := by
  induction bs with
  | nil => simp [tot]
  | cons b bs ih =>
    have := (evn_le b.length).1
    simp only [tot, List.map_cons, List.sum_cons] at ih ⊢
    omega
theorem decP_fits (xs : List Nat) : (decP xs).bufs.length ≤ 40 ∧ tot (decP xs).bufs ≤ 20000 := by
  cases h : decR xs with
  | none => rw [(dec_none h).1]; simp [noMsg, tot]
  | some m =>
    rw [(dec_some h).1]
    obtain ⟨he, hne⟩ := decR_enc h
    obtain ⟨h1, h2, h3⟩ := encR_some he hne
    rw [sizeM_len] at h2
    have h4 := sum_evn m.bufs
    unfold sizeM at h2
    simp only [msgOK, decide_eq_true_eq] at h1
    exact ⟨h1.2.2.2.2.2.2.1, by omega⟩

set_option maxRecDepth 100000 in
set_option maxHeartbeats 8000000 in
theorem decodeMessage_walk (a : Option Addr) (n cap : Nat) (w : World) (h : BytesIn w a n cap) (ad : Addr) (hE : w.cell? ⟨0, 0, none⟩ = some (.iface 105 (.pointer (some ad)))) :
    Calls Tryd.prog 3 #[.slice a n cap] w fun e w' => e = .returned (.bool true) ∧ Below w.heap.size w w' := by
  obtain ⟨hml, -, xs, hn, hby, hrd⟩ := h
  subst hn
  unfold maxLen at hml
  by_cases hbig : 1048576 < xs.length
  · have hbi : (1048576 : Int) < (xs.length : Int) := by omega
    go_enter Tryd.func3, Tryd.ntmps3
    go_wp2
    go_ret
    exact ⟨rfl, Below.refl _ _⟩
  have hbi : decide (1048576 < (xs.length : Int)) = false := decide_eq_false (by omega)
  have HR := hid hrd
  have HBY := hid hby
  have HE := hid hE
  have hfit := decP_fits xs
  have HSP := hid (fun b c w' h => specDec_any b c xs w' h (by omega))
  have HIM := hid (fun b c w' h (hb : Below w.heap.size w w') => implDec_any b c xs ad w' h (by omega) (cell_later hb HE.out))
  generalize hp : decP xs = m at *
  generalize hC : decC xs = C at *
  clear hrd hby hp hC hE
  have htt : totL List.length m.bufs ≤ 1048576 := by rw [totL_tot]; omega
  have hCC : (C != C) = false := by simp
  go_enter Tryd.func3, Tryd.ntmps3
  go_wp2_with fail
  refine (toByteS_any a cap xs w HR.out (by omega)).mono ?_
  rintro e w1 ⟨g1, rfl, o1, b1⟩
  go_wp2_with fail
  refine (HSP.out _ _ w1 (own_rdSl o1 HBY.out)).mono ?_
  rintro e w2 ⟨aW, cW, rfl, oW, b2⟩
  have B2 := below_chain b1 b2
  have hs12 : w.heap.size ≤ w2.heap.size := B2.size
  have HWR := hid oW
  clear o1 b1 oW
  have b3 := below_new1 w2 (.cells #[.int .i64 m.kind, .int .i64 m.field, .int .i64 m.count, .slice aW m.bufs.length cW] 25)
  have HKW : Hid ((w2.alloc (.cells #[.int .i64 m.kind, .int .i64 m.field, .int .i64 m.count, .slice aW m.bufs.length cW] 25)).heap[w2.heap.size]? = some (.cells #[.int .i64 m.kind, .int .i64 m.field, .int .i64 m.count, .slice aW m.bufs.length cW] 25 (0, 0))) := hid (heap_alloc_new w2 _)
  have hs3 : w2.heap.size + 1 ≤ (w2.alloc (.cells #[.int .i64 m.kind, .int .i64 m.field, .int .i64 m.count, .slice aW m.bufs.length cW] 25)).heap.size := by simp
  have B3 := below_chain B2 b3
  clear b2
  go_wp2_with fail
  generalize (w2.alloc (.cells #[.int .i64 m.kind, .int .i64 m.field, .int .i64 m.count, .slice aW m.bufs.length cW] 25)) = w3 at *
  refine (toByteS_any a cap xs w3 (HR.out.later B3) (by omega)).mono ?_
  rintro e w4 ⟨gX, rfl, oX, b4⟩
  have B4 := below_chain B3 b4
  have W4 := below_chain b3 b4
  have HKW4 := hid (boxM HKW.out b4)
  have hXi := own_in (g := gX) oX rfl
  clear HKW
  go_wp2_with fail
  refine (HIM.out _ _ w4 (own_rdSl oX HBY.out) B4).mono ?_
  rintro e w5 ⟨aG, cG, zG, rfl, oG, lG, nG, b5⟩
  have B5 := below_chain B4 b5
  have W5 := below_chain W4 b5
  have oX5 := own_later oX b5
  have HKW5 := hid (boxM HKW4.out b5)
  have ltG := oG.lt
  clear oX HKW4
  have b6 := below_new1 w5 (.cells #[.int .i64 m.kind, .int .i64 m.field, .int .i64 m.count, .slice aG m.bufs.length cG] 25)
  have HKG : Hid ((w5.alloc (.cells #[.int .i64 m.kind, .int .i64 m.field, .int .i64 m.count, .slice aG m.bufs.length cG] 25)).heap[w5.heap.size]? = some (.cells #[.int .i64 m.kind, .int .i64 m.field, .int .i64 m.count, .slice aG m.bufs.length cG] 25 (0, 0))) := hid (heap_alloc_new w5 _)
  have B6 := below_chain B5 b6
  have W6 := below_chain W5 b6
  have oX6 := own_later oX5 b6
  have oG6 := ownM oG b6
  have HKW6 := hid (boxM HKW5.out b6)
  have hs45 := b5.size
  clear oX5 oG HKW5
  have p0 := cell_of_row _ _ 0 _ _ _ HKW6.out
  have p1 := cell_of_row _ _ 1 _ _ _ HKW6.out
  have p2 := cell_of_row _ _ 2 _ _ _ HKW6.out
  have p3 := cell_of_row _ _ 3 _ _ _ HKW6.out
  simp only [List.getElem?_toArray, List.getElem?_cons_zero, List.getElem?_cons_succ] at p0 p1 p2 p3
  have q0 := cell_of_row _ _ 0 _ _ _ HKG.out
  have q1 := cell_of_row _ _ 1 _ _ _ HKG.out
  have q2 := cell_of_row _ _ 2 _ _ _ HKG.out
  have q3 := cell_of_row _ _ 3 _ _ _ HKG.out
  simp only [List.getElem?_toArray, List.getElem?_cons_zero, List.getElem?_cons_succ] at q0 q1 q2 q3
  go_wp2_with fail
  generalize (w5.alloc (.cells #[.int .i64 m.kind, .int .i64 m.field, .int .i64 m.count, .slice aG m.bufs.length cG] 25)) = w6 at *
  refine (eqMessage_any m aG aW cG cW w6 oG6.rd (HWR.out.later W6) htt).mono ?_
  rintro e w7 ⟨rfl, b7⟩
  clear p0 p1 p2 p3 q0 q1 q2 q3
  have B7 := below_chain B6 b7
  have W7 := below_chain W6 b7
  have oX7 := own_later oX6 b7
  have oG7 := ownM oG6 b7
  have HKW7 := hid (boxM HKW6.out b7)
  have HKG7 := hid (boxM HKG.out b7)
  clear oX6 oG6 HKW6 HKG
  go_wp2_with fail
  refine (toByteS_any a cap xs w7 (HR.out.later B7) (by omega)).mono ?_
  rintro e w8 ⟨g8, rfl, o8, b8⟩
  have oX8 := own_later oX7 b8
  go_wp2_with fail
  refine (eqByteS_any _ _ _ _ _ xs w8 (rd_at oX8) (rd_at o8) rfl (by omega)).mono ?_
  rintro e w9 ⟨rfl, b9⟩
  have b79 := below_chain b8 b9
  have B9 := below_chain B7 b79
  have W9 := below_chain W7 b79
  have oX9 := own_later oX7 b79
  have oG9 := ownM oG7 b79
  have HKW9 := hid (boxM HKW7.out b79)
  have HKG9 := hid (boxM HKG7.out b79)
  clear oX7 oG7 HKW7 HKG7 oX8 o8
  have hsB3 := B3.size
  go_wp2_with fail
  refine (markByteS_any _ _ 1 _ _ w9 oX9 (by omega) (by omega)).mono ?_
  rintro e w10 ⟨rfl, -, gr10⟩
  have oG10 := oG9.kept (w' := w10) (fun b hb => gr10.block b (oG9.lt b hb) (fun e => by simp [Value.ownBlock] at e; have := lG b hb; omega))
  have HKW10 : Hid (w10.heap[w2.heap.size]? = _) := hid ((gr10.block _ (Array.getElem?_eq_some_iff.1 HKW9.out).1 (fun e => by simp [Value.ownBlock] at e; omega)).trans HKW9.out)
  have HKG10 : Hid (w10.heap[w5.heap.size]? = _) := hid ((gr10.block _ (Array.getElem?_eq_some_iff.1 HKG9.out).1 (fun e => by simp [Value.ownBlock] at e; omega)).trans HKG9.out)
  have B10 := below_marked B9 gr10 (fun g f => by simp [Value.ownBlock] at f; subst f; omega)
  have W10 := below_marked W9 gr10 (fun g f => by simp [Value.ownBlock] at f; subst f; omega)
  clear oX9 oG9 HKW9 HKG9 gr10
  have p0 := cell_of_row _ _ 0 _ _ _ HKW10.out
  have p1 := cell_of_row _ _ 1 _ _ _ HKW10.out
  have p2 := cell_of_row _ _ 2 _ _ _ HKW10.out
  have p3 := cell_of_row _ _ 3 _ _ _ HKW10.out
  simp only [List.getElem?_toArray, List.getElem?_cons_zero, List.getElem?_cons_succ] at p0 p1 p2 p3
  have q0 := cell_of_row _ _ 0 _ _ _ HKG10.out
  have q1 := cell_of_row _ _ 1 _ _ _ HKG10.out
  have q2 := cell_of_row _ _ 2 _ _ _ HKG10.out
  have q3 := cell_of_row _ _ 3 _ _ _ HKG10.out
  simp only [List.getElem?_toArray, List.getElem?_cons_zero, List.getElem?_cons_succ] at q0 q1 q2 q3
  go_wp2_with fail
  refine (eqMessage_any m aG aW cG cW w10 oG10.rd (HWR.out.later W10) htt).mono ?_
  rintro e w11 ⟨rfl, b11⟩
  clear p0 p1 p2 p3 q0 q1 q2 q3
  have B11 := below_chain B10 b11
  have W11 := below_chain W10 b11
  have oG11 := ownM oG10 b11
  have HKW11 := hid (boxM HKW10.out b11)
  have HKG11 := hid (boxM HKG10.out b11)
  clear oG10 HKW10 HKG10
  have q0 := cell_of_row _ _ 0 _ _ _ HKG11.out
  have q1 := cell_of_row _ _ 1 _ _ _ HKG11.out
  have q2 := cell_of_row _ _ 2 _ _ _ HKG11.out
  have q3 := cell_of_row _ _ 3 _ _ _ HKG11.out
  simp only [List.getElem?_toArray, List.getElem?_cons_zero, List.getElem?_cons_succ] at q0 q1 q2 q3
  go_wp2_with fail
  refine (markMessage_any m _ zG 1 w11 oG11 nG (by omega) (by omega) (by omega)).mono ?_
  rintro e w12 ⟨rfl, oG12, on12⟩
  clear q0 q1 q2 q3
  have HKW12 : Hid (w12.heap[w2.heap.size]? = _) := hid ((on12.block _ (Array.getElem?_eq_some_iff.1 HKW11.out).1 (fun h => by have := lG _ h; omega)).trans HKW11.out)
  have HKG12 : Hid (w12.heap[w5.heap.size]? = _) := hid ((on12.block _ (Array.getElem?_eq_some_iff.1 HKG11.out).1 (fun h => by have := ltG _ h; omega)).trans HKG11.out)
  have B12 : Below w.heap.size w w12 := Only.chain B11 on12 (fun x hx => by have := lG x hx; omega) (Nat.le_refl _)
  have W12 : Below w2.heap.size w2 w12 := Only.chain W11 on12 (fun x hx => by have := lG x hx; omega) (Nat.le_refl _)
  clear oG11 HKW11 HKG11 on12
  have q0 := cell_of_row _ _ 0 _ _ _ HKG12.out
  have q1 := cell_of_row _ _ 1 _ _ _ HKG12.out
  have q2 := cell_of_row _ _ 2 _ _ _ HKG12.out
  have q3 := cell_of_row _ _ 3 _ _ _ HKG12.out
  simp only [List.getElem?_toArray, List.getElem?_cons_zero, List.getElem?_cons_succ] at q0 q1 q2 q3
  go_wp2_with fail
  refine (heldMessage_any m aG cG 1 w12 oG12.rd (by omega) (by omega) (by omega)).mono ?_
  rintro e w13 ⟨rfl, b13⟩
  clear q0 q1 q2 q3
  have B13 := below_chain B12 b13
  have W13 := below_chain W12 b13
  have HKW13 := hid (boxM HKW12.out b13)
  clear HKW12 HKG12 oG12
  go_wp2_with fail
  refine (toByteS_any a cap xs w13 (HR.out.later B13) (by omega)).mono ?_
  rintro e w14 ⟨g14, rfl, o14, b14⟩
  go_wp2_with fail
  refine (HIM.out _ _ w14 (own_rdSl o14 HBY.out) (below_chain B13 b14)).mono ?_
  rintro e w15 ⟨aH, cH, zH, rfl, oH, -, -, b15⟩
  have b16 := below_new1 w15 (.cells #[.int .i64 m.kind, .int .i64 m.field, .int .i64 m.count, .slice aH m.bufs.length cH] 25)
  have HKH : Hid ((w15.alloc (.cells #[.int .i64 m.kind, .int .i64 m.field, .int .i64 m.count, .slice aH m.bufs.length cH] 25)).heap[w15.heap.size]? = some (.cells #[.int .i64 m.kind, .int .i64 m.field, .int .i64 m.count, .slice aH m.bufs.length cH] 25 (0, 0))) := hid (heap_alloc_new w15 _)
  have b136 := below_chain (below_chain b14 b15) b16
  have B16 := below_chain B13 b136
  have W16 := below_chain W13 b136
  have oH16 := ownM oH b16
  have HKW16 := hid (boxM HKW13.out b136)
  clear oH HKW13 o14
  have p0 := cell_of_row _ _ 0 _ _ _ HKW16.out
  have p1 := cell_of_row _ _ 1 _ _ _ HKW16.out
  have p2 := cell_of_row _ _ 2 _ _ _ HKW16.out
  have p3 := cell_of_row _ _ 3 _ _ _ HKW16.out
  simp only [List.getElem?_toArray, List.getElem?_cons_zero, List.getElem?_cons_succ] at p0 p1 p2 p3
  have q0 := cell_of_row _ _ 0 _ _ _ HKH.out
  have q1 := cell_of_row _ _ 1 _ _ _ HKH.out
  have q2 := cell_of_row _ _ 2 _ _ _ HKH.out
  have q3 := cell_of_row _ _ 3 _ _ _ HKH.out
  simp only [List.getElem?_toArray, List.getElem?_cons_zero, List.getElem?_cons_succ] at q0 q1 q2 q3
  go_wp2_with fail
  generalize (w15.alloc (.cells #[.int .i64 m.kind, .int .i64 m.field, .int .i64 m.count, .slice aH m.bufs.length cH] 25)) = w16 at *
  refine (eqMessage_any m aH aW cH cW w16 oH16.rd (HWR.out.later W16) htt).mono ?_
  rintro e w17 ⟨rfl, b17⟩
  have B17 := below_chain B16 b17
  go_wp2
  go_ret
  exact ⟨rfl, B17⟩

end Go.Proofs.YtfppfjklakdlfaaDoor

/- A packet and a code: what the decoders leave. -/
namespace Go.Proofs.YtfppfjklakdlfaaDoor
open Go.RowKit

def PdPost (w : World) (p : PP) (C : Int) (e : Ending) (w' : World) : Prop :=
  ∃ a c, e = .returned (.tuple #[.agg #[.int .i64 p.kind, .int .i64 p.epoch, .int .i64 p.seq, .int .i64 p.count, .bool p.last, .slice a p.data.length c], .int .i64 C]) ∧ w'.ownsRow w.heap.size 5 1 (.slice a p.data.length c) p.data.length (byt p.data) ∧ Below w.heap.size w w'
theorem pdPost_nil {w w' : World} {p : PP} {C C' : Int} (hb : Below w.heap.size w w') (hp : p = noPkt) (hC : C = C') : PdPost w p C (.returned (.tuple #[.agg #[.int .i64 0, .int .i64 0, .int .i64 0, .int .i64 0, .bool false, .slice none 0 0], .int .i64 C'])) w' := by
  subst hp hC
  exact ⟨none, 0, rfl, World.ownsRow_nil _ _ _ _, hb⟩
def fcRowD (lo : Nat) (D : List Nat) : Fct := ⟨fun v w => w.ownsRow lo 5 1 v D.length (byt D), fun _ _ _ h hb => own_later h hb⟩
def fcAggD (lo K E C : Nat) (SI : Int) (LB : Bool) (D : List Nat) : Fct := ⟨fun v w => ∃ a c, v = .agg #[.int .i64 (K : Int), .int .i64 (E : Int), .int .i64 SI, .int .i64 (C : Int), .bool LB, .slice a D.length c] ∧ w.ownsRow lo 5 1 (.slice a D.length c) D.length (byt D), fun _ _ _ ⟨a, c, e, h⟩ hb => ⟨a, c, e, own_later h hb⟩⟩
def fcNewD (lo : Nat) : Fct := ⟨fun v w => ∃ g, v = .pointer (some ⟨g, 0, none⟩) ∧ lo ≤ g ∧ w.heap[g]? = some (.cells #[.int .i64 0, .int .i64 0, .int .i64 0, .int .i64 0, .bool false, .slice none 0 0] 39 (0, 0)), fun _ _ _ ⟨g, e, l, h⟩ hb => ⟨g, e, l, (hb.block _ (Array.getElem?_eq_some_iff.1 h).1).trans h⟩⟩
/-- A row of another kind lies in another block than a box. -/
theorem box_far {w : World} {gm : Nat} {cs : Array Value} {t : TypeId} {B n s : Nat} {e : TypeId} {u : Value} {vs : List Value} {k : Nat} (hb : w.heap[gm]? = some (.cells cs t (0, 0))) (ho : w.ownsRow B e s u n vs) (hne : e ≠ t) (hk : u.ownBlock = some k) : k ≠ gm := by
  intro he
  subst he
  rcases ho.2 with ⟨rfl, _⟩ | ⟨g, cap, cur, rfl, _, hh, _⟩
  · simp [Value.ownBlock] at hk
  · simp [Value.ownBlock] at hk
    subst hk
    rw [hb] at hh
    simp at hh
    exact hne hh.2.symm
theorem box_laterP {w w' : World} {g : Nat} {o : Obj} (h : w.heap[g]? = some o) (hb : Below w.heap.size w w') : w'.heap[g]? = some o := (hb.block g (Array.getElem?_eq_some_iff.1 h).1).trans h
theorem pktG_in {xs : List Nat} {K E S C : Nat} {L : Bool} {D : List Nat} (hK : K < 256) (hE : E < 4294967296) (_hS : S < 18446744073709551616) (hC : C < 4294967296) (h : pktG xs = ⟨(K : Int), (E : Int), wrap64 (S : Int), (C : Int), L, D⟩) : PPIn (pktG xs) := by
  rw [h]
  refine ⟨?_, ?_, ?_, ?_⟩ <;> unfold IntIn <;> try (unfold wrap64) <;> dsimp only <;> omega

end Go.Proofs.YtfppfjklakdlfaaDoor

/- spec.l1number, at up to eight bytes. -/
namespace Go.Proofs.YtfppfjklakdlfaaDoor
open Go.RowKit

theorem wrap64_step (N x : Nat) : wrap64 (wrap64 (wrap64 (N : Int) * 256) + (x : Int)) = wrap64 ((x + 256 * N : Nat) : Int) := by unfold wrap64; omega
theorem wrap64_step2 (N x : Nat) : wrap64 (wrap64 (N : Int) * 256 + (x : Int)) = wrap64 ((x + 256 * N : Nat) : Int) := by unfold wrap64; omega
theorem num_below {xs : List Nat} {n : Nat} (h : ∀ x ∈ xs, x < 256) (hl : xs.length ≤ n) : num xs < 256 ^ n := Nat.lt_of_lt_of_le (num_lt xs h) (Nat.pow_le_pow_right (by omega) hl)

set_option maxHeartbeats 2000000 in
theorem number8_any (a : Option Addr) (cap : Nat) (xs : List Nat) (w : World) (hr : RdSl cByte w xs (.slice a xs.length cap)) (hl : xs.length ≤ 8) :
    Calls Tryd.prog 28 #[.slice a xs.length cap] w fun e w' => e = .returned (.int .i64 (wrap64 ((num xs : Nat) : Int))) ∧ w' = w := by
  have HR := hid hr
  have HBY := hid hr.rdB.2
  clear hr
  go_enter Tryd.func28, Tryd.ntmps28
  go_wp2
  go_loop [3, 4] (fun v i => ∃ k : Nat, k ≤ xs.length ∧ i = .int .i64 ((k : Int) - 1) ∧ v = .int .i64 (wrap64 ((num (xs.drop k) : Nat) : Int))) (fun _ i => ((intOf i) + 1).toNat)
  case atStart => exact ⟨xs.length, Nat.le_refl _, rfl, by simp [num, wrap64]⟩
  case round =>
    obtain ⟨k, hk, rfl, rfl⟩ := hrel
    cases k with
    | zero =>
      have h0 : num (xs.drop 0) = num xs := by rw [List.drop_zero]
      rw [h0]
      go_wp2
      go_ret
      exact ⟨rfl, rfl⟩
    | succ k =>
      have hk' : k < xs.length := hk
      obtain ⟨b, off, rfl, hcb⟩ : ∃ b off, a = some ⟨b, off, none⟩ ∧ w.cell? ⟨b, off + k, none⟩ = some (.int .u8 (xs[k] : Int)) := by
        obtain ⟨b, off, v, e, ⟨h1, _⟩, h2⟩ := HR.out.at1 (k := k) rfl hk'
        simp only [List.cons.injEq, and_true] at h1
        exact ⟨b, off, e, by rw [h2, h1]⟩
      have HS := hid (num_drop xs k hk')
      have hx := HBY.out _ (List.getElem_mem hk')
      have hki : (((k + 1 : Nat) : Int) - 1) = (k : Int) := by omega
      rw [hki]
      have HST := hid (wrap64_step (num (xs.drop (k + 1))) xs[k])
      have HST2 := hid (wrap64_step2 (num (xs.drop (k + 1))) xs[k])
      generalize num (xs.drop (k + 1)) = t at *
      generalize hv : wrap64 (t : Int) = tv at *
      clear hv
      go_wp2
      go_round
      case rel => exact ⟨k, by omega, by go_num, by rw [HS.out]; first | rw [← HST.out] | rw [← HST2.out]⟩
      case measure => simp [intOf]

end Go.Proofs.YtfppfjklakdlfaaDoor
