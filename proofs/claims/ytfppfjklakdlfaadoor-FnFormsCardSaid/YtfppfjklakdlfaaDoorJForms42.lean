import Derived.Test.YtfppfjklakdlfaaDoorJForms0
import Derived.LaidEql
import Derived.Stop.Asserts
import Derived.RowKitTokens
import Derived.Test.YtfppfjklakdlfaaDoorJForms41
namespace Go.Proofs.YtfppfjklakdlfaaDoor
open Go.RowKit Go.Extern.Stop Go.Stop Go.Extern
theorem isTypeOf (v : Value) (w : World) : (Extern.ReflectliteType.typeOf #[.iface 105 v]).run Tryd.prog w = .ok (.iface 93 (.agg #[.pointer (some ⟨1, 105, none⟩)])) w := by kernel_rfl
theorem isComparable (w : World) : (callFunc 94 #[.agg #[.pointer (some ⟨1, 105, none⟩)]]).run Tryd.prog w = .ok (.value (.bool true)) w := by kernel_rfl
theorem isMethodComparable (v : Value) (w : World) : (Go.method 240 93 v "Comparable").run Tryd.prog w = .ok (94, v) w := by kernel_rfl
theorem isComp : (Tryd.prog.info? 105).map (·.comparable) = some true := by kernel_rfl
theorem isSize : (Tryd.prog.info? 129).map (·.size) = some 1 := by kernel_rfl
set_option maxRecDepth 1000000 in
set_option maxHeartbeats 2000000 in

theorem is_same (a : Addr) (w : World) :
    Calls Tryd.prog 33 #[.iface 105 (.pointer (some a)), .iface 105 (.pointer (some a))] w fun e w' => e = .returned (.bool true) ∧ w' = w := by
  obtain ⟨i, hi, hcmp⟩ := Option.map_eq_some_iff.1 isComp
  obtain ⟨j, hj, hjs⟩ := Option.map_eq_some_iff.1 isSize
  have h8 := @run_callFunc_extern Tryd.prog 63 _ Extern.ReflectliteType.typeOf Tryd.func63 (by kernel_rfl) (by kernel_rfl) (by kernel_rfl) (by kernel_rfl)
  have tT := isTypeOf
  have cT := isComparable
  have mR := isMethodComparable
  have heq := run_eql_iface_ptr_same (P := Tryd.prog) w a Tryd.underlying48 Tryd.underlying105 hi hcmp hj
  go_enter Tryd.func33, Tryd.ntmps33
  go_wp2
  refine wp_loop_rounds 1 ?_
  rw [rounds_succ]
  go_wp2
  go_ret
  exact ⟨rfl, rfl⟩
set_option maxRecDepth 1000000 in
set_option maxHeartbeats 2000000 in

theorem is_nil (b : Addr) (w : World) :
    Calls Tryd.prog 33 #[.nilIface, .iface 105 (.pointer (some b))] w fun e w' => e = .returned (.bool false) ∧ w' = w := by
  have hn := run_eql_iface_nil_left (P := Tryd.prog) w 105 (.pointer (some b)) Tryd.underlying48
  go_enter Tryd.func33, Tryd.ntmps33
  go_wp2
  go_ret
  exact ⟨rfl, rfl⟩
end Go.Proofs.YtfppfjklakdlfaaDoor
namespace Go.Proofs.YtfppfjklakdlfaaDoor
open Go.RowKit
def DiPost (w : World) (m : PM) (C : Int) (e : Ending) (w' : World) : Prop :=
  ∃ a c bl, e = .returned (.tuple #[.agg #[.int .i64 m.kind, .int .i64 m.field, .int .i64 m.count, .slice a m.bufs.length c], .int .i64 C]) ∧ OwnSl cSS 22 w' m.bufs (.slice a m.bufs.length c) bl ∧ (∀ b ∈ bl, w.heap.size ≤ b) ∧ bl.Nodup ∧ Below w.heap.size w w'
set_option maxRecDepth 100000 in
set_option maxHeartbeats 4000000 in
theorem implDec_any (a : Option Addr) (cap : Nat) (xs : List Nat) (ad : Addr) (w : World) (hr : RdSl cByte w xs (.slice a xs.length cap)) (hl : xs.length ≤ 1048576) (hE : w.cell? ⟨0, 0, none⟩ = some (.iface 105 (.pointer (some ad)))) :
    Calls Tryd.prog 7 #[.slice a xs.length cap] w (DiPost w (decP xs) (decC xs)) := by
  have HR := hid hr
  clear hr
  have hb0 := below_new1 w (.cells #[.int .i64 0, .int .i64 0, .int .i64 0, .slice none 0 0] 25)
  have HK0 : Hid ((w.alloc (.cells #[.int .i64 0, .int .i64 0, .int .i64 0, .slice none 0 0] 25)).heap[w.heap.size]? = some (.cells #[.int .i64 0, .int .i64 0, .int .i64 0, .slice none 0 0] 25 (0, 0))) := hid (heap_alloc_new w _)
  have hE0 := cell_later hb0 hE
  have hpos : 0 < w.heap.size := by
    rcases Nat.lt_or_ge 0 w.heap.size with h | h
    · exact h
    · simp [World.cell?, Array.getElem?_eq_none h] at hE
  have hn0 : ¬ (0 = w.heap.size) := by omega
  have hn1 : ¬ (w.heap.size = 0) := by omega
  clear hE
  have HDI := hid (decI_eq xs)
  go_enter Tryd.func7, Tryd.ntmps7
  go_wp2_with fail
  generalize (w.alloc (.cells #[.int .i64 0, .int .i64 0, .int .i64 0, .slice none 0 0] 25)) = w0 at *
  refine (parse_any a cap xs _ ad w0 (HR.out.later hb0) hl hE0).mono ?_
  rintro e w1 hp
  unfold ParsePost at hp
  rw [HDI.out] at hp
  have hlt := (Array.getElem?_eq_some_iff.1 HK0.out).1
  cases hd : decR xs with
  | none =>
    rw [hd] at hp
    obtain ⟨bl1, rfl⟩ := hp
    have HD := hid (dec_none hd)
    have hE1 := cell_later bl1 hE0
    have hbx := below_new1 w1 (.cells #[.int .i64 0, .int .i64 0, .int .i64 0, .slice none 0 0] 25)
    have hE2 := cell_later hbx hE1
    have HK2 : Hid ((w1.alloc (.cells #[.int .i64 0, .int .i64 0, .int .i64 0, .slice none 0 0] 25)).heap[w.heap.size]? = some (.cells #[.int .i64 0, .int .i64 0, .int .i64 0, .slice none 0 0] 25 (0, 0))) := hid (((below_chain bl1 hbx).block _ hlt).trans HK0.out)
    have B2 := below_chain (below_chain hb0 bl1) hbx
    clear hd hE0 hE1 hb0
    go_wp2_with fail
    generalize (w1.alloc (.cells #[.int .i64 0, .int .i64 0, .int .i64 0, .slice none 0 0] 25)) = w2 at *
    refine (is_same ad w2).mono ?_
    rintro e w3 ⟨rfl, rfl⟩
    have p0 := cell_of_row _ _ 0 _ _ _ HK2.out
    have zp0 := frozen_of_row _ _ 0 _ _ HK2.out
    have p1 := cell_of_row _ _ 1 _ _ _ HK2.out
    have zp1 := frozen_of_row _ _ 1 _ _ HK2.out
    have p2 := cell_of_row _ _ 2 _ _ _ HK2.out
    have zp2 := frozen_of_row _ _ 2 _ _ HK2.out
    have p3 := cell_of_row _ _ 3 _ _ _ HK2.out
    have zp3 := frozen_of_row _ _ 3 _ _ HK2.out
    simp only [List.getElem?_toArray, List.getElem?_cons_zero, List.getElem?_cons_succ] at p0 p1 p2 p3
    go_wp2
    refine bodyPost_ret (results_cell_row_tmpD rfl _ _ w.heap.size 25 #[.int .i64 0, .int .i64 0, .int .i64 0, .slice none 0 0] (0, 0) _ rfl (set4 HK2.out) Tryd.underlying25 rfl (by kernel_rfl)) rfl ?_
    unfold DiPost
    rw [HD.out.1, HD.out.2]
    exact ⟨none, 0, [], rfl, .inl ⟨rfl, rfl, rfl⟩, by simp, by simp, set4b B2 (Nat.le_refl _)⟩
  | some m =>
    rw [hd] at hp
    obtain ⟨bl1, aV, cV, blV, rfl, oV, lV, nV⟩ := hp
    have HD := hid (dec_some hd)
    have hE1 := cell_later bl1 hE0
    have hbx := below_new1 w1 (.cells #[.int .i64 m.kind, .int .i64 m.field, .int .i64 m.count, .slice aV m.bufs.length cV] 25)
    have hE2 := cell_later hbx hE1
    have HK2 : Hid ((w1.alloc (.cells #[.int .i64 m.kind, .int .i64 m.field, .int .i64 m.count, .slice aV m.bufs.length cV] 25)).heap[w.heap.size]? = some (.cells #[.int .i64 0, .int .i64 0, .int .i64 0, .slice none 0 0] 25 (0, 0))) := hid (((below_chain bl1 hbx).block _ hlt).trans HK0.out)
    have HM2 : Hid ((w1.alloc (.cells #[.int .i64 m.kind, .int .i64 m.field, .int .i64 m.count, .slice aV m.bufs.length cV] 25)).heap[w1.heap.size]? = some (.cells #[.int .i64 m.kind, .int .i64 m.field, .int .i64 m.count, .slice aV m.bufs.length cV] 25 (0, 0))) := hid (heap_alloc_new w1 _)
    have B2 := below_chain (below_chain hb0 bl1) hbx
    have HO2 := hid (oV.kept (w' := w1.alloc (.cells #[.int .i64 m.kind, .int .i64 m.field, .int .i64 m.count, .slice aV m.bufs.length cV] 25)) (fun y hy => hbx.block y (oV.lt y hy)))
    have HLV := hid lV
    have hs1 := bl1.size
    clear hd hE0 hE1 hb0 oV lV
    go_wp2_with fail
    generalize (w1.alloc (.cells #[.int .i64 m.kind, .int .i64 m.field, .int .i64 m.count, .slice aV m.bufs.length cV] 25)) = w2 at *
    refine (is_nil ad w2).mono ?_
    rintro e w3 ⟨rfl, rfl⟩
    have hgm : ¬ w1.heap.size = w.heap.size := by omega
    have hgm2 : ¬ w.heap.size = w1.heap.size := by omega
    have p0 := cell_of_row _ _ 0 _ _ _ HK2.out
    have zp0 := frozen_of_row _ _ 0 _ _ HK2.out
    have p1 := cell_of_row _ _ 1 _ _ _ HK2.out
    have zp1 := frozen_of_row _ _ 1 _ _ HK2.out
    have p2 := cell_of_row _ _ 2 _ _ _ HK2.out
    have zp2 := frozen_of_row _ _ 2 _ _ HK2.out
    have p3 := cell_of_row _ _ 3 _ _ _ HK2.out
    have zp3 := frozen_of_row _ _ 3 _ _ HK2.out
    simp only [List.getElem?_toArray, List.getElem?_cons_zero, List.getElem?_cons_succ] at p0 p1 p2 p3
    have q0 := cell_of_row _ _ 0 _ _ _ HM2.out
    have q1 := cell_of_row _ _ 1 _ _ _ HM2.out
    have q2 := cell_of_row _ _ 2 _ _ _ HM2.out
    have q3 := cell_of_row _ _ 3 _ _ _ HM2.out
    simp only [List.getElem?_toArray, List.getElem?_cons_zero, List.getElem?_cons_succ] at q0 q1 q2 q3
    go_wp2
    refine bodyPost_ret (results_cell_row_tmpD rfl _ _ w.heap.size 25 #[.int .i64 m.kind, .int .i64 m.field, .int .i64 m.count, .slice aV m.bufs.length cV] (0, 0) _ rfl (set4 HK2.out) Tryd.underlying25 rfl (by kernel_rfl)) rfl ?_
    unfold DiPost
    rw [HD.out.1, HD.out.2]
    exact ⟨aV, cV, blV, rfl, HO2.out.kept (fun y hy => set4o (by have := HLV.out y hy; omega)), fun y hy => by have := HLV.out y hy; omega, nV, set4b B2 (Nat.le_refl _)⟩
end Go.Proofs.YtfppfjklakdlfaaDoor
