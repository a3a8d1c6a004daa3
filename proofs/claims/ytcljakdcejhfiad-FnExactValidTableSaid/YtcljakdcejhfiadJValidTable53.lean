import Derived.Test.YtcljakdcejhfiadJValidTable14
import Derived.Test.YtcljakdcejhfiadJValidTable15
import Derived.Test.YtcljakdcejhfiadJValidTable16
import Derived.Test.YtcljakdcejhfiadJValidTable17
import Derived.Test.YtcljakdcejhfiadJValidTable37
import Derived.Test.YtcljakdcejhfiadJValidTable52
namespace Go.Proofs.Ytcljakdcejhfiad
open Go.RowKit
abbrev Boxed (w' : World) (B : Nat) (r : Int) (v : Value) : Prop := w'.cell? ⟨B, 0, none⟩ = some (.int .i64 r) ∧ w'.cell? ⟨B, 1, none⟩ = some v
theorem boxed_later {wa wb : World} {B : Nat} {r : Int} {v : Value} (h : Boxed wa B r v) (b : Below wa.heap.size wa wb) : Boxed wb B r v :=
  ⟨(b.cell (World.block_lt_of_cell? _ _ h.1)).trans h.1, (b.cell (World.block_lt_of_cell? _ _ h.2)).trans h.2⟩
set_option maxHeartbeats 4000000 in
theorem validTable_walk (a : Option Addr) (len cap : Nat) (v : Value) (w : World) (h : FieldsIn w a len cap) (h2 : TableIn w v) :
    Calls Try.prog 3 #[.slice a len cap, v] w fun e w' => e = .returned (.bool true) ∧ Below w.heap.size w w' := by
  obtain ⟨xs, rfl, hr⟩ := h
  obtain ⟨t, a2, c2, rfl, hr2, hi⟩ := h2
  have HR := hid hr
  have HR2 := hid hr2
  have HI := hid hi
  clear hr hr2 hi
  go_enter Try.func3, Try.ntmps3
  go_wp2_with fail
  have HN1 := hid (below_new1 w (.cells #[.int .i64 t.rows, .slice a2 t.cells.length c2] 25))
  refine (szFieldS_any a cap xs 1048576 _ (HR.out.later HN1.out) (by omega) (by omega)).mono ?_
  rintro e w1 ⟨rfl, b1⟩
  have HK1 := hid (heap1 _ (b1.mono (by simp)))
  have HB1 := hid (HN1.out.trans (b1.mono HN1.out.size))
  clear b1
  by_cases hneg : rest 1048576 (totL (fun f : PF => f.name.length) xs) < 0
  · generalize rest 1048576 (totL (fun f : PF => f.name.length) xs) = r at *
    go_wp2
    go_ret
    exact ⟨rfl, HB1.out⟩
  have hfit := rest_fits (l := 1048576) (n := totL (fun f : PF => f.name.length) xs) (by omega)
  have ht : totL (fun f : PF => f.name.length) xs ≤ 1048576 := by omega
  have hup := rest_le (l := 1048576) (n := totL (fun f : PF => f.name.length) xs) (by omega)
  have p0 := cell_of_row w1 _ 0 _ _ _ HK1.out
  have p1 := cell_of_row w1 _ 1 _ _ _ HK1.out
  simp at p0 p1
  generalize rest 1048576 (totL (fun f : PF => f.name.length) xs) = r at *
  have HSZ := hid (szTable_law w1 t [.int .i64 t.rows, .slice a2 t.cells.length c2] r ⟨_, _, rfl, ⟨rfl, HI.out⟩, _, rfl, HR2.out.later HB1.out⟩ (by omega) hup)
  simp only [val] at HSZ
  go_wp2_with fail
  refine HSZ.out.mono ?_
  rintro e w2 ⟨rfl, b2⟩
  have HB2 := hid (below_chain HB1.out b2)
  have HBX : Hid (Boxed w2 w.heap.size t.rows (.slice a2 t.cells.length c2)) := hid (boxed_later ⟨p0, p1⟩ b2)
  clear b2 p0 p1
  by_cases hneg2 : rest r (totT t) < 0
  · generalize rest r (totT t) = r2 at *
    go_wp2
    go_ret
    exact ⟨rfl, HB2.out⟩
  have htt : totT t ≤ 1048576 := by have := rest_fits (l := r) (n := totT t) (by omega); omega
  generalize rest r (totT t) = r2 at *
  have HTO : Hid (∀ w', Hid (Below w.heap.size w w' ∧ Boxed w' w.heap.size t.rows (.slice a2 t.cells.length c2)) → Calls Try.prog 10 #[.slice a xs.length cap] w' fun e w3 => ∃ a3 c3, e = .returned (.slice a3 xs.length c3) ∧ Hid (RdSl cField w3 xs (.slice a3 xs.length c3)) ∧ Hid (Below w'.heap.size w' w3) ∧ Hid (Below w.heap.size w w3 ∧ Boxed w3 w.heap.size t.rows (.slice a2 t.cells.length c2)) ∧ w3.cell? ⟨w.heap.size, 0, none⟩ = some (.int .i64 t.rows) ∧ w3.cell? ⟨w.heap.size, 1, none⟩ = some (.slice a2 t.cells.length c2)) := hid (fun w' hw' => by
    refine (toFieldS_any a cap xs w' (HR.out.later hw'.out.1) ht).mono ?_
    rintro e w3 ⟨v3, bs3, rfl, o3, -, -, b3⟩
    obtain ⟨a3, c3, rfl, -⟩ := id o3.rd
    have hb := boxed_later hw'.out.2 b3
    exact ⟨a3, c3, rfl, hid o3.rd, hid b3, hid ⟨below_chain hw'.out.1 b3, hb⟩, hb.1, hb.2⟩)
  have HTT : Hid (∀ w', Hid (Below w.heap.size w w' ∧ Boxed w' w.heap.size t.rows (.slice a2 t.cells.length c2)) → Calls Try.prog 11 #[.agg #[.int .i64 t.rows, .slice a2 t.cells.length c2]] w' fun e w3 => ∃ a3 c3, e = .returned (.agg #[.int .i64 t.rows, .slice a3 t.cells.length c3]) ∧ Hid (RdSl cCell w3 t.cells (.slice a3 t.cells.length c3)) ∧ Hid (Below w'.heap.size w' w3) ∧ Hid (Below w.heap.size w w3 ∧ Boxed w3 w.heap.size t.rows (.slice a2 t.cells.length c2)) ∧ w3.cell? ⟨w.heap.size, 0, none⟩ = some (.int .i64 t.rows) ∧ w3.cell? ⟨w.heap.size, 1, none⟩ = some (.slice a2 t.cells.length c2)) := hid (fun w' hw' => by
    have h := toTable_law w' t [.int .i64 t.rows, .slice a2 t.cells.length c2] ⟨_, _, rfl, ⟨rfl, HI.out⟩, _, rfl, HR2.out.later hw'.out.1⟩ htt
    refine h.mono ?_
    rintro e w3 ⟨cs', bs3, rfl, o3, -, -, b3⟩
    obtain ⟨a3, c3, rfl, h3, -⟩ := cTable_shape (cTable.ownRd o3)
    have hb := boxed_later hw'.out.2 b3
    exact ⟨a3, c3, rfl, hid h3, hid b3, hid ⟨below_chain hw'.out.1 b3, hb⟩, hb.1, hb.2⟩)
  have HSP : Hid (∀ w' a3 c3 a4 c4, Hid (Below w.heap.size w w' ∧ Boxed w' w.heap.size t.rows (.slice a2 t.cells.length c2)) → Hid (RdSl cField w' xs (.slice a3 xs.length c3)) → Hid (RdSl cCell w' t.cells (.slice a4 t.cells.length c4)) → Calls Try.prog 9 #[.slice a3 xs.length c3, .agg #[.int .i64 t.rows, .slice a4 t.cells.length c4]] w' fun e w3 => e = .returned (.bool (tableOK xs t)) ∧ Hid (Below w.heap.size w w3 ∧ Boxed w3 w.heap.size t.rows (.slice a2 t.cells.length c2)) ∧ w3.cell? ⟨w.heap.size, 0, none⟩ = some (.int .i64 t.rows) ∧ w3.cell? ⟨w.heap.size, 1, none⟩ = some (.slice a2 t.cells.length c2)) := hid (fun w' a3 c3 a4 c4 hw' h3 h4 => by
    refine (specTable_any a3 a4 c3 c4 xs t w' h3.out h4.out htt).mono ?_
    rintro e w3 ⟨rfl, b3⟩
    have hb := boxed_later hw'.out.2 b3
    exact ⟨rfl, hid ⟨below_chain hw'.out.1 b3, hb⟩, hb.1, hb.2⟩)
  have HS2 : Hid (Below w.heap.size w w2.drew ∧ Boxed w2.drew w.heap.size t.rows (.slice a2 t.cells.length c2)) := hid ⟨HB2.out.drew, HBX.out⟩
  have q0 := HBX.out.1
  have q1 := HBX.out.2
  go_wp2
  first | (go_region_held (fun w' => w'.cell? ⟨w.heap.size, 0, none⟩ = some (.int .i64 t.rows) ∧ w'.cell? ⟨w.heap.size, 1, none⟩ = some (.slice a2 t.cells.length c2)) (go_keep) (first
    | (go_at_call 10; refine (HTO.out _ HS2).mono ?_; rintro e w3 ⟨a3, c3, rfl, hrf3, hb3, hs3, hc30, hc31⟩)
    | (go_at_call 11; refine (HTT.out _ hs3).mono ?_; rintro e w4 ⟨a4, c4, rfl, hrc4, hb4, hs4, hc40, hc41⟩)
    | (go_at_call 9; refine (HSP.out _ a3 c3 a4 c4 hs4 (hid (hrf3.out.later hb4.out)) hrc4).mono ?_; rintro e w5 ⟨rfl, hs5, hc50, hc51⟩))) | fail
  clear q0 q1
  generalize hq : tableOK xs t = q at *
  go_wp2_with fail
  refine (HTO.out _ hs5).mono ?_
  rintro e w6 ⟨a6, c6, rfl, hrf6, hb6, hs6, hc60, hc61⟩
  go_wp2_with fail
  refine (HTT.out _ hs6).mono ?_
  rintro e w7 ⟨a7, c7, rfl, hrc7, hb7, hs7, hc70, hc71⟩
  have HIM : Hid (Calls Try.prog 12 #[.slice a6 xs.length c6, .agg #[.int .i64 t.rows, .slice a7 t.cells.length c7]] (w7.alloc (.cells #[.int .i64 t.rows, .slice a7 t.cells.length c7] 33)) fun e w8 => e = .returned (.bool q) ∧ Hid (Below w7.heap.size w7 w8) ∧ Hid (Below w.heap.size w w8 ∧ Boxed w8 w.heap.size t.rows (.slice a2 t.cells.length c2)) ∧ w8.cell? ⟨w7.heap.size, 0, none⟩ = some (.int .i64 t.rows) ∧ w8.cell? ⟨w7.heap.size, 1, none⟩ = some (.slice a7 t.cells.length c7)) := hid (by
    have hbA := below_new1 w7 (.cells #[.int .i64 t.rows, .slice a7 t.cells.length c7] 33)
    have h := implTable_any a6 a7 c6 c7 xs t (w7.alloc (.cells #[.int .i64 t.rows, .slice a7 t.cells.length c7] 33)) ((hrf6.out.later hb7.out).later hbA) (hrc7.out.later hbA) htt
    rw [hq] at h
    refine h.mono ?_
    rintro e w8 ⟨rfl, b8⟩
    have b78 := hbA.trans (b8.mono hbA.size)
    have hk := heap1 _ (b8.mono (by simp))
    have s0 := cell_of_row w8 _ 0 _ _ _ hk
    have s1 := cell_of_row w8 _ 1 _ _ _ hk
    simp at s0 s1
    exact ⟨rfl, hid b78, hid ⟨below_chain hs7.out.1 b78, boxed_later hs7.out.2 b78⟩, s0, s1⟩)
  go_wp2_with fail
  refine HIM.out.mono ?_
  rintro e w8 ⟨rfl, hb8, hs8, hc80, hc81⟩
  have hqq : (q != q) = false := by simp
  go_wp2_with fail
  refine (HTO.out _ hs8).mono ?_
  rintro e w9 ⟨a9, c9, rfl, hrf9, hb9, hs9, hc90, hc91⟩
  have hd0 := (hb9.out.cell (World.block_lt_of_cell? _ _ hc80)).trans hc80
  have hd1 := (hb9.out.cell (World.block_lt_of_cell? _ _ hc81)).trans hc81
  go_wp2_with fail
  refine (eqFieldS_any a6 a9 c6 c9 xs w9 (((hrf6.out.later hb7.out).later hb8.out).later hb9.out) hrf9.out ht).mono ?_
  rintro e w10 ⟨rfl, b10⟩
  have HS10 : Hid (Below w.heap.size w w10.drew ∧ Boxed w10.drew w.heap.size t.rows (.slice a2 t.cells.length c2)) := hid ⟨(below_chain hs9.out.1 b10).drew, boxed_later hs9.out.2 b10.drew⟩
  have f0 := (b10.cell (World.block_lt_of_cell? _ _ hd0)).trans hd0
  have f1 := (b10.cell (World.block_lt_of_cell? _ _ hd1)).trans hd1
  have g0 : w10.cell? ⟨w.heap.size, 0, none⟩ = some (.int .i64 t.rows) := HS10.out.2.1
  have g1 : w10.cell? ⟨w.heap.size, 1, none⟩ = some (.slice a2 t.cells.length c2) := HS10.out.2.2
  have HRC10 := hid (((hrc7.out.later hb8.out).later hb9.out).later b10)
  have HT10 : Hid (Calls Try.prog 11 #[.agg #[.int .i64 t.rows, .slice a2 t.cells.length c2]] w10.drew fun e w3 => ∃ a3 c3, e = .returned (.agg #[.int .i64 t.rows, .slice a3 t.cells.length c3]) ∧ Hid (RdSl cCell w3 t.cells (.slice a3 t.cells.length c3)) ∧ Hid (RdSl cCell w3 t.cells (.slice a7 t.cells.length c7)) ∧ Hid (Below w.heap.size w w3) ∧ w3.cell? ⟨w.heap.size, 0, none⟩ = some (.int .i64 t.rows) ∧ w3.cell? ⟨w.heap.size, 1, none⟩ = some (.slice a2 t.cells.length c2) ∧ w3.cell? ⟨w7.heap.size, 0, none⟩ = some (.int .i64 t.rows) ∧ w3.cell? ⟨w7.heap.size, 1, none⟩ = some (.slice a7 t.cells.length c7)) := hid (by
    refine (HTT.out _ HS10).mono ?_
    rintro e w3 ⟨a3, c3, rfl, h3, hb, hs, e0, e1⟩
    exact ⟨a3, c3, rfl, h3, hid ((HRC10.out.later (Below.refl _ _).drew).later hb.out), hid hs.out.1, e0, e1, (hb.out.cell (World.block_lt_of_cell? w10.drew _ f0)).trans f0, (hb.out.cell (World.block_lt_of_cell? w10.drew _ f1)).trans f1⟩)
  have HEQ : Hid (∀ w' a3 c3, Hid (RdSl cCell w' t.cells (.slice a3 t.cells.length c3)) → Hid (RdSl cCell w' t.cells (.slice a7 t.cells.length c7)) → Hid (Below w.heap.size w w') → Boxed w' w.heap.size t.rows (.slice a2 t.cells.length c2) → Boxed w' w7.heap.size t.rows (.slice a7 t.cells.length c7) → Calls Try.prog 14 #[.agg #[.int .i64 t.rows, .slice a7 t.cells.length c7], .agg #[.int .i64 t.rows, .slice a3 t.cells.length c3]] w' fun e w3 => e = .returned (.bool true) ∧ Hid (Below w.heap.size w w3) ∧ w3.cell? ⟨w.heap.size, 0, none⟩ = some (.int .i64 t.rows) ∧ w3.cell? ⟨w.heap.size, 1, none⟩ = some (.slice a2 t.cells.length c2) ∧ w3.cell? ⟨w7.heap.size, 0, none⟩ = some (.int .i64 t.rows) ∧ w3.cell? ⟨w7.heap.size, 1, none⟩ = some (.slice a7 t.cells.length c7)) := hid (fun w' a3 c3 h3 h7 hb hx hy => by
    refine (eqTable_law w' t [.int .i64 t.rows, .slice a7 t.cells.length c7] [.int .i64 t.rows, .slice a3 t.cells.length c3] ⟨_, _, rfl, ⟨rfl, HI.out⟩, _, rfl, h7.out⟩ ⟨_, _, rfl, ⟨rfl, HI.out⟩, _, rfl, h3.out⟩ htt).mono ?_
    rintro e w3 ⟨rfl, b3⟩
    have hx2 := boxed_later hx b3
    have hy2 := boxed_later hy b3
    exact ⟨rfl, hid (below_chain hb.out b3), hx2.1, hx2.2, hy2.1, hy2.2⟩)
  clear b10 hd0 hd1 hc80 hc81 hc90 hc91
  go_wp2
  first | (go_region_held (fun w' => w'.cell? ⟨w.heap.size, 0, none⟩ = some (.int .i64 t.rows) ∧ w'.cell? ⟨w.heap.size, 1, none⟩ = some (.slice a2 t.cells.length c2) ∧ w'.cell? ⟨w7.heap.size, 0, none⟩ = some (.int .i64 t.rows) ∧ w'.cell? ⟨w7.heap.size, 1, none⟩ = some (.slice a7 t.cells.length c7)) (go_keep) (first
    | (go_at_call 11; refine HT10.out.mono ?_; rintro e w11 ⟨a11, c11, rfl, hr11, hr711, hb11, hx0, hx1, hy0, hy1⟩)
    | (go_at_call 14; refine (HEQ.out _ a11 c11 hr11 hr711 hb11 ⟨hx0, hx1⟩ ⟨hy0, hy1⟩).mono ?_; rintro e w12 ⟨rfl, hb12, hz0, hz1, hz2, hz3⟩))) | fail
  go_wp2
  go_ret
  exact ⟨rfl, hb12.out⟩
end Go.Proofs.Ytcljakdcejhfiad
