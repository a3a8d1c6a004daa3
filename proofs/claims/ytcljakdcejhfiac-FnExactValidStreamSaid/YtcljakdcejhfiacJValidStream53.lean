import Derived.Test.YtcljakdcejhfiacJValidStream28
import Derived.Test.YtcljakdcejhfiacJValidStream52
import Derived.Deep.RegionHeld3
namespace Go.Proofs.Ytcljakdcejhfiac
open Go.RowKit
abbrev BoxS (w' : World) (g : Nat) (s : PStr) (a : Option Addr) (c : Nat) (b : Option Addr) (d : Nat) : Prop :=
  w'.cell? ⟨g, 0, none⟩ = some (.bool s.opened) ∧ w'.cell? ⟨g, 1, none⟩ = some (.slice a s.fields.length c) ∧ w'.cell? ⟨g, 2, none⟩ = some (.int .i64 s.next) ∧ w'.cell? ⟨g, 3, none⟩ = some (.slice b s.dicts.length d)
theorem boxS_later {wa wb : World} {g : Nat} {s : PStr} {a b : Option Addr} {c d : Nat} (h : BoxS wa g s a c b d) (k : Below wa.heap.size wa wb) : BoxS wb g s a c b d :=
  ⟨(k.cell (World.block_lt_of_cell? _ _ h.1)).trans h.1, (k.cell (World.block_lt_of_cell? _ _ h.2.1)).trans h.2.1, (k.cell (World.block_lt_of_cell? _ _ h.2.2.1)).trans h.2.2.1, (k.cell (World.block_lt_of_cell? _ _ h.2.2.2)).trans h.2.2.2⟩
theorem boxS_new {w : World} {e : TypeId} {s : PStr} {a b : Option Addr} {c d : Nat} : BoxS (w.alloc (.cells #[.bool s.opened, .slice a s.fields.length c, .int .i64 s.next, .slice b s.dicts.length d] e)) w.heap.size s a c b d := by
  have hh := heap_alloc_new w (.cells #[.bool s.opened, .slice a s.fields.length c, .int .i64 s.next, .slice b s.dicts.length d] e)
  have p0 := cell_of_row _ _ 0 _ _ _ hh
  have p1 := cell_of_row _ _ 1 _ _ _ hh
  have p2 := cell_of_row _ _ 2 _ _ _ hh
  have p3 := cell_of_row _ _ 3 _ _ _ hh
  simp only [List.getElem?_toArray, List.getElem?_cons_zero, List.getElem?_cons_succ] at p0 p1 p2 p3
  exact ⟨p0, p1, p2, p3⟩
set_option maxHeartbeats 4000000 in
theorem validStream_walk (v : Value) (w : World) (h : StreamIn w v) :
    Calls Try.prog 6 #[v] w fun e w' => e = .returned (.bool true) ∧ Below w.heap.size w w' := by
  obtain ⟨s, a, b, c, d, rfl, hr, -⟩ := h
  have HR := hid hr
  clear hr
  have hb0 := below_new1 w (.cells #[.bool s.opened, .slice a s.fields.length c, .int .i64 s.next, .slice b s.dicts.length d] 65)
  have HX0 : Hid (BoxS (w.alloc (.cells #[.bool s.opened, .slice a s.fields.length c, .int .i64 s.next, .slice b s.dicts.length d] 65)) w.heap.size s a c b d) := hid boxS_new
  go_enter Try.func6, Try.ntmps6
  go_wp2_with fail
  generalize (w.alloc (.cells #[.bool s.opened, .slice a s.fields.length c, .int .i64 s.next, .slice b s.dicts.length d] 65)) = w0 at *
  refine (szStream_any s a b c d 1048576 w0 (HR.out.later hb0) (by omega) (by omega)).mono ?_
  rintro e w1 ⟨rfl, b1⟩
  have B1 := below_chain hb0 b1
  have HX1 := hid (boxS_later HX0.out b1)
  by_cases hneg : rest 1048576 (tStr s) < 0
  · generalize rest 1048576 (tStr s) = r at *
    go_wp2
    go_ret
    exact ⟨rfl, B1⟩
  have ht : tStr s ≤ 1048576 := by have := rest_fits (l := 1048576) (n := tStr s) (by omega); omega
  generalize rest 1048576 (tStr s) = r at *
  obtain ⟨p0, p1, p2, p3⟩ := HX1.out
  go_wp2_with fail
  refine (toStream_any s a b c d w1 (HR.out.later B1) ht).mono ?_
  rintro e w2 ⟨a2, c2, b2, d2, bs2, ds2, rfl, o2, -, -, bl2⟩
  have B2 := below_chain B1 bl2
  clear p0 p1 p2 p3
  go_wp2_with fail
  refine (specStr_any s a2 b2 c2 d2 w2 o2.rd ht).mono ?_
  rintro e w3 ⟨rfl, bl3⟩
  have B3 := below_chain B2 bl3
  have HX3 := hid (boxS_later HX1.out (below_chain bl2 bl3))
  obtain ⟨p0, p1, p2, p3⟩ := HX3.out
  clear o2
  generalize hq : strOK s = q at *
  have HQ := hid hq
  clear hq
  go_wp2_with fail
  refine (toStream_any s a b c d w3 (HR.out.later B3) ht).mono ?_
  rintro e w4 ⟨a4, c4, b4, d4, bs4, ds4, rfl, o4, -, -, bl4⟩
  have B4 := below_chain B3 bl4
  have hb5 := below_new1 w4 (.cells #[.bool s.opened, .slice a4 s.fields.length c4, .int .i64 s.next, .slice b4 s.dicts.length d4] 70)
  have HY5 : Hid (BoxS (w4.alloc (.cells #[.bool s.opened, .slice a4 s.fields.length c4, .int .i64 s.next, .slice b4 s.dicts.length d4] 70)) w4.heap.size s a4 c4 b4 d4) := hid boxS_new
  have HR5 := hid (o4.rd.later hb5)
  have B5 := below_chain B4 hb5
  have HX5 := hid (boxS_later HX3.out (below_chain bl4 hb5))
  clear p0 p1 p2 p3 o4
  go_wp2_with fail
  generalize (w4.alloc (.cells #[.bool s.opened, .slice a4 s.fields.length c4, .int .i64 s.next, .slice b4 s.dicts.length d4] 70)) = w5 at *
  refine (implStr_any s a4 b4 c4 d4 w5 HR5.out ht).mono ?_
  rintro e w6 ⟨rfl, bl6⟩
  rw [HQ.out]
  have B6 := below_chain B5 bl6
  have HX6 := hid (boxS_later HX5.out bl6)
  have HY6 := hid (boxS_later HY5.out bl6)
  have HR6 := hid (HR5.out.later bl6)
  have hqq : (q != q) = false := by simp
  obtain ⟨p0, p1, p2, p3⟩ := HX6.out
  obtain ⟨q0, q1, q2, q3⟩ := HY6.out
  have HT7 : Hid (Calls Try.prog 38 #[.agg #[.bool s.opened, .slice a s.fields.length c, .int .i64 s.next, .slice b s.dicts.length d]] w6.drew fun e w8 => ∃ a8 c8 b8 d8, e = .returned (.agg #[.bool s.opened, .slice a8 s.fields.length c8, .int .i64 s.next, .slice b8 s.dicts.length d8]) ∧ Hid (RdStr w8 s a8 c8 b8 d8) ∧ Hid (Below w6.heap.size w6 w8) ∧ BoxS w8 w.heap.size s a c b d ∧ BoxS w8 w4.heap.size s a4 c4 b4 d4) := hid (by
    refine (toStream_any s a b c d w6.drew (HR.out.later B6.drew) ht).mono ?_
    rintro e w8 ⟨a8, c8, b8, d8, bs8, ds8, rfl, o8, -, -, bl8⟩
    have bl := (Below.refl _ w6).drew.trans bl8
    exact ⟨a8, c8, b8, d8, rfl, hid o8.rd, hid bl, boxS_later HX6.out bl, boxS_later HY6.out bl⟩)
  have HE7 : Hid (∀ w8 a8 c8 b8 d8, Hid (RdStr w8 s a8 c8 b8 d8) → Hid (Below w6.heap.size w6 w8) → Calls Try.prog 40 #[.agg #[.bool s.opened, .slice a4 s.fields.length c4, .int .i64 s.next, .slice b4 s.dicts.length d4], .agg #[.bool s.opened, .slice a8 s.fields.length c8, .int .i64 s.next, .slice b8 s.dicts.length d8]] w8 fun e w9 => e = .returned (.bool true) ∧ Hid (Below w6.heap.size w6 w9) ∧ BoxS w9 w.heap.size s a c b d ∧ BoxS w9 w4.heap.size s a4 c4 b4 d4) := hid (fun w8 a8 c8 b8 d8 h8 hb => by
    refine (eqStream_any s a4 b4 a8 b8 c4 d4 c8 d8 w8 (HR6.out.later hb.out) h8.out ht).mono ?_
    rintro e w9 ⟨rfl, bl9⟩
    have bl := below_chain hb.out bl9
    exact ⟨rfl, hid bl, boxS_later HX6.out bl, boxS_later HY6.out bl⟩)
  go_wp2
  (go_region_held3 (fun w' => w'.cell? ⟨w.heap.size, 0, none⟩ = some (.bool s.opened) ∧ w'.cell? ⟨w.heap.size, 1, none⟩ = some (.slice a s.fields.length c) ∧ w'.cell? ⟨w.heap.size, 2, none⟩ = some (.int .i64 s.next) ∧ w'.cell? ⟨w.heap.size, 3, none⟩ = some (.slice b s.dicts.length d) ∧ w'.cell? ⟨w4.heap.size, 0, none⟩ = some (.bool s.opened) ∧ w'.cell? ⟨w4.heap.size, 1, none⟩ = some (.slice a4 s.fields.length c4) ∧ w'.cell? ⟨w4.heap.size, 2, none⟩ = some (.int .i64 s.next) ∧ w'.cell? ⟨w4.heap.size, 3, none⟩ = some (.slice b4 s.dicts.length d4)) (go_keep) (first
    | (go_at_call 38; refine HT7.out.mono ?_; rintro e w8 ⟨a8, c8, b8, d8, rfl, hr8, hb8, ⟨x0, x1, x2, x3⟩, ⟨y0, y1, y2, y3⟩⟩)
    | (go_at_call 40; refine (HE7.out _ a8 c8 b8 d8 hr8 hb8).mono ?_; rintro e w9 ⟨rfl, hb9, ⟨z0, z1, z2, z3⟩, ⟨u0, u1, u2, u3⟩⟩)))
  have B9 := below_chain B6 hb9.out
  go_wp2
  go_ret
  exact ⟨rfl, B9⟩
end Go.Proofs.Ytcljakdcejhfiac
