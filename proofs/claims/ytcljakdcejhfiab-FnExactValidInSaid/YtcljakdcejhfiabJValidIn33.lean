import Derived.Test.YtcljakdcejhfiabJValidIn21
import Derived.Test.YtcljakdcejhfiabJValidIn28
import Derived.Test.YtcljakdcejhfiabJValidIn31
import Derived.Test.YtcljakdcejhfiabJValidIn32
import Derived.Deep.RegionHeld3
namespace Go.Proofs.Ytcljakdcejhfiab
open Go.RowKit
set_option maxHeartbeats 4000000 in
theorem validIn_walk (v : Value) (w : World) (h : LinkInIn w v) :
    Calls Try.prog 7 #[v] w fun e w' => e = .returned (.bool true) ∧ Below w.heap.size w w' := by
  obtain ⟨s, a, b, c, d, rfl, hr, -⟩ := h
  have HR := hid hr
  clear hr
  have hb0 := below_new1 w (.cells #[.int .i64 s.epoch, .int .i64 s.expect, .slice a s.held.length c, .slice b s.part.length d] 53)
  have HX0 : Hid (BoxI (w.alloc (.cells #[.int .i64 s.epoch, .int .i64 s.expect, .slice a s.held.length c, .slice b s.part.length d] 53)) w.heap.size s a c b d) := hid boxI_new
  go_enter Try.func7, Try.ntmps7
  go_wp2_with fail
  generalize (w.alloc (.cells #[.int .i64 s.epoch, .int .i64 s.expect, .slice a s.held.length c, .slice b s.part.length d] 53)) = w0 at *
  refine (szLinkIn_any s a b c d 1048576 w0 (HR.out.later hb0) (by omega) (by omega)).mono ?_
  rintro e w1 ⟨rfl, b1⟩
  have B1 := below_chain hb0 b1
  have HX1 := hid (boxI_later HX0.out b1)
  by_cases hneg : rest 1048576 (tIn s) < 0
  · generalize rest 1048576 (tIn s) = r at *
    go_wp2
    go_ret
    exact ⟨rfl, B1⟩
  have ht : tIn s ≤ 1048576 := by have := rest_fits (l := 1048576) (n := tIn s) (by omega); omega
  generalize rest 1048576 (tIn s) = r at *
  obtain ⟨p0, p1, p2, p3⟩ := HX1.out
  go_wp2_with fail
  refine (toLinkIn_any s a b c d w1 (HR.out.later B1) ht).mono ?_
  rintro e w2 ⟨a2, c2, b2, d2, bs2, ds2, rfl, o2, -, -, bl2⟩
  have B2 := below_chain B1 bl2
  clear p0 p1 p2 p3
  go_wp2_with fail
  refine (specVI_any s a2 b2 c2 d2 w2 o2.rd).mono ?_
  rintro e w3 ⟨rfl, bl3⟩
  have B3 := below_chain B2 bl3
  have HX3 := hid (boxI_later HX1.out (below_chain bl2 bl3))
  obtain ⟨p0, p1, p2, p3⟩ := HX3.out
  clear o2
  generalize hq : inOK s = q at *
  have HQ := hid hq
  clear hq
  go_wp2_with fail
  refine (toLinkIn_any s a b c d w3 (HR.out.later B3) ht).mono ?_
  rintro e w4 ⟨a4, c4, b4, d4, bs4, ds4, rfl, o4, -, -, bl4⟩
  have B4 := below_chain B3 bl4
  have hb5 := below_new1 w4 (.cells #[.int .i64 s.epoch, .int .i64 s.expect, .slice a4 s.held.length c4, .slice b4 s.part.length d4] 58)
  have HY5 : Hid (BoxI (w4.alloc (.cells #[.int .i64 s.epoch, .int .i64 s.expect, .slice a4 s.held.length c4, .slice b4 s.part.length d4] 58)) w4.heap.size s a4 c4 b4 d4) := hid boxI_new
  have HR5 := hid (o4.rd.later hb5)
  have B5 := below_chain B4 hb5
  have HX5 := hid (boxI_later HX3.out (below_chain bl4 hb5))
  clear p0 p1 p2 p3 o4
  go_wp2_with fail
  generalize (w4.alloc (.cells #[.int .i64 s.epoch, .int .i64 s.expect, .slice a4 s.held.length c4, .slice b4 s.part.length d4] 58)) = w5 at *
  refine (implVI_any s a4 b4 c4 d4 w5 HR5.out).mono ?_
  rintro e w6 ⟨rfl, bl6⟩
  rw [HQ.out]
  have B6 := below_chain B5 bl6
  have HX6 := hid (boxI_later HX5.out bl6)
  have HY6 := hid (boxI_later HY5.out bl6)
  have HR6 := hid (HR5.out.later bl6)
  have hqq : (q != q) = false := by simp
  obtain ⟨p0, p1, p2, p3⟩ := HX6.out
  obtain ⟨q0, q1, q2, q3⟩ := HY6.out
  have HT7 : Hid (Calls Try.prog 35 #[.agg #[.int .i64 s.epoch, .int .i64 s.expect, .slice a s.held.length c, .slice b s.part.length d]] w6.drew fun e w8 => ∃ a8 c8 b8 d8, e = .returned (.agg #[.int .i64 s.epoch, .int .i64 s.expect, .slice a8 s.held.length c8, .slice b8 s.part.length d8]) ∧ Hid (RdIn w8 s a8 c8 b8 d8) ∧ Hid (Below w6.heap.size w6 w8) ∧ BoxI w8 w.heap.size s a c b d ∧ BoxI w8 w4.heap.size s a4 c4 b4 d4) := hid (by
    refine (toLinkIn_any s a b c d w6.drew (HR.out.later B6.drew) ht).mono ?_
    rintro e w8 ⟨a8, c8, b8, d8, bs8, ds8, rfl, o8, -, -, bl8⟩
    have bl := (Below.refl _ w6).drew.trans bl8
    exact ⟨a8, c8, b8, d8, rfl, hid o8.rd, hid bl, boxI_later HX6.out bl, boxI_later HY6.out bl⟩)
  have HE7 : Hid (∀ w8 a8 c8 b8 d8, Hid (RdIn w8 s a8 c8 b8 d8) → Hid (Below w6.heap.size w6 w8) → Calls Try.prog 37 #[.agg #[.int .i64 s.epoch, .int .i64 s.expect, .slice a4 s.held.length c4, .slice b4 s.part.length d4], .agg #[.int .i64 s.epoch, .int .i64 s.expect, .slice a8 s.held.length c8, .slice b8 s.part.length d8]] w8 fun e w9 => e = .returned (.bool true) ∧ Hid (Below w6.heap.size w6 w9) ∧ BoxI w9 w.heap.size s a c b d ∧ BoxI w9 w4.heap.size s a4 c4 b4 d4) := hid (fun w8 a8 c8 b8 d8 h8 hb => by
    refine (eqLinkIn_any s a4 b4 a8 b8 c4 d4 c8 d8 w8 (HR6.out.later hb.out) h8.out ht).mono ?_
    rintro e w9 ⟨rfl, bl9⟩
    have bl := below_chain hb.out bl9
    exact ⟨rfl, hid bl, boxI_later HX6.out bl, boxI_later HY6.out bl⟩)
  go_wp2
  (go_region_held3 (fun w' => w'.cell? ⟨w.heap.size, 0, none⟩ = some (.int .i64 s.epoch) ∧ w'.cell? ⟨w.heap.size, 1, none⟩ = some (.int .i64 s.expect) ∧ w'.cell? ⟨w.heap.size, 2, none⟩ = some (.slice a s.held.length c) ∧ w'.cell? ⟨w.heap.size, 3, none⟩ = some (.slice b s.part.length d) ∧ w'.cell? ⟨w4.heap.size, 0, none⟩ = some (.int .i64 s.epoch) ∧ w'.cell? ⟨w4.heap.size, 1, none⟩ = some (.int .i64 s.expect) ∧ w'.cell? ⟨w4.heap.size, 2, none⟩ = some (.slice a4 s.held.length c4) ∧ w'.cell? ⟨w4.heap.size, 3, none⟩ = some (.slice b4 s.part.length d4)) (go_keep) (first
    | (go_at_call 35; refine HT7.out.mono ?_; rintro e w8 ⟨a8, c8, b8, d8, rfl, hr8, hb8, ⟨x0, x1, x2, x3⟩, ⟨y0, y1, y2, y3⟩⟩)
    | (go_at_call 37; refine (HE7.out _ a8 c8 b8 d8 hr8 hb8).mono ?_; rintro e w9 ⟨rfl, hb9, ⟨z0, z1, z2, z3⟩, ⟨u0, u1, u2, u3⟩⟩)))
  have B9 := below_chain B6 hb9.out
  go_wp2
  go_ret
  exact ⟨rfl, B9⟩
end Go.Proofs.Ytcljakdcejhfiab
