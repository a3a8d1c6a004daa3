import Derived.Test.YtcljakdcejhfiacJValidOut22
import Derived.Test.YtcljakdcejhfiacJValidOut27
import Derived.Test.YtcljakdcejhfiacJValidOut30
import Derived.Test.YtcljakdcejhfiacJValidOut31
import Derived.Deep.RegionHeld3
namespace Go.Proofs.Ytcljakdcejhfiac
open Go.RowKit
set_option maxHeartbeats 4000000 in
theorem validOut_walk (v : Value) (w : World) (h : LinkOutIn w v) :
    Calls Try.prog 3 #[v] w fun e w' => e = .returned (.bool true) ∧ Below w.heap.size w w' := by
  obtain ⟨s, a, c, rfl, hr, -⟩ := h
  have HR := hid hr
  clear hr
  have hb0 := below_new1 w (.cells #[.int .i64 s.epoch, .int .i64 s.next, .int .i64 s.now, .slice a s.wait.length c] 24)
  have HX0 : Hid (BoxO (w.alloc (.cells #[.int .i64 s.epoch, .int .i64 s.next, .int .i64 s.now, .slice a s.wait.length c] 24)) w.heap.size s a c) := hid boxO_new
  go_enter Try.func3, Try.ntmps3
  go_wp2_with fail
  generalize (w.alloc (.cells #[.int .i64 s.epoch, .int .i64 s.next, .int .i64 s.now, .slice a s.wait.length c] 24)) = w0 at *
  refine (szLinkOut_any s a c 1048576 w0 (HR.out.later hb0) (by omega) (by omega)).mono ?_
  rintro e w1 ⟨rfl, b1⟩
  have B1 := below_chain hb0 b1
  have HX1 := hid (boxO_later HX0.out b1)
  by_cases hneg : rest 1048576 (totL wN s.wait) < 0
  · generalize rest 1048576 (totL wN s.wait) = r at *
    go_wp2
    go_ret
    exact ⟨rfl, B1⟩
  have ht : totL wN s.wait ≤ 1048576 := by have := rest_fits (l := 1048576) (n := totL wN s.wait) (by omega); omega
  generalize rest 1048576 (totL wN s.wait) = r at *
  obtain ⟨p0, p1, p2, p3⟩ := HX1.out
  go_wp2_with fail
  refine (toLinkOut_any s a c w1 (HR.out.later B1) ht).mono ?_
  rintro e w2 ⟨a2, c2, bs2, rfl, o2, -, -, bl2⟩
  have B2 := below_chain B1 bl2
  clear p0 p1 p2 p3
  go_wp2_with fail
  refine (specVO_any s a2 c2 w2 o2.rd).mono ?_
  rintro e w3 ⟨rfl, bl3⟩
  have B3 := below_chain B2 bl3
  have HX3 := hid (boxO_later HX1.out (below_chain bl2 bl3))
  obtain ⟨p0, p1, p2, p3⟩ := HX3.out
  clear o2
  generalize hq : outOK s = q at *
  have HQ := hid hq
  clear hq
  go_wp2_with fail
  refine (toLinkOut_any s a c w3 (HR.out.later B3) ht).mono ?_
  rintro e w4 ⟨a4, c4, bs4, rfl, o4, -, -, bl4⟩
  have B4 := below_chain B3 bl4
  have hb5 := below_new1 w4 (.cells #[.int .i64 s.epoch, .int .i64 s.next, .int .i64 s.now, .slice a4 s.wait.length c4] 29)
  have HY5 : Hid (BoxO (w4.alloc (.cells #[.int .i64 s.epoch, .int .i64 s.next, .int .i64 s.now, .slice a4 s.wait.length c4] 29)) w4.heap.size s a4 c4) := hid boxO_new
  have HR5 := hid (o4.rd.later hb5)
  have B5 := below_chain B4 hb5
  have HX5 := hid (boxO_later HX3.out (below_chain bl4 hb5))
  clear p0 p1 p2 p3 o4
  go_wp2_with fail
  generalize (w4.alloc (.cells #[.int .i64 s.epoch, .int .i64 s.next, .int .i64 s.now, .slice a4 s.wait.length c4] 29)) = w5 at *
  refine (implVO_any s a4 c4 w5 HR5.out).mono ?_
  rintro e w6 ⟨rfl, bl6⟩
  rw [HQ.out]
  have B6 := below_chain B5 bl6
  have HX6 := hid (boxO_later HX5.out bl6)
  have HY6 := hid (boxO_later HY5.out bl6)
  have HR6 := hid (HR5.out.later bl6)
  have hqq : (q != q) = false := by simp
  obtain ⟨p0, p1, p2, p3⟩ := HX6.out
  obtain ⟨q0, q1, q2, q3⟩ := HY6.out
  have HT7 : Hid (Calls Try.prog 11 #[.agg #[.int .i64 s.epoch, .int .i64 s.next, .int .i64 s.now, .slice a s.wait.length c]] w6.drew fun e w8 => ∃ a8 c8, e = .returned (.agg #[.int .i64 s.epoch, .int .i64 s.next, .int .i64 s.now, .slice a8 s.wait.length c8]) ∧ Hid (RdSl cSnt w8 s.wait (.slice a8 s.wait.length c8)) ∧ Hid (Below w6.heap.size w6 w8) ∧ BoxO w8 w.heap.size s a c ∧ BoxO w8 w4.heap.size s a4 c4) := hid (by
    refine (toLinkOut_any s a c w6.drew (HR.out.later B6.drew) ht).mono ?_
    rintro e w8 ⟨a8, c8, bs8, rfl, o8, -, -, bl8⟩
    have bl := (Below.refl _ w6).drew.trans bl8
    exact ⟨a8, c8, rfl, hid o8.rd, hid bl, boxO_later HX6.out bl, boxO_later HY6.out bl⟩)
  have HE7 : Hid (∀ w8 a8 c8, Hid (RdSl cSnt w8 s.wait (.slice a8 s.wait.length c8)) → Hid (Below w6.heap.size w6 w8) → Calls Try.prog 13 #[.agg #[.int .i64 s.epoch, .int .i64 s.next, .int .i64 s.now, .slice a4 s.wait.length c4], .agg #[.int .i64 s.epoch, .int .i64 s.next, .int .i64 s.now, .slice a8 s.wait.length c8]] w8 fun e w9 => e = .returned (.bool true) ∧ Hid (Below w6.heap.size w6 w9) ∧ BoxO w9 w.heap.size s a c ∧ BoxO w9 w4.heap.size s a4 c4) := hid (fun w8 a8 c8 h8 hb => by
    refine (eqLinkOut_any s a4 a8 c4 c8 w8 (HR6.out.later hb.out) h8.out ht).mono ?_
    rintro e w9 ⟨rfl, bl9⟩
    have bl := below_chain hb.out bl9
    exact ⟨rfl, hid bl, boxO_later HX6.out bl, boxO_later HY6.out bl⟩)
  go_wp2
  (go_region_held3 (fun w' => w'.cell? ⟨w.heap.size, 0, none⟩ = some (.int .i64 s.epoch) ∧ w'.cell? ⟨w.heap.size, 1, none⟩ = some (.int .i64 s.next) ∧ w'.cell? ⟨w.heap.size, 2, none⟩ = some (.int .i64 s.now) ∧ w'.cell? ⟨w.heap.size, 3, none⟩ = some (.slice a s.wait.length c) ∧ w'.cell? ⟨w4.heap.size, 0, none⟩ = some (.int .i64 s.epoch) ∧ w'.cell? ⟨w4.heap.size, 1, none⟩ = some (.int .i64 s.next) ∧ w'.cell? ⟨w4.heap.size, 2, none⟩ = some (.int .i64 s.now) ∧ w'.cell? ⟨w4.heap.size, 3, none⟩ = some (.slice a4 s.wait.length c4)) (go_keep) (first
    | (go_at_call 11; refine HT7.out.mono ?_; rintro e w8 ⟨a8, c8, rfl, hr8, hb8, ⟨x0, x1, x2, x3⟩, ⟨y0, y1, y2, y3⟩⟩)
    | (go_at_call 13; refine (HE7.out _ a8 c8 hr8 hb8).mono ?_; rintro e w9 ⟨rfl, hb9, ⟨z0, z1, z2, z3⟩, ⟨u0, u1, u2, u3⟩⟩)))
  have B9 := below_chain B6 hb9.out
  go_wp2
  go_ret
  exact ⟨rfl, B9⟩
end Go.Proofs.Ytcljakdcejhfiac
