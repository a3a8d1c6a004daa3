import Derived.Test.YtfaehioeepolhabGreatJCrashSender12
import Derived.Test.YtfaehioeepolhabGreatJCrashSender34
import Derived.Test.YtfaehioeepolhabGreatJCrashSender50
import Derived.Test.YtfaehioeepolhabGreatJCrashSender53
import Derived.Test.YtfaehioeepolhabGreatJCrashSender0
import Derived.Deep.RegionHeld3
namespace Go.Proofs.YtfaehioeepolhabGreat
open Go.RowKit
abbrev BoxQ (w' : World) (g : Nat) (r : PSnd) (a0 a3 a1 a2 b2 : Option Addr) (c0 c3 c1 c2 d2 : Nat) : Prop :=
 w'.cell? ⟨g, 0, none⟩ = some (.slice a0 r.fields.length c0) ∧ w'.cell? ⟨g, 1, none⟩ = some (.int .i64 r.epoch) ∧ w'.cell? ⟨g, 2, none⟩ = some (.int .i64 r.base) ∧ w'.cell? ⟨g, 3, none⟩ = some (.slice a3 r.tables.length c3) ∧ w'.cell? ⟨g, 4, none⟩ = some (.int .i64 r.pushed) ∧ w'.cell? ⟨g, 5, none⟩ = some (.int .i64 r.out.epoch) ∧ w'.cell? ⟨g, 6, none⟩ = some (.int .i64 r.out.next) ∧ w'.cell? ⟨g, 7, none⟩ = some (.int .i64 r.out.now) ∧ w'.cell? ⟨g, 8, none⟩ = some (.slice a1 r.out.wait.length c1) ∧ w'.cell? ⟨g, 9, none⟩ = some (.bool r.str.opened) ∧ w'.cell? ⟨g, 10, none⟩ = some (.slice a2 r.str.fields.length c2) ∧ w'.cell? ⟨g, 11, none⟩ = some (.int .i64 r.str.next) ∧ w'.cell? ⟨g, 12, none⟩ = some (.slice b2 r.str.dicts.length d2)
theorem boxQ_of {w : World} {g : Nat} {e : TypeId} {r : PSnd} {a0 a3 a1 a2 b2 : Option Addr} {c0 c3 c1 c2 d2 : Nat} (hh : w.heap[g]? = some (.cells #[.slice a0 r.fields.length c0, .int .i64 r.epoch, .int .i64 r.base, .slice a3 r.tables.length c3, .int .i64 r.pushed, .int .i64 r.out.epoch, .int .i64 r.out.next, .int .i64 r.out.now, .slice a1 r.out.wait.length c1, .bool r.str.opened, .slice a2 r.str.fields.length c2, .int .i64 r.str.next, .slice b2 r.str.dicts.length d2] e (0, 0))) : BoxQ w g r a0 a3 a1 a2 b2 c0 c3 c1 c2 d2 := by
 have p0 := cR _ _ 0 _ _ _ hh
 have p1 := cR _ _ 1 _ _ _ hh
 have p2 := cR _ _ 2 _ _ _ hh
 have p3 := cR _ _ 3 _ _ _ hh
 have p4 := cR _ _ 4 _ _ _ hh
 have p5 := cR _ _ 5 _ _ _ hh
 have p6 := cR _ _ 6 _ _ _ hh
 have p7 := cR _ _ 7 _ _ _ hh
 have p8 := cR _ _ 8 _ _ _ hh
 have p9 := cR _ _ 9 _ _ _ hh
 have p10 := cR _ _ 10 _ _ _ hh
 have p11 := cR _ _ 11 _ _ _ hh
 have p12 := cR _ _ 12 _ _ _ hh
 simp only [gA, gZ, gU] at p0 p1 p2 p3 p4 p5 p6 p7 p8 p9 p10 p11 p12
 exact ⟨p0, p1, p2, p3, p4, p5, p6, p7, p8, p9, p10, p11, p12⟩
set_option maxRecDepth 100000 in
set_option maxHeartbeats 32000000 in
theorem crashSender_walk (v : Value) (w : World) (h : SenderIn w v) :
  Calls Tryz.prog 4 #[v] w fun e w' => e = .returned (.bool true) ∧ Below w.heap.size w w' := by
 obtain ⟨r, a0, a3, a1, a2, b2, c0, c3, c1, c2, d2, rfl, hr, -⟩ := h
 have HR := hid hr
 clear hr
 have hb0 := bN w (.cells #[.slice a0 r.fields.length c0, .int .i64 r.epoch, .int .i64 r.base, .slice a3 r.tables.length c3, .int .i64 r.pushed, .int .i64 r.out.epoch, .int .i64 r.out.next, .int .i64 r.out.now, .slice a1 r.out.wait.length c1, .bool r.str.opened, .slice a2 r.str.fields.length c2, .int .i64 r.str.next, .slice b2 r.str.dicts.length d2] 31)
 have HX0 : Hid ((w.alloc (.cells #[.slice a0 r.fields.length c0, .int .i64 r.epoch, .int .i64 r.base, .slice a3 r.tables.length c3, .int .i64 r.pushed, .int .i64 r.out.epoch, .int .i64 r.out.next, .int .i64 r.out.now, .slice a1 r.out.wait.length c1, .bool r.str.opened, .slice a2 r.str.fields.length c2, .int .i64 r.str.next, .slice b2 r.str.dicts.length d2] 31)).heap[w.heap.size]? = some (.cells #[.slice a0 r.fields.length c0, .int .i64 r.epoch, .int .i64 r.base, .slice a3 r.tables.length c3, .int .i64 r.pushed, .int .i64 r.out.epoch, .int .i64 r.out.next, .int .i64 r.out.now, .slice a1 r.out.wait.length c1, .bool r.str.opened, .slice a2 r.str.fields.length c2, .int .i64 r.str.next, .slice b2 r.str.dicts.length d2] 31 (0, 0))) := hid (heap_alloc_new w _)
 go_enter Tryz.func4, Tryz.ntmps4
 go_wp2_with fail
 generalize (w.alloc (.cells #[.slice a0 r.fields.length c0, .int .i64 r.epoch, .int .i64 r.base, .slice a3 r.tables.length c3, .int .i64 r.pushed, .int .i64 r.out.epoch, .int .i64 r.out.next, .int .i64 r.out.now, .slice a1 r.out.wait.length c1, .bool r.str.opened, .slice a2 r.str.fields.length c2, .int .i64 r.str.next, .slice b2 r.str.dicts.length d2] 31)) = w0 at *
 refine (szSender_any r a0 a3 a1 a2 b2 c0 c3 c1 c2 d2 1048576 w0 (HR.out.later hb0) (by omega) (by omega)).mono ?_
 rintro e w1 ⟨rfl, bl1⟩
 have B1 := bC hb0 bl1
 have HX1 := hid (boxSd HX0.out bl1)
 by_cases hneg : rest 1048576 (tSnd r) < 0
 ·generalize rest 1048576 (tSnd r) = q at *
  go_wp2
  go_ret
  exact ⟨rfl, B1⟩
 have ht : tSnd r ≤ 1048576 := by have := rest_fits (l := 1048576) (n := tSnd r) (by omega); omega
 generalize rest 1048576 (tSnd r) = q at *
 have htP := cs_fits r ht
 obtain ⟨P, hP⟩ : ∃ P : PSnd, P = csR r := ⟨_, rfl⟩
 obtain ⟨K, hK⟩ : ∃ K : Int, K = csK r := ⟨_, rfl⟩
 have HSP := hid (fun a0 a3 a1 a2 b2 c0 c3 c1 c2 d2 w' h => specCrs_any r a0 a3 a1 a2 b2 c0 c3 c1 c2 d2 w' h ht)
 have HIM := hid (fun a0 a3 a1 a2 b2 c0 c3 c1 c2 d2 w' h => implCrs_any r a0 a3 a1 a2 b2 c0 c3 c1 c2 d2 w' h ht)
 rw [← hP, ← hK] at HSP HIM
 rw [← hP] at htP
 have hnP := nSnd_le P htP
 have hnR := nSnd_le r (sndFits_of ht)
 clear hP hK
 have hKK : (K != K) = false := by simp
 have p0 := cR _ _ 0 _ _ _ HX1.out
 have p1 := cR _ _ 1 _ _ _ HX1.out
 have p2 := cR _ _ 2 _ _ _ HX1.out
 have p3 := cR _ _ 3 _ _ _ HX1.out
 have p4 := cR _ _ 4 _ _ _ HX1.out
 have p5 := cR _ _ 5 _ _ _ HX1.out
 have p6 := cR _ _ 6 _ _ _ HX1.out
 have p7 := cR _ _ 7 _ _ _ HX1.out
 have p8 := cR _ _ 8 _ _ _ HX1.out
 have p9 := cR _ _ 9 _ _ _ HX1.out
 have p10 := cR _ _ 10 _ _ _ HX1.out
 have p11 := cR _ _ 11 _ _ _ HX1.out
 have p12 := cR _ _ 12 _ _ _ HX1.out
 simp only [gA, gZ, gU] at p0 p1 p2 p3 p4 p5 p6 p7 p8 p9 p10 p11 p12
 go_wp2_with fail
 refine (toSender_any r a0 a3 a1 a2 b2 c0 c3 c1 c2 d2 w1 (HR.out.later B1) ht).mono ?_
 rintro e w2 ⟨a0y, c0y, a3y, c3y, a1y, c1y, a2y, c2y, b2y, d2y, fs2, ts2, os2, bs2, ds2, rfl, o2, -, -, bl2⟩
 have B2 := bC B1 bl2
 clear p0 p1 p2 p3 p4 p5 p6 p7 p8 p9 p10 p11 p12
 go_wp2_with fail
 refine (HSP.out a0y a3y a1y a2y b2y c0y c3y c1y c2y d2y w2 o2.rd).mono ?_
 rintro e w3 ⟨a0s, c0s, a3s, c3s, a1s, c1s, a2s, c2s, b2s, d2s, rfl, rs, bl3⟩
 have B3 := bC B2 bl3
 have HX3 := hid (boxSd HX1.out (bC bl2 bl3))
 have hb3 := bN w3 (.cells #[.slice a0s P.fields.length c0s, .int .i64 P.epoch, .int .i64 P.base, .slice a3s P.tables.length c3s, .int .i64 P.pushed, .int .i64 P.out.epoch, .int .i64 P.out.next, .int .i64 P.out.now, .slice a1s P.out.wait.length c1s, .bool P.str.opened, .slice a2s P.str.fields.length c2s, .int .i64 P.str.next, .slice b2s P.str.dicts.length d2s] 45)
 have HW4 : Hid ((w3.alloc (.cells #[.slice a0s P.fields.length c0s, .int .i64 P.epoch, .int .i64 P.base, .slice a3s P.tables.length c3s, .int .i64 P.pushed, .int .i64 P.out.epoch, .int .i64 P.out.next, .int .i64 P.out.now, .slice a1s P.out.wait.length c1s, .bool P.str.opened, .slice a2s P.str.fields.length c2s, .int .i64 P.str.next, .slice b2s P.str.dicts.length d2s] 45)).heap[w3.heap.size]? = some (.cells #[.slice a0s P.fields.length c0s, .int .i64 P.epoch, .int .i64 P.base, .slice a3s P.tables.length c3s, .int .i64 P.pushed, .int .i64 P.out.epoch, .int .i64 P.out.next, .int .i64 P.out.now, .slice a1s P.out.wait.length c1s, .bool P.str.opened, .slice a2s P.str.fields.length c2s, .int .i64 P.str.next, .slice b2s P.str.dicts.length d2s] 45 (0, 0))) := hid (heap_alloc_new w3 _)
 have B4 := bC B3 hb3
 have HX4 := hid (boxSd HX3.out hb3)
 have HRS := hid (rs.later hb3)
 clear o2 rs
 have p0 := cR _ _ 0 _ _ _ HX4.out
 have p1 := cR _ _ 1 _ _ _ HX4.out
 have p2 := cR _ _ 2 _ _ _ HX4.out
 have p3 := cR _ _ 3 _ _ _ HX4.out
 have p4 := cR _ _ 4 _ _ _ HX4.out
 have p5 := cR _ _ 5 _ _ _ HX4.out
 have p6 := cR _ _ 6 _ _ _ HX4.out
 have p7 := cR _ _ 7 _ _ _ HX4.out
 have p8 := cR _ _ 8 _ _ _ HX4.out
 have p9 := cR _ _ 9 _ _ _ HX4.out
 have p10 := cR _ _ 10 _ _ _ HX4.out
 have p11 := cR _ _ 11 _ _ _ HX4.out
 have p12 := cR _ _ 12 _ _ _ HX4.out
 simp only [gA, gZ, gU] at p0 p1 p2 p3 p4 p5 p6 p7 p8 p9 p10 p11 p12
 go_wp2_with fail
 generalize (w3.alloc (.cells #[.slice a0s P.fields.length c0s, .int .i64 P.epoch, .int .i64 P.base, .slice a3s P.tables.length c3s, .int .i64 P.pushed, .int .i64 P.out.epoch, .int .i64 P.out.next, .int .i64 P.out.now, .slice a1s P.out.wait.length c1s, .bool P.str.opened, .slice a2s P.str.fields.length c2s, .int .i64 P.str.next, .slice b2s P.str.dicts.length d2s] 45)) = w4 at *
 refine (toSender_any r a0 a3 a1 a2 b2 c0 c3 c1 c2 d2 w4 (HR.out.later B4) ht).mono ?_
 rintro e w5 ⟨a0x, c0x, a3x, c3x, a1x, c1x, a2x, c2x, b2x, d2x, fsX, tsX, osX, bsX, dsX, rfl, oX, lX, nX, bl5⟩
 have B5 := bC B4 bl5
 have hb5 := bN w5 (.cells #[.slice a0x r.fields.length c0x, .int .i64 r.epoch, .int .i64 r.base, .slice a3x r.tables.length c3x, .int .i64 r.pushed, .int .i64 r.out.epoch, .int .i64 r.out.next, .int .i64 r.out.now, .slice a1x r.out.wait.length c1x, .bool r.str.opened, .slice a2x r.str.fields.length c2x, .int .i64 r.str.next, .slice b2x r.str.dicts.length d2x] 45)
 have HY6 : Hid ((w5.alloc (.cells #[.slice a0x r.fields.length c0x, .int .i64 r.epoch, .int .i64 r.base, .slice a3x r.tables.length c3x, .int .i64 r.pushed, .int .i64 r.out.epoch, .int .i64 r.out.next, .int .i64 r.out.now, .slice a1x r.out.wait.length c1x, .bool r.str.opened, .slice a2x r.str.fields.length c2x, .int .i64 r.str.next, .slice b2x r.str.dicts.length d2x] 45)).heap[w5.heap.size]? = some (.cells #[.slice a0x r.fields.length c0x, .int .i64 r.epoch, .int .i64 r.base, .slice a3x r.tables.length c3x, .int .i64 r.pushed, .int .i64 r.out.epoch, .int .i64 r.out.next, .int .i64 r.out.now, .slice a1x r.out.wait.length c1x, .bool r.str.opened, .slice a2x r.str.fields.length c2x, .int .i64 r.str.next, .slice b2x r.str.dicts.length d2x] 45 (0, 0))) := hid (heap_alloc_new w5 _)
 have F46 := bC bl5 hb5
 have B6 := bC B4 F46
 have HX6 := hid (boxSd HX4.out F46)
 have HW6 := hid (boxSd HW4.out F46)
 have hXlt : ∀ b ∈ ((fsX ++ tsX) ++ (osX ++ (bsX ++ dsX))), b < w5.heap.size := oX.lt4
 have HOX6 := hid (oX.later4 hb5)
 have lX2 : ∀ b ∈ ((fsX ++ tsX) ++ (osX ++ (bsX ++ dsX))), w4.heap.size ≤ b := fun b hb => lX b (by simpa only [List.append_assoc] using hb)
 have nX2 : ((fsX ++ tsX) ++ (osX ++ (bsX ++ dsX))).Nodup := by simpa only [List.append_assoc] using nX
 clear p0 p1 p2 p3 p4 p5 p6 p7 p8 p9 p10 p11 p12 oX lX nX
 have hs45 := bl5.size
 have p0 := cR _ _ 0 _ _ _ HY6.out
 have p1 := cR _ _ 1 _ _ _ HY6.out
 have p2 := cR _ _ 2 _ _ _ HY6.out
 have p3 := cR _ _ 3 _ _ _ HY6.out
 have p4 := cR _ _ 4 _ _ _ HY6.out
 have p5 := cR _ _ 5 _ _ _ HY6.out
 have p6 := cR _ _ 6 _ _ _ HY6.out
 have p7 := cR _ _ 7 _ _ _ HY6.out
 have p8 := cR _ _ 8 _ _ _ HY6.out
 have p9 := cR _ _ 9 _ _ _ HY6.out
 have p10 := cR _ _ 10 _ _ _ HY6.out
 have p11 := cR _ _ 11 _ _ _ HY6.out
 have p12 := cR _ _ 12 _ _ _ HY6.out
 simp only [gA, gZ, gU] at p0 p1 p2 p3 p4 p5 p6 p7 p8 p9 p10 p11 p12
 go_wp2_with fail
 generalize (w5.alloc (.cells #[.slice a0x r.fields.length c0x, .int .i64 r.epoch, .int .i64 r.base, .slice a3x r.tables.length c3x, .int .i64 r.pushed, .int .i64 r.out.epoch, .int .i64 r.out.next, .int .i64 r.out.now, .slice a1x r.out.wait.length c1x, .bool r.str.opened, .slice a2x r.str.fields.length c2x, .int .i64 r.str.next, .slice b2x r.str.dicts.length d2x] 45)) = w6 at *
 refine (HIM.out a0x a3x a1x a2x b2x c0x c3x c1x c2x d2x w6 HOX6.out.rd).mono ?_
 rintro e w7 ⟨a0g, c0g, a3g, c3g, a1g, c1g, a2g, c2g, b2g, d2g, fsG, tsG, osG, bsG, dsG, rfl, oG, lG, nG, bl7⟩
 have hb7 := bN w7 (.cells #[.slice a0g P.fields.length c0g, .int .i64 P.epoch, .int .i64 P.base, .slice a3g P.tables.length c3g, .int .i64 P.pushed, .int .i64 P.out.epoch, .int .i64 P.out.next, .int .i64 P.out.now, .slice a1g P.out.wait.length c1g, .bool P.str.opened, .slice a2g P.str.fields.length c2g, .int .i64 P.str.next, .slice b2g P.str.dicts.length d2g] 45)
 have HG8 : Hid ((w7.alloc (.cells #[.slice a0g P.fields.length c0g, .int .i64 P.epoch, .int .i64 P.base, .slice a3g P.tables.length c3g, .int .i64 P.pushed, .int .i64 P.out.epoch, .int .i64 P.out.next, .int .i64 P.out.now, .slice a1g P.out.wait.length c1g, .bool P.str.opened, .slice a2g P.str.fields.length c2g, .int .i64 P.str.next, .slice b2g P.str.dicts.length d2g] 45)).heap[w7.heap.size]? = some (.cells #[.slice a0g P.fields.length c0g, .int .i64 P.epoch, .int .i64 P.base, .slice a3g P.tables.length c3g, .int .i64 P.pushed, .int .i64 P.out.epoch, .int .i64 P.out.next, .int .i64 P.out.now, .slice a1g P.out.wait.length c1g, .bool P.str.opened, .slice a2g P.str.fields.length c2g, .int .i64 P.str.next, .slice b2g P.str.dicts.length d2g] 45 (0, 0))) := hid (heap_alloc_new w7 _)
 have F68 := bC bl7 hb7
 have F48 := bC F46 F68
 have B8 := bC B6 F68
 have HX8 := hid (boxSd HX6.out F68)
 have HW8 := hid (boxSd HW6.out F68)
 have HY8 := hid (boxSd HY6.out F68)
 have HOX8 := hid (HOX6.out.later4 F68)
 have HOG8 := hid (oG.later4 hb7)
 have HNR := hid nG
 have HLG := hid lG
 have hGlt : ∀ b ∈ ((fsG ++ tsG) ++ (osG ++ (bsG ++ dsG))), b < w7.heap.size := oG.lt4
 have hs67 := bl7.size
 have hs56 := (Array.getElem?_eq_some_iff.1 HY6.out).1
 clear p0 p1 p2 p3 p4 p5 p6 p7 p8 p9 p10 p11 p12 HX6 HW6 HY6 HOX6 oG nG lG
 have p0 := cR _ _ 0 _ _ _ HW8.out
 have p1 := cR _ _ 1 _ _ _ HW8.out
 have p2 := cR _ _ 2 _ _ _ HW8.out
 have p3 := cR _ _ 3 _ _ _ HW8.out
 have p4 := cR _ _ 4 _ _ _ HW8.out
 have p5 := cR _ _ 5 _ _ _ HW8.out
 have p6 := cR _ _ 6 _ _ _ HW8.out
 have p7 := cR _ _ 7 _ _ _ HW8.out
 have p8 := cR _ _ 8 _ _ _ HW8.out
 have p9 := cR _ _ 9 _ _ _ HW8.out
 have p10 := cR _ _ 10 _ _ _ HW8.out
 have p11 := cR _ _ 11 _ _ _ HW8.out
 have p12 := cR _ _ 12 _ _ _ HW8.out
 simp only [gA, gZ, gU] at p0 p1 p2 p3 p4 p5 p6 p7 p8 p9 p10 p11 p12
 have q0 := cR _ _ 0 _ _ _ HG8.out
 have q1 := cR _ _ 1 _ _ _ HG8.out
 have q2 := cR _ _ 2 _ _ _ HG8.out
 have q3 := cR _ _ 3 _ _ _ HG8.out
 have q4 := cR _ _ 4 _ _ _ HG8.out
 have q5 := cR _ _ 5 _ _ _ HG8.out
 have q6 := cR _ _ 6 _ _ _ HG8.out
 have q7 := cR _ _ 7 _ _ _ HG8.out
 have q8 := cR _ _ 8 _ _ _ HG8.out
 have q9 := cR _ _ 9 _ _ _ HG8.out
 have q10 := cR _ _ 10 _ _ _ HG8.out
 have q11 := cR _ _ 11 _ _ _ HG8.out
 have q12 := cR _ _ 12 _ _ _ HG8.out
 simp only [gA, gZ, gU] at q0 q1 q2 q3 q4 q5 q6 q7 q8 q9 q10 q11 q12
 go_wp2_with fail
 generalize (w7.alloc (.cells #[.slice a0g P.fields.length c0g, .int .i64 P.epoch, .int .i64 P.base, .slice a3g P.tables.length c3g, .int .i64 P.pushed, .int .i64 P.out.epoch, .int .i64 P.out.next, .int .i64 P.out.now, .slice a1g P.out.wait.length c1g, .bool P.str.opened, .slice a2g P.str.fields.length c2g, .int .i64 P.str.next, .slice b2g P.str.dicts.length d2g] 45)) = w8 at *
 refine (eqSenderF_any P a0g a3g a1g a2g b2g c0g c3g c1g c2g d2g a0s a3s a1s a2s b2s c0s c3s c1s c2s d2s w8 HOG8.out.rd (HRS.out.later F48) htP).mono ?_
 rintro e w9 ⟨rfl, bl9⟩
 have B9 := bC B8 bl9
 have HX9 := hid (boxSd HX8.out bl9)
 have HW9 := hid (boxSd HW8.out bl9)
 have HY9 := hid (boxSd HY8.out bl9)
 have HG9 := hid (boxSd HG8.out bl9)
 have HOX9 := hid (HOX8.out.later4 bl9)
 have HOG9 := hid (HOG8.out.later4 bl9)
 have F49 := bC F48 bl9
 clear p0 p1 p2 p3 p4 p5 p6 p7 p8 p9 p10 p11 p12 q0 q1 q2 q3 q4 q5 q6 q7 q8 q9 q10 q11 q12 HX8 HW8 HY8 HG8 HOX8 HOG8
 have p0 := cR _ _ 0 _ _ _ HX9.out
 have p1 := cR _ _ 1 _ _ _ HX9.out
 have p2 := cR _ _ 2 _ _ _ HX9.out
 have p3 := cR _ _ 3 _ _ _ HX9.out
 have p4 := cR _ _ 4 _ _ _ HX9.out
 have p5 := cR _ _ 5 _ _ _ HX9.out
 have p6 := cR _ _ 6 _ _ _ HX9.out
 have p7 := cR _ _ 7 _ _ _ HX9.out
 have p8 := cR _ _ 8 _ _ _ HX9.out
 have p9 := cR _ _ 9 _ _ _ HX9.out
 have p10 := cR _ _ 10 _ _ _ HX9.out
 have p11 := cR _ _ 11 _ _ _ HX9.out
 have p12 := cR _ _ 12 _ _ _ HX9.out
 simp only [gA, gZ, gU] at p0 p1 p2 p3 p4 p5 p6 p7 p8 p9 p10 p11 p12
 have q0 := cR _ _ 0 _ _ _ HY9.out
 have q1 := cR _ _ 1 _ _ _ HY9.out
 have q2 := cR _ _ 2 _ _ _ HY9.out
 have q3 := cR _ _ 3 _ _ _ HY9.out
 have q4 := cR _ _ 4 _ _ _ HY9.out
 have q5 := cR _ _ 5 _ _ _ HY9.out
 have q6 := cR _ _ 6 _ _ _ HY9.out
 have q7 := cR _ _ 7 _ _ _ HY9.out
 have q8 := cR _ _ 8 _ _ _ HY9.out
 have q9 := cR _ _ 9 _ _ _ HY9.out
 have q10 := cR _ _ 10 _ _ _ HY9.out
 have q11 := cR _ _ 11 _ _ _ HY9.out
 have q12 := cR _ _ 12 _ _ _ HY9.out
 simp only [gA, gZ, gU] at q0 q1 q2 q3 q4 q5 q6 q7 q8 q9 q10 q11 q12
 have HT7 : Hid (Calls Tryz.prog 8 #[.agg #[.slice a0 r.fields.length c0, .int .i64 r.epoch, .int .i64 r.base, .slice a3 r.tables.length c3, .int .i64 r.pushed, .int .i64 r.out.epoch, .int .i64 r.out.next, .int .i64 r.out.now, .slice a1 r.out.wait.length c1, .bool r.str.opened, .slice a2 r.str.fields.length c2, .int .i64 r.str.next, .slice b2 r.str.dicts.length d2]] w9.drew fun e w8 => ∃ a0z c0z a3z c3z a1z c1z a2z c2z b2z d2z, e = .returned (.agg #[.slice a0z r.fields.length c0z, .int .i64 r.epoch, .int .i64 r.base, .slice a3z r.tables.length c3z, .int .i64 r.pushed, .int .i64 r.out.epoch, .int .i64 r.out.next, .int .i64 r.out.now, .slice a1z r.out.wait.length c1z, .bool r.str.opened, .slice a2z r.str.fields.length c2z, .int .i64 r.str.next, .slice b2z r.str.dicts.length d2z]) ∧ Hid (RdSnd w8 r a0z c0z a3z c3z a1z c1z a2z c2z b2z d2z) ∧ Hid (Below w9.heap.size w9 w8) ∧ BoxQ w8 w.heap.size r a0 a3 a1 a2 b2 c0 c3 c1 c2 d2 ∧ BoxQ w8 w5.heap.size r a0x a3x a1x a2x b2x c0x c3x c1x c2x d2x) := hid (by
  refine (toSender_any r a0 a3 a1 a2 b2 c0 c3 c1 c2 d2 w9.drew (HR.out.later B9.drew) ht).mono ?_
  rintro e w8 ⟨a0z, c0z, a3z, c3z, a1z, c1z, a2z, c2z, b2z, d2z, fs8, ts8, os8, bs8, ds8, rfl, o8, -, -, bl8⟩
  have bl := (Below.refl _ w9).drew.trans bl8
  exact ⟨a0z, c0z, a3z, c3z, a1z, c1z, a2z, c2z, b2z, d2z, rfl, hid o8.rd, hid bl, boxQ_of (boxSd HX9.out bl), boxQ_of (boxSd HY9.out bl)⟩)
 have HE7 : Hid (∀ w8 a0z c0z a3z c3z a1z c1z a2z c2z b2z d2z, Hid (RdSnd w8 r a0z c0z a3z c3z a1z c1z a2z c2z b2z d2z) → Hid (Below w9.heap.size w9 w8) → Calls Tryz.prog 11 #[.agg #[.slice a0x r.fields.length c0x, .int .i64 r.epoch, .int .i64 r.base, .slice a3x r.tables.length c3x, .int .i64 r.pushed, .int .i64 r.out.epoch, .int .i64 r.out.next, .int .i64 r.out.now, .slice a1x r.out.wait.length c1x, .bool r.str.opened, .slice a2x r.str.fields.length c2x, .int .i64 r.str.next, .slice b2x r.str.dicts.length d2x], .agg #[.slice a0z r.fields.length c0z, .int .i64 r.epoch, .int .i64 r.base, .slice a3z r.tables.length c3z, .int .i64 r.pushed, .int .i64 r.out.epoch, .int .i64 r.out.next, .int .i64 r.out.now, .slice a1z r.out.wait.length c1z, .bool r.str.opened, .slice a2z r.str.fields.length c2z, .int .i64 r.str.next, .slice b2z r.str.dicts.length d2z]] w8 fun e wx => e = .returned (.bool true) ∧ Hid (Below w9.heap.size w9 wx) ∧ BoxQ wx w.heap.size r a0 a3 a1 a2 b2 c0 c3 c1 c2 d2 ∧ BoxQ wx w5.heap.size r a0x a3x a1x a2x b2x c0x c3x c1x c2x d2x) := hid (fun w8 a0z c0z a3z c3z a1z c1z a2z c2z b2z d2z h8 hb => by
  refine (eqSender_any r a0x a3x a1x a2x b2x c0x c3x c1x c2x d2x a0z a3z a1z a2z b2z c0z c3z c1z c2z d2z w8 (HOX9.out.rd.later hb.out) h8.out ht).mono ?_
  rintro e wx ⟨rfl, bl9⟩
  have bl := bC hb.out bl9
  exact ⟨rfl, hid bl, boxQ_of (boxSd HX9.out bl), boxQ_of (boxSd HY9.out bl)⟩)
 go_wp2
 (go_region_held3 (fun w' => w'.cell? ⟨w.heap.size, 0, none⟩ = some (.slice a0 r.fields.length c0) ∧ w'.cell? ⟨w.heap.size, 1, none⟩ = some (.int .i64 r.epoch) ∧ w'.cell? ⟨w.heap.size, 2, none⟩ = some (.int .i64 r.base) ∧ w'.cell? ⟨w.heap.size, 3, none⟩ = some (.slice a3 r.tables.length c3) ∧ w'.cell? ⟨w.heap.size, 4, none⟩ = some (.int .i64 r.pushed) ∧ w'.cell? ⟨w.heap.size, 5, none⟩ = some (.int .i64 r.out.epoch) ∧ w'.cell? ⟨w.heap.size, 6, none⟩ = some (.int .i64 r.out.next) ∧ w'.cell? ⟨w.heap.size, 7, none⟩ = some (.int .i64 r.out.now) ∧ w'.cell? ⟨w.heap.size, 8, none⟩ = some (.slice a1 r.out.wait.length c1) ∧ w'.cell? ⟨w.heap.size, 9, none⟩ = some (.bool r.str.opened) ∧ w'.cell? ⟨w.heap.size, 10, none⟩ = some (.slice a2 r.str.fields.length c2) ∧ w'.cell? ⟨w.heap.size, 11, none⟩ = some (.int .i64 r.str.next) ∧ w'.cell? ⟨w.heap.size, 12, none⟩ = some (.slice b2 r.str.dicts.length d2) ∧ w'.cell? ⟨w5.heap.size, 0, none⟩ = some (.slice a0x r.fields.length c0x) ∧ w'.cell? ⟨w5.heap.size, 1, none⟩ = some (.int .i64 r.epoch) ∧ w'.cell? ⟨w5.heap.size, 2, none⟩ = some (.int .i64 r.base) ∧ w'.cell? ⟨w5.heap.size, 3, none⟩ = some (.slice a3x r.tables.length c3x) ∧ w'.cell? ⟨w5.heap.size, 4, none⟩ = some (.int .i64 r.pushed) ∧ w'.cell? ⟨w5.heap.size, 5, none⟩ = some (.int .i64 r.out.epoch) ∧ w'.cell? ⟨w5.heap.size, 6, none⟩ = some (.int .i64 r.out.next) ∧ w'.cell? ⟨w5.heap.size, 7, none⟩ = some (.int .i64 r.out.now) ∧ w'.cell? ⟨w5.heap.size, 8, none⟩ = some (.slice a1x r.out.wait.length c1x) ∧ w'.cell? ⟨w5.heap.size, 9, none⟩ = some (.bool r.str.opened) ∧ w'.cell? ⟨w5.heap.size, 10, none⟩ = some (.slice a2x r.str.fields.length c2x) ∧ w'.cell? ⟨w5.heap.size, 11, none⟩ = some (.int .i64 r.str.next) ∧ w'.cell? ⟨w5.heap.size, 12, none⟩ = some (.slice b2x r.str.dicts.length d2x)) (go_keep) (first
  | (go_at_call 8; refine HT7.out.mono ?_; rintro e w10 ⟨a0z, c0z, a3z, c3z, a1z, c1z, a2z, c2z, b2z, d2z, rfl, hr8, hb8, ⟨xx0, xx1, xx2, xx3, xx4, xx5, xx6, xx7, xx8, xx9, xx10, xx11, xx12⟩, ⟨yy0, yy1, yy2, yy3, yy4, yy5, yy6, yy7, yy8, yy9, yy10, yy11, yy12⟩⟩)
  | (go_at_call 11; refine (HE7.out _ a0z c0z a3z c3z a1z c1z a2z c2z b2z d2z hr8 hb8).mono ?_; rintro e w11 ⟨rfl, hb9, ⟨zz0, zz1, zz2, zz3, zz4, zz5, zz6, zz7, zz8, zz9, zz10, zz11, zz12⟩, ⟨uu0, uu1, uu2, uu3, uu4, uu5, uu6, uu7, uu8, uu9, uu10, uu11, uu12⟩⟩)))
 clear p0 p1 p2 p3 p4 p5 p6 p7 p8 p9 p10 p11 p12 q0 q1 q2 q3 q4 q5 q6 q7 q8 q9 q10 q11 q12 zz0 zz1 zz2 zz3 zz4 zz5 zz6 zz7 zz8 zz9 zz10 zz11 zz12 uu0 uu1 uu2 uu3 uu4 uu5 uu6 uu7 uu8 uu9 uu10 uu11 uu12 HT7 HE7
 have b11 := hb9.out
 clear hb9
 have B11 := bC B9 b11
 have HY11 := hid (boxSd HY9.out b11)
 have HG11 := hid (boxSd HG9.out b11)
 have HOX11 := hid (HOX9.out.later4 b11)
 have HOG11 := hid (HOG9.out.later4 b11)
 have F411 := bC F49 b11
 clear HX9 HW9 HY9 HG9 HOX9 HOG9 b11
 have q0 := cR _ _ 0 _ _ _ HY11.out
 have q1 := cR _ _ 1 _ _ _ HY11.out
 have q2 := cR _ _ 2 _ _ _ HY11.out
 have q3 := cR _ _ 3 _ _ _ HY11.out
 have q4 := cR _ _ 4 _ _ _ HY11.out
 have q5 := cR _ _ 5 _ _ _ HY11.out
 have q6 := cR _ _ 6 _ _ _ HY11.out
 have q7 := cR _ _ 7 _ _ _ HY11.out
 have q8 := cR _ _ 8 _ _ _ HY11.out
 have q9 := cR _ _ 9 _ _ _ HY11.out
 have q10 := cR _ _ 10 _ _ _ HY11.out
 have q11 := cR _ _ 11 _ _ _ HY11.out
 have q12 := cR _ _ 12 _ _ _ HY11.out
 simp only [gA, gZ, gU] at q0 q1 q2 q3 q4 q5 q6 q7 q8 q9 q10 q11 q12
 go_wp2_with fail
 refine (markSdX_any r a0x a3x a1x a2x b2x c0x c3x c1x c2x d2x fsX tsX osX bsX dsX 1 _ HOX11.out nX2 (sndFits_of ht) (by omega)).mono ?_
 rintro e w12 ⟨rfl, -, on12⟩
 have F412 : Below w4.heap.size w4 w12 := Only.chain F411 on12 lX2 (Nat.le_refl _)
 have B12 : Below w.heap.size w w12 := Only.chain B11 on12 (fun b hb => by have := lX2 b hb; have := B4.size; omega) (Nat.le_refl _)
 have HX12 := hid (boxSd HX4.out F412)
 have HW12 := hid (boxSd HW4.out F412)
 have hfar : ∀ b, w6.heap.size ≤ b → b ∉ ((fsX ++ tsX) ++ (osX ++ (bsX ++ dsX))) := fun b hb h => by have := hXlt b h; omega
 have HG12 : Hid (w12.heap[w7.heap.size]? = _) := hid ((on12.block _ (Array.getElem?_eq_some_iff.1 HG11.out).1 (hfar _ (by omega))).trans HG11.out)
 have HOG12 := hid (HOG11.out.kept4 (w' := w12) (fun y hy => on12.block y (HOG11.out.lt4 y hy) (hfar y (HLG.out y hy))))
 clear on12 q0 q1 q2 q3 q4 q5 q6 q7 q8 q9 q10 q11 q12 HY11 HG11 HOX11 HOG11 hfar
 obtain ⟨kq, hkq⟩ : ∃ kq : Nat, kq = 1 + nSnd r := ⟨_, rfl⟩
 rw [← hkq]
 have hk0 : decide ((kq : Int) < 0) = false := decide_eq_false (by omega)
 clear hkq
 have p0 := cR _ _ 0 _ _ _ HW12.out
 have p1 := cR _ _ 1 _ _ _ HW12.out
 have p2 := cR _ _ 2 _ _ _ HW12.out
 have p3 := cR _ _ 3 _ _ _ HW12.out
 have p4 := cR _ _ 4 _ _ _ HW12.out
 have p5 := cR _ _ 5 _ _ _ HW12.out
 have p6 := cR _ _ 6 _ _ _ HW12.out
 have p7 := cR _ _ 7 _ _ _ HW12.out
 have p8 := cR _ _ 8 _ _ _ HW12.out
 have p9 := cR _ _ 9 _ _ _ HW12.out
 have p10 := cR _ _ 10 _ _ _ HW12.out
 have p11 := cR _ _ 11 _ _ _ HW12.out
 have p12 := cR _ _ 12 _ _ _ HW12.out
 simp only [gA, gZ, gU] at p0 p1 p2 p3 p4 p5 p6 p7 p8 p9 p10 p11 p12
 have q0 := cR _ _ 0 _ _ _ HG12.out
 have q1 := cR _ _ 1 _ _ _ HG12.out
 have q2 := cR _ _ 2 _ _ _ HG12.out
 have q3 := cR _ _ 3 _ _ _ HG12.out
 have q4 := cR _ _ 4 _ _ _ HG12.out
 have q5 := cR _ _ 5 _ _ _ HG12.out
 have q6 := cR _ _ 6 _ _ _ HG12.out
 have q7 := cR _ _ 7 _ _ _ HG12.out
 have q8 := cR _ _ 8 _ _ _ HG12.out
 have q9 := cR _ _ 9 _ _ _ HG12.out
 have q10 := cR _ _ 10 _ _ _ HG12.out
 have q11 := cR _ _ 11 _ _ _ HG12.out
 have q12 := cR _ _ 12 _ _ _ HG12.out
 simp only [gA, gZ, gU] at q0 q1 q2 q3 q4 q5 q6 q7 q8 q9 q10 q11 q12
 go_wp2_with fail
 refine (eqSenderF_any P a0g a3g a1g a2g b2g c0g c3g c1g c2g d2g a0s a3s a1s a2s b2s c0s c3s c1s c2s d2s w12 HOG12.out.rd (HRS.out.later F412) htP).mono ?_
 rintro e w13 ⟨rfl, bl13⟩
 have B13 := bC B12 bl13
 have F413 := bC F412 bl13
 have HG13 := hid (boxSd HG12.out bl13)
 have HOG13 := hid (HOG12.out.later4 bl13)
 clear p0 p1 p2 p3 p4 p5 p6 p7 p8 p9 p10 p11 p12 q0 q1 q2 q3 q4 q5 q6 q7 q8 q9 q10 q11 q12 HG12 HOG12 bl13
 have q0 := cR _ _ 0 _ _ _ HG13.out
 have q1 := cR _ _ 1 _ _ _ HG13.out
 have q2 := cR _ _ 2 _ _ _ HG13.out
 have q3 := cR _ _ 3 _ _ _ HG13.out
 have q4 := cR _ _ 4 _ _ _ HG13.out
 have q5 := cR _ _ 5 _ _ _ HG13.out
 have q6 := cR _ _ 6 _ _ _ HG13.out
 have q7 := cR _ _ 7 _ _ _ HG13.out
 have q8 := cR _ _ 8 _ _ _ HG13.out
 have q9 := cR _ _ 9 _ _ _ HG13.out
 have q10 := cR _ _ 10 _ _ _ HG13.out
 have q11 := cR _ _ 11 _ _ _ HG13.out
 have q12 := cR _ _ 12 _ _ _ HG13.out
 simp only [gA, gZ, gU] at q0 q1 q2 q3 q4 q5 q6 q7 q8 q9 q10 q11 q12
 go_wp2_with fail
 refine (markSdX_any P a0g a3g a1g a2g b2g c0g c3g c1g c2g d2g fsG tsG osG bsG dsG 1 w13 HOG13.out HNR.out htP (by omega)).mono ?_
 rintro e w14 ⟨rfl, mk14, on14⟩
 have h46 : w4.heap.size ≤ w6.heap.size := F46.size
 have hw6 : w.heap.size ≤ w6.heap.size := B6.size
 have B14 : Below w.heap.size w w14 := Only.chain B13 on14 (fun b hb => by have := HLG.out b hb; omega) (Nat.le_refl _)
 have F414 : Below w4.heap.size w4 w14 := Only.chain F413 on14 (fun b hb => by have := HLG.out b hb; omega) (Nat.le_refl _)
 have HG14 : Hid (w14.heap[w7.heap.size]? = _) := hid ((on14.block _ (Array.getElem?_eq_some_iff.1 HG13.out).1 (fun h => by have := hGlt _ h; omega)).trans HG13.out)
 have HMK14 := hid mk14
 clear on14 mk14 q0 q1 q2 q3 q4 q5 q6 q7 q8 q9 q10 q11 q12 HG13 HOG13
 generalize hM1 : 1 + nSnd P = M1 at *
 have hM1b : M1 ≤ 134217728 := by omega
 have HM1 := hid hM1
 clear hM1
 have q0 := cR _ _ 0 _ _ _ HG14.out
 have q1 := cR _ _ 1 _ _ _ HG14.out
 have q2 := cR _ _ 2 _ _ _ HG14.out
 have q3 := cR _ _ 3 _ _ _ HG14.out
 have q4 := cR _ _ 4 _ _ _ HG14.out
 have q5 := cR _ _ 5 _ _ _ HG14.out
 have q6 := cR _ _ 6 _ _ _ HG14.out
 have q7 := cR _ _ 7 _ _ _ HG14.out
 have q8 := cR _ _ 8 _ _ _ HG14.out
 have q9 := cR _ _ 9 _ _ _ HG14.out
 have q10 := cR _ _ 10 _ _ _ HG14.out
 have q11 := cR _ _ 11 _ _ _ HG14.out
 have q12 := cR _ _ 12 _ _ _ HG14.out
 simp only [gA, gZ, gU] at q0 q1 q2 q3 q4 q5 q6 q7 q8 q9 q10 q11 q12
 go_wp2_with fail
 refine (heldSdX_any P a0g a3g a1g a2g b2g c0g c3g c1g c2g d2g fsG tsG osG bsG dsG 1 w14 HMK14.out htP (by omega)).mono ?_
 rintro e w16 ⟨rfl, bl16⟩
 rw [HM1.out]
 have B16 := bC B14 bl16
 have F416 := bC F414 bl16
 have HX16 := hid (boxSd HX4.out F416)
 clear q0 q1 q2 q3 q4 q5 q6 q7 q8 q9 q10 q11 q12 HG14 bl16
 have hq0 : decide ((M1 : Int) < 0) = false := decide_eq_false (by omega)
 have hMM : ((M1 : Int) != (M1 : Int)) = false := by simp
 have p0 := cR _ _ 0 _ _ _ HX16.out
 have p1 := cR _ _ 1 _ _ _ HX16.out
 have p2 := cR _ _ 2 _ _ _ HX16.out
 have p3 := cR _ _ 3 _ _ _ HX16.out
 have p4 := cR _ _ 4 _ _ _ HX16.out
 have p5 := cR _ _ 5 _ _ _ HX16.out
 have p6 := cR _ _ 6 _ _ _ HX16.out
 have p7 := cR _ _ 7 _ _ _ HX16.out
 have p8 := cR _ _ 8 _ _ _ HX16.out
 have p9 := cR _ _ 9 _ _ _ HX16.out
 have p10 := cR _ _ 10 _ _ _ HX16.out
 have p11 := cR _ _ 11 _ _ _ HX16.out
 have p12 := cR _ _ 12 _ _ _ HX16.out
 simp only [gA, gZ, gU] at p0 p1 p2 p3 p4 p5 p6 p7 p8 p9 p10 p11 p12
 go_wp2_with fail
 refine (toSender_any r a0 a3 a1 a2 b2 c0 c3 c1 c2 d2 w16 (HR.out.later B16) ht).mono ?_
 rintro e w18 ⟨a0u, c0u, a3u, c3u, a1u, c1u, a2u, c2u, b2u, d2u, fs6, ts6, os6, bs6, ds6, rfl, o18, -, -, bl18⟩
 have B18 := bC B16 bl18
 have F418 := bC F416 bl18
 clear p0 p1 p2 p3 p4 p5 p6 p7 p8 p9 p10 p11 p12
 go_wp2_with fail
 refine (HIM.out a0u a3u a1u a2u b2u c0u c3u c1u c2u d2u w18 o18.rd).mono ?_
 rintro e w19 ⟨a0h, c0h, a3h, c3h, a1h, c1h, a2h, c2h, b2h, d2h, fsH, tsH, osH, bsH, dsH, rfl, oH, -, -, bl19⟩
 have hb19 := bN w19 (.cells #[.slice a0h P.fields.length c0h, .int .i64 P.epoch, .int .i64 P.base, .slice a3h P.tables.length c3h, .int .i64 P.pushed, .int .i64 P.out.epoch, .int .i64 P.out.next, .int .i64 P.out.now, .slice a1h P.out.wait.length c1h, .bool P.str.opened, .slice a2h P.str.fields.length c2h, .int .i64 P.str.next, .slice b2h P.str.dicts.length d2h] 45)
 have HH20 : Hid ((w19.alloc (.cells #[.slice a0h P.fields.length c0h, .int .i64 P.epoch, .int .i64 P.base, .slice a3h P.tables.length c3h, .int .i64 P.pushed, .int .i64 P.out.epoch, .int .i64 P.out.next, .int .i64 P.out.now, .slice a1h P.out.wait.length c1h, .bool P.str.opened, .slice a2h P.str.fields.length c2h, .int .i64 P.str.next, .slice b2h P.str.dicts.length d2h] 45)).heap[w19.heap.size]? = some (.cells #[.slice a0h P.fields.length c0h, .int .i64 P.epoch, .int .i64 P.base, .slice a3h P.tables.length c3h, .int .i64 P.pushed, .int .i64 P.out.epoch, .int .i64 P.out.next, .int .i64 P.out.now, .slice a1h P.out.wait.length c1h, .bool P.str.opened, .slice a2h P.str.fields.length c2h, .int .i64 P.str.next, .slice b2h P.str.dicts.length d2h] 45 (0, 0))) := hid (heap_alloc_new w19 _)
 have F420 := bC F418 (bC bl19 hb19)
 have B20 := bC B18 (bC bl19 hb19)
 have HW20 := hid (boxSd HW4.out F420)
 have HOH := hid (oH.later4 hb19)
 clear oH o18
 have p0 := cR _ _ 0 _ _ _ HW20.out
 have p1 := cR _ _ 1 _ _ _ HW20.out
 have p2 := cR _ _ 2 _ _ _ HW20.out
 have p3 := cR _ _ 3 _ _ _ HW20.out
 have p4 := cR _ _ 4 _ _ _ HW20.out
 have p5 := cR _ _ 5 _ _ _ HW20.out
 have p6 := cR _ _ 6 _ _ _ HW20.out
 have p7 := cR _ _ 7 _ _ _ HW20.out
 have p8 := cR _ _ 8 _ _ _ HW20.out
 have p9 := cR _ _ 9 _ _ _ HW20.out
 have p10 := cR _ _ 10 _ _ _ HW20.out
 have p11 := cR _ _ 11 _ _ _ HW20.out
 have p12 := cR _ _ 12 _ _ _ HW20.out
 simp only [gA, gZ, gU] at p0 p1 p2 p3 p4 p5 p6 p7 p8 p9 p10 p11 p12
 have q0 := cR _ _ 0 _ _ _ HH20.out
 have q1 := cR _ _ 1 _ _ _ HH20.out
 have q2 := cR _ _ 2 _ _ _ HH20.out
 have q3 := cR _ _ 3 _ _ _ HH20.out
 have q4 := cR _ _ 4 _ _ _ HH20.out
 have q5 := cR _ _ 5 _ _ _ HH20.out
 have q6 := cR _ _ 6 _ _ _ HH20.out
 have q7 := cR _ _ 7 _ _ _ HH20.out
 have q8 := cR _ _ 8 _ _ _ HH20.out
 have q9 := cR _ _ 9 _ _ _ HH20.out
 have q10 := cR _ _ 10 _ _ _ HH20.out
 have q11 := cR _ _ 11 _ _ _ HH20.out
 have q12 := cR _ _ 12 _ _ _ HH20.out
 simp only [gA, gZ, gU] at q0 q1 q2 q3 q4 q5 q6 q7 q8 q9 q10 q11 q12
 go_wp2_with fail
 generalize (w19.alloc (.cells #[.slice a0h P.fields.length c0h, .int .i64 P.epoch, .int .i64 P.base, .slice a3h P.tables.length c3h, .int .i64 P.pushed, .int .i64 P.out.epoch, .int .i64 P.out.next, .int .i64 P.out.now, .slice a1h P.out.wait.length c1h, .bool P.str.opened, .slice a2h P.str.fields.length c2h, .int .i64 P.str.next, .slice b2h P.str.dicts.length d2h] 45)) = w20 at *
 refine (eqSenderF_any P a0h a3h a1h a2h b2h c0h c3h c1h c2h d2h a0s a3s a1s a2s b2s c0s c3s c1s c2s d2s w20 HOH.out.rd (HRS.out.later F420) htP).mono ?_
 rintro e w21 ⟨rfl, bl21⟩
 have B21 := bC B20 bl21
 clear p0 p1 p2 p3 p4 p5 p6 p7 p8 p9 p10 p11 p12 q0 q1 q2 q3 q4 q5 q6 q7 q8 q9 q10 q11 q12
 go_wp2
 go_ret
 exact ⟨rfl, B21⟩
end Go.Proofs.YtfaehioeepolhabGreat
namespace Go.Proofs.YtfaehioeepolhabGreat
open Go.ChangeShapes Go.WideShapes Go.ChangeAt Go.RowKit Go.Deep
set_option linter.unusedVariables false in
set_option maxRecDepth 100000 in
theorem crashSender_lifted (os : Os) (started : os.Started) (H : Type) (enc : TypeId × Value → H) :
  ReturnsInHanded {} Tryz.checked os 4 .any (Rows.fnExactCrashSenderSpec.pre6 enc Tryz.prog Tryz.f4 Rows.fnExactCrashSenderRow.domain false) (Rows.fnExactCrashSenderSpec.post enc Tryz.prog Tryz.f4 false true false false) := by
 refine returnsInHanded_of_change (C := Tryz.checked) own started (by kernel_rfl) Tryz.func4
  (ChangeSpec.witness6 (enc := enc) (C := Tryz.checked) false ⟨#[], #[.agg #[.slice none 0 0, .int .i64 0, .int .i64 0, .slice none 0 0, .int .i64 0, .int .i64 0, .int .i64 0, .int .i64 0, .slice none 0 0, .bool false, .slice none 0 0, .int .i64 0, .slice none 0 0]], []⟩ 8 (by kernel_rfl) (by kernel_rfl) (by kernel_rfl) (by kernel_rfl)) ?_
 intro W base args ds gs before hval0 hW hcnd _
 have hval : ∀ (j : Nat) t v, Tryz.f4.params[j]? = some t → args[j]? = some v → Value.okWide Tryz.prog W .any base t v := hval0
 have hW' := hW
 obtain ⟨p, q, hA0, hV, rfl, hfz, hnd⟩ := hW
 have hA : DataW.TrodAll enc Tryz.prog W 0 (fun _ => true) true Tryz.f4.params.toList args.toList ds p := hA0
 rw [Tryz.params4] at hA hval
 obtain ⟨v0, vs0, d0, ds0, p0, q0, hargs, rfl, rfl, h0, r0⟩ := trodAll_cons hA
 obtain ⟨rfl, rfl, rfl⟩ := trodAll_nil r0
 obtain rfl : args = #[v0] := by cases args; simp_all
 obtain ⟨rfl, rfl⟩ := trodVars_none hV
 have k0 := h0
 have lt0 : ∀ x ∈ p0, x.block < W.heap.size := by obtain ⟨m, hm⟩ := k0; exact DataW.trod_lt m _ _ _ hm
 have w0 := senderIn_of (okWide_struct Tryz.underlying31 (hval 0 31 v0 rfl rfl)) h0
 clear hA0 hval0
 refine (crashSender_walk v0 W w0).mono fun e W' ⟨he, bel⟩ => ?_
 subst he
 exact ⟨_, rfl, _, _, _, [], _, [], hW', trodAll_mk1 (shut_bool Tryz.underlying4 _), (trodAll_cons_mk (Below.trod laidOut (by kernel_rfl) (of_decide_eq_true (by kernel_rfl)) k0 bel lt0) trodAll_mk0), rfl, bel.frame _, fun h => by cases h⟩
theorem crashSender_holds : Rows.FnExactCrashSenderSaid :=
 OpenClaim.holds_of_wide 4 Tryz.f4 rfl rfl rfl rfl rfl rfl rfl ⟨rfl, rfl, rfl, rfl, rfl⟩ rfl rfl rfl rfl rfl (by kernel_rfl) Tryz.func4 (by kernel_rfl)
  (of_decide_eq_true (by kernel_rfl)) (by unfold Func.isWrapper; first | (rw [if_pos (by decide +kernel)]; kernel_rfl) | (rw [if_neg (by decide +kernel)]; exact ⟨rfl, rfl⟩))
  (fun os started H enc _ => crashSender_lifted os started H enc)
#print axioms crashSender_holds
end Go.Proofs.YtfaehioeepolhabGreat
