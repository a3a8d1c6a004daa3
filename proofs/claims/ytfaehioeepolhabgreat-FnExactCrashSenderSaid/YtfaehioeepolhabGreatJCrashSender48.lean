import Derived.Test.YtfaehioeepolhabGreatJCrashSender40
import Derived.Test.YtfaehioeepolhabGreatJCrashSender46
import Derived.Test.YtfaehioeepolhabGreatJCrashSender47
import Derived.Test.YtfaehioeepolhabGreatJCrashSender11
import Derived.Test.YtfaehioeepolhabGreatJCrashSender44
namespace Go.Proofs.YtfaehioeepolhabGreat
open Go.RowKit
theorem ltStx {w : World} {s : PStr} {a b : Option Addr} {c d : Nat} {bs ds : List Nat} (h : OwnStr w s a c b d bs ds) : ∀ x ∈ bs ++ ds, x < w.heap.size := fun x hx => by
 rcases List.mem_append.1 hx with h1 | h1
 ·exact h.f.lt x h1
 ·exact h.t.lt x h1
set_option maxRecDepth 100000 in
set_option maxHeartbeats 8000000 in
theorem copySender_any (r : PSnd) (a0 a3 a1 a2 b2 : Option Addr) (c0 c3 c1 c2 d2 : Nat) (w : World) (hr : RdSnd w r a0 c0 a3 c3 a1 c1 a2 c2 b2 d2) (ht : tSnd r ≤ 1048576) :
  Calls Tryz.prog 34 #[.agg #[.slice a0 r.fields.length c0, .int .i64 r.epoch, .int .i64 r.base, .slice a3 r.tables.length c3, .int .i64 r.pushed, .int .i64 r.out.epoch, .int .i64 r.out.next, .int .i64 r.out.now, .slice a1 r.out.wait.length c1, .bool r.str.opened, .slice a2 r.str.fields.length c2, .int .i64 r.str.next, .slice b2 r.str.dicts.length d2]] w fun e w' => ∃ a0x c0x a3x c3x a1x c1x a2x c2x b2x d2x fs ts os bs ds, e = .returned (.agg #[.slice a0x r.fields.length c0x, .int .i64 r.epoch, .int .i64 r.base, .slice a3x r.tables.length c3x, .int .i64 r.pushed, .int .i64 r.out.epoch, .int .i64 r.out.next, .int .i64 r.out.now, .slice a1x r.out.wait.length c1x, .bool r.str.opened, .slice a2x r.str.fields.length c2x, .int .i64 r.str.next, .slice b2x r.str.dicts.length d2x]) ∧ OwnSnd w' r a0x c0x a3x c3x a1x c1x a2x c2x b2x d2x fs ts os bs ds ∧ (∀ y ∈ ((fs ++ ts) ++ (os ++ (bs ++ ds))), w.heap.size ≤ y) ∧ ((fs ++ ts) ++ (os ++ (bs ++ ds))).Nodup ∧ Below w.heap.size w w' := by
 have HR := hid hr
 clear hr
 have hT : totL fN r.fields ≤ 1048576 ∧ totL totT r.tables ≤ 1048576 ∧ totL wN r.out.wait ≤ 1048576 ∧ totL fN r.str.fields ≤ 1048576 ∧ totL tS r.str.dicts ≤ 1048576 := by unfold tSnd tStr at ht; omega
 have HK0 : Hid (((w.alloc (.cells #[.slice a0 r.fields.length c0, .int .i64 r.epoch, .int .i64 r.base, .slice a3 r.tables.length c3, .int .i64 r.pushed, .int .i64 r.out.epoch, .int .i64 r.out.next, .int .i64 r.out.now, .slice a1 r.out.wait.length c1, .bool r.str.opened, .slice a2 r.str.fields.length c2, .int .i64 r.str.next, .slice b2 r.str.dicts.length d2] 45)).alloc (.cells #[.slice none 0 0, .int .i64 0, .int .i64 0, .slice none 0 0, .int .i64 0, .int .i64 0, .int .i64 0, .int .i64 0, .slice none 0 0, .bool false, .slice none 0 0, .int .i64 0, .slice none 0 0] 45)).heap[w.heap.size]? = some (.cells #[.slice a0 r.fields.length c0, .int .i64 r.epoch, .int .i64 r.base, .slice a3 r.tables.length c3, .int .i64 r.pushed, .int .i64 r.out.epoch, .int .i64 r.out.next, .int .i64 r.out.now, .slice a1 r.out.wait.length c1, .bool r.str.opened, .slice a2 r.str.fields.length c2, .int .i64 r.str.next, .slice b2 r.str.dicts.length d2] 45 (0, 0))) := hid (heap2 _ _ (Below.refl _ _)).1
 have HL0 : Hid (((w.alloc (.cells #[.slice a0 r.fields.length c0, .int .i64 r.epoch, .int .i64 r.base, .slice a3 r.tables.length c3, .int .i64 r.pushed, .int .i64 r.out.epoch, .int .i64 r.out.next, .int .i64 r.out.now, .slice a1 r.out.wait.length c1, .bool r.str.opened, .slice a2 r.str.fields.length c2, .int .i64 r.str.next, .slice b2 r.str.dicts.length d2] 45)).alloc (.cells #[.slice none 0 0, .int .i64 0, .int .i64 0, .slice none 0 0, .int .i64 0, .int .i64 0, .int .i64 0, .int .i64 0, .slice none 0 0, .bool false, .slice none 0 0, .int .i64 0, .slice none 0 0] 45)).heap[w.heap.size + 1]? = some (.cells #[.slice none 0 0, .int .i64 0, .int .i64 0, .slice none 0 0, .int .i64 0, .int .i64 0, .int .i64 0, .int .i64 0, .slice none 0 0, .bool false, .slice none 0 0, .int .i64 0, .slice none 0 0] 45 (0, 0))) := hid (heap2 _ _ (Below.refl _ _)).2
 have HB0 := hid (below_new2 w (.cells #[.slice a0 r.fields.length c0, .int .i64 r.epoch, .int .i64 r.base, .slice a3 r.tables.length c3, .int .i64 r.pushed, .int .i64 r.out.epoch, .int .i64 r.out.next, .int .i64 r.out.now, .slice a1 r.out.wait.length c1, .bool r.str.opened, .slice a2 r.str.fields.length c2, .int .i64 r.str.next, .slice b2 r.str.dicts.length d2] 45) (.cells #[.slice none 0 0, .int .i64 0, .int .i64 0, .slice none 0 0, .int .i64 0, .int .i64 0, .int .i64 0, .int .i64 0, .slice none 0 0, .bool false, .slice none 0 0, .int .i64 0, .slice none 0 0] 45))
 have hs0 := size2 w (.cells #[.slice a0 r.fields.length c0, .int .i64 r.epoch, .int .i64 r.base, .slice a3 r.tables.length c3, .int .i64 r.pushed, .int .i64 r.out.epoch, .int .i64 r.out.next, .int .i64 r.out.now, .slice a1 r.out.wait.length c1, .bool r.str.opened, .slice a2 r.str.fields.length c2, .int .i64 r.str.next, .slice b2 r.str.dicts.length d2] 45) (.cells #[.slice none 0 0, .int .i64 0, .int .i64 0, .slice none 0 0, .int .i64 0, .int .i64 0, .int .i64 0, .int .i64 0, .slice none 0 0, .bool false, .slice none 0 0, .int .i64 0, .slice none 0 0] 45)
 go_enter Tryz.func34, Tryz.ntmps34
 go_upto_region 1 with fail
 generalize ((w.alloc (.cells #[.slice a0 r.fields.length c0, .int .i64 r.epoch, .int .i64 r.base, .slice a3 r.tables.length c3, .int .i64 r.pushed, .int .i64 r.out.epoch, .int .i64 r.out.next, .int .i64 r.out.now, .slice a1 r.out.wait.length c1, .bool r.str.opened, .slice a2 r.str.fields.length c2, .int .i64 r.str.next, .slice b2 r.str.dicts.length d2] 45)).alloc (.cells #[.slice none 0 0, .int .i64 0, .int .i64 0, .slice none 0 0, .int .i64 0, .int .i64 0, .int .i64 0, .int .i64 0, .slice none 0 0, .bool false, .slice none 0 0, .int .i64 0, .slice none 0 0] 45)) = W0 at *
 have p0 := cR _ _ 0 _ _ _ HK0.out
 simp only [gA, gZ] at p0
 go_wp2_with fail
 refine (copyFields_any a0 c0 r.fields W0 (HR.out.f.later HB0.out) hT.1).mono ?_
 rintro e wF ⟨vF, fs, rfl, oF, lF, nF, blF⟩
 obtain ⟨a0x, c0x, rfl, -⟩ := id oF.rd
 have HKaF := hid (boxSd HK0.out blF)
 clear p0
 have p0 := cR _ _ 0 _ _ _ HKaF.out
 have zp0 := fR _ _ 0 _ _ HKaF.out
 simp only [gA, gZ] at p0
 have HKF := hid (set13F (y0 := .slice a0x r.fields.length c0x) HKaF.out)
 have HOFF := hid (oF.kept (fun x hx => set13Fo (g := w.heap.size) (y0 := .slice a0x r.fields.length c0x) (by have := lF x hx; omega)))
 have HBF := hid (set13Fb (g := w.heap.size) (y0 := .slice a0x r.fields.length c0x) (bC HB0.out blF) (Nat.le_refl _))
 have HLbF := hid ((set13Fo (g := w.heap.size) (k := w.heap.size + 1) (y0 := .slice a0x r.fields.length c0x) (by omega)).trans (boxSd HL0.out blF))
 have HLF : Hid (∀ x ∈ fs, w.heap.size + 2 ≤ x) := hid (fun x hx => by have := lF x hx; omega)
 have HMF : Hid (∀ x ∈ fs, W0.heap.size ≤ x) := hid lF
 have HNF := hid nF
 have HTF : Hid (∀ x ∈ fs, x < wF.heap.size) := hid oF.lt
 have hsaF := blF.size
 clear oF lF nF
 go_upto_region 2 with fail
 generalize hWF : (wF.setCell ⟨w.heap.size, 0, none⟩ (.slice a0x r.fields.length c0x)) = WF at *
 have hsF : WF.heap.size = wF.heap.size := by rw [← hWF]; simp
 clear hWF blF p0 zp0 HKaF
 have p3 := cR _ _ 3 _ _ _ HKF.out
 simp only [gA, gZ, gU] at p3
 go_wp2_with fail
 refine (copyTables_any a3 c3 r.tables WF (HR.out.t.later HBF.out) hT.2.1).mono ?_
 rintro e wT ⟨vT, ts, rfl, oT, lT, nT, blT⟩
 obtain ⟨a3x, c3x, rfl, -⟩ := id oT.rd
 have HKaT := hid (boxSd HKF.out blT)
 clear p3
 have p3 := cR _ _ 3 _ _ _ HKaT.out
 have zp3 := fR _ _ 3 _ _ HKaT.out
 simp only [gA, gZ, gU] at p3
 have HKT := hid (set13T (y3 := .slice a3x r.tables.length c3x) HKaT.out)
 have HOTT := hid (oT.kept (fun x hx => set13To (g := w.heap.size) (y3 := .slice a3x r.tables.length c3x) (by have := lT x hx; omega)))
 have HOFT := hid ((HOFF.out.kept (fun x hx => blT.block x (HOFF.out.lt x hx))).kept (fun x hx => set13To (g := w.heap.size) (y3 := .slice a3x r.tables.length c3x) (by have := HLF.out x hx; omega)))
 have HBT := hid (set13Tb (g := w.heap.size) (y3 := .slice a3x r.tables.length c3x) (bC HBF.out blT) (Nat.le_refl _))
 have HLbT := hid ((set13To (g := w.heap.size) (k := w.heap.size + 1) (y3 := .slice a3x r.tables.length c3x) (by omega)).trans (boxSd HLbF.out blT))
 have HLT : Hid (∀ x ∈ ts, w.heap.size + 2 ≤ x) := hid (fun x hx => by have := lT x hx; omega)
 have HMT : Hid (∀ x ∈ ts, WF.heap.size ≤ x) := hid lT
 have HNT := hid nT
 have HTT : Hid (∀ x ∈ ts, x < wT.heap.size) := hid oT.lt
 have hsaT := blT.size
 clear oT lT nT
 go_upto_region 3 with fail
 generalize hWT : (wT.setCell ⟨w.heap.size, 3, none⟩ (.slice a3x r.tables.length c3x)) = WT at *
 have hsT : WT.heap.size = wT.heap.size := by rw [← hWT]; simp
 clear hWT blT p3 zp3 HKaT
 have p5 := cR _ _ 5 _ _ _ HKT.out
 have p6 := cR _ _ 6 _ _ _ HKT.out
 have p7 := cR _ _ 7 _ _ _ HKT.out
 have p8 := cR _ _ 8 _ _ _ HKT.out
 simp only [gA, gZ, gU] at p5 p6 p7 p8
 go_wp2_with fail
 refine (copyOut_any r.out a1 c1 WT (HR.out.o.later HBT.out) hT.2.2.1).mono ?_
 rintro e wO ⟨a1x, c1x, os, rfl, oO, lO, nO, blO⟩
 have HKaO := hid (boxSd HKT.out blO)
 clear p5 p6 p7 p8
 have p5 := cR _ _ 5 _ _ _ HKaO.out
 have zp5 := fR _ _ 5 _ _ HKaO.out
 have p6 := cR _ _ 6 _ _ _ HKaO.out
 have zp6 := fR _ _ 6 _ _ HKaO.out
 have p7 := cR _ _ 7 _ _ _ HKaO.out
 have zp7 := fR _ _ 7 _ _ HKaO.out
 have p8 := cR _ _ 8 _ _ _ HKaO.out
 have zp8 := fR _ _ 8 _ _ HKaO.out
 simp only [gA, gZ, gU] at p5 p6 p7 p8
 have HKO := hid (set13O (y5 := .int .i64 r.out.epoch) (y6 := .int .i64 r.out.next) (y7 := .int .i64 r.out.now) (y8 := .slice a1x r.out.wait.length c1x) HKaO.out)
 have HOOO := hid (oO.kept (fun x hx => set13Oo (g := w.heap.size) (y5 := .int .i64 r.out.epoch) (y6 := .int .i64 r.out.next) (y7 := .int .i64 r.out.now) (y8 := .slice a1x r.out.wait.length c1x) (by have := lO x hx; omega)))
 have HOFO := hid ((HOFT.out.kept (fun x hx => blO.block x (HOFT.out.lt x hx))).kept (fun x hx => set13Oo (g := w.heap.size) (y5 := .int .i64 r.out.epoch) (y6 := .int .i64 r.out.next) (y7 := .int .i64 r.out.now) (y8 := .slice a1x r.out.wait.length c1x) (by have := HLF.out x hx; omega)))
 have HOTO := hid ((HOTT.out.kept (fun x hx => blO.block x (HOTT.out.lt x hx))).kept (fun x hx => set13Oo (g := w.heap.size) (y5 := .int .i64 r.out.epoch) (y6 := .int .i64 r.out.next) (y7 := .int .i64 r.out.now) (y8 := .slice a1x r.out.wait.length c1x) (by have := HLT.out x hx; omega)))
 have HBO := hid (set13Ob (g := w.heap.size) (y5 := .int .i64 r.out.epoch) (y6 := .int .i64 r.out.next) (y7 := .int .i64 r.out.now) (y8 := .slice a1x r.out.wait.length c1x) (bC HBT.out blO) (Nat.le_refl _))
 have HLbO := hid ((set13Oo (g := w.heap.size) (k := w.heap.size + 1) (y5 := .int .i64 r.out.epoch) (y6 := .int .i64 r.out.next) (y7 := .int .i64 r.out.now) (y8 := .slice a1x r.out.wait.length c1x) (by omega)).trans (boxSd HLbT.out blO))
 have HLO : Hid (∀ x ∈ os, w.heap.size + 2 ≤ x) := hid (fun x hx => by have := lO x hx; omega)
 have HMO : Hid (∀ x ∈ os, WT.heap.size ≤ x) := hid lO
 have HNO := hid nO
 have HTO : Hid (∀ x ∈ os, x < wO.heap.size) := hid oO.lt
 have hsaO := blO.size
 clear oO lO nO
 go_upto_region 4 with fail
 generalize hWO : ((((wO.setCell ⟨w.heap.size, 5, none⟩ (.int .i64 r.out.epoch)).setCell ⟨w.heap.size, 6, none⟩ (.int .i64 r.out.next)).setCell ⟨w.heap.size, 7, none⟩ (.int .i64 r.out.now)).setCell ⟨w.heap.size, 8, none⟩ (.slice a1x r.out.wait.length c1x)) = WO at *
 have hsO : WO.heap.size = wO.heap.size := by rw [← hWO]; simp
 clear hWO blO p5 zp5 p6 zp6 p7 zp7 p8 zp8 HKaO
 have p9 := cR _ _ 9 _ _ _ HKO.out
 have p10 := cR _ _ 10 _ _ _ HKO.out
 have p11 := cR _ _ 11 _ _ _ HKO.out
 have p12 := cR _ _ 12 _ _ _ HKO.out
 simp only [gA, gZ, gU] at p9 p10 p11 p12
 go_wp2_with fail
 refine (copyStream_any r.str a2 b2 c2 d2 WO (HR.out.s.later HBO.out) hT.2.2.2.1 hT.2.2.2.2).mono ?_
 rintro e wS ⟨a2x, c2x, b2x, d2x, bs, ds, rfl, oS, lS, nS, blS⟩
 have HKaS := hid (boxSd HKO.out blS)
 clear p9 p10 p11 p12
 have p9 := cR _ _ 9 _ _ _ HKaS.out
 have zp9 := fR _ _ 9 _ _ HKaS.out
 have p10 := cR _ _ 10 _ _ _ HKaS.out
 have zp10 := fR _ _ 10 _ _ HKaS.out
 have p11 := cR _ _ 11 _ _ _ HKaS.out
 have zp11 := fR _ _ 11 _ _ HKaS.out
 have p12 := cR _ _ 12 _ _ _ HKaS.out
 have zp12 := fR _ _ 12 _ _ HKaS.out
 simp only [gA, gZ, gU] at p9 p10 p11 p12
 have HKS := hid (set13S (y9 := .bool r.str.opened) (y10 := .slice a2x r.str.fields.length c2x) (y11 := .int .i64 r.str.next) (y12 := .slice b2x r.str.dicts.length d2x) HKaS.out)
 have HOSS := hid (keptSt oS (fun x hx => set13So (g := w.heap.size) (y9 := .bool r.str.opened) (y10 := .slice a2x r.str.fields.length c2x) (y11 := .int .i64 r.str.next) (y12 := .slice b2x r.str.dicts.length d2x) (by have := lS x hx; omega)))
 have HOFS := hid ((HOFO.out.kept (fun x hx => blS.block x (HOFO.out.lt x hx))).kept (fun x hx => set13So (g := w.heap.size) (y9 := .bool r.str.opened) (y10 := .slice a2x r.str.fields.length c2x) (y11 := .int .i64 r.str.next) (y12 := .slice b2x r.str.dicts.length d2x) (by have := HLF.out x hx; omega)))
 have HOTS := hid ((HOTO.out.kept (fun x hx => blS.block x (HOTO.out.lt x hx))).kept (fun x hx => set13So (g := w.heap.size) (y9 := .bool r.str.opened) (y10 := .slice a2x r.str.fields.length c2x) (y11 := .int .i64 r.str.next) (y12 := .slice b2x r.str.dicts.length d2x) (by have := HLT.out x hx; omega)))
 have HOOS := hid ((HOOO.out.kept (fun x hx => blS.block x (HOOO.out.lt x hx))).kept (fun x hx => set13So (g := w.heap.size) (y9 := .bool r.str.opened) (y10 := .slice a2x r.str.fields.length c2x) (y11 := .int .i64 r.str.next) (y12 := .slice b2x r.str.dicts.length d2x) (by have := HLO.out x hx; omega)))
 have HBS := hid (set13Sb (g := w.heap.size) (y9 := .bool r.str.opened) (y10 := .slice a2x r.str.fields.length c2x) (y11 := .int .i64 r.str.next) (y12 := .slice b2x r.str.dicts.length d2x) (bC HBO.out blS) (Nat.le_refl _))
 have HLbS := hid ((set13So (g := w.heap.size) (k := w.heap.size + 1) (y9 := .bool r.str.opened) (y10 := .slice a2x r.str.fields.length c2x) (y11 := .int .i64 r.str.next) (y12 := .slice b2x r.str.dicts.length d2x) (by omega)).trans (boxSd HLbO.out blS))
 have HLS : Hid (∀ x ∈ bs ++ ds, w.heap.size + 2 ≤ x) := hid (fun x hx => by have := lS x hx; omega)
 have HMS : Hid (∀ x ∈ bs ++ ds, WO.heap.size ≤ x) := hid lS
 have HNS := hid nS
 have HTS : Hid (∀ x ∈ bs ++ ds, x < wS.heap.size) := hid (ltStx oS)
 have hsaS := blS.size
 clear oS lS nS
 go_upto_region 5 with fail
 generalize hWS : ((((wS.setCell ⟨w.heap.size, 9, none⟩ (.bool r.str.opened)).setCell ⟨w.heap.size, 10, none⟩ (.slice a2x r.str.fields.length c2x)).setCell ⟨w.heap.size, 11, none⟩ (.int .i64 r.str.next)).setCell ⟨w.heap.size, 12, none⟩ (.slice b2x r.str.dicts.length d2x)) = WS at *
 have hsS : WS.heap.size = wS.heap.size := by rw [← hWS]; simp
 clear hWS blS p9 zp9 p10 zp10 p11 zp11 p12 zp12 HKaS
 have p0 := cR _ _ 0 _ _ _ HKS.out
 have p1 := cR _ _ 1 _ _ _ HKS.out
 have p2 := cR _ _ 2 _ _ _ HKS.out
 have p3 := cR _ _ 3 _ _ _ HKS.out
 have p4 := cR _ _ 4 _ _ _ HKS.out
 have p5 := cR _ _ 5 _ _ _ HKS.out
 have p6 := cR _ _ 6 _ _ _ HKS.out
 have p7 := cR _ _ 7 _ _ _ HKS.out
 have p8 := cR _ _ 8 _ _ _ HKS.out
 have p9 := cR _ _ 9 _ _ _ HKS.out
 have p10 := cR _ _ 10 _ _ _ HKS.out
 have p11 := cR _ _ 11 _ _ _ HKS.out
 have p12 := cR _ _ 12 _ _ _ HKS.out
 simp only [gA, gZ, gU] at p0 p1 p2 p3 p4 p5 p6 p7 p8 p9 p10 p11 p12
 have q0 := cR _ _ 0 _ _ _ HLbS.out
 have zq0 := fR _ _ 0 _ _ HLbS.out
 have q1 := cR _ _ 1 _ _ _ HLbS.out
 have zq1 := fR _ _ 1 _ _ HLbS.out
 have q2 := cR _ _ 2 _ _ _ HLbS.out
 have zq2 := fR _ _ 2 _ _ HLbS.out
 have q3 := cR _ _ 3 _ _ _ HLbS.out
 have zq3 := fR _ _ 3 _ _ HLbS.out
 have q4 := cR _ _ 4 _ _ _ HLbS.out
 have zq4 := fR _ _ 4 _ _ HLbS.out
 have q5 := cR _ _ 5 _ _ _ HLbS.out
 have zq5 := fR _ _ 5 _ _ HLbS.out
 have q6 := cR _ _ 6 _ _ _ HLbS.out
 have zq6 := fR _ _ 6 _ _ HLbS.out
 have q7 := cR _ _ 7 _ _ _ HLbS.out
 have zq7 := fR _ _ 7 _ _ HLbS.out
 have q8 := cR _ _ 8 _ _ _ HLbS.out
 have zq8 := fR _ _ 8 _ _ HLbS.out
 have q9 := cR _ _ 9 _ _ _ HLbS.out
 have zq9 := fR _ _ 9 _ _ HLbS.out
 have q10 := cR _ _ 10 _ _ _ HLbS.out
 have zq10 := fR _ _ 10 _ _ HLbS.out
 have q11 := cR _ _ 11 _ _ _ HLbS.out
 have zq11 := fR _ _ 11 _ _ HLbS.out
 have q12 := cR _ _ 12 _ _ _ HLbS.out
 have zq12 := fR _ _ 12 _ _ HLbS.out
 simp only [gA, gZ, gU] at q0 q1 q2 q3 q4 q5 q6 q7 q8 q9 q10 q11 q12
 go_wp2
 refine bodyPost_ret (results_cell_row rfl _ _ (w.heap.size + 1) 45 #[.slice a0x r.fields.length c0x, .int .i64 r.epoch, .int .i64 r.base, .slice a3x r.tables.length c3x, .int .i64 r.pushed, .int .i64 r.out.epoch, .int .i64 r.out.next, .int .i64 r.out.now, .slice a1x r.out.wait.length c1x, .bool r.str.opened, .slice a2x r.str.fields.length c2x, .int .i64 r.str.next, .slice b2x r.str.dicts.length d2x] (0, 0) _ rfl (set13 HLbS.out) Tryz.underlying45 rfl (by kernel_rfl)) rfl ?_
 refine ⟨a0x, c0x, a3x, c3x, a1x, c1x, a2x, c2x, b2x, d2x, fs, ts, os, bs, ds, rfl, ⟨HOFS.out.kept (fun x hx => set13o (by have := HLF.out x hx; omega)), HOTS.out.kept (fun x hx => set13o (by have := HLT.out x hx; omega)), HOOS.out.kept (fun x hx => set13o (by have := HLO.out x hx; omega)), keptSt HOSS.out (fun x hx => set13o (by have := HLS.out x hx; omega))⟩, ?_, ?_, set13b HBS.out (by omega)⟩
 ·intro x hx
  rcases List.mem_append.1 hx with h | h
  ·rcases List.mem_append.1 h with h | h
   ·have := HLF.out x h; omega
   ·have := HLT.out x h; omega
  ·rcases List.mem_append.1 h with h | h
   ·have := HLO.out x h; omega
   ·have := HLS.out x h; omega
 ·refine List.nodup_append.2 ⟨List.nodup_append.2 ⟨HNF.out, HNT.out, fun x hx y hy e => ?_⟩, List.nodup_append.2 ⟨HNO.out, HNS.out, fun x hx y hy e => ?_⟩, fun x hx y hy e => ?_⟩
  ·have := HTF.out x hx; have := HMT.out y hy; omega
  ·have := HTO.out x hx; have := HMS.out y hy; omega
  ·have hx2 : x < wT.heap.size := by
    rcases List.mem_append.1 hx with h | h
    ·have := HTF.out x h; omega
    ·exact HTT.out x h
   have hy2 : WT.heap.size ≤ y := by
    rcases List.mem_append.1 hy with h | h
    ·exact HMO.out y h
    ·have := HMS.out y h; omega
   omega
end Go.Proofs.YtfaehioeepolhabGreat
