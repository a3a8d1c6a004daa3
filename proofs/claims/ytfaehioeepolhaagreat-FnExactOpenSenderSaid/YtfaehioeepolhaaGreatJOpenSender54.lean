import Derived.Test.YtfaehioeepolhaaGreatJOpenSender2
import Derived.Test.YtfaehioeepolhaaGreatJOpenSender33
import Derived.Test.YtfaehioeepolhaaGreatJOpenSender49
import Derived.Test.YtfaehioeepolhaaGreatJOpenSender53
import Derived.Test.YtfaehioeepolhaaGreatJOpenSender0
namespace Go.Proofs.YtfaehioeepolhaaGreat
open Go.RowKit
theorem ownFx {w w' : World} {fs : List PF} {v : Value} {bs : List Nat} (h : OwnSl cField 98 w fs v bs) (hb : Below w.heap.size w w') : OwnSl cField 98 w' fs v bs := h.kept (fun x hx => hb.block x (h.lt x hx))
set_option maxRecDepth 100000 in
set_option maxHeartbeats 32000000 in
theorem openSender_walk (a : Option Addr) (len cap : Nat) (w : World) (h : FieldsIn w a len cap) :
    Calls Tryz.prog 5 #[.slice a len cap] w fun e w' => e = .returned (.bool true) ∧ Below w.heap.size w w' := by
  obtain ⟨fs, rfl, hr⟩ := h
  have HR := hid hr
  clear hr
  go_enter Tryz.func5, Tryz.ntmps5
  go_wp2_with fail
  refine (szFieldS_any a cap fs 1048576 w HR.out (by omega) (by omega)).mono ?_
  rintro e w1 ⟨rfl, B1⟩
  by_cases hneg : rest 1048576 (totL (fun f : PF => f.name.length) fs) < 0
  · generalize rest 1048576 (totL (fun f : PF => f.name.length) fs) = r at *
    go_wp2
    go_ret
    exact ⟨rfl, B1⟩
  have ht : totL (fun f : PF => f.name.length) fs ≤ 1048576 := by have := rest_fits (l := 1048576) (n := totL (fun f : PF => f.name.length) fs) (by omega); omega
  have hlen : fs.length ≤ 1048576 := by unfold totL at ht; omega
  have hft : fT fs ≤ 4194304 := by rw [fT_le]; unfold totL at ht; omega
  generalize rest 1048576 (totL (fun f : PF => f.name.length) fs) = r at *
  have HTO : Hid (∀ w', Below w.heap.size w w' → Calls Tryz.prog 20 #[.slice a fs.length cap] w' fun e w2 => ∃ a2 c2 bs, e = .returned (.slice a2 fs.length c2) ∧ OwnSl cField 98 w2 fs (.slice a2 fs.length c2) bs ∧ (∀ b ∈ bs, w'.heap.size ≤ b) ∧ bs.Nodup ∧ Below w'.heap.size w' w2) := hid (fun w' hb => by
    refine (toFieldS_any a cap fs w' (HR.out.later hb) ht).mono ?_
    rintro e w2 ⟨v2, bs, rfl, o2, l2, n2, b2⟩
    obtain ⟨a2, c2, rfl, -⟩ := id o2.rd
    exact ⟨a2, c2, bs, rfl, o2, l2, n2, b2⟩)
  have htP := op_tot fs
  obtain ⟨P, hP⟩ : ∃ P : PSnd, P = opR fs := ⟨_, rfl⟩
  obtain ⟨K, hK⟩ : ∃ K : Int, K = opK fs := ⟨_, rfl⟩
  have HSP := hid (fun (a2 : Option Addr) (c2 : Nat) (w' : World) h => specOpn_any a2 c2 fs w' h ht)
  have HIM := hid (fun (a2 : Option Addr) (c2 : Nat) (w' : World) h => implOpn_any a2 c2 fs w' h ht)
  rw [← hP, ← hK] at HSP HIM
  rw [← hP] at htP
  have hnP := nSnd_le P (sndFits_of htP)
  clear hP hK
  have hKK : (K != K) = false := by simp
  go_wp2_with fail
  refine (HTO.out w1 B1).mono ?_
  rintro e w2 ⟨a2, c2, bs2, rfl, o2, -, -, bl2⟩
  have B2 := below_chain B1 bl2
  go_wp2_with fail
  refine (HSP.out a2 c2 w2 o2.rd).mono ?_
  rintro e w3 ⟨a0s, c0s, a3s, c3s, a1s, c1s, a2s, c2s, b2s, d2s, rfl, rs, bl3⟩
  have B3 := below_chain B2 bl3
  have hb3 := below_new1 w3 (.cells #[.slice a0s P.fields.length c0s, .int .i64 P.epoch, .int .i64 P.base, .slice a3s P.tables.length c3s, .int .i64 P.pushed, .int .i64 P.out.epoch, .int .i64 P.out.next, .int .i64 P.out.now, .slice a1s P.out.wait.length c1s, .bool P.str.opened, .slice a2s P.str.fields.length c2s, .int .i64 P.str.next, .slice b2s P.str.dicts.length d2s] 58)
  have HW4 : Hid ((w3.alloc (.cells #[.slice a0s P.fields.length c0s, .int .i64 P.epoch, .int .i64 P.base, .slice a3s P.tables.length c3s, .int .i64 P.pushed, .int .i64 P.out.epoch, .int .i64 P.out.next, .int .i64 P.out.now, .slice a1s P.out.wait.length c1s, .bool P.str.opened, .slice a2s P.str.fields.length c2s, .int .i64 P.str.next, .slice b2s P.str.dicts.length d2s] 58)).heap[w3.heap.size]? = some (.cells #[.slice a0s P.fields.length c0s, .int .i64 P.epoch, .int .i64 P.base, .slice a3s P.tables.length c3s, .int .i64 P.pushed, .int .i64 P.out.epoch, .int .i64 P.out.next, .int .i64 P.out.now, .slice a1s P.out.wait.length c1s, .bool P.str.opened, .slice a2s P.str.fields.length c2s, .int .i64 P.str.next, .slice b2s P.str.dicts.length d2s] 58 (0, 0))) := hid (heap_alloc_new w3 _)
  have B4 := below_chain B3 hb3
  have HRS := hid (rs.later hb3)
  clear o2 rs bl2 bl3
  go_wp2_with fail
  generalize (w3.alloc (.cells #[.slice a0s P.fields.length c0s, .int .i64 P.epoch, .int .i64 P.base, .slice a3s P.tables.length c3s, .int .i64 P.pushed, .int .i64 P.out.epoch, .int .i64 P.out.next, .int .i64 P.out.now, .slice a1s P.out.wait.length c1s, .bool P.str.opened, .slice a2s P.str.fields.length c2s, .int .i64 P.str.next, .slice b2s P.str.dicts.length d2s] 58)) = w4 at *
  refine (HTO.out w4 B4).mono ?_
  rintro e w6 ⟨aX, cX, bsX, rfl, oX, lX, nX, F46⟩
  have B6 := below_chain B4 F46
  have HOX6 := hid oX
  have hXlt := oX.lt
  have hs46 := F46.size
  clear oX
  go_wp2_with fail
  refine (HIM.out aX cX w6 HOX6.out.rd).mono ?_
  rintro e w7 ⟨a0g, c0g, a3g, c3g, a1g, c1g, a2g, c2g, b2g, d2g, fsG, tsG, osG, bsG, dsG, rfl, oG, lG, nG, bl7⟩
  have hb7 := below_new1 w7 (.cells #[.slice a0g P.fields.length c0g, .int .i64 P.epoch, .int .i64 P.base, .slice a3g P.tables.length c3g, .int .i64 P.pushed, .int .i64 P.out.epoch, .int .i64 P.out.next, .int .i64 P.out.now, .slice a1g P.out.wait.length c1g, .bool P.str.opened, .slice a2g P.str.fields.length c2g, .int .i64 P.str.next, .slice b2g P.str.dicts.length d2g] 58)
  have HG8 : Hid ((w7.alloc (.cells #[.slice a0g P.fields.length c0g, .int .i64 P.epoch, .int .i64 P.base, .slice a3g P.tables.length c3g, .int .i64 P.pushed, .int .i64 P.out.epoch, .int .i64 P.out.next, .int .i64 P.out.now, .slice a1g P.out.wait.length c1g, .bool P.str.opened, .slice a2g P.str.fields.length c2g, .int .i64 P.str.next, .slice b2g P.str.dicts.length d2g] 58)).heap[w7.heap.size]? = some (.cells #[.slice a0g P.fields.length c0g, .int .i64 P.epoch, .int .i64 P.base, .slice a3g P.tables.length c3g, .int .i64 P.pushed, .int .i64 P.out.epoch, .int .i64 P.out.next, .int .i64 P.out.now, .slice a1g P.out.wait.length c1g, .bool P.str.opened, .slice a2g P.str.fields.length c2g, .int .i64 P.str.next, .slice b2g P.str.dicts.length d2g] 58 (0, 0))) := hid (heap_alloc_new w7 _)
  have F68 := below_chain bl7 hb7
  have F48 := below_chain F46 F68
  have B8 := below_chain B6 F68
  have HW8 := hid (boxSd HW4.out F48)
  have HOX8 := hid (ownFx HOX6.out F68)
  have HOG8 := hid (oG.later hb7)
  have HNR := hid nG
  have HLG := hid lG
  have hGlt : ∀ b ∈ ((fsG ++ tsG) ++ (osG ++ (bsG ++ dsG))), b < w7.heap.size := oG.lt
  have hs67 := bl7.size
  clear HOX6 oG nG lG
  have p0 := cell_of_row _ _ 0 _ _ _ HW8.out
  have p1 := cell_of_row _ _ 1 _ _ _ HW8.out
  have p2 := cell_of_row _ _ 2 _ _ _ HW8.out
  have p3 := cell_of_row _ _ 3 _ _ _ HW8.out
  have p4 := cell_of_row _ _ 4 _ _ _ HW8.out
  have p5 := cell_of_row _ _ 5 _ _ _ HW8.out
  have p6 := cell_of_row _ _ 6 _ _ _ HW8.out
  have p7 := cell_of_row _ _ 7 _ _ _ HW8.out
  have p8 := cell_of_row _ _ 8 _ _ _ HW8.out
  have p9 := cell_of_row _ _ 9 _ _ _ HW8.out
  have p10 := cell_of_row _ _ 10 _ _ _ HW8.out
  have p11 := cell_of_row _ _ 11 _ _ _ HW8.out
  have p12 := cell_of_row _ _ 12 _ _ _ HW8.out
  simp only [List.getElem?_toArray, List.getElem?_cons_zero, List.getElem?_cons_succ] at p0 p1 p2 p3 p4 p5 p6 p7 p8 p9 p10 p11 p12
  have q0 := cell_of_row _ _ 0 _ _ _ HG8.out
  have q1 := cell_of_row _ _ 1 _ _ _ HG8.out
  have q2 := cell_of_row _ _ 2 _ _ _ HG8.out
  have q3 := cell_of_row _ _ 3 _ _ _ HG8.out
  have q4 := cell_of_row _ _ 4 _ _ _ HG8.out
  have q5 := cell_of_row _ _ 5 _ _ _ HG8.out
  have q6 := cell_of_row _ _ 6 _ _ _ HG8.out
  have q7 := cell_of_row _ _ 7 _ _ _ HG8.out
  have q8 := cell_of_row _ _ 8 _ _ _ HG8.out
  have q9 := cell_of_row _ _ 9 _ _ _ HG8.out
  have q10 := cell_of_row _ _ 10 _ _ _ HG8.out
  have q11 := cell_of_row _ _ 11 _ _ _ HG8.out
  have q12 := cell_of_row _ _ 12 _ _ _ HG8.out
  simp only [List.getElem?_toArray, List.getElem?_cons_zero, List.getElem?_cons_succ] at q0 q1 q2 q3 q4 q5 q6 q7 q8 q9 q10 q11 q12
  go_wp2_with fail
  generalize (w7.alloc (.cells #[.slice a0g P.fields.length c0g, .int .i64 P.epoch, .int .i64 P.base, .slice a3g P.tables.length c3g, .int .i64 P.pushed, .int .i64 P.out.epoch, .int .i64 P.out.next, .int .i64 P.out.now, .slice a1g P.out.wait.length c1g, .bool P.str.opened, .slice a2g P.str.fields.length c2g, .int .i64 P.str.next, .slice b2g P.str.dicts.length d2g] 58)) = w8 at *
  refine (eqSender_any P a0g a3g a1g a2g b2g c0g c3g c1g c2g d2g a0s a3s a1s a2s b2s c0s c3s c1s c2s d2s w8 HOG8.out.rd (HRS.out.later F48) htP).mono ?_
  rintro e w9 ⟨rfl, bl9⟩
  have B9 := below_chain B8 bl9
  have F49 := below_chain F48 bl9
  have HG9 := hid (boxSd HG8.out bl9)
  have HOX9 := hid (ownFx HOX8.out bl9)
  have HOG9 := hid (HOG8.out.later bl9)
  clear p0 p1 p2 p3 p4 p5 p6 p7 p8 p9 p10 p11 p12 q0 q1 q2 q3 q4 q5 q6 q7 q8 q9 q10 q11 q12 HG8 HOX8 HOG8 bl9 HW8
  go_wp2_with fail
  refine (HTO.out w9 B9).mono ?_
  rintro e w10 ⟨aZ, cZ, bsZ, rfl, oZ, -, -, bl10⟩
  have HOX10 := hid (ownFx HOX9.out bl10)
  go_wp2_with fail
  refine (eqFieldS_any aX aZ cX cZ fs w10 HOX10.out.rd oZ.rd ht).mono ?_
  rintro e w11 ⟨rfl, bl11⟩
  have b911 := below_chain bl10 bl11
  have B11 := below_chain B9 b911
  have F411 := below_chain F49 b911
  have HG11 := hid (boxSd HG9.out b911)
  have HOX11 := hid (ownFx HOX9.out b911)
  have HOG11 := hid (HOG9.out.later b911)
  clear oZ bl10 bl11 b911 HG9 HOX9 HOX10 HOG9
  go_wp2_with fail
  refine (markFieldS_any _ fs bsX 1 w11 HOX11.out nX hlen hft (by omega)).mono ?_
  rintro e w12 ⟨rfl, -, on12⟩
  have F412 : Below w4.heap.size w4 w12 := Only.chain F411 on12 lX (Nat.le_refl _)
  have B12 : Below w.heap.size w w12 := Only.chain B11 on12 (fun b hb => by have := lX b hb; have := B4.size; omega) (Nat.le_refl _)
  have HW12 := hid (boxSd HW4.out F412)
  have hfar : ∀ b, w6.heap.size ≤ b → b ∉ bsX := fun b hb h => by have := hXlt b h; omega
  have HG12 : Hid (w12.heap[w7.heap.size]? = _) := hid ((on12.block _ (Array.getElem?_eq_some_iff.1 HG11.out).1 (hfar _ (by omega))).trans HG11.out)
  have HOG12 := hid (HOG11.out.kept (w' := w12) (fun y hy => on12.block y (HOG11.out.lt y hy) (hfar y (HLG.out y hy))))
  clear on12 HG11 HOX11 HOG11 hfar
  obtain ⟨kx, hkx⟩ : ∃ kx : Nat, kx = 1 + fT fs := ⟨_, rfl⟩
  rw [← hkx]
  have hk0 : decide ((kx : Int) < 0) = false := decide_eq_false (by omega)
  clear hkx
  have p0 := cell_of_row _ _ 0 _ _ _ HW12.out
  have p1 := cell_of_row _ _ 1 _ _ _ HW12.out
  have p2 := cell_of_row _ _ 2 _ _ _ HW12.out
  have p3 := cell_of_row _ _ 3 _ _ _ HW12.out
  have p4 := cell_of_row _ _ 4 _ _ _ HW12.out
  have p5 := cell_of_row _ _ 5 _ _ _ HW12.out
  have p6 := cell_of_row _ _ 6 _ _ _ HW12.out
  have p7 := cell_of_row _ _ 7 _ _ _ HW12.out
  have p8 := cell_of_row _ _ 8 _ _ _ HW12.out
  have p9 := cell_of_row _ _ 9 _ _ _ HW12.out
  have p10 := cell_of_row _ _ 10 _ _ _ HW12.out
  have p11 := cell_of_row _ _ 11 _ _ _ HW12.out
  have p12 := cell_of_row _ _ 12 _ _ _ HW12.out
  simp only [List.getElem?_toArray, List.getElem?_cons_zero, List.getElem?_cons_succ] at p0 p1 p2 p3 p4 p5 p6 p7 p8 p9 p10 p11 p12
  have q0 := cell_of_row _ _ 0 _ _ _ HG12.out
  have q1 := cell_of_row _ _ 1 _ _ _ HG12.out
  have q2 := cell_of_row _ _ 2 _ _ _ HG12.out
  have q3 := cell_of_row _ _ 3 _ _ _ HG12.out
  have q4 := cell_of_row _ _ 4 _ _ _ HG12.out
  have q5 := cell_of_row _ _ 5 _ _ _ HG12.out
  have q6 := cell_of_row _ _ 6 _ _ _ HG12.out
  have q7 := cell_of_row _ _ 7 _ _ _ HG12.out
  have q8 := cell_of_row _ _ 8 _ _ _ HG12.out
  have q9 := cell_of_row _ _ 9 _ _ _ HG12.out
  have q10 := cell_of_row _ _ 10 _ _ _ HG12.out
  have q11 := cell_of_row _ _ 11 _ _ _ HG12.out
  have q12 := cell_of_row _ _ 12 _ _ _ HG12.out
  simp only [List.getElem?_toArray, List.getElem?_cons_zero, List.getElem?_cons_succ] at q0 q1 q2 q3 q4 q5 q6 q7 q8 q9 q10 q11 q12
  go_wp2_with fail
  refine (eqSender_any P a0g a3g a1g a2g b2g c0g c3g c1g c2g d2g a0s a3s a1s a2s b2s c0s c3s c1s c2s d2s w12 HOG12.out.rd (HRS.out.later F412) htP).mono ?_
  rintro e w13 ⟨rfl, bl13⟩
  have B13 := below_chain B12 bl13
  have F413 := below_chain F412 bl13
  have HG13 := hid (boxSd HG12.out bl13)
  have HOG13 := hid (HOG12.out.later bl13)
  clear p0 p1 p2 p3 p4 p5 p6 p7 p8 p9 p10 p11 p12 q0 q1 q2 q3 q4 q5 q6 q7 q8 q9 q10 q11 q12 HG12 HOG12 bl13
  have q0 := cell_of_row _ _ 0 _ _ _ HG13.out
  have q1 := cell_of_row _ _ 1 _ _ _ HG13.out
  have q2 := cell_of_row _ _ 2 _ _ _ HG13.out
  have q3 := cell_of_row _ _ 3 _ _ _ HG13.out
  have q4 := cell_of_row _ _ 4 _ _ _ HG13.out
  have q5 := cell_of_row _ _ 5 _ _ _ HG13.out
  have q6 := cell_of_row _ _ 6 _ _ _ HG13.out
  have q7 := cell_of_row _ _ 7 _ _ _ HG13.out
  have q8 := cell_of_row _ _ 8 _ _ _ HG13.out
  have q9 := cell_of_row _ _ 9 _ _ _ HG13.out
  have q10 := cell_of_row _ _ 10 _ _ _ HG13.out
  have q11 := cell_of_row _ _ 11 _ _ _ HG13.out
  have q12 := cell_of_row _ _ 12 _ _ _ HG13.out
  simp only [List.getElem?_toArray, List.getElem?_cons_zero, List.getElem?_cons_succ] at q0 q1 q2 q3 q4 q5 q6 q7 q8 q9 q10 q11 q12
  go_wp2_with fail
  refine (markSdX_any P a0g a3g a1g a2g b2g c0g c3g c1g c2g d2g fsG tsG osG bsG dsG 1 w13 HOG13.out HNR.out (sndFits_of htP) (by omega)).mono ?_
  rintro e w14 ⟨rfl, mk14, on14⟩
  have h46 : w4.heap.size ≤ w6.heap.size := F46.size
  have hw6 : w.heap.size ≤ w6.heap.size := B6.size
  have B14 : Below w.heap.size w w14 := Only.chain B13 on14 (fun b hb => by have := HLG.out b hb; omega) (Nat.le_refl _)
  have F414 : Below w4.heap.size w4 w14 := Only.chain F413 on14 (fun b hb => by have := HLG.out b hb; omega) (Nat.le_refl _)
  have HG14 : Hid (w14.heap[w7.heap.size]? = _) := hid ((on14.block _ (Array.getElem?_eq_some_iff.1 HG13.out).1 (fun h => by have := hGlt _ h; omega)).trans HG13.out)
  have HMK14 := hid mk14
  clear on14 mk14 q0 q1 q2 q3 q4 q5 q6 q7 q8 q9 q10 q11 q12 HG13 HOG13
  generalize hM1 : 1 + nSnd P = M1 at *
  have hM1b : M1 ≤ 134217728 := by omega
  have HM1 := hid hM1
  clear hM1
  have q0 := cell_of_row _ _ 0 _ _ _ HG14.out
  have q1 := cell_of_row _ _ 1 _ _ _ HG14.out
  have q2 := cell_of_row _ _ 2 _ _ _ HG14.out
  have q3 := cell_of_row _ _ 3 _ _ _ HG14.out
  have q4 := cell_of_row _ _ 4 _ _ _ HG14.out
  have q5 := cell_of_row _ _ 5 _ _ _ HG14.out
  have q6 := cell_of_row _ _ 6 _ _ _ HG14.out
  have q7 := cell_of_row _ _ 7 _ _ _ HG14.out
  have q8 := cell_of_row _ _ 8 _ _ _ HG14.out
  have q9 := cell_of_row _ _ 9 _ _ _ HG14.out
  have q10 := cell_of_row _ _ 10 _ _ _ HG14.out
  have q11 := cell_of_row _ _ 11 _ _ _ HG14.out
  have q12 := cell_of_row _ _ 12 _ _ _ HG14.out
  simp only [List.getElem?_toArray, List.getElem?_cons_zero, List.getElem?_cons_succ] at q0 q1 q2 q3 q4 q5 q6 q7 q8 q9 q10 q11 q12
  go_wp2_with fail
  refine (heldSdX_any P a0g a3g a1g a2g b2g c0g c3g c1g c2g d2g fsG tsG osG bsG dsG 1 w14 HMK14.out (sndFits_of htP) (by omega)).mono ?_
  rintro e w16 ⟨rfl, bl16⟩
  rw [HM1.out]
  have B16 := below_chain B14 bl16
  have F416 := below_chain F414 bl16
  clear q0 q1 q2 q3 q4 q5 q6 q7 q8 q9 q10 q11 q12 HG14 bl16
  have hq0 : decide ((M1 : Int) < 0) = false := decide_eq_false (by omega)
  have hMM : ((M1 : Int) != (M1 : Int)) = false := by simp
  go_wp2_with fail
  refine (HTO.out w16 B16).mono ?_
  rintro e w18 ⟨aU, cU, bsU, rfl, oU, -, -, bl18⟩
  have B18 := below_chain B16 bl18
  have F418 := below_chain F416 bl18
  go_wp2_with fail
  refine (HIM.out aU cU w18 oU.rd).mono ?_
  rintro e w19 ⟨a0h, c0h, a3h, c3h, a1h, c1h, a2h, c2h, b2h, d2h, fsH, tsH, osH, bsH, dsH, rfl, oH, -, -, bl19⟩
  have hb19 := below_new1 w19 (.cells #[.slice a0h P.fields.length c0h, .int .i64 P.epoch, .int .i64 P.base, .slice a3h P.tables.length c3h, .int .i64 P.pushed, .int .i64 P.out.epoch, .int .i64 P.out.next, .int .i64 P.out.now, .slice a1h P.out.wait.length c1h, .bool P.str.opened, .slice a2h P.str.fields.length c2h, .int .i64 P.str.next, .slice b2h P.str.dicts.length d2h] 58)
  have HH20 : Hid ((w19.alloc (.cells #[.slice a0h P.fields.length c0h, .int .i64 P.epoch, .int .i64 P.base, .slice a3h P.tables.length c3h, .int .i64 P.pushed, .int .i64 P.out.epoch, .int .i64 P.out.next, .int .i64 P.out.now, .slice a1h P.out.wait.length c1h, .bool P.str.opened, .slice a2h P.str.fields.length c2h, .int .i64 P.str.next, .slice b2h P.str.dicts.length d2h] 58)).heap[w19.heap.size]? = some (.cells #[.slice a0h P.fields.length c0h, .int .i64 P.epoch, .int .i64 P.base, .slice a3h P.tables.length c3h, .int .i64 P.pushed, .int .i64 P.out.epoch, .int .i64 P.out.next, .int .i64 P.out.now, .slice a1h P.out.wait.length c1h, .bool P.str.opened, .slice a2h P.str.fields.length c2h, .int .i64 P.str.next, .slice b2h P.str.dicts.length d2h] 58 (0, 0))) := hid (heap_alloc_new w19 _)
  have F420 := below_chain F418 (below_chain bl19 hb19)
  have B20 := below_chain B18 (below_chain bl19 hb19)
  have HW20 := hid (boxSd HW4.out F420)
  have HOH := hid (oH.later hb19)
  clear oH oU
  have p0 := cell_of_row _ _ 0 _ _ _ HW20.out
  have p1 := cell_of_row _ _ 1 _ _ _ HW20.out
  have p2 := cell_of_row _ _ 2 _ _ _ HW20.out
  have p3 := cell_of_row _ _ 3 _ _ _ HW20.out
  have p4 := cell_of_row _ _ 4 _ _ _ HW20.out
  have p5 := cell_of_row _ _ 5 _ _ _ HW20.out
  have p6 := cell_of_row _ _ 6 _ _ _ HW20.out
  have p7 := cell_of_row _ _ 7 _ _ _ HW20.out
  have p8 := cell_of_row _ _ 8 _ _ _ HW20.out
  have p9 := cell_of_row _ _ 9 _ _ _ HW20.out
  have p10 := cell_of_row _ _ 10 _ _ _ HW20.out
  have p11 := cell_of_row _ _ 11 _ _ _ HW20.out
  have p12 := cell_of_row _ _ 12 _ _ _ HW20.out
  simp only [List.getElem?_toArray, List.getElem?_cons_zero, List.getElem?_cons_succ] at p0 p1 p2 p3 p4 p5 p6 p7 p8 p9 p10 p11 p12
  have q0 := cell_of_row _ _ 0 _ _ _ HH20.out
  have q1 := cell_of_row _ _ 1 _ _ _ HH20.out
  have q2 := cell_of_row _ _ 2 _ _ _ HH20.out
  have q3 := cell_of_row _ _ 3 _ _ _ HH20.out
  have q4 := cell_of_row _ _ 4 _ _ _ HH20.out
  have q5 := cell_of_row _ _ 5 _ _ _ HH20.out
  have q6 := cell_of_row _ _ 6 _ _ _ HH20.out
  have q7 := cell_of_row _ _ 7 _ _ _ HH20.out
  have q8 := cell_of_row _ _ 8 _ _ _ HH20.out
  have q9 := cell_of_row _ _ 9 _ _ _ HH20.out
  have q10 := cell_of_row _ _ 10 _ _ _ HH20.out
  have q11 := cell_of_row _ _ 11 _ _ _ HH20.out
  have q12 := cell_of_row _ _ 12 _ _ _ HH20.out
  simp only [List.getElem?_toArray, List.getElem?_cons_zero, List.getElem?_cons_succ] at q0 q1 q2 q3 q4 q5 q6 q7 q8 q9 q10 q11 q12
  go_wp2_with fail
  generalize (w19.alloc (.cells #[.slice a0h P.fields.length c0h, .int .i64 P.epoch, .int .i64 P.base, .slice a3h P.tables.length c3h, .int .i64 P.pushed, .int .i64 P.out.epoch, .int .i64 P.out.next, .int .i64 P.out.now, .slice a1h P.out.wait.length c1h, .bool P.str.opened, .slice a2h P.str.fields.length c2h, .int .i64 P.str.next, .slice b2h P.str.dicts.length d2h] 58)) = w20 at *
  refine (eqSender_any P a0h a3h a1h a2h b2h c0h c3h c1h c2h d2h a0s a3s a1s a2s b2s c0s c3s c1s c2s d2s w20 HOH.out.rd (HRS.out.later F420) htP).mono ?_
  rintro e w21 ⟨rfl, bl21⟩
  have B21 := below_chain B20 bl21
  clear p0 p1 p2 p3 p4 p5 p6 p7 p8 p9 p10 p11 p12 q0 q1 q2 q3 q4 q5 q6 q7 q8 q9 q10 q11 q12
  go_wp2
  go_ret
  exact ⟨rfl, B21⟩
end Go.Proofs.YtfaehioeepolhaaGreat
namespace Go.Proofs.YtfaehioeepolhaaGreat
open Go.ChangeShapes Go.WideShapes Go.ChangeAt Go.RowKit Go.Deep
set_option linter.unusedVariables false in
set_option maxRecDepth 100000 in
theorem openSender_lifted (os : Os) (started : os.Started) (H : Type) (enc : TypeId × Value → H) :
    ReturnsInHanded {} Tryz.checked os 5 .any (Rows.fnExactOpenSenderSpec.pre6 enc Tryz.prog Tryz.f5 Rows.fnExactOpenSenderRow.domain false) (Rows.fnExactOpenSenderSpec.post enc Tryz.prog Tryz.f5 false true false false) := by
  refine returnsInHanded_of_change (C := Tryz.checked) own started (by kernel_rfl) Tryz.func5
    (ChangeSpec.witness6 (enc := enc) (C := Tryz.checked) false ⟨#[], #[.slice none 0 0], []⟩ 8 (by kernel_rfl) (by kernel_rfl) (by kernel_rfl) (by kernel_rfl)) ?_
  intro W base args ds gs before hval0 hW hcnd _
  have hval : ∀ (j : Nat) t v, Tryz.f5.params[j]? = some t → args[j]? = some v → Value.okWide Tryz.prog W .any base t v := hval0
  have hW' := hW
  obtain ⟨p, q, hA0, hV, rfl, hfz, hnd⟩ := hW
  have hA : DataW.TrodAll enc Tryz.prog W 0 (fun _ => true) true Tryz.f5.params.toList args.toList ds p := hA0
  rw [Tryz.params5] at hA hval
  obtain ⟨v0, vs0, d0, ds0, p0, q0, hargs, rfl, rfl, h0, r0⟩ := trodAll_cons hA
  obtain ⟨rfl, rfl, rfl⟩ := trodAll_nil r0
  obtain rfl : args = #[v0] := by cases args; simp_all
  obtain ⟨rfl, rfl⟩ := trodVars_none hV
  obtain ⟨a0, len0, cap0, rfl⟩ := okWide_slice Tryz.underlying26 (hval 0 26 v0 rfl rfl)
  have k0 := h0
  have lt0 : ∀ x ∈ p0, x.block < W.heap.size := by obtain ⟨m, hm⟩ := k0; exact DataW.trod_lt m _ _ _ hm
  have w0 := fieldsIn_of h0
  clear hA0 hval0
  refine (openSender_walk a0 len0 cap0 W w0).mono fun e W' ⟨he, bel⟩ => ?_
  subst he
  exact ⟨_, rfl, _, _, _, [], _, [], hW', trodAll_mk1 (shut_bool Tryz.underlying4 _), (trodAll_cons_mk (Below.trod laidOut (by kernel_rfl) (of_decide_eq_true (by kernel_rfl)) k0 bel lt0) trodAll_mk0), rfl, bel.frame _, fun h => by cases h⟩
theorem openSender_holds : Rows.FnExactOpenSenderSaid :=
  OpenClaim.holds_of_wide 5 Tryz.f5 rfl rfl rfl rfl rfl rfl rfl ⟨rfl, rfl, rfl, rfl, rfl⟩ rfl rfl rfl rfl rfl (by kernel_rfl) Tryz.func5 (by kernel_rfl)
    (of_decide_eq_true (by kernel_rfl)) (by unfold Func.isWrapper; first | (rw [if_pos (by decide +kernel)]; kernel_rfl) | (rw [if_neg (by decide +kernel)]; exact ⟨rfl, rfl⟩))
    (fun os started H enc _ => openSender_lifted os started H enc)
#print axioms openSender_holds
end Go.Proofs.YtfaehioeepolhaaGreat
