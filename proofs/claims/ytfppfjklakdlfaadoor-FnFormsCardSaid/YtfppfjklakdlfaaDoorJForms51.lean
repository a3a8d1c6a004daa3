import Derived.Test.YtfppfjklakdlfaaDoorJForms32
import Derived.Test.YtfppfjklakdlfaaDoorJForms33
import Derived.Test.YtfppfjklakdlfaaDoorJForms43
import Derived.Test.YtfppfjklakdlfaaDoorJForms42
import Derived.Test.YtfppfjklakdlfaaDoorJForms44
import Derived.Test.YtfppfjklakdlfaaDoorJForms49
import Derived.Test.YtfppfjklakdlfaaDoorJForms47
import Derived.Test.YtfppfjklakdlfaaDoorJForms40
import Derived.Test.YtfppfjklakdlfaaDoorJForms50
import Derived.Deep.RegionHeld3
import Derived.Deep.DeepCutAuto
namespace Go.Proofs.YtfppfjklakdlfaaDoor
open Go.RowKit
theorem boxF {w w' : World} {g : Nat} {o : Obj} (h : w.heap[g]? = some o) (hb : Below w.heap.size w w') : w'.heap[g]? = some o := (hb.block g (Array.getElem?_eq_some_iff.1 h).1).trans h
theorem pkP_ltF {xs : List Nat} (h : ∀ x ∈ xs, x < 256) : ∀ x ∈ (pkP xs).data, x < 256 := by
  unfold pkP
  split
  · exact fun x hx => h x (List.mem_of_mem_drop (List.mem_of_mem_take hx))
  · simp [noPkt]
set_option maxRecDepth 100000 in
set_option maxHeartbeats 8000000 in
theorem forms_walk (a0 : Option Addr) (len0 cap0 : Nat) (a1 : Option Addr) (len1 cap1 : Nat) (w : World) (h0 : BytesInC w a0 len0 cap0) (h1 : BytesInC w a1 len1 cap1) (ad : Addr) (hE : w.cell? ⟨0, 0, none⟩ = some (.iface 105 (.pointer (some ad)))) :
    Calls Tryd.prog 4 #[.slice a0 len0 cap0, .slice a1 len1 cap1] w fun e w' => e = .returned (.bool true) ∧ Below w.heap.size w w' := by
  obtain ⟨xs, rfl, hx⟩ := bytesInC h0
  obtain ⟨zs, rfl, hz⟩ := bytesInC h1
  clear h0 h1
  have HX := hid hx
  have HZ := hid hz
  have HE := hid hE
  clear hx hz hE
  by_cases hbig : 1048576 < xs.length
  · have e1 : decide ((1048576 : Int) < (xs.length : Int)) = true := decide_eq_true (by omega)
    clear hbig
    go_enter Tryd.func4, Tryd.ntmps4
    go_wp2
    go_ret
    exact ⟨rfl, Below.refl _ _⟩
  have e1 : decide ((1048576 : Int) < (xs.length : Int)) = false := decide_eq_false (by omega)
  by_cases hbig2 : 1048576 < zs.length
  · have e2 : decide ((1048576 : Int) < (zs.length : Int)) = true := decide_eq_true (by omega)
    clear hbig hbig2
    go_enter Tryd.func4, Tryd.ntmps4
    go_wp2
    go_ret
    exact ⟨rfl, Below.refl _ _⟩
  have e2 : decide ((1048576 : Int) < (zs.length : Int)) = false := decide_eq_false (by omega)
  have hxl : xs.length ≤ 1048576 := by omega
  have hzl : zs.length ≤ 1048576 := by omega
  have HZ2 := hid HZ.out.rdB
  have hfit := dmsg_fits (xs.take 600)
  have HDM := hid (fun W (h : Below w.heap.size w W) => drawM_any a0 cap0 xs W (HX.out.later h) hxl)
  have HMB : Hid (∀ x ∈ encR (dmsg (xs.take 600)), x < 256) := hid (dmsg_lt (take_lt HX.out.rdB.2 600) rfl)
  obtain ⟨m, hm⟩ : ∃ m, m = dmsg (xs.take 600) := ⟨_, rfl⟩
  rw [← hm] at HDM HMB hfit
  clear hm hbig hbig2
  have htt : totL List.length m.bufs ≤ 1048576 := by rw [totL_tot]; omega
  have hRl := encR_len m
  have HRN : Hid (encR m ≠ [] → decP (encR m) = m ∧ decC (encR m) = 0) := hid dec_round
  have HRF : Hid (∀ bit, encR m ≠ [] → decR (flipB (encR m) bit) = none) := hid (fun bit h => dec_flip bit HMB.out h)
  obtain ⟨R, hR⟩ : ∃ R, R = encR m := ⟨_, rfl⟩
  have HEN := hid (fun v c W h => specEnc_any m v c W h htt)
  have HIM := hid (fun v c W h => implEnc_any m v c W h htt)
  rw [← hR] at HRN HRF HMB hRl HEN HIM
  clear hR
  go_enter Tryd.func4, Tryd.ntmps4
  go_wp2_with fail
  refine (HDM.out w (Below.refl _ _)).mono ?_
  rintro e w1 ⟨v1, c1, rfl, r1, b1⟩
  have b2 := below_new1 w1 (.cells #[.int .i64 m.kind, .int .i64 m.field, .int .i64 m.count, .slice v1 m.bufs.length c1] 25)
  have HK2 : Hid ((w1.alloc (.cells #[.int .i64 m.kind, .int .i64 m.field, .int .i64 m.count, .slice v1 m.bufs.length c1] 25)).heap[w1.heap.size]? = some (.cells #[.int .i64 m.kind, .int .i64 m.field, .int .i64 m.count, .slice v1 m.bufs.length c1] 25 (0, 0))) := hid (heap_alloc_new w1 _)
  have HR2 := hid (r1.later b2)
  have B2 := below_chain b1 b2
  clear r1 b1 b2
  go_wp2_with fail
  generalize (w1.alloc (.cells #[.int .i64 m.kind, .int .i64 m.field, .int .i64 m.count, .slice v1 m.bufs.length c1] 25)) = w2 at *
  refine (HEN.out v1 c1 w2 HR2.out).mono ?_
  rintro e w3 ⟨aF, cF, rfl, oF, b3⟩
  have B3 := below_chain B2 b3
  have HK3 := hid (boxF HK2.out b3)
  have HR3 := hid (HR2.out.later b3)
  clear HK2 HR2
  go_wp2_with fail
  refine (HDM.out w3 B3).mono ?_
  rintro e w4 ⟨v4, c4, rfl, r4, b4⟩
  go_wp2_with fail
  refine (HIM.out v4 c4 w4 r4).mono ?_
  rintro e w5 ⟨aB, cB, rfl, oB, b5⟩
  have b35 := below_chain b4 b5
  have B5 := below_chain B3 b35
  have HK5 := hid (boxF HK3.out b35)
  have HR5 := hid (HR3.out.later b35)
  have HOF := hid (own_later oF b35)
  have HOB := hid oB
  clear HK3 HR3 r4 oF oB b3 b4 b5
  go_wp2_with fail
  refine (sameB_any aB aF cB cF R.length R w5 (rd_at HOB.out) (rd_at HOF.out) rfl (by omega)).mono ?_
  rintro e w6 ⟨rfl, b6⟩
  have B6 := below_chain B5 b6
  have HK6 := hid (boxF HK5.out b6)
  have HR6 := hid (HR5.out.later b6)
  have HOF6 := hid (own_later HOF.out b6)
  have HOB6 := hid (own_later HOB.out b6)
  clear HK5 HR5 HOF HOB b35
  go_wp2_with fail
  refine (take_any a1 cap1 zs 0 w6 (HZ2.out.1.later B6) HZ2.out.2 hzl).mono ?_
  rintro e w7 ⟨⟨q0, hq0, rfl⟩, b7⟩
  go_wp2_with fail
  refine (take_any a1 cap1 zs 1 w7 (HZ2.out.1.later (below_chain B6 b7)) HZ2.out.2 hzl).mono ?_
  rintro e w8 ⟨⟨q1, hq1, rfl⟩, b8⟩
  have b68 := below_chain b7 b8
  have B8 := below_chain B6 b68
  have HK8 := hid (boxF HK6.out b68)
  have HR8 := hid (HR6.out.later b68)
  have HOF8 := hid (own_later HOF6.out b68)
  have HOB8 := hid (own_later HOB6.out b68)
  obtain ⟨bit, hbit⟩ : ∃ bit : Nat, bit = q0 * 256 + q1 := ⟨_, rfl⟩
  have hbi : (q0 : Int) * 256 + (q1 : Int) = (bit : Int) := by rw [hbit]; simp
  clear hbit HK6 HR6 HOF6 HOB6 b7 b8 b68
  have HF1 := hid (rfl : (1 : Nat) = 1)
  obtain ⟨tb, htb⟩ : ∃ tb : Bool, tb = decide (0 < R.length) := ⟨_, rfl⟩
  have e3 : decide (0 < R.length) = tb := htb.symm
  have HTB := hid htb
  clear htb
  go_upto_if 57 with fail
  clear e3
  go_cut [9, 10, 11, 12] (fun _ _ _ _ wx => Below w8.heap.size w8 wx)
  case first =>
    cases tb with
    | true =>
      have hR0 : 0 < R.length := of_decide_eq_true HTB.out.symm
      have hRn : R ≠ [] := fun h => by rw [h] at hR0; simp at hR0
      have HRR := hid (HRN.out hRn)
      have HFF := hid (dec_none (HRF.out bit hRn))
      clear hR0 hRn
      go_wp2_with fail
      have hD := implDec_any aB cB R ad w8 (own_rdSl HOB8.out HMB.out) (by omega) (cell_later B8 HE.out)
      rw [HRR.out.1, HRR.out.2] at hD
      refine hD.mono ?_
      rintro e w9 ⟨v9, c9, bl9, rfl, o9, -, -, b9⟩
      have b10 := below_new1 w9 (.cells #[.int .i64 m.kind, .int .i64 m.field, .int .i64 m.count, .slice v9 m.bufs.length c9] 25)
      have HKB : Hid ((w9.alloc (.cells #[.int .i64 m.kind, .int .i64 m.field, .int .i64 m.count, .slice v9 m.bufs.length c9] 25)).heap[w9.heap.size]? = some (.cells #[.int .i64 m.kind, .int .i64 m.field, .int .i64 m.count, .slice v9 m.bufs.length c9] 25 (0, 0))) := hid (heap_alloc_new w9 _)
      have HRB := hid (o9.rd.later b10)
      have b810 := below_chain b9 b10
      have HOB10 := hid (own_later HOB8.out b810)
      have HK10 := hid (boxF HK8.out b810)
      have HR10 := hid (HR8.out.later b810)
      clear hD o9 b9 b10
      go_wp2_with fail
      generalize (w9.alloc (.cells #[.int .i64 m.kind, .int .i64 m.field, .int .i64 m.count, .slice v9 m.bufs.length c9] 25)) = w10 at *
      refine (flip_any aB cB R bit w10 (own_rdSl HOB10.out HMB.out) (by omega)).mono ?_
      rintro e w11 ⟨v11, rfl, o11, b11⟩
      obtain ⟨a11, c11, rfl, -⟩ := rd_own o11
      have hfl := flip_len R bit
      have HLT := hid (flip_lt bit HMB.out)
      go_wp2_with fail
      have hD := implDec_any a11 c11 (flipB R bit) ad w11 (by rw [hfl]; exact own_rdSl o11 HLT.out) (by omega) (cell_later (below_chain B8 (below_chain b810 b11)) HE.out)
      rw [HFF.out.1, HFF.out.2, hfl] at hD
      refine hD.mono ?_
      rintro e w12 ⟨v12, c12, bl12, rfl, -, -, -, b12⟩
      have b13 := below_new1 w12 (.cells #[.int .i64 noMsg.kind, .int .i64 noMsg.field, .int .i64 noMsg.count, .slice v12 noMsg.bufs.length c12] 25)
      have b1013 := below_chain (below_chain b11 b12) b13
      have HKB13 := hid (boxF HKB.out b1013)
      have HK13 := hid (boxF HK10.out b1013)
      have HRB13 := hid (HRB.out.later b1013)
      have HR13 := hid (HR10.out.later b1013)
      have HB813 := hid (below_chain b810 b1013)
      clear hD o11 b11 b12 b13 b1013 b810 HKB HK10 HRB HR10 HOB10
      have hkk : (m.kind != m.kind) = false := by simp
      have hff : (m.field != m.field) = false := by simp
      have hcc : (m.count != m.count) = false := by simp
      have p0 := cell_of_row _ _ 0 _ _ _ HKB13.out
      have p1 := cell_of_row _ _ 1 _ _ _ HKB13.out
      have p2 := cell_of_row _ _ 2 _ _ _ HKB13.out
      have p3 := cell_of_row _ _ 3 _ _ _ HKB13.out
      simp only [List.getElem?_toArray, List.getElem?_cons_zero, List.getElem?_cons_succ] at p0 p1 p2 p3
      have q0 := cell_of_row _ _ 0 _ _ _ HK13.out
      have q1 := cell_of_row _ _ 1 _ _ _ HK13.out
      have q2 := cell_of_row _ _ 2 _ _ _ HK13.out
      have q3 := cell_of_row _ _ 3 _ _ _ HK13.out
      simp only [List.getElem?_toArray, List.getElem?_cons_zero, List.getElem?_cons_succ] at q0 q1 q2 q3
      go_wp2_with fail
      generalize (w12.alloc (.cells #[.int .i64 noMsg.kind, .int .i64 noMsg.field, .int .i64 noMsg.count, .slice v12 noMsg.bufs.length c12] 25)) = w13 at *
      refine (sameL_any v9 v1 c9 c1 m.bufs w13 HRB13.out HR13.out htt).mono ?_
      rintro e w14 ⟨rfl, b14⟩
      have HB814 := hid (below_chain HB813.out b14)
      clear p0 p1 p2 p3 q0 q1 q2 q3 b14
      go_wp2_with fail
      go_meet
      case rel => exact HB814.out
    | false =>
      go_wp2_with fail
      go_meet
      case rel => exact Below.refl _ _
  case rest =>
    have HB8 := hid hcut
    have HBc := hid (below_chain B8 HB8.out)
    clear hcut HB8 HK8 HR8 HOF8 HOB8 HRN HRF HMB HTB HIM HEN HDM B2 B3 B5 b6 B6 hq0 hq1 htt hfit hRl
    go_wp2_with fail
    refine (drawDM_any a0 cap0 xs wc (HX.out.later HBc.out) hxl).mono ?_
    rintro e d1 ⟨ys, vr, cr, rfl, rr, hyl, bd1⟩
    have HB1 := hid (below_chain HBc.out bd1)
    have HRr := hid rr
    have HPB := hid (fun h => dec_back (b := ys) h)
    have HPF := hid (decP_fits ys)
    have HSD := hid (fun W h => specDec_any vr cr ys W h (by omega))
    have HID := hid (fun a c W h => implDec_any a c ys ad W h (by omega))
    obtain ⟨M, hM⟩ : ∃ M, M = decP ys := ⟨_, rfl⟩
    obtain ⟨C, hC⟩ : ∃ C, C = decC ys := ⟨_, rfl⟩
    rw [← hM] at HPB HPF HSD HID
    rw [← hC] at HPB HSD HID
    clear rr bd1 HBc hM hC
    go_wp2_with fail
    refine (HSD.out d1 HRr.out).mono ?_
    rintro e d2 ⟨va, ca, rfl, -, bd2⟩
    have bd3 := below_chain bd2 (below_new1 d2 (.cells #[.int .i64 M.kind, .int .i64 M.field, .int .i64 M.count, .slice va M.bufs.length ca] 25))
    have HB3 := hid (below_chain HB1.out bd3)
    have HRr3 := hid (HRr.out.later bd3)
    clear bd2 bd3 HB1 HRr HSD
    go_upto_region 16 with fail
    generalize (d2.alloc (.cells #[.int .i64 M.kind, .int .i64 M.field, .int .i64 M.count, .slice va M.bufs.length ca] 25)) = d3 at *
    have hNd4 := hid HRr3.out.nil0
    have hRd4 := hid HRr3.out.rdB
    have hOd4 : Hid ((d3.alloc (.cells #[] 5)).ownsRow d3.heap.size 5 1 (.slice (some ⟨d3.heap.size, 0, none⟩) 0 0) 0 []) := hid ⟨rfl, .inr ⟨d3.heap.size, 0, #[], rfl, Nat.le_refl _, heap_alloc_new d3 _, Nat.le_refl _, Nat.zero_le _, rfl, rfl⟩⟩
    have hSd4 : Hid (d3.heap.size ≤ (d3.alloc (.cells #[] 5)).heap.size) := hid (below_new1 d3 (.cells #[] 5)).size
    have hBd4 := hid (below_new1 d3 (.cells #[] 5))
    have hRRd4 := hid (hRd4.out.1.later hBd4.out)
    obtain ⟨i0, hi, hz0, hz1, hz2⟩ := info_parts infoByteT
    go_wp2_with (first | (at_builtin; refine append_any rfl _ _ 22 rfl d3.heap.size 5 i0 (.int .u8 0) 1 Tryd.underlying22 hi hz0 hz1 hz2 rfl _ 0 [] rfl hOd4.out vr ys.length cr (byt ys) rfl (byt_len _) hNd4.out hRRd4.out (byt_one _) (by unfold maxLen; omega) (by omega) hSd4.out ?_) | fail)
    intro v' d4 hown hgrow
    clear hi hz0 hz1 hz2 i0
    try rw [Nat.zero_add] at hown
    obtain ⟨ad4, cd4, rfl, -⟩ := rd_own hown
    have hbd4 : Below d3.heap.size d3 d4 := hBd4.out.grown hgrow hSd4.out (fun p hp => by simp [Value.ownBlock] at hp; omega)
    have HOd4 : Hid (d4.ownsRow d3.heap.size 5 1 (.slice ad4 ys.length cd4) ys.length (byt ys)) := hid (by simpa using hown)
    have HRad4 := hid (own_rdSl HOd4.out hRd4.out.2)
    have HBd4 := hid (below_chain HB3.out hbd4)
    have HRrd4 := hid (HRr3.out.later hbd4)
    clear hown hgrow hOd4 hBd4 hSd4 hNd4 hRd4 hRRd4 hbd4 HOd4
    go_wp2_with fail
    refine (HID.out ad4 cd4 d4 HRad4.out (cell_later HBd4.out HE.out)).mono ?_
    rintro e d5 ⟨v5, c5, bl5, rfl, o5, -, -, b5⟩
    have b56 := below_chain b5 (below_new1 d5 (.cells #[.int .i64 M.kind, .int .i64 M.field, .int .i64 M.count, .slice v5 M.bufs.length c5] 25))
    have HKM : Hid ((d5.alloc (.cells #[.int .i64 M.kind, .int .i64 M.field, .int .i64 M.count, .slice v5 M.bufs.length c5] 25)).heap[d5.heap.size]? = some (.cells #[.int .i64 M.kind, .int .i64 M.field, .int .i64 M.count, .slice v5 M.bufs.length c5] 25 (0, 0))) := hid (heap_alloc_new d5 _)
    have HRM := hid (o5.rd.later (below_new1 d5 (.cells #[.int .i64 M.kind, .int .i64 M.field, .int .i64 M.count, .slice v5 M.bufs.length c5] 25)))
    have HB6 := hid (below_chain HBd4.out b56)
    have HRr6 := hid (HRrd4.out.later b56)
    clear o5 b5 b56 HID HBd4 HRrd4 HRad4 HB3 HRr3
    go_upto_region 17 with fail
    generalize (d5.alloc (.cells #[.int .i64 M.kind, .int .i64 M.field, .int .i64 M.count, .slice v5 M.bufs.length c5] 25)) = d6 at *
    go_cut [119, 120, 121, 122, 123, 124, 125, 126, 127, 128, 129, 130, 131, 132] (fun _ _ _ _ _ _ _ _ _ _ _ _ _ vt wx => vt = .bool false ∧ Below d6.heap.size d6 wx)
    case first =>
      by_cases h0 : C = 0
      · have hE := implEnc_any M v5 c5 d6 HRM.out (by rw [totL_tot]; have := HPF.out; omega)
        rw [HPB.out h0] at hE
        have HEM := hid hE
        have hc : (C == 0) = true := by rw [h0]; rfl
        clear h0 hE
        have p0 := cell_of_row _ _ 0 _ _ _ HKM.out
        have p1 := cell_of_row _ _ 1 _ _ _ HKM.out
        have p2 := cell_of_row _ _ 2 _ _ _ HKM.out
        have p3 := cell_of_row _ _ 3 _ _ _ HKM.out
        simp only [List.getElem?_toArray, List.getElem?_cons_zero, List.getElem?_cons_succ] at p0 p1 p2 p3
        go_wp2_with fail
        refine HEM.out.mono ?_
        rintro e d7 ⟨a7, c7, rfl, o7, b7⟩
        clear p0 p1 p2 p3
        go_wp2_with fail
        refine (sameB_any a7 vr c7 cr ys.length ys d7 (rd_at o7) (HRr6.out.later b7).rdB.1 rfl (by omega)).mono ?_
        rintro e d8 ⟨rfl, b8⟩
        go_wp2_with fail
        go_meet
        case rel => exact ⟨rfl, below_chain b7 b8⟩
      · have hc : (C == 0) = false := by simpa using h0
        clear h0
        go_wp2_with fail
        go_meet
        case rel => exact ⟨rfl, Below.refl _ _⟩
    case rest =>
      obtain ⟨rfl, hbd⟩ := hcut
      have HB9 := hid (below_chain HB6.out hbd)
      clear hbd HB6 HRr6 HRM HKM HPB HPF
      go_wp2_with fail
      have HDE := hid (fun W (h : Below w.heap.size w W) => drawE_any a0 cap0 xs W (HX.out.later h) hxl)
      obtain ⟨p, hp⟩ : ∃ p, p = depk (xs.take 600) := ⟨_, rfl⟩
      rw [← hp] at HDE
      clear hp
      refine (HDE.out _ HB9.out).mono ?_
      rintro e f1 ⟨w1v, w1c, rfl, r1, b1⟩
      have HDB := hid r1.rdB.2
      have b2 := below_new1 f1 (.cells #[.int .i64 p.kind, .int .i64 p.epoch, .int .i64 p.seq, .int .i64 p.count, .bool p.last, .slice w1v p.data.length w1c] 39)
      have HP2 : Hid ((f1.alloc (.cells #[.int .i64 p.kind, .int .i64 p.epoch, .int .i64 p.seq, .int .i64 p.count, .bool p.last, .slice w1v p.data.length w1c] 39)).heap[f1.heap.size]? = some (.cells #[.int .i64 p.kind, .int .i64 p.epoch, .int .i64 p.seq, .int .i64 p.count, .bool p.last, .slice w1v p.data.length w1c] 39 (0, 0))) := hid (heap_alloc_new f1 _)
      have HQ2 := hid (r1.later b2)
      have G2 := hid (below_chain HB9.out (below_chain b1 b2))
      have HMB2 : Hid (∀ x ∈ pktR p, x < 256) := hid (pktR_lt HDB.out)
      have hRl2 := pktR_len p
      have HRN2 : Hid (pktR p ≠ [] → pkP (pktR p) = p ∧ pkC (pktR p) = 0 ∧ p.data.length ≤ 100) := hid (fun h => ⟨(pk_round h).1, (pk_round h).2, by
        cases hk : pktOK p with
        | false => exact absurd (pktR_bad hk) h
        | true => exact pktOK_data hk⟩)
      have HRF2 : Hid (∀ bit, pktR p ≠ [] → okB (flipB (pktR p) bit) = false) := hid (fun bit h => ok_flip bit HMB2.out h)
      have HSP := hid (fun v c W h => specPkt_any p v c W h)
      have HIP := hid (fun v c W h => implPkt_any p v c W h)
      obtain ⟨S, hS⟩ : ∃ S, S = pktR p := ⟨_, rfl⟩
      rw [← hS] at HMB2 hRl2 HRN2 HRF2 HSP HIP
      clear hS r1 b1 b2 HB9
      go_wp2_with fail
      generalize (f1.alloc (.cells #[.int .i64 p.kind, .int .i64 p.epoch, .int .i64 p.seq, .int .i64 p.count, .bool p.last, .slice w1v p.data.length w1c] 39)) = f2 at *
      refine (HSP.out w1v w1c f2 HQ2.out).mono ?_
      rintro e f3 ⟨aG, cG, rfl, oG, b3⟩
      have G3 := hid (below_chain G2.out b3)
      have HP3 := hid (boxF HP2.out b3)
      have HQ3 := hid (HQ2.out.later b3)
      clear HP2 HQ2 G2 b3
      go_wp2_with fail
      refine (HDE.out f3 G3.out).mono ?_
      rintro e f4 ⟨v4p, c4p, rfl, r4, b4⟩
      go_wp2_with fail
      refine (HIP.out v4p c4p f4 r4).mono ?_
      rintro e f5 ⟨aC, cC, rfl, oC, b5⟩
      have b35 := below_chain b4 b5
      have G5 := hid (below_chain G3.out b35)
      have HP5 := hid (boxF HP3.out b35)
      have HQ5 := hid (HQ3.out.later b35)
      have HOG := hid (own_later oG b35)
      have HOC := hid oC
      clear HP3 HQ3 r4 oG oC b4 b5 G3 HSP HIP HDE
      go_wp2_with fail
      refine (sameB_any aC aG cC cG S.length S f5 (rd_at HOC.out) (rd_at HOG.out) rfl (by omega)).mono ?_
      rintro e f6 ⟨rfl, b6⟩
      have G6 := hid (below_chain G5.out b6)
      have HP6 := hid (boxF HP5.out b6)
      have HQ6 := hid (HQ5.out.later b6)
      have HOC6 := hid (own_later HOC.out b6)
      clear HP5 HQ5 HOG HOC b35 G5 b6
      obtain ⟨ub, hub⟩ : ∃ ub : Bool, ub = decide (0 < S.length) := ⟨_, rfl⟩
      have e4 : decide (0 < S.length) = ub := hub.symm
      have HUB := hid hub
      clear hub
      go_upto_if 146 with fail
      clear e4
      go_cut [21, 22, 23, 24] (fun _ _ _ _ wx => Below f6.heap.size f6 wx)
      case first =>
        cases ub with
        | true =>
          have hS0 : 0 < S.length := of_decide_eq_true HUB.out.symm
          have hSn : S ≠ [] := fun h => by rw [h] at hS0; simp at hS0
          have HRR := hid (HRN2.out hSn)
          have HFF := hid (pk_no (HRF2.out bit hSn))
          clear hS0 hSn
          go_wp2_with fail
          have hD := implPd_any aC cC S f6 (own_rdSl HOC6.out HMB2.out) (by omega)
          rw [HRR.out.1, HRR.out.2.1] at hD
          refine hD.mono ?_
          rintro e f9 ⟨v9, c9, rfl, o9, b9⟩
          have b10 := below_new1 f9 (.cells #[.int .i64 p.kind, .int .i64 p.epoch, .int .i64 p.seq, .int .i64 p.count, .bool p.last, .slice v9 p.data.length c9] 39)
          have HKB : Hid ((f9.alloc (.cells #[.int .i64 p.kind, .int .i64 p.epoch, .int .i64 p.seq, .int .i64 p.count, .bool p.last, .slice v9 p.data.length c9] 39)).heap[f9.heap.size]? = some (.cells #[.int .i64 p.kind, .int .i64 p.epoch, .int .i64 p.seq, .int .i64 p.count, .bool p.last, .slice v9 p.data.length c9] 39 (0, 0))) := hid (heap_alloc_new f9 _)
          have HRB := hid ((own_rdSl o9 HDB.out).later b10)
          have b810 := below_chain b9 b10
          have HOC10 := hid (own_later HOC6.out b810)
          have HP10 := hid (boxF HP6.out b810)
          have HQ10 := hid (HQ6.out.later b810)
          clear hD o9 b9 b10
          go_wp2_with fail
          generalize (f9.alloc (.cells #[.int .i64 p.kind, .int .i64 p.epoch, .int .i64 p.seq, .int .i64 p.count, .bool p.last, .slice v9 p.data.length c9] 39)) = f10 at *
          refine (flip_any aC cC S bit f10 (own_rdSl HOC10.out HMB2.out) (by omega)).mono ?_
          rintro e f11 ⟨v11, rfl, o11, b11⟩
          obtain ⟨a11, c11, rfl, -⟩ := rd_own o11
          have hfl := flip_len S bit
          have HLT := hid (flip_lt bit HMB2.out)
          go_wp2_with fail
          have hD := implPd_any a11 c11 (flipB S bit) f11 (by rw [hfl]; exact own_rdSl o11 HLT.out) (by omega)
          rw [HFF.out.1, HFF.out.2, hfl] at hD
          refine hD.mono ?_
          rintro e f12 ⟨v12, c12, rfl, -, b12⟩
          have b13 := below_new1 f12 (.cells #[.int .i64 noPkt.kind, .int .i64 noPkt.epoch, .int .i64 noPkt.seq, .int .i64 noPkt.count, .bool noPkt.last, .slice v12 noPkt.data.length c12] 39)
          have b1013 := below_chain (below_chain b11 b12) b13
          have HKB13 := hid (boxF HKB.out b1013)
          have HP13 := hid (boxF HP10.out b1013)
          have HRB13 := hid (HRB.out.later b1013)
          have HQ13 := hid (HQ10.out.later b1013)
          have HB813 := hid (below_chain b810 b1013)
          clear hD o11 b11 b12 b13 b1013 b810 HKB HP10 HRB HQ10 HOC10
          have p0 := cell_of_row _ _ 0 _ _ _ HKB13.out
          have p1 := cell_of_row _ _ 1 _ _ _ HKB13.out
          have p2 := cell_of_row _ _ 2 _ _ _ HKB13.out
          have p3 := cell_of_row _ _ 3 _ _ _ HKB13.out
          have p4 := cell_of_row _ _ 4 _ _ _ HKB13.out
          have p5 := cell_of_row _ _ 5 _ _ _ HKB13.out
          simp only [List.getElem?_toArray, List.getElem?_cons_zero, List.getElem?_cons_succ] at p0 p1 p2 p3 p4 p5
          have q0 := cell_of_row _ _ 0 _ _ _ HP13.out
          have q1 := cell_of_row _ _ 1 _ _ _ HP13.out
          have q2 := cell_of_row _ _ 2 _ _ _ HP13.out
          have q3 := cell_of_row _ _ 3 _ _ _ HP13.out
          have q4 := cell_of_row _ _ 4 _ _ _ HP13.out
          have q5 := cell_of_row _ _ 5 _ _ _ HP13.out
          simp only [List.getElem?_toArray, List.getElem?_cons_zero, List.getElem?_cons_succ] at q0 q1 q2 q3 q4 q5
          go_wp2_with fail
          generalize (f12.alloc (.cells #[.int .i64 noPkt.kind, .int .i64 noPkt.epoch, .int .i64 noPkt.seq, .int .i64 noPkt.count, .bool noPkt.last, .slice v12 noPkt.data.length c12] 39)) = f13 at *
          refine (samePacket_any p v9 w1v c9 w1c f13 HRB13.out HQ13.out (by have := HRR.out.2.2; omega)).mono ?_
          rintro e f14 ⟨rfl, b14⟩
          have HB814 := hid (below_chain HB813.out b14)
          clear p0 p1 p2 p3 p4 p5 q0 q1 q2 q3 q4 q5 b14
          go_wp2_with fail
          go_meet
          case rel => exact HB814.out
        | false =>
          go_wp2_with fail
          go_meet
          case rel => exact Below.refl _ _
      case rest =>
        have G8 := hid (below_chain G6.out hcut)
        clear hcut G6 HP6 HQ6 HOC6 HRN2 HRF2 HMB2 HUB HDB hRl2
        go_wp2_with fail
        refine (drawDP_any a0 cap0 xs _ (HX.out.later G8.out) hxl).mono ?_
        rintro e g1 ⟨us, vq, cq, rfl, rr, hul, bg1⟩
        have GB1 := hid (below_chain G8.out bg1)
        have GRr := hid rr
        have GPB := hid (fun h => pk_back (b := us) h)
        have GSD := hid (fun W h => specPd_any vq cq us W h (by omega))
        have GID := hid (fun a c W h => implPd_any a c us W h (by omega))
        obtain ⟨N, hN⟩ : ∃ N, N = pkP us := ⟨_, rfl⟩
        obtain ⟨D, hD⟩ : ∃ D, D = pkC us := ⟨_, rfl⟩
        rw [← hN] at GPB GSD GID
        rw [← hD] at GPB GSD GID
        have HNE := hid hN
        have GLT := hid GRr.out.rdB.2
        clear rr bg1 G8 hN hD
        go_wp2_with fail
        refine (GSD.out g1 GRr.out).mono ?_
        rintro e g2 ⟨vb, cb, rfl, ob, bg2⟩
        have GDB : Hid (∀ x ∈ N.data, x < 256) := hid (by rw [HNE.out]; exact pkP_ltF GLT.out)
        have bg3 := below_chain bg2 (below_new1 g2 (.cells #[.int .i64 N.kind, .int .i64 N.epoch, .int .i64 N.seq, .int .i64 N.count, .bool N.last, .slice vb N.data.length cb] 39))
        have GB3 := hid (below_chain GB1.out bg3)
        have GRr3 := hid (GRr.out.later bg3)
        clear bg2 bg3 GB1 GRr GSD ob
        go_upto_region 31 with fail
        generalize (g2.alloc (.cells #[.int .i64 N.kind, .int .i64 N.epoch, .int .i64 N.seq, .int .i64 N.count, .bool N.last, .slice vb N.data.length cb] 39)) = g3 at *
        have hNg4 := hid GRr3.out.nil0
        have hRg4 := hid GRr3.out.rdB
        have hOg4 : Hid ((g3.alloc (.cells #[] 5)).ownsRow g3.heap.size 5 1 (.slice (some ⟨g3.heap.size, 0, none⟩) 0 0) 0 []) := hid ⟨rfl, .inr ⟨g3.heap.size, 0, #[], rfl, Nat.le_refl _, heap_alloc_new g3 _, Nat.le_refl _, Nat.zero_le _, rfl, rfl⟩⟩
        have hSg4 : Hid (g3.heap.size ≤ (g3.alloc (.cells #[] 5)).heap.size) := hid (below_new1 g3 (.cells #[] 5)).size
        have hBg4 := hid (below_new1 g3 (.cells #[] 5))
        have hRRg4 := hid (hRg4.out.1.later hBg4.out)
        obtain ⟨i0, hi, hz0, hz1, hz2⟩ := info_parts infoByteT
        go_wp2_with (first | (at_builtin; refine append_any rfl _ _ 22 rfl g3.heap.size 5 i0 (.int .u8 0) 1 Tryd.underlying22 hi hz0 hz1 hz2 rfl _ 0 [] rfl hOg4.out vq us.length cq (byt us) rfl (byt_len _) hNg4.out hRRg4.out (byt_one _) (by unfold maxLen; omega) (by omega) hSg4.out ?_) | fail)
        intro v' g4 hown hgrow
        clear hi hz0 hz1 hz2 i0
        try rw [Nat.zero_add] at hown
        obtain ⟨ag4, cg4, rfl, -⟩ := rd_own hown
        have hbg4 : Below g3.heap.size g3 g4 := hBg4.out.grown hgrow hSg4.out (fun p hp => by simp [Value.ownBlock] at hp; omega)
        have HOg4 : Hid (g4.ownsRow g3.heap.size 5 1 (.slice ag4 us.length cg4) us.length (byt us)) := hid (by simpa using hown)
        have HRag4 := hid (own_rdSl HOg4.out hRg4.out.2)
        have HBg4 := hid (below_chain GB3.out hbg4)
        have HRrg4 := hid (GRr3.out.later hbg4)
        clear hown hgrow hOg4 hBg4 hSg4 hNg4 hRg4 hRRg4 hbg4 HOg4
        go_wp2_with fail
        refine (GID.out ag4 cg4 g4 HRag4.out).mono ?_
        rintro e g5 ⟨v5g, c5g, rfl, o5, b5⟩
        have b56 := below_chain b5 (below_new1 g5 (.cells #[.int .i64 N.kind, .int .i64 N.epoch, .int .i64 N.seq, .int .i64 N.count, .bool N.last, .slice v5g N.data.length c5g] 39))
        have GKM : Hid ((g5.alloc (.cells #[.int .i64 N.kind, .int .i64 N.epoch, .int .i64 N.seq, .int .i64 N.count, .bool N.last, .slice v5g N.data.length c5g] 39)).heap[g5.heap.size]? = some (.cells #[.int .i64 N.kind, .int .i64 N.epoch, .int .i64 N.seq, .int .i64 N.count, .bool N.last, .slice v5g N.data.length c5g] 39 (0, 0))) := hid (heap_alloc_new g5 _)
        have GRM := hid ((own_rdSl o5 GDB.out).later (below_new1 g5 (.cells #[.int .i64 N.kind, .int .i64 N.epoch, .int .i64 N.seq, .int .i64 N.count, .bool N.last, .slice v5g N.data.length c5g] 39)))
        have GB6 := hid (below_chain HBg4.out b56)
        have GRr6 := hid (HRrg4.out.later b56)
        clear o5 b5 b56 GID HBg4 HRrg4 HRag4 GB3 GRr3 GDB
        go_upto_region 32 with fail
        generalize (g5.alloc (.cells #[.int .i64 N.kind, .int .i64 N.epoch, .int .i64 N.seq, .int .i64 N.count, .bool N.last, .slice v5g N.data.length c5g] 39)) = g6 at *
        by_cases h0 : D = 0
        · have hE := implPkt_any N v5g c5g g6 GRM.out
          rw [GPB.out h0] at hE
          have GEM := hid hE
          have hc : (D == 0) = true := by rw [h0]; rfl
          have hc2 : (D != 0) = false := by rw [h0]; rfl
          clear h0 hE
          have p0 := cell_of_row _ _ 0 _ _ _ GKM.out
          have p1 := cell_of_row _ _ 1 _ _ _ GKM.out
          have p2 := cell_of_row _ _ 2 _ _ _ GKM.out
          have p3 := cell_of_row _ _ 3 _ _ _ GKM.out
          have p4 := cell_of_row _ _ 4 _ _ _ GKM.out
          have p5 := cell_of_row _ _ 5 _ _ _ GKM.out
          simp only [List.getElem?_toArray, List.getElem?_cons_zero, List.getElem?_cons_succ] at p0 p1 p2 p3 p4 p5
          go_wp2_with fail
          refine GEM.out.mono ?_
          rintro e g7 ⟨a7, c7, rfl, o7, b7⟩
          clear p0 p1 p2 p3 p4 p5
          go_wp2_with fail
          refine (sameB_any a7 vq c7 cq us.length us g7 (rd_at o7) (GRr6.out.later b7).rdB.1 rfl (by omega)).mono ?_
          rintro e g8 ⟨rfl, b8⟩
          have GB8 := hid (below_chain GB6.out (below_chain b7 b8))
          clear b7 b8 o7
          go_wp2
          go_ret
          exact ⟨rfl, GB8.out⟩
        · have hc : (D == 0) = false := by simpa using h0
          have hc2 : (D != 0) = true := by simpa using h0
          clear h0
          go_wp2
          go_ret
          exact ⟨rfl, GB6.out⟩
end Go.Proofs.YtfppfjklakdlfaaDoor
