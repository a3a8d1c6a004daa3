import Derived.Test.YtmaccmgmcahopaaJWindow30
import Derived.Test.YtmaccmgmcahopaaJWindow45
import Derived.Test.YtmaccmgmcahopaaJWindow49
import Derived.Test.YtmaccmgmcahopaaJWindow50
import Derived.Test.YtmaccmgmcahopaaJWindow51
import Derived.Test.YtmaccmgmcahopaaJWindow22
import Derived.Test.YtmaccmgmcahopaaJWindow52
import Derived.Deep.DeepCutAuto
import Derived.BigQuiet
namespace Go.Proofs.Ytmaccmgmcahopaa
open Go.RowKit
theorem infoIntW : (Try.prog.info? 3).map (fun i => (i.zero, i.size, i.bytes)) = some (some (.int .i64 0), 1, 8) := by kernel_rfl
set_option maxHeartbeats 1000000 in
theorem take_quiet (a : Option Addr) (cap : Nat) (xs : List Nat) (i : Nat) (w : World) (hr : Rd w a (byt xs)) (hb : ∀ x ∈ xs, x < 256) (hn : xs.length ≤ 1048576) :
    Calls Try.prog 6 #[.slice a xs.length cap, .int .i64 (i : Int)] w fun e w' => e = .returned (.int .i64 ((xs[i % xs.length]?.getD 0 : Nat) : Int)) ∧ ∃ m, w' = w.drewN m := by
  by_cases h0 : xs.length = 0
  · obtain rfl := List.length_eq_zero_iff.1 h0
    go_enter Try.func6, Try.ntmps6
    go_wp2
    go_ret
    exact ⟨rfl, 0, rfl⟩
  · have HT : Hid ((xs[i % xs.length]?.getD 0 : Nat) = xs[i % xs.length]'(Nat.mod_lt _ (by omega))) := hid (by rw [List.getElem?_eq_getElem (Nat.mod_lt _ (by omega))]; rfl)
    obtain ⟨r, hr2⟩ : ∃ r : Nat, r = i % xs.length := ⟨_, rfl⟩
    have hrl : r < xs.length := by rw [hr2]; exact Nat.mod_lt _ (by omega)
    have HT2 : Hid ((xs[i % xs.length]?.getD 0 : Nat) = xs[r]) := hid (by have := HT.out; subst hr2; exact this)
    clear HT
    obtain ⟨b, o, rfl, hc⟩ : ∃ b o, a = some ⟨b, o, none⟩ ∧ w.cell? ⟨b, o + r, none⟩ = some (.int .u8 ((xs[r] : Nat) : Int)) := by
      rcases hr with h | ⟨b, o, rfl, h⟩
      · have : (byt xs).length = 0 := by rw [h]; rfl
        rw [byt_len] at this
        omega
      · exact ⟨b, o, rfl, by have := h r (by rw [byt_len]; exact hrl); rw [this]; simp [byt]⟩
    have h1 : ((xs.length : Int) == 0) = false := beq_eq_false_iff_ne.2 (by omega)
    have h2 : (i : Int).tmod (xs.length : Int) = (r : Int) := by rw [hr2]; rfl
    have h3 : (i : Int) % (xs.length : Int) = (r : Int) := by rw [hr2]; rfl
    have hlt : (r : Int) < (xs.length : Int) := by omega
    have hxb := hb _ (List.getElem_mem hrl)
    generalize (xs[i % xs.length]?.getD 0 : Nat) = T at *
    generalize xs[r] = x at *
    clear hr hr2 hb
    generalize xs.length = n at *
    go_enter Try.func6, Try.ntmps6
    go_wp2
    go_ret
    exact ⟨by rw [HT2.out]; rfl, 0, rfl⟩
def befW (D : List Nat) (i : Nat) : Int := if i = 0 then -1 else ((D[i - 1]?.getD 0 : Nat) : Int)
set_option maxRecDepth 100000 in
set_option maxHeartbeats 16000000 in
theorem window_walk (a0 : Option Addr) (len0 cap0 : Nat) (a1 : Option Addr) (len1 cap1 : Nat) (w : World) (h0 : BytesInC w a0 len0 cap0) (h1 : BytesInC w a1 len1 cap1) :
    Calls Try.prog 5 #[.slice a0 len0 cap0, .slice a1 len1 cap1] w fun e w' => e = .returned (.bool true) ∧ Below w.heap.size w w' := by
  obtain ⟨xs, rfl, hx⟩ := bytesInC h0
  obtain ⟨zs, rfl, hz⟩ := bytesInC h1
  clear h0 h1
  have HX := hid hx
  have HZ := hid hz
  clear hx hz
  by_cases hbig : 1048576 < xs.length
  · have e1 : decide ((1048576 : Int) < (xs.length : Int)) = true := decide_eq_true (by omega)
    clear hbig
    go_enter Try.func5, Try.ntmps5
    go_wp2
    go_ret
    exact ⟨rfl, Below.refl _ _⟩
  by_cases hbig2 : 1048576 < zs.length
  · have e1 : decide ((1048576 : Int) < (xs.length : Int)) = false := decide_eq_false (by omega)
    have e2 : decide ((1048576 : Int) < (zs.length : Int)) = true := decide_eq_true (by omega)
    clear hbig hbig2
    go_enter Try.func5, Try.ntmps5
    go_wp2
    go_ret
    exact ⟨rfl, Below.refl _ _⟩
  have hxl : xs.length ≤ 1048576 := by omega
  have hzl : zs.length ≤ 1048576 := by omega
  have e1 : decide ((1048576 : Int) < (xs.length : Int)) = false := decide_eq_false (by omega)
  have e2 : decide ((1048576 : Int) < (zs.length : Int)) = false := decide_eq_false (by omega)
  clear hbig hbig2
  obtain ⟨s, hs⟩ : ∃ s : PO, s = dlt xs := ⟨_, rfl⟩
  have HD1 := hid (fun W (h : Below w.heap.size w W) => drawTick_any a0 cap0 xs W (HX.out.later h) hxl)
  rw [← hs] at HD1
  clear hs
  go_enter Try.func5, Try.ntmps5
  go_wp2_with fail
  refine (HD1.out w (Below.refl _ _)).mono ?_
  rintro e w1 ⟨a5, c5, bs5, rfl, o5, l5, b1, t5⟩
  have HN2 := hid (below_new1 w1 (.cells #[.int .i64 s.epoch, .int .i64 s.next, .int .i64 s.now, .slice a5 s.wait.length c5] 30))
  have HJ2 := hid (heap_alloc_new w1 (.cells #[.int .i64 s.epoch, .int .i64 s.next, .int .i64 s.now, .slice a5 s.wait.length c5] 30))
  have HR2 := hid ((o5.rd).later HN2.out)
  have HB2 := hid (below_chain b1 HN2.out)
  have HG5 : Hid (w.heap.size ≤ w1.heap.size) := hid b1.size
  have HT5 := hid t5
  clear o5 l5 b1 t5 HN2
  have c0 := cell_of_row _ _ 0 _ _ _ HJ2.out
  have c1 := cell_of_row _ _ 1 _ _ _ HJ2.out
  have c2 := cell_of_row _ _ 2 _ _ _ HJ2.out
  have c3 := cell_of_row _ _ 3 _ _ _ HJ2.out
  have zc0 := frozen_of_row _ _ 0 _ _ HJ2.out
  have zc1 := frozen_of_row _ _ 1 _ _ HJ2.out
  have zc2 := frozen_of_row _ _ 2 _ _ HJ2.out
  have zc3 := frozen_of_row _ _ 3 _ _ HJ2.out
  simp only [List.getElem?_toArray, List.getElem?_cons_zero, List.getElem?_cons_succ] at c0 c1 c2 c3
  go_wp2_with fail
  generalize (w1.alloc (.cells #[.int .i64 s.epoch, .int .i64 s.next, .int .i64 s.now, .slice a5 s.wait.length c5] 30)) = w2 at *
  generalize hg5 : w1.heap.size = g5 at *
  clear hg5
  refine (specVO_any s a5 c5 w2 HR2.out).mono ?_
  rintro e w3 ⟨rfl, b3⟩
  have HJ3 := hid (box_laterP2 HJ2.out b3)
  have HB3 := hid (below_chain HB2.out b3)
  clear c0 zc0 c1 zc1 c2 zc2 c3 zc3
  clear HJ2 HR2 HB2 b3
  have c0 := cell_of_row _ _ 0 _ _ _ HJ3.out
  have c1 := cell_of_row _ _ 1 _ _ _ HJ3.out
  have c2 := cell_of_row _ _ 2 _ _ _ HJ3.out
  have c3 := cell_of_row _ _ 3 _ _ _ HJ3.out
  have zc0 := frozen_of_row _ _ 0 _ _ HJ3.out
  have zc1 := frozen_of_row _ _ 1 _ _ HJ3.out
  have zc2 := frozen_of_row _ _ 2 _ _ HJ3.out
  have zc3 := frozen_of_row _ _ 3 _ _ HJ3.out
  simp only [List.getElem?_toArray, List.getElem?_cons_zero, List.getElem?_cons_succ] at c0 c1 c2 c3
  cases hok : outOK s with
  | false =>
    go_wp2_with fail
    go_ret
    exact ⟨rfl, HB3.out⟩
  | true =>
  have HOK := hid hok
  clear hok
  have hoh := (outOK_of HOK.out).1
  have hn1 : 0 ≤ s.next := hoh.2.2.1
  have hn2 : s.next ≤ 1000000000000 := hoh.2.2.2.1
  have ht1 : 0 ≤ s.now := hoh.2.2.2.2.1
  have ht2 : s.now ≤ 1000000000 := hoh.2.2.2.2.2.1
  have hwl : s.wait.length ≤ 300 := hoh.2.2.2.2.2.2
  clear hoh
  by_cases hnow : 999999980 < s.now
  · have k1 : decide ((999999980 : Int) < s.now) = true := decide_eq_true hnow
    clear hnow
    go_wp2_with fail
    go_ret
    exact ⟨rfl, HB3.out⟩
  have k1 : decide ((999999980 : Int) < s.now) = false := decide_eq_false hnow
  have hnow' : s.now ≤ 999999980 := by omega
  clear hnow
  go_wp2_with fail
  refine (HD1.out w3 HB3.out).mono ?_
  rintro e w4 ⟨a6, c6, bs6, rfl, o6, l6, b4, t6⟩
  have HN5 := hid (below_new1 w4 (.cells #[.int .i64 s.epoch, .int .i64 s.next, .int .i64 s.now, .slice a6 s.wait.length c6] 30))
  have HJ5 := hid (box_laterP2 (box_laterP2 HJ3.out b4) HN5.out)
  have HJ6 := hid (heap_alloc_new w4 (.cells #[.int .i64 s.epoch, .int .i64 s.next, .int .i64 s.now, .slice a6 s.wait.length c6] 30))
  have HO6 := hid (o6.kept (fun b hb => HN5.out.block b (o6.lt b hb)))
  have HL6 := hid l6
  have HL6' := hid o6.lt
  have HB5 := hid (below_chain (below_chain HB3.out b4) HN5.out)
  have HS5 : Hid (g5 < w3.heap.size ∧ w3.heap.size ≤ w4.heap.size ∧ w.heap.size ≤ w3.heap.size) := hid ⟨(Array.getElem?_eq_some_iff.1 HJ3.out).1, b4.size, HB3.out.size⟩
  clear c0 zc0 c1 zc1 c2 zc2 c3 zc3
  clear o6 l6 b4 t6 HJ3 HB3 k1 HD1
  have c0 := cell_of_row _ _ 0 _ _ _ HJ5.out
  have c1 := cell_of_row _ _ 1 _ _ _ HJ5.out
  have c2 := cell_of_row _ _ 2 _ _ _ HJ5.out
  have c3 := cell_of_row _ _ 3 _ _ _ HJ5.out
  have zc0 := frozen_of_row _ _ 0 _ _ HJ5.out
  have zc1 := frozen_of_row _ _ 1 _ _ HJ5.out
  have zc2 := frozen_of_row _ _ 2 _ _ HJ5.out
  have zc3 := frozen_of_row _ _ 3 _ _ HJ5.out
  simp only [List.getElem?_toArray, List.getElem?_cons_zero, List.getElem?_cons_succ] at c0 c1 c2 c3
  obtain ⟨i0, hi0, hz0, hz1, hz2⟩ := info_parts infoIntW
  go_wp2_with (first | (at_make; refine wpList_make_full _ rfl (.tmp 52) (.tmp 52) 61 rfl (w4.alloc (.cells #[.int .i64 s.epoch, .int .i64 s.next, .int .i64 s.now, .slice a6 s.wait.length c6] 30)).heap.size 3 i0 (.int .i64 0) 1 Try.underlying61 hi0 hz0 hz1 .i64 .i64 _ _ s.wait.length rfl rfl rfl rfl (by rw [hz2]; omega) (by unfold maxLen; omega) (Nat.le_refl _) ?_) | fail)
  intro w6 ho6 hg6
  rw [made_list] at ho6
  have HS4 : Hid ((w4.alloc (.cells #[.int .i64 s.epoch, .int .i64 s.next, .int .i64 s.now, .slice a6 s.wait.length c6] 30)).heap.size = w4.heap.size + 1) := hid (by simp)
  generalize (w4.alloc (.cells #[.int .i64 s.epoch, .int .i64 s.next, .int .i64 s.now, .slice a6 s.wait.length c6] 30)) = w5 at *
  have HB6 : Hid (Below w5.heap.size w5 w6) := hid ((Below.refl _ w5).grown hg6 (Nat.le_refl _) (by intro k h; cases h))
  have HST0 : Hid (WnSt g5 w4.heap.size (w4.heap.size + 1) s s (List.replicate s.wait.length 0) (fun _ => True) w6) := hid (by
    have h1 := HS5.out
    have h4 := HS4.out
    refine ⟨bs6, a5, c5, a6, c6, box_laterP2 HJ5.out HB6.out, box_laterP2 HJ6.out HB6.out, by omega, by omega, by omega, fun b hb => ⟨?_, ?_, ?_⟩, (HO6.out.byF).later HB6.out, ?_, ⟨fun b hb => Nat.lt_of_lt_of_le (HO6.out.lt b hb) HB6.out.size, fun _ _ => trivial⟩⟩
    · have := HL6.out b hb; omega
    · have := HL6'.out b hb; omega
    · have := HL6'.out b hb; omega
    · have := ownsRow_mono ho6 (B' := 0) (fun _ _ => Nat.zero_le _)
      simpa [ints, List.length_replicate] using this)
  have HBW : Hid (Below w.heap.size w w6) := hid (below_chain HB5.out HB6.out)
  have HG6 : Hid (w.heap.size ≤ w4.heap.size) := hid (by have := HS5.out; omega)
  have HGL : Hid (w.heap.size ≤ w4.heap.size + 1) := hid (by have := HG6.out; omega)
  clear c0 zc0 c1 zc1 c2 zc2 c3 zc3
  clear ho6 hg6 hi0 hz0 hz1 hz2 i0 HB5 HB6 HJ5 HJ6 HO6 HL6 HL6' HS5
  go_wp2_with fail
  clear HS4
  generalize w4.heap.size + 1 = gl at *
  generalize w4.heap.size = g6 at *
  go_loopw [9] (fun v9 wr => ∃ k : Nat, k ≤ s.wait.length ∧ v9 = .int .i64 k ∧ WnSt g5 g6 gl s s (lastU (List.replicate s.wait.length 0) (List.range k) (-1)) (fun _ => True) wr ∧ Below w.heap.size w wr) (fun v9 _ => s.wait.length - (intOf v9).toNat)
  case atStart => exact ⟨0, Nat.zero_le _, rfl, HST0.out, HBW.out⟩
  case round =>
    obtain ⟨k, hk, rfl, hS, hB⟩ := hrel
    have HS := hid hS
    have HB := hid hB
    clear hS hB HST0 HBW
    by_cases hlt : k < s.wait.length
    · have hlt1 : decide ((k : Int) < (s.wait.length : Int)) = true := decide_eq_true (by omega)
      have hlt2 : (k : Int) < (s.wait.length : Int) := by omega
      obtain ⟨F, a5', c5', a6', c6', hF⟩ := HS.out
      obtain ⟨z, hz⟩ : ∃ z, (lastU (List.replicate s.wait.length (0 : Int)) (List.range k) (-1))[k]? = some z := ⟨_, List.getElem?_eq_getElem (by rw [lastU_len]; simpa using hlt)⟩
      obtain ⟨hc, hcz⟩ := hF.cellL hz
      have HS2 := hid (HS.out.setL k (-1))
      rw [← lastR_succ] at HS2
      have HB2 := hid (HB.out.setCell (p := ⟨gl, k, none⟩) HGL.out (.int .i64 (-1)))
      clear hF hz
      go_wp2_with fail
      go_roundw
      case rel => exact ⟨k + 1, by omega, by go_num, HS2.out, HB2.out⟩
      case measure => simp [intOf]; omega
    have hlt1 : decide ((k : Int) < (s.wait.length : Int)) = false := decide_eq_false (by omega)
    obtain rfl : k = s.wait.length := by omega
    rw [lastR_full] at HS
    clear hlt hk
    go_wp2_with fail
    go_loopw [10, 11, 12, 13, 14, 15, 16, 17, 18] (fun v10 _ _ _ _ _ _ _ _ wr => ∃ (t : Nat) (o : PO) (last : List Int), t ≤ 12 ∧ v10 = .int .i64 t ∧ WnI s t o last ∧ WnSt g5 g6 gl s o last (fun _ => True) wr ∧ Below w.heap.size w wr) (fun v10 _ _ _ _ _ _ _ _ _ => 12 - (intOf v10).toNat)
    case atStart => exact ⟨0, s, _, by omega, rfl, wn_start HOK.out, HS.out, HB.out⟩
    case round =>
      obtain ⟨t, o, last, ht, rfl, hI, hS, hB⟩ := hrel
      have HI := hid hI
      have HSt := hid hS
      have HBt := hid hB
      clear hI hS hB HS HB hlt1
      have hll : last.length = s.wait.length := HI.out.ll
      have hol : o.wait.length = s.wait.length := HI.out.wl
      have HLL := hid hll
      have HOL := hid hol
      clear hll hol
      obtain ⟨F, a5', c5', a6', c6', hF⟩ := HSt.out
      have HF := hid hF
      clear hF
      by_cases ht12 : ¬ t < 12
      · have ht1 : decide ((t : Int) < 12) = false := decide_eq_false (by omega)
        have HT12 : Hid (t = 12) := hid (by omega)
        have HI12 : Hid (WnI s 12 o last) := hid (by have h := HI.out; rw [HT12.out] at h; exact h)
        clear HF ht12 HI
        go_wp2_with fail
        go_loopw [19] (fun v19 wr => ∃ i : Nat, i ≤ s.wait.length ∧ i ≤ 8 ∧ v19 = .int .i64 i ∧ WnSt g5 g6 gl s o last (fun _ => True) wr ∧ Below w.heap.size w wr) (fun v19 _ => 8 - (intOf v19).toNat)
        case atStart => exact ⟨0, Nat.zero_le _, by omega, rfl, HSt.out, HBt.out⟩
        case round =>
          obtain ⟨i, hi1, hi2, rfl, hS, hB⟩ := hrel
          have HSi := hid hS
          have HBi := hid hB
          clear hS hB HSt HBt
          obtain ⟨F, a5', c5', a6', c6', hF⟩ := HSi.out
          have HF := hid hF
          clear hF
          by_cases hc : i < s.wait.length ∧ i < 8
          · have k1 : decide ((i : Int) < (s.wait.length : Int)) = true := decide_eq_true (by omega)
            have k2 : decide ((i : Int) < 8) = true := decide_eq_true (by omega)
            have k3 : (i : Int) < (s.wait.length : Int) := by omega
            have k4 := hc.1
            have K5 := hid hc.2
            have hil : i < last.length := by rw [HLL.out]; exact hc.1
            obtain ⟨z, hz⟩ : ∃ z, last[i]? = some z := ⟨_, List.getElem?_eq_getElem hil⟩
            have hzn : ¬ z < 0 := by
              have h := wn_end HI12.out hil hc.2
              rw [List.getElem?_eq_getElem hil] at hz
              cases hz
              exact h
            obtain ⟨hcz, hfz⟩ := HF.out.cellL hz
            have j1 : decide (z < 0) = false := decide_eq_false hzn
            clear hz hzn hil hc
            go_wp2_with fail
            go_roundw
            case rel => exact ⟨i + 1, by omega, by have := K5.out; omega, by go_num, HSi.out, HBi.out⟩
            case measure => have := K5.out; simp [intOf]; omega
          have hend : decide ((i : Int) < (s.wait.length : Int)) = false ∨ (decide ((i : Int) < (s.wait.length : Int)) = true ∧ decide ((i : Int) < 8) = false) := by
            by_cases k : i < s.wait.length
            · exact .inr ⟨decide_eq_true (by omega), decide_eq_false (by omega)⟩
            · exact .inl (decide_eq_false (by omega))
          have hend2 : ¬ i < s.wait.length ∨ (i < s.wait.length ∧ ¬ i < 8) := by omega
          clear hc
          go_upto_region 33 with fail
          go_cut [156, 157, 158, 159, 160, 161, 162, 163] from 156 to 170 (fun _ _ _ _ _ _ _ vt wx => vt = .bool false ∧ wr = wx)
          case first =>
            rcases hend with k1 | ⟨k1, k2⟩
            · have k3 : ¬ i < s.wait.length := fun h => by have := of_decide_eq_false k1; omega
              go_wp2_with fail
              go_meet
              case rel => exact ⟨rfl, rfl⟩
            · have k3 : i < s.wait.length := by have := of_decide_eq_true k1; omega
              go_wp2_with fail
              go_meet
              case rel => exact ⟨rfl, rfl⟩
          case rest =>
            obtain ⟨rfl, rfl⟩ := hcut
            clear hend hend2 hi1 hi2
            obtain ⟨q5, hq5⟩ : ∃ q5 : Nat, q5 = (zs[0 % zs.length]?.getD 0 : Nat) := ⟨_, rfl⟩
            have HQU : Hid (∀ n, Calls Try.prog 6 #[.slice a1 zs.length cap1, .int .i64 0] (wr.drewN n) fun e w' => e = .returned (.int .i64 (q5 : Int)) ∧ ∃ m, w' = (wr.drewN n).drewN m) := hid (fun n => by
              have h := take_quiet a1 cap1 zs 0 (wr.drewN n) ((HZ.out.later (below_drewN HBi.out n)).rdB.1) HZ.out.rdB.2 hzl
              rw [← hq5] at h
              exact h)
            obtain ⟨d5, hd5⟩ : ∃ d5 : Nat, d5 = q5 % 5 := ⟨_, rfl⟩
            have hd5b : d5 < 5 := by omega
            have i5 : (q5 : Int) % 5 = (d5 : Int) := by omega
            have t5 : (q5 : Int).tmod 5 = (d5 : Int) := by rw [hd5]; rfl
            clear hq5 hd5
            have e0 := cell_of_row _ _ 0 _ _ _ HF.out.b5
            have e1 := cell_of_row _ _ 1 _ _ _ HF.out.b5
            have e2 := cell_of_row _ _ 2 _ _ _ HF.out.b5
            have e3 := cell_of_row _ _ 3 _ _ _ HF.out.b5
            have ze0 := frozen_of_row _ _ 0 _ _ HF.out.b5
            have ze1 := frozen_of_row _ _ 1 _ _ HF.out.b5
            have ze2 := frozen_of_row _ _ 2 _ _ HF.out.b5
            have ze3 := frozen_of_row _ _ 3 _ _ HF.out.b5
            simp only [List.getElem?_toArray, List.getElem?_cons_zero, List.getElem?_cons_succ] at e0 e1 e2 e3
            go_upto_region 37 with fail
            go_big_quiet ((go_at_call 6; exact Calls.quiet_of (HQU.out _)))
            have HSq := hid (HSi.out.later (below_drewN (Below.refl _ wr) nq))
            have HBq := hid (below_drewN HBi.out nq)
            clear e0 ze0 e1 ze1 e2 ze2 e3 ze3
            clear HQU HF HSi HBi i5 t5
            generalize (wr.drewN nq) = wq at *
            by_cases hneg : s.next - (d5 : Int) < 0
            · have k1 : decide (s.next - (d5 : Int) < 0) = true := decide_eq_true hneg
              clear hneg
              go_wp2_with fail
              go_ret
              exact ⟨rfl, HBq.out⟩
            have k1 : decide (s.next - (d5 : Int) < 0) = false := decide_eq_false hneg
            have hdn : (d5 : Int) ≤ s.next := by omega
            have HAK := hid (wn_ack HI12.out (d5 := d5) (by omega))
            clear hneg
            obtain ⟨F, a5', c5', a6', c6', hF⟩ := HSq.out
            have HF := hid hF
            have HAC : Hid (Calls Try.prog 19 #[.agg #[.int .i64 o.epoch, .int .i64 o.next, .int .i64 o.now, .slice a6' o.wait.length c6'], .int .i64 (s.next - (d5 : Int))] wq (IoPost wq (ackO o (s.next - (d5 : Int))) 0)) := hid (by
              have h := implAck_any o a6' c6' (s.next - (d5 : Int)) wq hF.ro.now (outOK_tot HI12.out.ok)
              rw [HAK.out.1] at h
              exact h)
            clear hF
            have c0 := cell_of_row _ _ 0 _ _ _ HF.out.b6
            have c1 := cell_of_row _ _ 1 _ _ _ HF.out.b6
            have c2 := cell_of_row _ _ 2 _ _ _ HF.out.b6
            have c3 := cell_of_row _ _ 3 _ _ _ HF.out.b6
            have zc0 := frozen_of_row _ _ 0 _ _ HF.out.b6
            have zc1 := frozen_of_row _ _ 1 _ _ HF.out.b6
            have zc2 := frozen_of_row _ _ 2 _ _ HF.out.b6
            have zc3 := frozen_of_row _ _ 3 _ _ HF.out.b6
            simp only [List.getElem?_toArray, List.getElem?_cons_zero, List.getElem?_cons_succ] at c0 c1 c2 c3
            go_wp2_with fail
            refine HAC.out.mono ?_
            rintro e w20 ⟨aA, cA, ys, dA, bsA, rfl, hdA, ocut, lA, nA, tA, b20⟩
            obtain ⟨o2, ho2⟩ : ∃ o2 : PO, o2 = ackO o (s.next - (d5 : Int)) := ⟨_, rfl⟩
            have HL2 : Hid (o2.wait.length = min d5 s.wait.length) := hid (by rw [ho2]; exact HAK.out.2.1)
            have HSQ : Hid (∀ h0 : 0 < o2.wait.length, o2.wait[0].pkt.seq = s.next - ((min d5 s.wait.length : Nat) : Int)) := hid (by subst ho2; exact HAK.out.2.2)
            rw [← ho2] at hdA ⊢
            have HN21 := hid (below_new1 w20 (.cells #[.int .i64 o2.epoch, .int .i64 o2.next, .int .i64 o2.now, .slice aA o2.wait.length cA] 30))
            have HR21 : Hid (RdSl cSnt (w20.alloc (.cells #[.int .i64 o2.epoch, .int .i64 o2.next, .int .i64 o2.now, .slice aA o2.wait.length cA] 30)) o2.wait (.slice aA o2.wait.length cA)) := hid (by
              have h := ocut.rd
              rw [← List.length_drop, ← hdA] at h
              exact h.later HN21.out)
            have HJ21 := hid (heap_alloc_new w20 (.cells #[.int .i64 o2.epoch, .int .i64 o2.next, .int .i64 o2.now, .slice aA o2.wait.length cA] 30))
            have HJ5 := hid (box_laterP2 (box_laterP2 HF.out.b5 b20) HN21.out)
            have HB21 := hid (below_chain (below_chain HBq.out b20) HN21.out)
            clear ho2 hdA ocut lA nA tA b20 HN21 HAC HF HSq HBq HAK
            clear c0 zc0 c1 zc1 c2 zc2 c3 zc3
            go_upto_region 43 with fail
            generalize (w20.alloc (.cells #[.int .i64 o2.epoch, .int .i64 o2.next, .int .i64 o2.now, .slice aA o2.wait.length cA] 30)) = w21 at *
            generalize w20.heap.size = g21 at *
            have e0 := cell_of_row _ _ 0 _ _ _ HJ5.out
            have e1 := cell_of_row _ _ 1 _ _ _ HJ5.out
            have e2 := cell_of_row _ _ 2 _ _ _ HJ5.out
            have e3 := cell_of_row _ _ 3 _ _ _ HJ5.out
            have ze0 := frozen_of_row _ _ 0 _ _ HJ5.out
            have ze1 := frozen_of_row _ _ 1 _ _ HJ5.out
            have ze2 := frozen_of_row _ _ 2 _ _ HJ5.out
            have ze3 := frozen_of_row _ _ 3 _ _ HJ5.out
            simp only [List.getElem?_toArray, List.getElem?_cons_zero, List.getElem?_cons_succ] at e0 e1 e2 e3
            have c0 := cell_of_row _ _ 0 _ _ _ HJ21.out
            have c1 := cell_of_row _ _ 1 _ _ _ HJ21.out
            have c2 := cell_of_row _ _ 2 _ _ _ HJ21.out
            have c3 := cell_of_row _ _ 3 _ _ _ HJ21.out
            have zc0 := frozen_of_row _ _ 0 _ _ HJ21.out
            have zc1 := frozen_of_row _ _ 1 _ _ HJ21.out
            have zc2 := frozen_of_row _ _ 2 _ _ HJ21.out
            have zc3 := frozen_of_row _ _ 3 _ _ HJ21.out
            simp only [List.getElem?_toArray, List.getElem?_cons_zero, List.getElem?_cons_succ] at c0 c1 c2 c3
            have hle : s.next - (s.next - (d5 : Int)) = (d5 : Int) := by omega
            by_cases hL : s.wait.length < d5
            · have hLd : decide ((s.wait.length : Int) < (d5 : Int)) = true := decide_eq_true (by omega)
              have HLE : Hid (min d5 s.wait.length = s.wait.length) := hid (by omega)
              have hl1 : ((o2.wait.length : Int) == (s.wait.length : Int)) = true := by rw [HL2.out, HLE.out]; simp
              have hl2 : (o2.wait.length == s.wait.length) = true := by rw [HL2.out, HLE.out]; simp
              have hl3 : o2.wait.length = s.wait.length := by rw [HL2.out, HLE.out]
              have HL3 := hid hl3
              clear hl3
              by_cases hz0 : s.wait.length = 0
              · have hzb : ((s.wait.length : Int) == 0) = true := by rw [hz0]; rfl
                have hzc : (s.wait.length == 0) = true := by rw [hz0]; rfl
                clear hz0
                go_upto_region 46 with fail
                go_big_quiet (fail)
                go_wp2_with fail
                go_ret
                exact ⟨rfl, below_drewN HB21.out _⟩
              · have hzb : ((s.wait.length : Int) == 0) = false := beq_eq_false_iff_ne.2 (by omega)
                have hzc : (s.wait.length == 0) = false := beq_eq_false_iff_ne.2 hz0
                have hpos : 0 < o2.wait.length := by rw [HL3.out]; omega
                obtain ⟨b, off, hab, es, hrd, hce⟩ := rd_first HR21.out hpos
                subst hab
                obtain ⟨a9, c9, rfl⟩ := cSnt_shape hrd
                have h2c := hce 2 (by simp)
                simp only [List.getElem_cons_succ, List.getElem_cons_zero] at h2c
                have hsq : (o2.wait[0].pkt.seq == s.next - (s.wait.length : Int)) = true := by rw [HSQ.out hpos, HLE.out]; simp
                have hsi : (0 : Int) < (o2.wait.length : Int) := by omega
                generalize o2.wait[0].pkt.seq = sq at *
                clear hz0 hrd hce
                go_upto_region 46 with fail
                go_big_quiet (fail)
                go_wp2_with fail
                go_ret
                exact ⟨rfl, below_drewN HB21.out _⟩
            · have hLd : decide ((s.wait.length : Int) < (d5 : Int)) = false := decide_eq_false (by omega)
              have HLE : Hid (min d5 s.wait.length = d5) := hid (by omega)
              have hl1 : ((o2.wait.length : Int) == (d5 : Int)) = true := by rw [HL2.out, HLE.out]; simp
              have hl2 : (o2.wait.length == d5) = true := by rw [HL2.out, HLE.out]; simp
              have hl3 : o2.wait.length = d5 := by rw [HL2.out, HLE.out]
              have HL3 := hid hl3
              clear hl3
              by_cases hz0 : d5 = 0
              · have hzb : ((d5 : Int) == 0) = true := by rw [hz0]; rfl
                have hzc : (d5 == 0) = true := by rw [hz0]; rfl
                clear hz0
                go_upto_region 46 with fail
                go_big_quiet (fail)
                go_wp2_with fail
                go_ret
                exact ⟨rfl, below_drewN HB21.out _⟩
              · have hzb : ((d5 : Int) == 0) = false := beq_eq_false_iff_ne.2 (by omega)
                have hzc : (d5 == 0) = false := beq_eq_false_iff_ne.2 hz0
                have hpos : 0 < o2.wait.length := by rw [HL3.out]; omega
                obtain ⟨b, off, hab, es, hrd, hce⟩ := rd_first HR21.out hpos
                subst hab
                obtain ⟨a9, c9, rfl⟩ := cSnt_shape hrd
                have h2c := hce 2 (by simp)
                simp only [List.getElem_cons_succ, List.getElem_cons_zero] at h2c
                have hsq : (o2.wait[0].pkt.seq == s.next - (d5 : Int)) = true := by rw [HSQ.out hpos, HLE.out]; simp
                have hsi : (0 : Int) < (o2.wait.length : Int) := by omega
                generalize o2.wait[0].pkt.seq = sq at *
                clear hz0 hrd hce
                go_upto_region 46 with fail
                go_big_quiet (fail)
                go_wp2_with fail
                go_ret
                exact ⟨rfl, below_drewN HB21.out _⟩
      have ht12' : t < 12 := by omega
      have htd : decide ((t : Int) < 12) = true := decide_eq_true (by omega)
      clear ht12
      have hnw : o.now = s.now + (t : Int) := HI.out.nw
      have hnb1 : 0 ≤ o.now := by omega
      have hnb2 : o.now ≤ 999999999 := by omega
      clear hnw
      have HTK := hid (tickO_ok HI.out.ok (by omega))
      have HTC : Hid (Calls Try.prog 13 #[.agg #[.int .i64 o.epoch, .int .i64 o.next, .int .i64 o.now, .slice a6' o.wait.length c6']] wr (ItPost wr (tickO o) (tickG o) 0)) := hid (by
        have h := implTick_any o a6' c6' wr HF.out.ro.now (outOK_tot HI.out.ok)
        rw [HTK.out.2.1] at h
        exact h)
      have c0 := cell_of_row _ _ 0 _ _ _ HF.out.b6
      have c1 := cell_of_row _ _ 1 _ _ _ HF.out.b6
      have c2 := cell_of_row _ _ 2 _ _ _ HF.out.b6
      have c3 := cell_of_row _ _ 3 _ _ _ HF.out.b6
      have zc0 := frozen_of_row _ _ 0 _ _ HF.out.b6
      have zc1 := frozen_of_row _ _ 1 _ _ HF.out.b6
      have zc2 := frozen_of_row _ _ 2 _ _ HF.out.b6
      have zc3 := frozen_of_row _ _ 3 _ _ HF.out.b6
      simp only [List.getElem?_toArray, List.getElem?_cons_zero, List.getElem?_cons_succ] at c0 c1 c2 c3
      go_wp2_with fail
      refine HTC.out.mono ?_
      rintro e w7 ⟨aT, cT, vT, bsT, usT, rfl, oT, gT, n1, n2, n3, n4, b7⟩
      obtain ⟨aG, cG, hvG, -⟩ := gT.rd.slice
      subst hvG
      obtain ⟨o1, ho1⟩ : ∃ o1 : PO, o1 = tickO o := ⟨_, rfl⟩
      obtain ⟨D, hD⟩ : ∃ D : List Nat, D = dueI o (o.now + 1) := ⟨_, rfl⟩
      obtain ⟨G, hG⟩ : ∃ G : List (List Nat), G = D.map (fun k => pktR (wAt o k).pkt) := ⟨_, rfl⟩
      have hG2 : tickG o = G := by rw [hG, hD, ← gram_due]; exact HTK.out.2.2.2.2.2
      have HO1 := hid ho1
      have HDE := hid hD
      have HGE := hid hG
      rw [hG2] at gT
      rw [← ho1] at oT HTK
      rw [← ho1, hG2]
      have hgl8 : G.length ≤ 8 := by rw [← hG2]; exact (tickG_tot o).1
      have HGL2 : Hid (G.length = D.length) := hid (by rw [hG, List.length_map])
      have HN8 := hid (below_new1 w7 (.cells #[.int .i64 o1.epoch, .int .i64 o1.next, .int .i64 o1.now, .slice aT o1.wait.length cT] 30))
      have HS8 := hid (((((HSt.out.later b7).withX gT.byF (fun b hb => HSt.out.fresh (n4 b hb))).withX oT.byF (fun b hb => HSt.out.fresh (n3 b hb).1)).later HN8.out).withX (box_byF (heap_alloc_new w7 (.cells #[.int .i64 o1.epoch, .int .i64 o1.next, .int .i64 o1.now, .slice aT o1.wait.length cT] 30))) (fun b hb => by simp only [List.mem_singleton] at hb; subst hb; exact HSt.out.fresh b7.size))
      have HB8 := hid (below_chain (below_chain HBt.out b7) HN8.out)
      clear c0 zc0 c1 zc1 c2 zc2 c3 zc3
      clear ho1 hD hG hG2 oT gT n1 n2 n3 n4 b7 HN8 HTC HF HSt HBt
      obtain ⟨F, a5', c5', a6', c6', hF⟩ := HS8.out
      have HF := hid hF
      clear hF
      have e0 := cell_of_row _ _ 0 _ _ _ HF.out.b5
      have e1 := cell_of_row _ _ 1 _ _ _ HF.out.b5
      have e2 := cell_of_row _ _ 2 _ _ _ HF.out.b5
      have e3 := cell_of_row _ _ 3 _ _ _ HF.out.b5
      have ze0 := frozen_of_row _ _ 0 _ _ HF.out.b5
      have ze1 := frozen_of_row _ _ 1 _ _ HF.out.b5
      have ze2 := frozen_of_row _ _ 2 _ _ HF.out.b5
      have ze3 := frozen_of_row _ _ 3 _ _ HF.out.b5
      simp only [List.getElem?_toArray, List.getElem?_cons_zero, List.getElem?_cons_succ] at e0 e1 e2 e3
      have c0 := cell_of_row _ _ 0 _ _ _ HF.out.b6
      have c1 := cell_of_row _ _ 1 _ _ _ HF.out.b6
      have c2 := cell_of_row _ _ 2 _ _ _ HF.out.b6
      have c3 := cell_of_row _ _ 3 _ _ _ HF.out.b6
      have zc0 := frozen_of_row _ _ 0 _ _ HF.out.b6
      have zc1 := frozen_of_row _ _ 1 _ _ HF.out.b6
      have zc2 := frozen_of_row _ _ 2 _ _ HF.out.b6
      have zc3 := frozen_of_row _ _ 3 _ _ HF.out.b6
      simp only [List.getElem?_toArray, List.getElem?_cons_zero, List.getElem?_cons_succ] at c0 c1 c2 c3
      have n0 := cell_of_row _ _ 0 _ _ _ HF.out.rx.now.2
      have n1 := cell_of_row _ _ 1 _ _ _ HF.out.rx.now.2
      have n2 := cell_of_row _ _ 2 _ _ _ HF.out.rx.now.2
      have n3 := cell_of_row _ _ 3 _ _ _ HF.out.rx.now.2
      have zn0 := frozen_of_row _ _ 0 _ _ HF.out.rx.now.2
      have zn1 := frozen_of_row _ _ 1 _ _ HF.out.rx.now.2
      have zn2 := frozen_of_row _ _ 2 _ _ HF.out.rx.now.2
      have zn3 := frozen_of_row _ _ 3 _ _ HF.out.rx.now.2
      simp only [List.getElem?_toArray, List.getElem?_cons_zero, List.getElem?_cons_succ] at n0 n1 n2 n3
      have q1 : decide ((8 : Int) < (G.length : Int)) = false := decide_eq_false (by omega)
      have q2 : (o1.now != o.now + 1) = false := by rw [HTK.out.2.2.1]; simp
      have HOL1 : Hid (o1.wait.length = s.wait.length) := hid (by rw [HTK.out.2.2.2.2.1, tickK_len o _ _ (by unfold tickM; omega)]; exact HOL.out)
      have q3 : ((o1.wait.length : Int) != (s.wait.length : Int)) = false := by rw [HOL1.out]; simp
      have q4 : (o1.wait.length != s.wait.length) = false := by rw [HOL1.out]; simp
      go_upto_region 19 with fail
      generalize (w7.alloc (.cells #[.int .i64 o1.epoch, .int .i64 o1.next, .int .i64 o1.now, .slice aT o1.wait.length cT] 30)) = w8 at *
      generalize hg11 : w7.heap.size = g11 at *
      clear hg11 q1 q2 q3 q4
      clear e0 ze0 e1 ze1 e2 ze2 e3 ze3
      clear c0 zc0 c1 zc1 c2 zc2 c3 zc3
      clear n0 zn0 n1 zn1 n2 zn2 n3 zn3
      clear HF
      go_wp2_with fail
      go_loopw [14, 15, 16, 17, 18] (fun v14 v15 _ _ _ wr => ∃ i : Nat, i ≤ D.length ∧ v15 = .int .i64 i ∧ v14 = .int .i64 (befW D i) ∧ WnSt g5 g6 gl s o (lastU last (D.take i) (t : Int)) (fun W => (((True ∧ RdSl cSS W G (.slice aG G.length cG)) ∧ RdSl cSnt W o1.wait (.slice aT o1.wait.length cT)) ∧ W.heap[g11]? = some (.cells #[.int .i64 o1.epoch, .int .i64 o1.next, .int .i64 o1.now, .slice aT o1.wait.length cT] 30 (0, 0)))) wr ∧ Below w.heap.size w wr) (fun _ v15 _ _ _ _ => D.length - (intOf v15).toNat)
      case atStart => exact ⟨0, Nat.zero_le _, rfl, rfl, HS8.out, HB8.out⟩
      case round =>
        obtain ⟨i, hi, rfl, rfl, hS, hB⟩ := hrel
        have HSi := hid hS
        have HBi := hid hB
        clear hS hB HS8 HB8
        have hGD : G.length = D.length := HGL2.out
        obtain ⟨F, a5', c5', a6', c6', hF⟩ := HSi.out
        have HF := hid hF
        clear hF
        by_cases hil : ¬ i < D.length
        · have hgd : decide ((i : Int) < (G.length : Int)) = false := decide_eq_false (by omega)
          have hgn : ¬ i < G.length := by omega
          obtain rfl : i = D.length := by omega
          rw [List.take_length] at HSi
          clear hGD hil
          have HS9 := hid (HSi.out.setX (o' := o1) (fun _ h => h.1.2))
          have HB9 := hid (set4b (x := .int .i64 o1.epoch) (y := .int .i64 o1.next) (z := .int .i64 o1.now) (u := .slice aT o1.wait.length cT) HBi.out (show w.heap.size ≤ g6 from HG6.out))
          have n0 := cell_of_row _ _ 0 _ _ _ HF.out.rx.now.2
          have n1 := cell_of_row _ _ 1 _ _ _ HF.out.rx.now.2
          have n2 := cell_of_row _ _ 2 _ _ _ HF.out.rx.now.2
          have n3 := cell_of_row _ _ 3 _ _ _ HF.out.rx.now.2
          have zn0 := frozen_of_row _ _ 0 _ _ HF.out.rx.now.2
          have zn1 := frozen_of_row _ _ 1 _ _ HF.out.rx.now.2
          have zn2 := frozen_of_row _ _ 2 _ _ HF.out.rx.now.2
          have zn3 := frozen_of_row _ _ 3 _ _ HF.out.rx.now.2
          simp only [List.getElem?_toArray, List.getElem?_cons_zero, List.getElem?_cons_succ] at n0 n1 n2 n3
          have c0 := cell_of_row _ _ 0 _ _ _ HF.out.b6
          have c1 := cell_of_row _ _ 1 _ _ _ HF.out.b6
          have c2 := cell_of_row _ _ 2 _ _ _ HF.out.b6
          have c3 := cell_of_row _ _ 3 _ _ _ HF.out.b6
          have zc0 := frozen_of_row _ _ 0 _ _ HF.out.b6
          have zc1 := frozen_of_row _ _ 1 _ _ HF.out.b6
          have zc2 := frozen_of_row _ _ 2 _ _ HF.out.b6
          have zc3 := frozen_of_row _ _ 3 _ _ HF.out.b6
          simp only [List.getElem?_toArray, List.getElem?_cons_zero, List.getElem?_cons_succ] at c0 c1 c2 c3
          go_wp2_with fail
          go_roundw
          case rel => exact ⟨t + 1, o1, lastU last D (t : Int), by omega, by go_num, by rw [HO1.out, HDE.out]; exact wn_step HI.out ht12' hnow', HS9.out.monoX (fun _ _ => trivial), HB9.out⟩
          case measure => simp [intOf]; omega
        have hil' : i < D.length := by omega
        have hgl' : i < G.length := by omega
        have hgd : decide ((i : Int) < (G.length : Int)) = true := decide_eq_true (by omega)
        have hgi : (i : Int) < (G.length : Int) := by omega
        have hwn := wn_gram HI.out hnow' ht12' (i := i) (by rw [← HDE.out]; exact hil')
        simp only [← HDE.out] at hwn
        obtain ⟨k, hk1, hk8, hkl, hkseq, hkp, hkc, hpok, z, hz, hzz⟩ := hwn
        have HK1 := hid hk1
        have HGI : Hid (G[i] = pktR (wAt o k).pkt) := hid (by simp only [HGE.out, List.getElem_map, hk1])
        obtain ⟨p, hp⟩ : ∃ p : PP, p = (wAt o k).pkt := ⟨_, rfl⟩
        rw [← hp] at hkseq hkp hkc hpok HGI
        have hps1 : 0 ≤ p.seq := hpok.2.2.1
        have hps2 : p.seq ≤ 1000000000000 := hpok.2.2.2.1
        obtain ⟨b, off, a', c', hab, hc1, hr1⟩ := HF.out.rx.now.1.1.2.row hgl'
        subst hab
        rw [HGI.out] at hc1 hr1
        have HDC : Hid (Calls Try.prog 14 #[.slice a' (pktR p).length c'] wr (PdPost wr p 0)) := hid (by
          have h := implPd_any a' c' (pktR p) wr hr1 (by have := pktR_len p; omega)
          rw [hkp, hkc] at h
          exact h)
        have HKS := hid hkseq
        have HZE := hid hz
        have HZZ := hid hzz
        have HBF : Hid (befW D i < (k : Int)) := hid (by
          unfold befW
          split
          · omega
          · rename_i h0
            rw [List.getElem?_eq_getElem (show i - 1 < D.length by omega)]
            have h1 := (List.pairwise_iff_getElem.1 (dueI_asc o (o.now + 1))) 
            have h2 := h1 (i - 1) i (by rw [← HDE.out]; omega) (by rw [← HDE.out]; exact hil') (by omega)
            simp only [← HDE.out] at h2
            rw [HK1.out] at h2
            simp only [Option.getD_some]
            omega)
        clear hk1 hkp hkc hpok hp hr1 hkseq hz hzz hGD hil HF
        go_wp2_with fail
        refine HDC.out.mono ?_
        rintro e w9 ⟨aD, cD, rfl, oD, b9⟩
        have HN10 := hid (below_new1 w9 (.cells #[.int .i64 p.kind, .int .i64 p.epoch, .int .i64 p.seq, .int .i64 p.count, .bool p.last, .slice aD p.data.length cD] 35))
        have HS10 := hid ((HSi.out.later b9).later HN10.out)
        have HB10 := hid (below_chain (below_chain HBi.out b9) HN10.out)
        have HP10 := hid (heap_alloc_new w9 (.cells #[.int .i64 p.kind, .int .i64 p.epoch, .int .i64 p.seq, .int .i64 p.count, .bool p.last, .slice aD p.data.length cD] 35))
        clear oD b9 HN10 HDC HSi HBi hc1
        go_upto_region 24 with fail
        generalize (w9.alloc (.cells #[.int .i64 p.kind, .int .i64 p.epoch, .int .i64 p.seq, .int .i64 p.count, .bool p.last, .slice aD p.data.length cD] 35)) = w10 at *
        generalize w9.heap.size = g16 at *
        have p0 := cell_of_row _ _ 0 _ _ _ HP10.out
        have p1 := cell_of_row _ _ 1 _ _ _ HP10.out
        have p2 := cell_of_row _ _ 2 _ _ _ HP10.out
        have p3 := cell_of_row _ _ 3 _ _ _ HP10.out
        have p4 := cell_of_row _ _ 4 _ _ _ HP10.out
        have p5 := cell_of_row _ _ 5 _ _ _ HP10.out
        have zp0 := frozen_of_row _ _ 0 _ _ HP10.out
        have zp1 := frozen_of_row _ _ 1 _ _ HP10.out
        have zp2 := frozen_of_row _ _ 2 _ _ HP10.out
        have zp3 := frozen_of_row _ _ 3 _ _ HP10.out
        have zp4 := frozen_of_row _ _ 4 _ _ HP10.out
        have zp5 := frozen_of_row _ _ 5 _ _ HP10.out
        simp only [List.getElem?_toArray, List.getElem?_cons_zero, List.getElem?_cons_succ] at p0 p1 p2 p3 p4 p5
        obtain ⟨F, a5', c5', a6', c6', hF⟩ := HS10.out
        have HF := hid hF
        clear hF
        obtain ⟨hcz, hfz⟩ := HF.out.cellL HZE.out
        have hkq : p.seq - (s.next - (s.wait.length : Int)) = (k : Int) := HKS.out
        have hki : (k : Int) < (s.wait.length : Int) := by omega
        obtain ⟨bf, hbf⟩ : ∃ bf : Int, bf = befW D i := ⟨_, rfl⟩
        rw [← hbf] at HBF
        rw [← hbf]
        clear hbf
        have f1 : decide ((k : Int) < 0) = false := decide_eq_false (by omega)
        have f2 : decide ((s.wait.length : Int) ≤ (k : Int)) = false := decide_eq_false (by omega)
        have f2' : ¬ s.wait.length ≤ k := by omega
        have f3 : decide ((8 : Int) ≤ (k : Int)) = false := decide_eq_false (by omega)
        have f3' : ¬ 8 ≤ k := by omega
        have f4 : decide ((k : Int) ≤ bf) = false := decide_eq_false (by have := HBF.out; omega)
        have f4' : ¬ (k : Int) ≤ bf := by have := HBF.out; omega
        go_upto_region 27 with fail
        clear f1 f2 f2' f3 f3' f4 f4' hkq
        go_cut [136, 137, 138, 139, 140, 141, 142, 143, 144, 145, 146, 147, 148, 149] from 97 to 154 (fun _ _ _ _ _ _ _ _ _ _ _ _ _ vt wx => vt = .bool false ∧ w10 = wx)
        case first =>
          rcases HZZ.out with hz | ⟨hz1, hz2, hz3⟩
          · have j1 : decide ((0 : Int) ≤ z) = false := decide_eq_false (by omega)
            clear hz
            go_wp2_with fail
            go_meet
            case rel => exact ⟨rfl, rfl⟩
          · have j1 : decide ((0 : Int) ≤ z) = true := decide_eq_true (by omega)
            have j2 : decide ((t : Int) - z < 4) = false := decide_eq_false (by omega)
            go_wp2_with fail
            go_meet
            case rel => exact ⟨rfl, rfl⟩
        case rest =>
          obtain ⟨rfl, rfl⟩ := hcut
          have HS11 := hid (HS10.out.setL k (t : Int))
          have HB11 := hid (HB10.out.setCell (p := ⟨gl, k, none⟩) HGL.out (.int .i64 (t : Int)))
          go_wp2_with fail
          go_roundw
          case rel =>
            refine ⟨i + 1, by omega, by go_num, ?_, ?_, HB11.out⟩
            · have : befW D (i + 1) = (k : Int) := by unfold befW; rw [if_neg (by omega), Nat.add_sub_cancel, List.getElem?_eq_getElem hil', HK1.out]; rfl
              rw [this]
            · rw [lastU_succ last D _ i hil', HK1.out]; exact HS11.out
          case measure => simp [intOf]; omega
end Go.Proofs.Ytmaccmgmcahopaa
