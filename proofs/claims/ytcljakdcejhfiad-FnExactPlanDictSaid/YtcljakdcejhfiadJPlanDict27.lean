import Derived.Test.YtcljakdcejhfiadJPlanDict21
import Derived.Test.YtcljakdcejhfiadJPlanDict23
import Derived.Test.YtcljakdcejhfiadJPlanDict25
import Derived.Test.YtcljakdcejhfiadJPlanDict26
import Derived.Deep.RegionHeld
namespace Go.Proofs.Ytcljakdcejhfiad
open Go.RowKit
set_option maxRecDepth 100000 in
set_option maxHeartbeats 4000000 in
theorem l2texts100_any (a : Option Addr) (cap : Nat) (xs : List PC) (w : World) (hr : RdSl cCell w xs (.slice a xs.length cap)) (hl : xs.length ≤ 100) :
    Calls Try.prog 49 #[.slice a xs.length cap, .int .i64 100] w fun e w' => ∃ v, e = .returned v ∧ RdSl cSS w' (ddv (nn xs)) v ∧ Below w.heap.size w w' := by
  obtain ⟨i0, hi, hz0, hz1, hz2⟩ := info_parts infoSlG
  have HR := hid hr
  have HLE : Hid (∀ k, (ddv (nn (xs.take k))).length ≤ k) := hid (fun k => by
    have h1 := (tot_ddv (nn (xs.take k))).2
    have h2 := nn_len (xs.take k)
    simp at h2; omega)
  clear hr
  go_enter Try.func49, Try.ntmps49
  go_wp2
  go_loopw [5, 6] (fun v i wr => ∃ (k : Nat) (a' : Option Addr) (c' : Nat), k ≤ xs.length ∧ i = .int .i64 k ∧ v = .slice a' (ddv (nn (xs.take k))).length c' ∧ Gath w wr v (ddv (nn (xs.take k))) ∧ Below w.heap.size w wr) (fun _ i _ => xs.length - (intOf i).toNat)
  case atStart => exact ⟨0, none, 0, Nat.zero_le _, rfl, by simp [nn, ddv], by simpa [nn, ddv] using Gath.nil w, Below.refl _ _⟩
  case round =>
    obtain ⟨k, a', c', hk, rfl, rfl, hga, hbe⟩ := hrel
    have HG := hid hga
    have HB := hid hbe
    have hle := HLE.out k
    clear hga hbe
    by_cases hlt : k < xs.length
    · have hki : (k : Int) < (xs.length : Int) := by omega
      obtain ⟨b, off, v0, v1, v2, rfl, hes, d0, d1, d2⟩ := (HR.out.later HB.out).at3 rfl hlt
      obtain ⟨ax, cx, e⟩ := cCell_shape hes
      simp only [List.cons.injEq, and_true] at e
      obtain ⟨rfl, rfl, rfl⟩ := e
      have hT : RdSl cByte w xs[k].text (.slice ax xs[k].text.length cx) := by
        obtain ⟨b', off', y0, y1, y2, e', hy, q0, q1, q2⟩ := HR.out.at3 (k := k) rfl hlt
        simp only [Option.some.injEq, Addr.mk.injEq, and_true] at e'
        obtain ⟨rfl, rfl⟩ := e'
        have hlt2 := World.block_lt_of_cell? _ _ q2
        have e2 := (HB.out.cell (p := ⟨b, off + k * 3 + 2, none⟩) hlt2).symm.trans d2
        rw [q2] at e2
        obtain ⟨v, e3, hv, _⟩ := cCell_rd hy
        simp only [List.cons.injEq, and_true] at e3
        simp only [Option.some.injEq] at e2
        rw [← e2, e3.2.2]; exact hv
      have HT := hid hT
      have HS := hid (nn_snoc xs k hlt)
      have HQ : Hid (Calls Try.prog 75 #[.slice a' (ddv (nn (xs.take k))).length c', .slice ax xs[k].text.length cx] wr fun e w' => e = .returned (.int .i64 (place (ddv (nn (xs.take k))) xs[k].text)) ∧ w' = wr) := hid (by
        obtain ⟨_, _, e', -, -, -, hrd, hby⟩ := (HT.out.later HB.out).bytes
        simp only [Value.slice.injEq] at e'
        obtain ⟨rfl, -, rfl⟩ := e'
        exact l2place_any a' ax c' cx _ _ wr (HG.out.rd HB.out) hrd hby (by omega))
      have HP := hid (place_neg (vs := ddv (nn (xs.take k))) (t := xs[k].text))
      have HPL := hid (place_lt (ddv (nn (xs.take k))) xs[k].text)
      clear hes hT
      cases hnul : xs[k].null
      · rw [hnul] at d0
        have HSN : Hid (nn (xs.take (k + 1)) = nn (xs.take k) ++ [xs[k].text]) := hid (by rw [HS.out, hnul]; rfl)
        by_cases hp : place (ddv (nn (xs.take k))) xs[k].text < 0
        · have HS2 : Hid (ddv (nn (xs.take (k + 1))) = ddv (nn (xs.take k)) ++ [xs[k].text]) := hid (by rw [HSN.out, ddv_snoc, if_neg (HP.out.1 hp)])
          obtain ⟨vals, how, hel⟩ := HG.out
          have hvl : vals.length = (ddv (nn (xs.take k))).length := by have := how.1; omega
          have HO := hid how
          have HEL := hid hel
          have HVL := hid hvl
          clear how hel hvl
          generalize ddv (nn (xs.take k)) = L at *
          generalize place L xs[k].text = p at *
          have hd : decide ((L.length : Int) ≤ 100) = true := decide_eq_true (by omega)
          go_wp2_with fail
          refine HQ.out.mono ?_
          rintro e w2 ⟨rfl, rfl⟩
          go_wp2_with (first | (at_builtin; refine wpList_append_own _ rfl _ _ 45 rfl w.heap.size 69 i0 (.slice none 0 0) 1 24 Try.underlying45 hi hz0 hz1 hz2 rfl (by decide) _ L.length _ rfl (HO.out.alloc _) ⟨w2.heap.size, 0, none⟩ 1 1 [.slice ax xs[k].text.length cx] rfl rfl (cell_one_new _ _ _) (one_cell rfl) (by unfold maxLen; omega) (by omega) (by have := HB.out.size; simp; omega) ?_))
          intro v' w1 hown' hgrow _
          have HB1 : Hid (Below w.heap.size w w1) := hid ((HB.out.alloc HB.out.size _).grown hgrow (by have := HB.out.size; simp; omega) (fun k h => (World.ownsRow.lt HO.out k h).1))
          obtain ⟨a3, c3, hv3⟩ : ∃ a3 c3, v' = .slice a3 (L.length + 1) c3 := by
            rcases hown'.2 with ⟨_, h0⟩ | ⟨g, cc, _, h, _⟩
            · omega
            · exact ⟨_, cc, h⟩
          subst hv3
          have HG1 : Hid (Gath w w1 (.slice a3 (L.length + 1) c3) (ddv (nn (xs.take (k + 1))))) := hid (by rw [HS2.out]; exact Gath.snoc HVL.out HEL.out hown' HT.out)
          have HLN : Hid ((ddv (nn (xs.take (k + 1)))).length = L.length + 1) := hid (by rw [HS2.out]; simp)
          clear hown' hgrow
          go_wp2
          go_roundw
          case rel => exact ⟨k + 1, a3, c3, by omega, by go_num, by rw [HLN.out], HG1.out, HB1.out⟩
          case measure => simp [intOf]; omega
        · have HS2 : Hid (ddv (nn (xs.take (k + 1))) = ddv (nn (xs.take k))) := hid (by rw [HSN.out, ddv_snoc, if_pos (Classical.not_not.1 (fun h => hp (HP.out.2 h)))])
          generalize ddv (nn (xs.take k)) = L at *
          generalize place L xs[k].text = p at *
          have hd : decide ((L.length : Int) ≤ 100) = true := decide_eq_true (by omega)
          have hpl := HPL.out
          go_wp2_with fail
          refine HQ.out.mono ?_
          rintro e w2 ⟨rfl, rfl⟩
          go_wp2
          go_roundw
          case rel => exact ⟨k + 1, a', c', by omega, by go_num, by rw [HS2.out], by rw [HS2.out]; exact HG.out, HB.out⟩
          case measure => simp [intOf]; omega
      · rw [hnul] at d0
        have HS2 : Hid (ddv (nn (xs.take (k + 1))) = ddv (nn (xs.take k))) := hid (by rw [HS.out, hnul]; simp)
        generalize ddv (nn (xs.take k)) = L at *
        have hd : decide ((L.length : Int) ≤ 100) = true := decide_eq_true (by omega)
        go_wp2
        go_roundw
        case rel => exact ⟨k + 1, a', c', by omega, by go_num, by rw [HS2.out], by rw [HS2.out]; exact HG.out, HB.out⟩
        case measure => simp [intOf]; omega
    · obtain rfl : k = xs.length := by omega
      have HX : Hid (RdSl cSS wr (ddv (nn xs)) (.slice a' (ddv (nn (xs.take xs.length))).length c')) := hid (by have := HG.out.rd HB.out; rw [List.take_length] at this ⊢; exact this)
      generalize (ddv (nn (xs.take xs.length))).length = n at *
      go_wp2
      go_ret
      exact ⟨_, rfl, HX.out, HB.out⟩
theorem field3 : fieldOK cell3 = true := by decide
theorem all_at {p : PC → Bool} {xs : List PC} {k : Nat} (hk : k < xs.length) (h : p xs[k] = false) : xs.all p = false := by
  rw [List.all_eq_false]; exact ⟨xs[k], List.getElem_mem hk, by simp [h]⟩
theorem all_to {p : PC → Bool} {xs : List PC} (h : ∀ k, (hk : k < xs.length) → p xs[k] = true) : xs.all p = true := by
  rw [List.all_eq_true]
  intro x hx
  obtain ⟨k, hk, rfl⟩ := List.getElem_of_mem hx
  exact h k hk
set_option maxHeartbeats 4000000 in
theorem l2cellsOK_any (f : PF) (fcs : List Value) (a : Option Addr) (cap : Nat) (xs : List PC) (w : World) (h1 : cField.rd w f fcs) (hr : RdSl cCell w xs (.slice a xs.length cap)) (hl : xs.length ≤ 1048576) (hf : fieldOK f = true) (hk3 : f.kind = 3) :
    Calls Try.prog 74 #[val fcs, .slice a xs.length cap] w fun e w' => e = .returned (.bool (decide (xs.length ≤ 100) && xs.all (cellOK f))) ∧ Below w.heap.size w w' := by
  have HF := hid h1
  obtain ⟨a1, c1, rfl⟩ := cField_shape h1
  have HR := hid hr
  have HFO := hid hf
  have HK3 := hid hk3
  have HQ1 : Hid (∀ w', Below w.heap.size w w' → Calls Try.prog 95 #[.agg #[.slice a1 f.name.length c1, .int .i64 f.kind, .int .i64 f.width]] w' fun e w2 => e = .returned (.bool true) ∧ Below w'.heap.size w' w2) := hid (fun w' hb => by
    have h := l2fieldOK_any f _ w' (cField.later HF.out hb)
    rw [HFO.out] at h
    exact h)
  simp only [val]
  clear h1 hr hf hk3
  go_enter Try.func74, Try.ntmps74
  go_wp2_with fail
  refine (HQ1.out _ (below_new1 _ _)).mono ?_
  rintro e w1 ⟨rfl, b1⟩
  have HK1 : Hid (w1.heap[w.heap.size]? = some (.cells #[.slice a1 f.name.length c1, .int .i64 f.kind, .int .i64 f.width] 84 (0, 0))) := hid (heap1 _ (by simpa using b1))
  have HB1 : Hid (Below w.heap.size w w1) := hid ((below_new1 w _).trans (b1.mono (by simp)))
  clear b1
  by_cases h100 : 100 < xs.length
  · have HX : Hid (decide (xs.length ≤ 100) = false) := hid (decide_eq_false (by omega))
    go_wp2
    go_ret
    exact ⟨by rw [HX.out]; rfl, HB1.out⟩
  have HX1 : Hid (decide (xs.length ≤ 100) = true) := hid (decide_eq_true (by omega))
  go_wp2
  go_loopw [5] (fun i wr => ∃ k : Nat, k ≤ xs.length ∧ i = .int .i64 k ∧ (∀ j, (h : j < xs.length) → j < k → cellOK f xs[j] = true) ∧ wr.heap[w.heap.size]? = some (.cells #[.slice a1 f.name.length c1, .int .i64 f.kind, .int .i64 f.width] 84 (0, 0)) ∧ Below w.heap.size w wr) (fun i _ => xs.length - (intOf i).toNat)
  case atStart => exact ⟨0, Nat.zero_le _, rfl, fun j _ h => by omega, HK1.out, HB1.out⟩
  case round =>
    obtain ⟨k, hk, rfl, hall, hblk, hbe⟩ := hrel
    have HA := hid hall
    have HK := hid hblk
    have HB := hid hbe
    clear hall hblk hbe
    by_cases hlt : k < xs.length
    · have d0 := cell_of_row wr _ 0 _ _ _ HK.out
      have d1 := cell_of_row wr _ 1 _ _ _ HK.out
      have d2 := cell_of_row wr _ 2 _ _ _ HK.out
      simp at d0 d1 d2
      obtain ⟨b2, o2, y0, y1, y2, rfl, hes2, g0, g1, g2⟩ := (HR.out.later HB.out).at3 (k := k) rfl hlt
      obtain ⟨ay, cy, e⟩ := cCell_shape hes2
      simp only [List.cons.injEq, and_true] at e
      obtain ⟨rfl, rfl, rfl⟩ := e
      have hki : (k : Int) < (xs.length : Int) := by omega
      have HQ2 : Hid (Calls Try.prog 48 #[.agg #[.slice a1 f.name.length c1, .int .i64 f.kind, .int .i64 f.width], .agg #[.bool xs[k].null, .int .i64 xs[k].num, .slice ay xs[k].text.length cy]] wr.drew fun e w' => e = .returned (.bool (cellOK f xs[k])) ∧ Hid (Below wr.heap.size wr w') ∧ w'.cell? ⟨w.heap.size, 0, none⟩ = some (.slice a1 f.name.length c1) ∧ w'.cell? ⟨w.heap.size, 1, none⟩ = some (.int .i64 f.kind) ∧ w'.cell? ⟨w.heap.size, 2, none⟩ = some (.int .i64 f.width) ∧ w'.cell? ⟨b2, o2 + k * 3, none⟩ = some (.bool xs[k].null) ∧ w'.cell? ⟨b2, o2 + k * 3 + 1, none⟩ = some (.int .i64 xs[k].num) ∧ w'.cell? ⟨b2, o2 + k * 3 + 2, none⟩ = some (.slice ay xs[k].text.length cy)) := hid (by
        refine (l2cellOK_any f xs[k] _ _ wr.drew (cField.later (cField.later HF.out HB.out) (Below.refl _ _).drew) (cCell.later hes2 (Below.refl _ _).drew) (fun h => by rw [HK3.out] at h; cases h)).mono ?_
        rintro e w' ⟨rfl, b⟩
        have kp : ∀ p v, wr.cell? p = some v → w'.cell? p = some v := fun p v h => (b.cell (World.block_lt_of_cell? _ _ h)).trans h
        exact ⟨rfl, hid ((Below.refl _ wr).drew.trans b), kp _ _ d0, kp _ _ d1, kp _ _ d2, kp _ _ g0, kp _ _ g1, kp _ _ g2⟩)
      clear hes2
      cases hok : cellOK f xs[k]
      · have HX : Hid (xs.all (cellOK f) = false) := hid (all_at hlt hok)
        rw [hok] at HQ2
        go_wp2
        first | (go_region_held (fun w' => w'.cell? ⟨w.heap.size, 0, none⟩ = some (.slice a1 f.name.length c1) ∧ w'.cell? ⟨w.heap.size, 1, none⟩ = some (.int .i64 f.kind) ∧ w'.cell? ⟨w.heap.size, 2, none⟩ = some (.int .i64 f.width) ∧ w'.cell? ⟨b2, o2 + k * 3, none⟩ = some (.bool xs[k].null) ∧ w'.cell? ⟨b2, o2 + k * 3 + 1, none⟩ = some (.int .i64 xs[k].num) ∧ w'.cell? ⟨b2, o2 + k * 3 + 2, none⟩ = some (.slice ay xs[k].text.length cy)) (go_keep) (first | (go_at_call 48; refine HQ2.out.mono ?_; rintro e w' ⟨rfl, hw', hd0, hd1, hd2, hg0, hg1, hg2⟩))) | fail
        go_wp2
        go_ret
        exact ⟨by rw [HX1.out, HX.out]; rfl, HB.out.trans (hw'.out.mono HB.out.size)⟩
      · have HX : Hid (∀ q, (h : q < xs.length) → q < k + 1 → cellOK f xs[q] = true) := hid (fun q hq hqi => by
          by_cases e : q = k
          · subst e; exact hok
          · exact HA.out q hq (by omega))
        rw [hok] at HQ2
        go_wp2
        first | (go_region_held (fun w' => w'.cell? ⟨w.heap.size, 0, none⟩ = some (.slice a1 f.name.length c1) ∧ w'.cell? ⟨w.heap.size, 1, none⟩ = some (.int .i64 f.kind) ∧ w'.cell? ⟨w.heap.size, 2, none⟩ = some (.int .i64 f.width) ∧ w'.cell? ⟨b2, o2 + k * 3, none⟩ = some (.bool xs[k].null) ∧ w'.cell? ⟨b2, o2 + k * 3 + 1, none⟩ = some (.int .i64 xs[k].num) ∧ w'.cell? ⟨b2, o2 + k * 3 + 2, none⟩ = some (.slice ay xs[k].text.length cy)) (go_keep) (first | (go_at_call 48; refine HQ2.out.mono ?_; rintro e w' ⟨rfl, hw', hd0, hd1, hd2, hg0, hg1, hg2⟩))) | fail
        have HBW := hid (HB.out.trans (hw'.out.mono HB.out.size))
        have HKW := hid ((hw'.out.block w.heap.size (Array.getElem?_eq_some_iff.1 HK.out).1).trans HK.out)
        go_wp2
        go_roundw
        case rel => exact ⟨k + 1, by omega, by go_num, HX.out, HKW.out, HBW.out⟩
        case measure => simp [intOf]; omega
    · obtain rfl : k = xs.length := by omega
      have HX : Hid (xs.all (cellOK f) = true) := hid (all_to (fun q hq => HA.out q hq hq))
      go_wp2
      go_ret
      exact ⟨by rw [HX1.out, HX.out]; rfl, HB.out⟩
end Go.Proofs.Ytcljakdcejhfiad
