import Derived.Test.YtmaccmgmcahopaaJBound44
import Derived.Test.YtmaccmgmcahopaaJBound17
import Derived.Test.YtmaccmgmcahopaaJBound11
import Derived.Test.YtmaccmgmcahopaaJBound18
namespace Go.Proofs.Ytmaccmgmcahopaa
open Go.RowKit Go.Maps Go.WideMaps
set_option maxHeartbeats 1000000 in
theorem implDict_any (a : Option Addr) (cap : Nat) (vs : List (List Nat)) (w : World) (hr : RdSl cSS w vs (.slice a vs.length cap)) (ht : totL List.length vs ≤ 1048576) :
    Calls Try.prog 11 #[.slice a vs.length cap] w fun e w' => e = .returned (.bool (dictOK vs)) ∧ Below w.heap.size w w' := by
  have hlen : vs.length ≤ 1048576 := by unfold totL at ht; omega
  by_cases h1 : 40 < vs.length
  · have HD := hid (dictOK_len (vs := vs) (by omega))
    go_enter Try.func11, Try.ntmps11
    go_wp2
    go_ret
    exact ⟨by rw [HD.out]; rfl, Below.refl _ _⟩
  have HQ := hid (bytesOfTexts_any a cap vs w hr ht)
  have HN := hid (newDict_any a cap vs w hr ht)
  have HOK := hid hr.allOK
  have HT : Hid (¬ tot vs ≤ 4000 → dictOK vs = false) := hid dictOK_tot
  have HC : Hid (tot vs ≤ 4000 → dictOK vs = decide (cnt vs vs.length = vs.length)) := hid (dictOK_cnt vs (by omega))
  have htot : tot vs ≤ 1048576 := by rw [totL_tot] at ht; omega
  clear hr ht
  generalize tot vs = t at *
  by_cases h2 : 4000 < t
  · have HX := hid (HT.out (by omega))
    go_enter Try.func11, Try.ntmps11
    go_wp2_with fail
    refine HQ.out.mono ?_
    rintro e w ⟨rfl, rfl⟩
    go_wp2
    go_ret
    exact ⟨by rw [HX.out]; rfl, Below.refl _ _⟩
  · have HX := hid (HC.out (by omega))
    go_enter Try.func11, Try.ntmps11
    go_wp2_with fail
    refine HQ.out.mono ?_
    rintro e w ⟨rfl, rfl⟩
    go_wp2_with fail
    refine HN.out.mono ?_
    rintro e w2 ⟨m, rfl, hm, ho, b2⟩
    have HS : Hid (Maps.size (dmap vs vs.length) = cnt vs vs.length) := hid (dmap_size HOK.out vs.length (Nat.le_refl _))
    have HO := hid ho
    have HB := hid b2
    clear ho b2
    have hfd := dictField1 (.slice a vs.length cap) (.map (some m)) w2
    have hln := HO.out.len Try.underlying85 3
    rw [HS.out] at hln
    have hcn := cnt_le vs vs.length
    generalize hc : cnt vs vs.length = c at *
    go_wp2
    go_ret
    exact ⟨by rw [HX.out]; simp; exact natBeq _ _, HB.out⟩
end Go.Proofs.Ytmaccmgmcahopaa
namespace Go.Proofs.Ytmaccmgmcahopaa
open Go.RowKit
def Gath (w wr : World) (v : Value) (xss : List (List Nat)) : Prop :=
  ∃ vals : List Value, wr.ownsRow w.heap.size 22 1 v xss.length vals ∧ ∀ i, (h : i < xss.length) → ∃ u, vals[i]? = some u ∧ RdSl cByte w xss[i] u
theorem Gath.nil (w : World) : Gath w w (.slice none 0 0) [] := ⟨[], World.ownsRow_nil _ _ _ _, fun i h => by simp at h⟩
theorem Gath.kept {w wr w' : World} {v : Value} {xss : List (List Nat)} (h : Gath w wr v xss) (hb : Below wr.heap.size wr w') : Gath w w' v xss := by
  obtain ⟨vals, ho, hi⟩ := h
  exact ⟨vals, own_later ho hb, hi⟩
theorem Gath.rd {w wr : World} {v : Value} {xss : List (List Nat)} (h : Gath w wr v xss) (hb : Below w.heap.size w wr) : RdSl cSS wr xss v := by
  obtain ⟨vals, ho, hi⟩ := h
  have hvl : vals.length = xss.length := by have := ho.1; omega
  rcases ho.2 with ⟨rfl, h0⟩ | ⟨g, cap, cur, rfl, hg, hh, hn, hm, r⟩
  · obtain rfl := List.length_eq_zero_iff.1 h0
    exact RdSl.empty none
  · refine ⟨_, cap, rfl, hn, hm, (fun h => by cases h), .inr ⟨g, 0, rfl, fun i h => ?_⟩⟩
    obtain ⟨u, hu, hr⟩ := hi i h
    refine ⟨[u], ⟨u, rfl, hr.later hb⟩, fun j hj => ?_⟩
    have hj0 : j = 0 := by simpa using hj
    subst hj0
    have := World.ownsRow.cellAt ho i (by omega)
    rw [show 0 + (i * cSS.n + 0) = i from by simp [cSl], this, hu]; rfl
theorem Gath.snoc {w w1 : World} {v' u : Value} {xss : List (List Nat)} {t : List Nat} {vals : List Value} (hl : vals.length = xss.length) (hi : ∀ i, (h : i < xss.length) → ∃ u, vals[i]? = some u ∧ RdSl cByte w xss[i] u)
    (ho : w1.ownsRow w.heap.size 22 1 v' (xss.length + 1) (vals ++ [u])) (hu : RdSl cByte w t u) : Gath w w1 v' (xss ++ [t]) := by
  refine ⟨vals ++ [u], by simpa using ho, fun i h => ?_⟩
  by_cases e : i < xss.length
  · obtain ⟨u', h1, h2⟩ := hi i e
    exact ⟨u', by rw [List.getElem?_append_left (by omega)]; exact h1, by rw [List.getElem_append_left e]; exact h2⟩
  · have hie : i = xss.length := by simp at h; omega
    subst hie
    exact ⟨u, by simp [← hl], by simpa using hu⟩
theorem infoSlG : (Try.prog.info? 22).map (fun i => (i.zero, i.size, i.bytes)) = some (some (.slice none 0 0), 1, 24) := by kernel_rfl
theorem nn_len (cs : List PC) : (nn cs).length ≤ cs.length := by unfold nn; rw [List.length_map]; exact List.length_filter_le _ _
end Go.Proofs.Ytmaccmgmcahopaa
namespace Go.Proofs.Ytmaccmgmcahopaa
open Go.RowKit
set_option maxRecDepth 100000 in
set_option maxHeartbeats 2000000 in
theorem textsOfCells_any (a : Option Addr) (cap : Nat) (xs : List PC) (w : World) (hr : RdSl cCell w xs (.slice a xs.length cap)) (hl : xs.length ≤ 1048576) :
    Calls Try.prog 41 #[.slice a xs.length cap] w fun e w' => ∃ v, e = .returned v ∧ RdSl cSS w' (nn xs) v ∧ Below w.heap.size w w' := by
  obtain ⟨i0, hi, hz0, hz1, hz2⟩ := info_parts infoSlG
  have HR := hid hr
  clear hr
  go_enter Try.func41, Try.ntmps41
  go_wp2
  go_loopw [3, 5, 8] (fun v _ i wr => ∃ k : Nat, k ≤ xs.length ∧ i = .int .i64 k ∧ Gath w wr v (nn (xs.take k)) ∧ Below w.heap.size w wr) (fun _ _ i _ => xs.length - (intOf i).toNat)
  case atStart => exact ⟨0, Nat.zero_le _, rfl, by simpa [nn] using Gath.nil w, Below.refl _ _⟩
  case round =>
    obtain ⟨k, hk, rfl, hga, hbe⟩ := hrel
    have HG := hid hga
    have HB := hid hbe
    clear hga hbe
    by_cases hlt : k < xs.length
    · obtain ⟨b, off, v0, v1, v2, rfl, hes, d0, d1, d2⟩ := (HR.out.later HB.out).at3 rfl hlt
      obtain ⟨ax, cx, e⟩ := cCell_shape hes
      simp only [List.cons.injEq, and_true] at e
      obtain ⟨rfl, rfl, rfl⟩ := e
      have hT : RdSl cByte w xs[k].text (.slice ax xs[k].text.length cx) := by
        obtain ⟨b', off', y0, y1, y2, e', hy, q0, q1, q2⟩ := HR.out.at3 (k := k) rfl hlt
        simp only [Option.some.injEq, Addr.mk.injEq, and_true] at e'
        obtain ⟨rfl, rfl⟩ := e'
        have hlt2 := World.block_lt_of_cell? _ _ q2
        have e2 := (HB.out.cell (p := ⟨b, off + k * 3 + 2, none⟩) hlt2).symm.trans d2
        rw [q2] at e2
        obtain ⟨v, e3, hv, _⟩ := cCell_rd hy
        simp only [List.cons.injEq, and_true] at e3
        simp only [Option.some.injEq] at e2
        rw [← e2, e3.2.2]; exact hv
      have HT := hid hT
      have HS := hid (nn_snoc xs k hlt)
      have hnl := nn_len (xs.take k)
      have hnl2 : (xs.take k).length ≤ 1048576 := by simp; omega
      have hki : (k : Int) < (xs.length : Int) := by omega
      clear hes hT
      cases hnul : xs[k].null
      · have HS2 : Hid (nn (xs.take (k + 1)) = nn (xs.take k) ++ [xs[k].text]) := hid (by rw [HS.out, hnul]; rfl)
        obtain ⟨vals, how, hel⟩ := HG.out
        have hvl : vals.length = (nn (xs.take k)).length := by have := how.1; omega
        have HO := hid how
        have HEL := hid hel
        have HVL := hid hvl
        clear how hel hvl
        rw [hnul] at d0
        generalize nn (xs.take k) = L at *
        go_wp2_with (first | (at_builtin; refine wpList_append_own _ rfl _ _ 24 rfl w.heap.size 22 i0 (.slice none 0 0) 1 24 Try.underlying24 hi hz0 hz1 hz2 rfl (by decide) _ L.length _ rfl ((HO.out.alloc _).alloc _) ⟨wr.heap.size + 1, 0, none⟩ 1 1 [.slice ax xs[k].text.length cx] rfl rfl (by intro j u hj; have h := cell_one_new (wr.alloc (.cells #[.bool false, .int .i64 xs[k].num, .slice ax xs[k].text.length cx] 122)) (.slice ax xs[k].text.length cx) 22 j u hj; rw [show (wr.alloc (.cells #[.bool false, .int .i64 xs[k].num, .slice ax xs[k].text.length cx] 122)).heap.size = wr.heap.size + 1 from by simp] at h; exact h) (one_cell rfl) (by unfold maxLen; omega) (by omega) (by have := HB.out.size; simp; omega) ?_))
        intro v' w1 hown' hgrow _
        have HB1 : Hid (Below w.heap.size w w1) := hid (((HB.out.alloc HB.out.size _).alloc (by have := HB.out.size; simp; omega) _).grown hgrow (by have := HB.out.size; simp; omega) (fun k h => (World.ownsRow.lt HO.out k h).1))
        have HG1 : Hid (Gath w w1 v' (nn (xs.take (k + 1)))) := hid (by rw [HS2.out]; exact Gath.snoc HVL.out HEL.out hown' HT.out)
        clear hown' hgrow
        go_wp2
        go_roundw
        case rel => exact ⟨k + 1, by omega, by go_num, HG1.out, HB1.out⟩
        case measure => simp [intOf]; omega
      · have HS2 : Hid (nn (xs.take (k + 1)) = nn (xs.take k)) := hid (by rw [HS.out, hnul]; simp)
        rw [hnul] at d0
        go_wp2
        go_roundw
        case rel => exact ⟨k + 1, by omega, by go_num, by rw [HS2.out]; exact HG.out.kept (below_new1 _ _), HB.out.alloc HB.out.size _⟩
        case measure => simp [intOf]; omega
    · obtain rfl : k = xs.length := by omega
      have hF := HG.out.rd HB.out
      rw [List.take_length] at hF
      have HF := hid hF
      clear hF
      go_wp2
      go_ret
      exact ⟨_, rfl, HF.out, HB.out⟩
end Go.Proofs.Ytmaccmgmcahopaa
namespace Go.Proofs.Ytmaccmgmcahopaa
open Go.RowKit Go.Maps
set_option maxHeartbeats 400000 in
theorem validRows_any (r : Int) (w : World) : Calls Try.prog 40 #[.int .i64 r] w fun e w' => e = .returned (.bool (decide (0 ≤ r ∧ r ≤ 100))) ∧ w' = w := by
  by_cases h0 : 0 ≤ r
  · by_cases h1 : r ≤ 100
    · rw [decide_eq_true ⟨h0, h1⟩]
      go_enter Try.func40, Try.ntmps40
      go_wp2
      go_ret
      exact ⟨by simp, rfl⟩
    · rw [decide_eq_false (fun h => h1 h.2)]
      go_enter Try.func40, Try.ntmps40
      go_wp2
      go_ret
      exact ⟨by simp, rfl⟩
  · rw [decide_eq_false (fun h => h0 h.1)]
    have hd : decide (0 ≤ r) = false := decide_eq_false h0
    go_enter Try.func40, Try.ntmps40
    go_wp2
    go_ret
    exact ⟨by simp; try omega, rfl⟩
set_option maxHeartbeats 1000000 in
theorem differentTexts_any (a : Option Addr) (cap : Nat) (xs : List PC) (w : World) (hr : RdSl cCell w xs (.slice a xs.length cap)) (hl : xs.length + tot (nn xs) ≤ 1048576) :
    Calls Try.prog 44 #[.slice a xs.length cap] w fun e w' => e = .returned (.int .i64 ((diff xs : Nat) : Int)) ∧ Below w.heap.size w w' := by
  have HQ := hid (textsOfCells_any a cap xs w hr (by omega))
  have hnl := nn_len xs
  clear hr
  go_enter Try.func44, Try.ntmps44
  go_wp2_with fail
  refine HQ.out.mono ?_
  rintro e w2 ⟨v, rfl, hv, b2⟩
  obtain ⟨a2, c2, rfl, -⟩ := id hv
  have HOK := hid hv.allOK
  have HN := hid (newDict_any a2 c2 (nn xs) w2 hv (by rw [totL_tot]; omega))
  have HB2 := hid b2
  clear hv b2
  go_wp2_with fail
  refine HN.out.mono ?_
  rintro e w3 ⟨m, rfl, hm, ho, b3⟩
  have HS : Hid (Maps.size (dmap (nn xs) (nn xs).length) = cnt (nn xs) (nn xs).length) := hid (dmap_size HOK.out (nn xs).length (Nat.le_refl _))
  have HB3 := hid (below_chain HB2.out b3)
  have hfd := dictField1 (.slice a2 (nn xs).length c2) (.map (some m)) w3
  have hln := ho.len Try.underlying85 3
  rw [HS.out] at hln
  clear ho b3
  have HD : Hid (diff xs = cnt (nn xs) (nn xs).length) := hid rfl
  generalize cnt (nn xs) (nn xs).length = c at *
  go_wp2
  go_ret
  exact ⟨by rw [HD.out]; rfl, HB3.out⟩
end Go.Proofs.Ytmaccmgmcahopaa
