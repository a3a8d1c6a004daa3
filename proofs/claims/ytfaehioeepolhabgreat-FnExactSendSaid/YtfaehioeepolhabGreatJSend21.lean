import Derived.Test.YtfaehioeepolhabGreatJSend20
import Derived.Test.YtfaehioeepolhabGreatJSend3
import Derived.Test.YtfaehioeepolhabGreatJSend4
import Derived.Test.YtfaehioeepolhabGreatJSend16
import Derived.Test.YtfaehioeepolhabGreatJSend19
import Derived.Handy
namespace Go.Proofs.YtfaehioeepolhabGreat
open Go.RowKit
set_option maxHeartbeats 2000000 in
theorem l2column_any (t : PT) (R c : Nat) (a : Option Addr) (cap : Nat) (w : World) (hR : t.rows = (R : Int)) (hr : RdSl cCell w t.cells (.slice a t.cells.length cap)) (hRl : R ≤ 100) (hc : c < 12) (hlen : (c + 1) * R ≤ t.cells.length) :
    Calls Tryz.prog 62 #[.agg #[.int .i64 t.rows, .slice a t.cells.length cap], .int .i64 (c : Int)] w fun e w' => ∃ a' cap', e = .returned (.slice a' R cap') ∧ RdSl cCell w (col t.cells R c) (.slice a' R cap') ∧ Below w.heap.size w w' := by
  have hcap : t.cells.length ≤ cap ∧ cap ≤ maxLen := by
    obtain ⟨a', cap', e', g1, g2, _⟩ := hr
    simp at e'
    omega
  have HR := hid hr
  obtain ⟨lo, hlo⟩ : ∃ lo, lo = c * R := ⟨_, rfl⟩
  obtain ⟨hi, hhi⟩ : ∃ hi, hi = (c + 1) * R := ⟨_, rfl⟩
  have hsum : hi = lo + R := by rw [hlo, hhi, Nat.add_mul, Nat.one_mul]
  have hlo2 : lo ≤ 1200 := by rw [hlo]; exact Nat.le_trans (Nat.mul_le_mul (show c ≤ 12 by omega) hRl) (by omega)
  have m1 : (c : Int) * (R : Int) = (lo : Int) := by rw [hlo]; simp
  have m2 : ((c : Int) + 1) * (R : Int) = (hi : Int) := by rw [hhi]; simp
  rw [← hhi] at hlen
  have HL := hid hlo
  rw [hR]
  clear hr hlo hhi hR
  have H1 : Hid (RdSl cCell w (col t.cells R c) (.slice (a.map fun x => x.add (lo * 3)) R (cap - lo))) := hid (by
    have h := HR.out.cut (lo := lo) (R := R) (by omega)
    rw [HL.out] at h ⊢
    exact h)
  have H2 : Hid (R = 0 → col t.cells R c = []) := hid (fun h => by subst h; simp [col])
  unfold maxLen at hcap
  go_enter Tryz.func62, Tryz.ntmps62
  by_cases hz : cap = lo
  · subst hz
    have h0 : R = 0 := by omega
    have H0 := hid h0
    clear h0
    go_wp2
    go_ret
    refine ⟨a, 0, by simp, ?_, below_new1 _ _⟩
    rw [H2.out H0.out, H0.out]
    exact RdSl.empty a
  · go_wp2
    all_goals first
      | (exfalso; omega)
      | (go_ret; exact ⟨a.map fun x => x.add (lo * 3), cap - lo, by simp, H1.out, below_new1 _ _⟩)
end Go.Proofs.YtfaehioeepolhabGreat
namespace Go.Proofs.YtfaehioeepolhabGreat
open Go.RowKit
def Gath (w wr : World) (v : Value) (xss : List (List Nat)) : Prop :=
  ∃ vals : List Value, wr.ownsRow w.heap.size 87 1 v xss.length vals ∧ ∀ i, (h : i < xss.length) → ∃ u, vals[i]? = some u ∧ RdSl cByte w xss[i] u
theorem Gath.nil (w : World) : Gath w w (.slice none 0 0) [] := ⟨[], World.ownsRow_nil _ _ _ _, fun i h => by simp at h⟩
theorem Gath.kept {w wr w' : World} {v : Value} {xss : List (List Nat)} (h : Gath w wr v xss) (hb : Below wr.heap.size wr w') : Gath w w' v xss := by
  obtain ⟨vals, ho, hi⟩ := h
  exact ⟨vals, own_later ho hb, hi⟩
theorem Gath.rd {w wr : World} {v : Value} {xss : List (List Nat)} (h : Gath w wr v xss) (hb : Below w.heap.size w wr) : RdSl cSS wr xss v := by
  obtain ⟨vals, ho, hi⟩ := h
  have hvl : vals.length = xss.length := by have := ho.1; omega
  rcases ho.2 with ⟨rfl, h0⟩ | ⟨g, cap, cur, rfl, hg, hh, hn, hm, r⟩
  · obtain rfl := List.length_eq_zero_iff.1 h0
    exact RdSl.empty none
  · refine ⟨_, cap, rfl, hn, hm, (fun h => by cases h), .inr ⟨g, 0, rfl, fun i h => ?_⟩⟩
    obtain ⟨u, hu, hr⟩ := hi i h
    refine ⟨[u], ⟨u, rfl, hr.later hb⟩, fun j hj => ?_⟩
    have hj0 : j = 0 := by simpa using hj
    subst hj0
    have := World.ownsRow.cellAt ho i (by omega)
    rw [show 0 + (i * cSS.n + 0) = i from by simp [cSl], this, hu]; rfl
theorem Gath.snoc {w w1 : World} {v' u : Value} {xss : List (List Nat)} {t : List Nat} {vals : List Value} (hl : vals.length = xss.length) (hi : ∀ i, (h : i < xss.length) → ∃ u, vals[i]? = some u ∧ RdSl cByte w xss[i] u)
    (ho : w1.ownsRow w.heap.size 87 1 v' (xss.length + 1) (vals ++ [u])) (hu : RdSl cByte w t u) : Gath w w1 v' (xss ++ [t]) := by
  refine ⟨vals ++ [u], by simpa using ho, fun i h => ?_⟩
  by_cases e : i < xss.length
  · obtain ⟨u', h1, h2⟩ := hi i e
    exact ⟨u', by rw [List.getElem?_append_left (by omega)]; exact h1, by rw [List.getElem_append_left e]; exact h2⟩
  · have hie : i = xss.length := by simp at h; omega
    subst hie
    exact ⟨u, by simp [← hl], by simpa using hu⟩
theorem infoSlG : (Tryz.prog.info? 87).map (fun i => (i.zero, i.size, i.bytes)) = some (some (.slice none 0 0), 1, 24) := by kernel_rfl
theorem nn_len (cs : List PC) : (nn cs).length ≤ cs.length := by unfold nn; rw [List.length_map]; exact List.length_filter_le _ _
end Go.Proofs.YtfaehioeepolhabGreat
namespace Go.Proofs.YtfaehioeepolhabGreat
open Go.RowKit Go.Maps
set_option maxHeartbeats 1000000 in
theorem l2place_any (a a2 : Option Addr) (cap c2 : Nat) (vs : List (List Nat)) (t : List Nat) (w : World) (hr : RdSl cSS w vs (.slice a vs.length cap)) (hr2 : Rd w a2 (byt t)) (hb2 : ∀ x ∈ t, x < 256) (hl : vs.length ≤ 1048576) :
    Calls Tryz.prog 112 #[.slice a vs.length cap, .slice a2 t.length c2] w fun e w' => e = .returned (.int .i64 (place vs t)) ∧ w' = w := by
  have HR := hid hr
  have HR2 := hid hr2
  have HB2 := hid hb2
  clear hr hr2 hb2
  go_enter Tryz.func112, Tryz.ntmps112
  go_wp2
  go_loop [5] (fun i => ∃ k : Nat, k ≤ vs.length ∧ i = .int .i64 k ∧ ∀ q, (h : q < vs.length) → q < k → vs[q] ≠ t) (fun i => vs.length - (intOf i).toNat)
  case atStart => exact ⟨0, Nat.zero_le _, rfl, fun q _ h => by omega⟩
  case round =>
    obtain ⟨k, hk, rfl, hall⟩ := hrel
    have HA := hid hall
    clear hall
    by_cases hlt : k < vs.length
    · obtain ⟨b, off, a', c', rfl, hcb, hrr⟩ := HR.out.row hlt
      obtain ⟨_, _, e', -, -, -, hrd, hby⟩ := hrr.bytes
      simp only [Value.slice.injEq] at e'
      obtain ⟨rfl, -, rfl⟩ := e'
      have HRD := hid hrd
      have HBY := hid hby
      have hki : (k : Int) < (vs.length : Int) := by omega
      clear hrr hrd hby
      go_wp2_with fail
      refine (l1same_any a' a2 c' c2 _ _ w HRD.out HR2.out HBY.out HB2.out).mono ?_
      rintro e w ⟨rfl, rfl⟩
      by_cases hs : vs[k] = t
      · have HX := hid (place_at hlt hs (fun q hq h => HA.out q hq h))
        rw [decide_eq_true hs]
        go_wp2
        go_ret
        exact ⟨by rw [HX.out]; rfl, rfl⟩
      · rw [decide_eq_false hs]
        have HX : Hid (∀ q, (h : q < vs.length) → q < k + 1 → vs[q] ≠ t) := hid (fun q hq hqk => by
          by_cases e : q = k
          · subst e; exact hs
          · exact HA.out q hq (by omega))
        go_wp2
        go_round
        case rel => exact ⟨k + 1, by omega, by go_num, HX.out⟩
        case measure => simp [intOf]; omega
    · obtain rfl : k = vs.length := by omega
      have HX := hid (place_none (fun q hq => HA.out q hq hq))
      go_wp2
      go_ret
      exact ⟨by rw [HX.out]; rfl, rfl⟩
end Go.Proofs.YtfaehioeepolhabGreat
namespace Go.Proofs.YtfaehioeepolhabGreat
open Go.RowKit
set_option maxRecDepth 100000 in
set_option maxHeartbeats 4000000 in
theorem l2texts_any (a : Option Addr) (cap : Nat) (xs : List PC) (w : World) (hr : RdSl cCell w xs (.slice a xs.length cap)) (hl : xs.length ≤ 1048576) :
    Calls Tryz.prog 64 #[.slice a xs.length cap, .int .i64 40] w fun e w' => ∃ a' n c', e = .returned (.slice a' n c') ∧ (40 < n ↔ 40 < diff xs) ∧ n ≤ 1048576 ∧ Below w.heap.size w w' := by
  obtain ⟨i0, hi, hz0, hz1, hz2⟩ := info_parts infoSlG
  have HR := hid hr
  have HD : Hid (∀ k, (ddv (nn (xs.take k))).length ≤ diff xs) := hid (fun k => by
    unfold diff
    rw [← ddv_len]
    have : nn xs = nn (xs.take k) ++ nn (xs.drop k) := by
      unfold nn
      rw [← List.map_append, ← List.filter_append, List.take_append_drop]
    rw [this]
    exact ddv_mono _ _)
  have HE : Hid (diff xs = (ddv (nn (xs.take xs.length))).length) := hid (by rw [List.take_length, ddv_len]; rfl)
  have HLE : Hid (∀ k, (ddv (nn (xs.take k))).length ≤ k) := hid (fun k => by
    rw [ddv_len]
    have h1 := cnt_le (nn (xs.take k)) (nn (xs.take k)).length
    have h2 := nn_len (xs.take k)
    simp at h2; omega)
  clear hr
  go_enter Tryz.func64, Tryz.ntmps64
  go_wp2
  go_loopw [5, 6] (fun v i wr => ∃ (k : Nat) (a' : Option Addr) (c' : Nat), k ≤ xs.length ∧ i = .int .i64 k ∧ v = .slice a' (ddv (nn (xs.take k))).length c' ∧ Gath w wr v (ddv (nn (xs.take k))) ∧ Below w.heap.size w wr) (fun _ i _ => xs.length - (intOf i).toNat)
  case atStart => exact ⟨0, none, 0, Nat.zero_le _, rfl, by simp [nn, ddv], by simpa [nn, ddv] using Gath.nil w, Below.refl _ _⟩
  case round =>
    obtain ⟨k, a', c', hk, rfl, rfl, hga, hbe⟩ := hrel
    have HG := hid hga
    have HB := hid hbe
    have hdk := HD.out k
    have hle := HLE.out k
    clear hga hbe
    by_cases hlt : k < xs.length
    · have hki : (k : Int) < (xs.length : Int) := by omega
      by_cases hfull : 40 < (ddv (nn (xs.take k))).length
      · have HX : Hid (40 < (ddv (nn (xs.take k))).length ↔ 40 < diff xs) := hid ⟨fun _ => by omega, fun _ => hfull⟩
        generalize (ddv (nn (xs.take k))).length = n at *
        have hd : decide ((n : Int) ≤ 40) = false := decide_eq_false (by omega)
        go_wp2
        go_ret
        exact ⟨a', n, c', rfl, HX.out, by omega, HB.out⟩
      · obtain ⟨b, off, v0, v1, v2, rfl, hes, d0, d1, d2⟩ := (HR.out.later HB.out).at3 rfl hlt
        obtain ⟨ax, cx, e⟩ := cCell_shape hes
        simp only [List.cons.injEq, and_true] at e
        obtain ⟨rfl, rfl, rfl⟩ := e
        have hT : RdSl cByte w xs[k].text (.slice ax xs[k].text.length cx) := by
          obtain ⟨b', off', y0, y1, y2, e', hy, q0, q1, q2⟩ := HR.out.at3 (k := k) rfl hlt
          simp only [Option.some.injEq, Addr.mk.injEq, and_true] at e'
          obtain ⟨rfl, rfl⟩ := e'
          have hlt2 := World.block_lt_of_cell? _ _ q2
          have e2 := (HB.out.cell (p := ⟨b, off + k * 3 + 2, none⟩) hlt2).symm.trans d2
          rw [q2] at e2
          obtain ⟨v, e3, hv, _⟩ := cCell_rd hy
          simp only [List.cons.injEq, and_true] at e3
          simp only [Option.some.injEq] at e2
          rw [← e2, e3.2.2]; exact hv
        have HT := hid hT
        have HS := hid (nn_snoc xs k hlt)
        have HQ : Hid (Calls Tryz.prog 112 #[.slice a' (ddv (nn (xs.take k))).length c', .slice ax xs[k].text.length cx] wr fun e w' => e = .returned (.int .i64 (place (ddv (nn (xs.take k))) xs[k].text)) ∧ w' = wr) := hid (by
          obtain ⟨_, _, e', -, -, -, hrd, hby⟩ := (HT.out.later HB.out).bytes
          simp only [Value.slice.injEq] at e'
          obtain ⟨rfl, -, rfl⟩ := e'
          exact l2place_any a' ax c' cx _ _ wr (HG.out.rd HB.out) hrd hby (by omega))
        have HP := hid (place_neg (vs := ddv (nn (xs.take k))) (t := xs[k].text))
        have HPL := hid (place_lt (ddv (nn (xs.take k))) xs[k].text)
        clear hes hT
        cases hnul : xs[k].null
        · rw [hnul] at d0
          have HSN : Hid (nn (xs.take (k + 1)) = nn (xs.take k) ++ [xs[k].text]) := hid (by rw [HS.out, hnul]; rfl)
          by_cases hp : place (ddv (nn (xs.take k))) xs[k].text < 0
          · have HS2 : Hid (ddv (nn (xs.take (k + 1))) = ddv (nn (xs.take k)) ++ [xs[k].text]) := hid (by rw [HSN.out, ddv_snoc, if_neg (HP.out.1 hp)])
            obtain ⟨vals, how, hel⟩ := HG.out
            have hvl : vals.length = (ddv (nn (xs.take k))).length := by have := how.1; omega
            have HO := hid how
            have HEL := hid hel
            have HVL := hid hvl
            clear how hel hvl
            generalize ddv (nn (xs.take k)) = L at *
            generalize place L xs[k].text = p at *
            have hd : decide ((L.length : Int) ≤ 40) = true := decide_eq_true (by omega)
            go_wp2_with fail
            refine HQ.out.mono ?_
            rintro e w2 ⟨rfl, rfl⟩
            go_wp2_with (first | (at_builtin; refine wpList_append_own _ rfl _ _ 103 rfl w.heap.size 87 i0 (.slice none 0 0) 1 24 Tryz.underlying103 hi hz0 hz1 hz2 rfl (by decide) _ L.length _ rfl (HO.out.alloc _) ⟨w2.heap.size, 0, none⟩ 1 1 [.slice ax xs[k].text.length cx] rfl rfl (cell_one_new _ _ _) (one_cell rfl) (by unfold maxLen; omega) (by omega) (by have := HB.out.size; simp; omega) ?_))
            intro v' w1 hown' hgrow _
            have HB1 : Hid (Below w.heap.size w w1) := hid ((HB.out.alloc HB.out.size _).grown hgrow (by have := HB.out.size; simp; omega) (fun k h => (World.ownsRow.lt HO.out k h).1))
            obtain ⟨a3, c3, hv3⟩ : ∃ a3 c3, v' = .slice a3 (L.length + 1) c3 := by
              rcases hown'.2 with ⟨_, h0⟩ | ⟨g, cc, _, h, _⟩
              · omega
              · exact ⟨_, cc, h⟩
            subst hv3
            have HG1 : Hid (Gath w w1 (.slice a3 (L.length + 1) c3) (ddv (nn (xs.take (k + 1))))) := hid (by rw [HS2.out]; exact Gath.snoc HVL.out HEL.out hown' HT.out)
            have HLN : Hid ((ddv (nn (xs.take (k + 1)))).length = L.length + 1) := hid (by rw [HS2.out]; simp)
            clear hown' hgrow
            go_wp2
            go_roundw
            case rel => exact ⟨k + 1, a3, c3, by omega, by go_num, by rw [HLN.out], HG1.out, HB1.out⟩
            case measure => simp [intOf]; omega
          · have HS2 : Hid (ddv (nn (xs.take (k + 1))) = ddv (nn (xs.take k))) := hid (by rw [HSN.out, ddv_snoc, if_pos (Classical.not_not.1 (fun h => hp (HP.out.2 h)))])
            generalize ddv (nn (xs.take k)) = L at *
            generalize place L xs[k].text = p at *
            have hd : decide ((L.length : Int) ≤ 40) = true := decide_eq_true (by omega)
            have hpl := HPL.out
            go_wp2_with fail
            refine HQ.out.mono ?_
            rintro e w2 ⟨rfl, rfl⟩
            go_wp2
            go_roundw
            case rel => exact ⟨k + 1, a', c', by omega, by go_num, by rw [HS2.out], by rw [HS2.out]; exact HG.out, HB.out⟩
            case measure => simp [intOf]; omega
        · rw [hnul] at d0
          have HS2 : Hid (ddv (nn (xs.take (k + 1))) = ddv (nn (xs.take k))) := hid (by rw [HS.out, hnul]; simp)
          generalize ddv (nn (xs.take k)) = L at *
          have hd : decide ((L.length : Int) ≤ 40) = true := decide_eq_true (by omega)
          go_wp2
          go_roundw
          case rel => exact ⟨k + 1, a', c', by omega, by go_num, by rw [HS2.out], by rw [HS2.out]; exact HG.out, HB.out⟩
          case measure => simp [intOf]; omega
    · obtain rfl : k = xs.length := by omega
      have HX : Hid (40 < (ddv (nn (xs.take xs.length))).length ↔ 40 < diff xs) := hid (by rw [HE.out])
      generalize (ddv (nn (xs.take xs.length))).length = n at *
      go_wp2
      go_ret
      exact ⟨a', n, c', rfl, HX.out, by omega, HB.out⟩
end Go.Proofs.YtfaehioeepolhabGreat
namespace Go.Proofs.YtfaehioeepolhabGreat
open Go.RowKit Go.Maps
theorem allTo_bad {f : PF} {cs : List PC} {k : Nat} (hk : k < cs.length) (h : cellOK f cs[k] = false) : cs.all (cellOK f) = false := by
  simp only [List.all_eq_false]
  exact ⟨cs[k], List.getElem_mem hk, by simp [h]⟩
theorem allTo_ok {f : PF} {cs : List PC} (h : ∀ k, (hk : k < cs.length) → cellOK f cs[k] = true) : cs.all (cellOK f) = true := by
  simp only [List.all_eq_true]
  intro x hx
  obtain ⟨k, hk, rfl⟩ := List.getElem_of_mem hx
  exact h k hk
set_option maxHeartbeats 8000000 in
theorem specTable_main (a a2 : Option Addr) (cap c2 : Nat) (fs : List PF) (t : PT) (R pr : Nat) (w : World) (HR : Hid (RdSl cField w fs (.slice a fs.length cap))) (HR2 : Hid (RdSl cCell w t.cells (.slice a2 t.cells.length c2))) (hcl : t.cells.length ≤ 1048576)
    (HQ : Hid (Calls Tryz.prog 57 #[.slice a fs.length cap] (w.alloc (.cells #[.int .i64 (R : Int), .slice a2 t.cells.length c2] 51)) fun e w' => e = .returned (.bool true) ∧ w'.heap[w.heap.size]? = some (.cells #[.int .i64 (R : Int), .slice a2 t.cells.length c2] 51 (0, 0)) ∧ Below w.heap.size w w'))
    (HF : Hid (fieldsOK fs = true)) (hfl : fs.length ≤ 12) (hR2 : R ≤ 100) (hm : (fs.length : Int) * (R : Int) = (pr : Int)) (hprl : pr ≤ 1200) (HRR : Hid (t.rows = (R : Int))) (hlen : t.cells.length = pr) (HLEN : Hid (t.cells.length = fs.length * R)) (htot : txt t.cells + t.cells.length ≤ 1048576) :
    Calls Tryz.prog 24 #[.slice a fs.length cap, .agg #[.int .i64 (R : Int), .slice a2 t.cells.length c2]] w fun e w' => e = .returned (.bool (tableOK fs t)) ∧ Below w.heap.size w w' := by
  have hne : ((t.cells.length : Int) != (pr : Int)) = false := by simp; omega
  clear hlen
  have HEND : Hid (colsTo fs t.cells R fs.length = true → tableOK fs t = decide (txt t.cells ≤ 4000)) := hid (fun h2 => tableOK_end HF.out HRR.out hR2 HLEN.out h2)
  have HNC : Hid (∀ k, k < fs.length → (k + 1) * R ≤ t.cells.length) := hid (fun k hk => by rw [HLEN.out]; exact Nat.mul_le_mul_right _ hk)
  have HTX : Hid (∀ k, txt (t.cells.take k) ≤ txt t.cells) := hid (fun k => txt_take _ _)
  have HTF : Hid (txt (t.cells.take (fs.length * R)) = txt t.cells) := hid (by rw [← HLEN.out, List.take_length])
  go_enter Tryz.func24, Tryz.ntmps24
  go_wp2_with fail
  refine HQ.out.mono ?_
  rintro e w2 ⟨rfl, k2, b2⟩
  have HB := hid b2
  have HK2 := hid k2
  have p0 := cell_of_row w2 _ 0 _ _ _ k2
  have p1 := cell_of_row w2 _ 1 _ _ _ k2
  simp at p0 p1
  have hRd : decide ((R : Int) < 0) = false := decide_eq_false (by omega)
  have hRd2 : decide ((100 : Int) < (R : Int)) = false := decide_eq_false (by omega)
  clear b2 k2
  go_wp2
  clear p0 p1
  go_loopw [5, 6, 7, 8] (fun s i _ _ wr => ∃ k : Nat, k ≤ fs.length ∧ i = .int .i64 k ∧ s = .int .i64 ((txt (t.cells.take (k * R)) : Nat) : Int) ∧ colsTo fs t.cells R k = true ∧ wr.heap[w.heap.size]? = some (.cells #[.int .i64 (R : Int), .slice a2 t.cells.length c2] 51 (0, 0)) ∧ Below w.heap.size w wr) (fun _ i _ _ _ => fs.length - (intOf i).toNat)
  case atStart => exact ⟨0, Nat.zero_le _, rfl, by simp [txt], rfl, HK2.out, HB.out⟩
  case round =>
    obtain ⟨k, hk, rfl, rfl, hcols, hblk, hbe⟩ := hrel
    have HC := hid hcols
    have HK := hid hblk
    have HBR := hid hbe
    clear hcols hblk hbe
    have p0 := cell_of_row wr _ 0 _ _ _ HK.out
    have p1 := cell_of_row wr _ 1 _ _ _ HK.out
    simp at p0 p1
    have hB : w.heap.size < wr.heap.size := (Array.getElem?_eq_some_iff.1 HK.out).1
    by_cases hlt : k < fs.length
    · have hki : (k : Int) < (fs.length : Int) := by omega
      have HQ1 : Hid (Calls Tryz.prog 62 #[.agg #[.int .i64 (R : Int), .slice a2 t.cells.length c2], .int .i64 (k : Int)] wr fun e w' => ∃ a' cap', e = .returned (.slice a' R cap') ∧ RdSl cCell w' (col t.cells R k) (.slice a' R cap') ∧ Below wr.heap.size wr w') := hid (by
        have h := l2column_any t R k a2 c2 wr HRR.out (HR2.out.later HBR.out) hR2 (by omega) (HNC.out k hlt)
        rw [HRR.out] at h
        refine h.mono ?_
        rintro e w' ⟨a', cap', rfl, h1, h2⟩
        exact ⟨a', cap', rfl, h1.later h2, h2⟩)
      have hcolen := col_len (HNC.out k hlt)
      have HCL := hid hcolen
      have HAT : Hid (∀ i, (h : i < R) → (h2 : i < (col t.cells R k).length) → txt (t.cells.take (k * R + (i + 1))) = txt (t.cells.take (k * R + i)) + (col t.cells R k)[i].text.length) := hid (fun i h h2 => by
        have h3 := HNC.out k hlt
        have h4 := h3
        rw [Nat.add_mul, Nat.one_mul] at h4
        rw [← Nat.add_assoc, txt_snoc t.cells (k * R + i) (by omega), col_at h3 h])
      have hcw : fs[k].kind = 1 → widthOK fs[k].width = true := okTo_width HF.out hlt
      have HCW := hid hcw
      clear hcolen hcw
      go_wp2_with fail
      refine HQ1.out.mono ?_
      rintro e w4 ⟨a', cap', rfl, hcol, b4⟩
      have HCOL := hid hcol
      have HB4 := hid (HBR.out.trans (b4.mono HBR.out.size))
      have HK4 := hid ((b4.block w.heap.size hB).trans HK.out)
      clear hcol b4 p0 p1
      generalize hcc : col t.cells R k = cc at *
      go_wp2
      go_loopw [5, 8] (fun s j wq => ∃ i : Nat, i ≤ R ∧ j = .int .i64 i ∧ s = .int .i64 ((txt (t.cells.take (k * R + i)) : Nat) : Int) ∧ (∀ q, (h : q < cc.length) → q < i → cellOK fs[k] cc[q] = true) ∧ RdSl cCell wq cc (.slice a' R cap') ∧ wq.heap[w.heap.size]? = some (.cells #[.int .i64 (R : Int), .slice a2 t.cells.length c2] 51 (0, 0)) ∧ Below w.heap.size w wq) (fun _ j _ => R - (intOf j).toNat)
      case atStart => exact ⟨0, Nat.zero_le _, rfl, by simp, fun q _ h => by omega, HCOL.out, HK4.out, HB4.out⟩
      case round =>
        obtain ⟨i, hiR, rfl, rfl, hall, hcl2, hbk, hbq⟩ := hrel
        have HA := hid hall
        have HC2 := hid hcl2
        have HKQ := hid hbk
        have HBQ := hid hbq
        clear hall hcl2 hbk hbq
        have htx := HTX.out (k * R + i)
        by_cases hil : i < R
        · obtain ⟨b1, o1, x0, x1, x2, rfl, hes1, d0, d1, d2⟩ := (HR.out.later HBQ.out).at3 (k := k) rfl hlt
          have hicc : i < cc.length := by rw [HCL.out]; exact hil
          obtain ⟨b2, o2, y0, y1, y2, rfl, hes2, g0, g1, g2⟩ := HC2.out.at3 (k := i) rfl hicc
          obtain ⟨ay, cy, e⟩ := cCell_shape hes2
          simp only [List.cons.injEq, and_true] at e
          obtain ⟨rfl, rfl, rfl⟩ := e
          have HQ2 : Hid (Calls Tryz.prog 63 #[.agg #[x0, x1, x2], .agg #[.bool cc[i].null, .int .i64 cc[i].num, .slice ay cc[i].text.length cy]] wr.drew fun e w' => e = .returned (.bool (cellOK fs[k] cc[i])) ∧ Hid (Below wr.heap.size wr w') ∧ w'.cell? ⟨b1, o1 + k * 3, none⟩ = some x0 ∧ w'.cell? ⟨b1, o1 + k * 3 + 1, none⟩ = some x1 ∧ w'.cell? ⟨b1, o1 + k * 3 + 2, none⟩ = some x2 ∧ w'.cell? ⟨b2, o2 + i * 3, none⟩ = some (.bool cc[i].null) ∧ w'.cell? ⟨b2, o2 + i * 3 + 1, none⟩ = some (.int .i64 cc[i].num) ∧ w'.cell? ⟨b2, o2 + i * 3 + 2, none⟩ = some (.slice ay cc[i].text.length cy)) := hid (by
            refine (l2cellOK_any fs[k] cc[i] _ _ wr.drew (cField.later hes1 (Below.refl _ _).drew) (cCell.later hes2 (Below.refl _ _).drew) HCW.out).mono ?_
            rintro e w' ⟨rfl, b⟩
            have kp : ∀ p v, wr.cell? p = some v → w'.cell? p = some v := fun p v h => (b.cell (World.block_lt_of_cell? _ _ h)).trans h
            exact ⟨rfl, hid ((Below.refl _ wr).drew.trans b), kp _ _ d0, kp _ _ d1, kp _ _ d2, kp _ _ g0, kp _ _ g1, kp _ _ g2⟩)
          have HAI := hid (HAT.out i hil hicc)
          have hii : (i : Int) < (R : Int) := by omega
          have htx2 := HTX.out (k * R + (i + 1))
          clear hes1 hes2
          generalize txt (t.cells.take (k * R + i)) = s at *
          cases hok : cellOK fs[k] cc[i]
          · have HX : Hid (tableOK fs t = false) := hid (tableOK_col HRR.out hlt (by rw [hcc]; exact colOK_cells (allTo_bad hicc hok)))
            rw [hok] at HQ2
            go_wp2
            first | (go_region_held (fun w' => w'.cell? ⟨b1, o1 + k * 3, none⟩ = some x0 ∧ w'.cell? ⟨b1, o1 + k * 3 + 1, none⟩ = some x1 ∧ w'.cell? ⟨b1, o1 + k * 3 + 2, none⟩ = some x2 ∧ w'.cell? ⟨b2, o2 + i * 3, none⟩ = some (.bool cc[i].null) ∧ w'.cell? ⟨b2, o2 + i * 3 + 1, none⟩ = some (.int .i64 cc[i].num) ∧ w'.cell? ⟨b2, o2 + i * 3 + 2, none⟩ = some (.slice ay cc[i].text.length cy)) (go_keep) (first | (go_at_call 63; refine HQ2.out.mono ?_; rintro e w' ⟨rfl, hw', hd0, hd1, hd2, hg0, hg1, hg2⟩))) | fail
            go_wp2
            go_ret
            exact ⟨by rw [HX.out]; rfl, HBQ.out.trans (hw'.out.mono HBQ.out.size)⟩
          · have HX : Hid (∀ q, (h : q < cc.length) → q < i + 1 → cellOK fs[k] cc[q] = true) := hid (fun q hq hqi => by
              by_cases e : q = i
              · subst e; exact hok
              · exact HA.out q hq (by omega))
            rw [hok] at HQ2
            have hsz : s + cc[i].text.length ≤ 1048576 := by rw [← HAI.out]; omega
            go_wp2
            first | (go_region_held (fun w' => w'.cell? ⟨b1, o1 + k * 3, none⟩ = some x0 ∧ w'.cell? ⟨b1, o1 + k * 3 + 1, none⟩ = some x1 ∧ w'.cell? ⟨b1, o1 + k * 3 + 2, none⟩ = some x2 ∧ w'.cell? ⟨b2, o2 + i * 3, none⟩ = some (.bool cc[i].null) ∧ w'.cell? ⟨b2, o2 + i * 3 + 1, none⟩ = some (.int .i64 cc[i].num) ∧ w'.cell? ⟨b2, o2 + i * 3 + 2, none⟩ = some (.slice ay cc[i].text.length cy)) (go_keep) (first | (go_at_call 63; refine HQ2.out.mono ?_; rintro e w' ⟨rfl, hw', hd0, hd1, hd2, hg0, hg1, hg2⟩))) | fail
            have HBW := hid (HBQ.out.trans (hw'.out.mono HBQ.out.size))
            have HKW := hid ((hw'.out.block w.heap.size (Array.getElem?_eq_some_iff.1 HKQ.out).1).trans HKQ.out)
            have HCW2 := hid (HC2.out.later hw'.out)
            go_wp2
            go_roundw
            case rel => exact ⟨i + 1, by omega, by go_num, by rw [HAI.out]; go_num, HX.out, HCW2.out, HKW.out, HBW.out⟩
            case measure => simp [intOf]; omega
        · obtain rfl : i = R := by omega
          have HALL : Hid (cc.all (cellOK fs[k]) = true) := hid (allTo_ok (fun q hq => HA.out q hq (by rw [HCL.out] at hq; exact hq)))
          obtain ⟨b1, o1, x0, x1, x2, rfl, hes1, d0, d1, d2⟩ := (HR.out.later HBQ.out).at3 (k := k) rfl hlt
          obtain ⟨ax, cx, e⟩ := cField_shape hes1
          simp only [List.cons.injEq, and_true] at e
          obtain ⟨rfl, rfl, rfl⟩ := e
          have HTE : Hid (txt (t.cells.take (k * i + i)) = txt (t.cells.take ((k + 1) * i))) := hid (by rw [Nat.add_mul, Nat.one_mul])
          rw [HTE.out]
          clear hes1
          generalize hs : txt (t.cells.take ((k + 1) * i)) = s at *
          by_cases k3 : fs[k].kind = 3
          · have K3 := hid k3
            have b3 : (fs[k].kind == 3) = true := by simpa using k3
            clear k3
            have HQ4 : Hid (Calls Tryz.prog 64 #[.slice a' i cap', .int .i64 40] wr fun e w' => ∃ a5 n5 c5, e = .returned (.slice a5 n5 c5) ∧ (40 < n5 ↔ 40 < diff cc) ∧ n5 ≤ 1048576 ∧ Below wr.heap.size wr w') := hid (by
              have h := l2texts_any a' cap' cc wr (by rw [HCL.out]; exact HC2.out) (by rw [HCL.out]; omega)
              rw [HCL.out] at h
              exact h)
            go_wp2_with fail
            refine HQ4.out.mono ?_
            rintro e w6 ⟨a5, n5, c5, rfl, hiff, hn5, b6⟩
            have HW6 := hid (HBQ.out.trans (b6.mono HBQ.out.size))
            have HK6 := hid ((b6.block w.heap.size (Array.getElem?_eq_some_iff.1 HKQ.out).1).trans HKQ.out)
            clear b6
            by_cases hdf : 40 < n5
            · have HX : Hid (tableOK fs t = false) := hid (tableOK_col HRR.out hlt (by rw [hcc]; exact colOK_dict K3.out (hiff.1 hdf)))
              clear hiff
              go_wp2
              go_ret
              exact ⟨by rw [HX.out]; rfl, HW6.out⟩
            · have HX : Hid (colsTo fs t.cells i (k + 1) = true) := hid (by rw [colsTo_succ hlt, HC.out, hcc, colOK_ok HALL.out (fun h => hdf (hiff.2 h.2))]; rfl)
              clear hiff
              go_wp2
              go_roundw
              case rel => exact ⟨k + 1, by omega, by go_num, by rw [hs], HX.out, HK6.out, HW6.out⟩
              case measure => simp [intOf]; omega
          · have HX : Hid (colsTo fs t.cells i (k + 1) = true) := hid (by rw [colsTo_succ hlt, HC.out, hcc, colOK_ok HALL.out (fun h => k3 h.1)]; rfl)
            have b3 : (fs[k].kind == 3) = false := by simpa using k3
            clear k3
            go_wp2
            go_roundw
            case rel => exact ⟨k + 1, by omega, by go_num, by rw [hs], HX.out, HKQ.out, HBQ.out⟩
            case measure => simp [intOf]; omega
    · obtain rfl : k = fs.length := by omega
      have HX := hid (HEND.out HC.out)
      rw [HTF.out]
      generalize txt t.cells = s at *
      go_wp2
      go_ret
      exact ⟨by rw [HX.out]; simp; omega, HBR.out⟩
end Go.Proofs.YtfaehioeepolhabGreat
