import Derived.Test.YtcljakdcejhfiadJPlanDict27
import Derived.Test.YtcljakdcejhfiadJPlanDict29
import Derived.Test.YtcljakdcejhfiadJPlanDict30
import Derived.Test.YtcljakdcejhfiadJPlanDict32
import Derived.Test.YtcljakdcejhfiadJPlanDict33
import Derived.Laws.ResultCell
import Derived.Lib.SlBytesConst
namespace Go.Proofs.Ytcljakdcejhfiad
open Go.RowKit
theorem results_cell_row_tmp' {P : Program} {fn : Func} {p u : Tmp} {ty : TypeId} (h : fn.results = #[.cell p ty, .tmp u]) (tmps : Array Value) (w : World) (g : Nat) (t : TypeId) (cs : Array Value) (fr : Nat × Nat) (d : TypeDesc)
    (hp : tmps.getD p undef = .pointer (some ⟨g, 0, none⟩)) (hg : w.heap[g]? = some (.cells cs t fr))
    (hu : P.underlying ty = some d) (hd : (match d with | .struct _ | .array _ _ => true | _ => false) = true) (hi : (P.info? ty).map (·.size) = some cs.size) :
    (results fn tmps).run P w = .ok (.tuple #[.agg cs, tmps.getD u undef]) w := by
  rw [results_cell_tmp h, hp]
  simp [asAddr, run_loadVar_row w g t ty cs fr d hg hu hd hi]
def PlanRd (w : World) (p : PP) (C : Int) (e : Ending) (w' : World) : Prop :=
  ∃ a1 c1 a2 c2, e = .returned (.tuple #[.agg #[.int .i64 p.act, .slice a1 p.fresh.length c1, .slice a2 p.values.length c2], .int .i64 C]) ∧
    RdSl cSS w' p.fresh (.slice a1 p.fresh.length c1) ∧ RdSl cSS w' p.values (.slice a2 p.values.length c2) ∧ Below w.heap.size w w'
theorem planRd_nil {w w' : World} {p : PP} {C C' : Int} (hb : Below w.heap.size w w') (hp : p = noPlan) (hC : C = C') : PlanRd w p C (.returned (.tuple #[.agg #[.int .i64 0, .slice none 0 0, .slice none 0 0], .int .i64 C'])) w' := by
  subst hp hC
  exact ⟨none, 0, none, 0, rfl, RdSl.empty none, RdSl.empty none, hb⟩
theorem txts_set3 {B : Nat} {w : World} {g : Nat} {x y z : Value} {xs : List (List Nat)} {v : Value} (h : Txts B w v xs) (hg : g < B) : Txts B (((w.setCell ⟨g, 0, none⟩ x).setCell ⟨g, 1, none⟩ y).setCell ⟨g, 2, none⟩ z) v xs := by
  obtain ⟨vals, ho, hi⟩ := h
  have keep : ∀ (e : TypeId) (u : Value) (n : Nat) (us : List Value), w.ownsRow B e 1 u n us → (((w.setCell ⟨g, 0, none⟩ x).setCell ⟨g, 1, none⟩ y).setCell ⟨g, 2, none⟩ z).ownsRow B e 1 u n us := fun e u n us hu =>
    ownsRow_kept hu (fun b hb => set3o (by have := (World.ownsRow.lt hu b hb).1; omega))
  exact ⟨vals, keep _ _ _ _ ho, fun i h => by obtain ⟨u, h1, h2, h3⟩ := hi i h; exact ⟨u, h1, keep _ _ _ _ h2, h3⟩⟩
theorem inOK_no' {vs : List (List Nat)} {cs : List PC} (h : dictOK vs = false ∨ (decide (cs.length ≤ 100) && cs.all (cellOK cell3)) = false) : inOK vs cs = false := by
  unfold inOK
  rcases h with h | h <;> rw [h] <;> simp
theorem keepF_snoc {vs N : List (List Nat)} {k : Nat} (hk : k < N.length) : (N.take (k + 1)).filter (fun t => !decide (t ∈ vs)) = if N[k] ∈ vs then (N.take k).filter (fun t => !decide (t ∈ vs)) else (N.take k).filter (fun t => !decide (t ∈ vs)) ++ [N[k]] := by
  rw [List.take_succ_eq_append_getElem hk, List.filter_append]
  by_cases h : N[k] ∈ vs <;> simp [h]
theorem plan_keep' {vs : List (List Nat)} {cs : List PC} (h : inOK vs cs = true) (hl : lack vs (nn cs) = []) : planP vs cs = ⟨0, [], vs⟩ ∧ planC vs cs = 0 := by
  unfold planP planC; simp [h, hl]
theorem plan_delta' {vs : List (List Nat)} {cs : List PC} (h : inOK vs cs = true) (hl : lack vs (nn cs) ≠ []) (hd : dictOK (vs ++ lack vs (nn cs)) = true) : planP vs cs = ⟨1, lack vs (nn cs), vs ++ lack vs (nn cs)⟩ ∧ planC vs cs = 0 := by
  unfold planP planC; simp [h, hl, hd]
theorem plan_repl' {vs : List (List Nat)} {cs : List PC} (h : inOK vs cs = true) (hl : lack vs (nn cs) ≠ []) (hd : dictOK (vs ++ lack vs (nn cs)) = false) (hn : dictOK (ddv (nn cs)) = true) : planP vs cs = ⟨2, ddv (nn cs), ddv (nn cs)⟩ ∧ planC vs cs = 0 := by
  unfold planP planC; simp [h, hl, hd, hn]
theorem plan_full' {vs : List (List Nat)} {cs : List PC} (h : inOK vs cs = true) (hl : lack vs (nn cs) ≠ []) (hd : dictOK (vs ++ lack vs (nn cs)) = false) (hn : dictOK (ddv (nn cs)) = false) : planP vs cs = noPlan ∧ planC vs cs = 2 := by
  unfold planP planC; simp [h, hl, hd, hn, noPlan]
def flt (vs N : List (List Nat)) (k : Nat) : List (List Nat) := (N.take k).filter fun t => !decide (t ∈ vs)
theorem flt_in {vs N : List (List Nat)} {k : Nat} (hk : k < N.length) (h : N[k] ∈ vs) : flt vs N (k + 1) = flt vs N k := by
  unfold flt; rw [keepF_snoc hk, if_pos h]
theorem flt_out {vs N : List (List Nat)} {k : Nat} (hk : k < N.length) (h : N[k] ∉ vs) : flt vs N (k + 1) = flt vs N k ++ [N[k]] := by
  unfold flt; rw [keepF_snoc hk, if_neg h]
theorem flt_len (vs N : List (List Nat)) (k : Nat) : (flt vs N k).length ≤ k := by
  have h := List.length_filter_le (fun t => !decide (t ∈ vs)) (N.take k)
  have h2 : (N.take k).length ≤ k := by simp; omega
  unfold flt; omega
theorem planRd_set {w w4 : World} {p q : PP} {C D : Int} {a1 a2 : Option Addr} {c1 c2 : Nat} {v0 v1 v2 : Value} (hp : q = p) (hC : D = C) (o1 : RdSl cSS (((w4.setCell ⟨w.heap.size, 0, none⟩ v0).setCell ⟨w.heap.size, 1, none⟩ v1).setCell ⟨w.heap.size, 2, none⟩ v2) p.fresh (.slice a1 p.fresh.length c1)) (o2 : RdSl cSS (((w4.setCell ⟨w.heap.size, 0, none⟩ v0).setCell ⟨w.heap.size, 1, none⟩ v1).setCell ⟨w.heap.size, 2, none⟩ v2) p.values (.slice a2 p.values.length c2)) (hb : Below w.heap.size w w4) :
    PlanRd w q D (.returned (.tuple #[.agg #[.int .i64 p.act, .slice a1 p.fresh.length c1, .slice a2 p.values.length c2], .int .i64 C])) (((w4.setCell ⟨w.heap.size, 0, none⟩ v0).setCell ⟨w.heap.size, 1, none⟩ v1).setCell ⟨w.heap.size, 2, none⟩ v2) := by
  subst hp hC
  exact ⟨a1, c1, a2, c2, rfl, o1, o2, set3b hb (Nat.le_refl _)⟩
set_option maxRecDepth 100000 in
set_option maxHeartbeats 8000000 in
theorem specPlan_any (a1 a2 : Option Addr) (c1 c2 : Nat) (vs : List (List Nat)) (cs : List PC) (w : World) (h1 : RdSl cSS w vs (.slice a1 vs.length c1)) (h2 : RdSl cCell w cs (.slice a2 cs.length c2)) (ht : totL List.length vs + (cs.length + txt cs) ≤ 1048576) :
    Calls Try.prog 27 #[.slice a1 vs.length c1, .slice a2 cs.length c2] w (PlanRd w (planP vs cs) (planC vs cs)) := by
  obtain ⟨i0, hi, hz0, hz1, hz2⟩ := info_parts infoSlG
  have H1 := hid h1
  have H2 := hid h2
  clear h1 h2
  have hl2 : cs.length ≤ 1048576 := by omega
  have HB0 := hid (below_new3 w (.cells #[.int .i64 0, .slice none 0 0, .slice none 0 0] 56) (.cells #[.int .u8 100] 5 (1, 2)) (.cells #[.slice (some ⟨w.heap.size + 1, 0, none⟩) 1 1, .int .i64 3, .int .i64 0] 84))
  have HKK : Hid (∀ w', Below (w.heap.size + 3) (((w.alloc (.cells #[.int .i64 0, .slice none 0 0, .slice none 0 0] 56)).alloc (.cells #[.int .u8 100] 5 (1, 2))).alloc (.cells #[.slice (some ⟨w.heap.size + 1, 0, none⟩) 1 1, .int .i64 3, .int .i64 0] 84)) w' → w'.heap[w.heap.size]? = some (.cells #[.int .i64 0, .slice none 0 0, .slice none 0 0] 56 (0, 0)) ∧ w'.heap[w.heap.size + 1 + 1]? = some (.cells #[.slice (some ⟨w.heap.size + 1, 0, none⟩) 1 1, .int .i64 3, .int .i64 0] 84 (0, 0)) ∧ cField.rd w' cell3 [.slice (some ⟨w.heap.size + 1, 0, none⟩) 1 1, .int .i64 3, .int .i64 0] ∧ Below w.heap.size w w') := hid (fun w' h => by
    have hh := heap3 _ _ _ h
    refine ⟨hh.1, hh.2.2, ?_, HB0.out.trans (h.mono (by omega))⟩
    refine cField_mk (f := cell3) (rdSl_bytes (xs := [100]) (Nat.le_refl _) (by unfold maxLen; decide) (by simp) (.inr ⟨_, 0, rfl, fun i hi => ?_⟩) (by simp)) (by unfold IntIn cell3; decide) (by unfold IntIn cell3; decide)
    have hi0 : i = 0 := by simpa [byt] using hi
    subst hi0
    have := cell_of_row w' _ 0 _ _ _ hh.2.1
    simpa [byt] using this)
  have HSZ : Hid ((((w.alloc (.cells #[.int .i64 0, .slice none 0 0, .slice none 0 0] 56)).alloc (.cells #[.int .u8 100] 5 (1, 2))).alloc (.cells #[.slice (some ⟨w.heap.size + 1, 0, none⟩) 1 1, .int .i64 3, .int .i64 0] 84)).heap.size = w.heap.size + 3) := hid (by simp)
  have hcv : (convert 69 69 (.slice (some ⟨w.heap.size + 1, 0, none⟩) 1 1)).run Try.prog ((w.alloc (.cells #[.int .i64 0, .slice none 0 0, .slice none 0 0] 56)).alloc (.cells #[.int .u8 100] 5)) = .ok (.slice (some ⟨w.heap.size + 1, 0, none⟩) 1 1) ((w.alloc (.cells #[.int .i64 0, .slice none 0 0, .slice none 0 0] 56)).alloc (.cells #[.int .u8 100] 5 (1, 2))) := by
    have h := Lib.run_convert_bytes_const (P := Try.prog) (w.alloc (.cells #[.int .i64 0, .slice none 0 0, .slice none 0 0] 56)) 69 5 #[.int .u8 100] 1 1 Try.underlying69 Try.underlying5
    rw [show (w.alloc (.cells #[.int .i64 0, .slice none 0 0, .slice none 0 0] 56)).heap.size = w.heap.size + 1 from by simp] at h
    exact h
  go_enter Try.func27, Try.ntmps27
  go_wp2_with fail
  clear hcv
  refine (specDict_any a1 c1 vs _ (H1.out.later HB0.out) (by omega)).mono ?_
  rintro e w1 ⟨rfl, b1⟩
  rw [HSZ.out] at b1
  have HC1 := hid b1
  have HK1 := hid (HKK.out _ b1).1
  have HB1 := hid (HKK.out _ b1).2.2.2
  have HF1 := hid (HKK.out _ b1).2.1
  have HR1 := hid (HKK.out _ b1).2.2.1
  have hs1 : w.heap.size + 3 ≤ w1.heap.size := by have := b1.size; rw [HSZ.out] at this; exact this
  clear b1
  cases hd : dictOK vs
  · have HBAD := hid (plan_bad (inOK_no' (vs := vs) (cs := cs) (.inl hd)))
    have q0 := cell_of_row w1 _ 0 _ _ _ HK1.out
    have q1 := cell_of_row w1 _ 1 _ _ _ HK1.out
    have q2 := cell_of_row w1 _ 2 _ _ _ HK1.out
    have f0 := frozen_of_row w1 _ 0 _ _ HK1.out
    have f1 := frozen_of_row w1 _ 1 _ _ HK1.out
    have f2 := frozen_of_row w1 _ 2 _ _ HK1.out
    simp at q0 q1 q2
    go_wp2
    refine bodyPost_ret (results_cell_row_tmp' rfl _ _ w.heap.size 56 #[.int .i64 0, .slice none 0 0, .slice none 0 0] (0, 0) _ rfl (set3 HK1.out) Try.underlying56 rfl (by kernel_rfl)) rfl ?_
    exact planRd_nil (set3b HB1.out (Nat.le_refl _)) HBAD.out.1 HBAD.out.2
  have g0 := cell_of_row w1 _ 0 _ _ _ HF1.out
  have g1 := cell_of_row w1 _ 1 _ _ _ HF1.out
  have g2 := cell_of_row w1 _ 2 _ _ _ HF1.out
  simp at g0 g1 g2
  have HQ2 : Hid (Calls Try.prog 74 #[.agg #[.slice (some ⟨w.heap.size + 1, 0, none⟩) 1 1, .int .i64 3, .int .i64 0], .slice a2 cs.length c2] w1 fun e w' => e = .returned (.bool (decide (cs.length ≤ 100) && cs.all (cellOK cell3))) ∧ Below w1.heap.size w1 w') := hid (l2cellsOK_any cell3 [.slice (some ⟨w.heap.size + 1, 0, none⟩) 1 1, .int .i64 3, .int .i64 0] a2 c2 cs w1 HR1.out (H2.out.later HB1.out) hl2 field3 rfl)
  go_wp2_with fail
  refine HQ2.out.mono ?_
  rintro e w2 ⟨rfl, b2⟩
  have HC2 := hid (HC1.out.trans (b2.mono hs1))
  have HK2 := hid (HKK.out _ HC2.out).1
  have HB2 := hid (HKK.out _ HC2.out).2.2.2
  have hs2 : w.heap.size + 3 ≤ w2.heap.size := Nat.le_trans hs1 b2.size
  clear b2 g0 g1 g2
  cases hcs : (decide (cs.length ≤ 100) && cs.all (cellOK cell3))
  · have HBAD := hid (plan_bad (inOK_no' (vs := vs) (cs := cs) (.inr hcs)))
    have q0 := cell_of_row w2 _ 0 _ _ _ HK2.out
    have q1 := cell_of_row w2 _ 1 _ _ _ HK2.out
    have q2 := cell_of_row w2 _ 2 _ _ _ HK2.out
    have f0 := frozen_of_row w2 _ 0 _ _ HK2.out
    have f1 := frozen_of_row w2 _ 1 _ _ HK2.out
    have f2 := frozen_of_row w2 _ 2 _ _ HK2.out
    simp at q0 q1 q2
    go_wp2
    refine bodyPost_ret (results_cell_row_tmp' rfl _ _ w.heap.size 56 #[.int .i64 0, .slice none 0 0, .slice none 0 0] (0, 0) _ rfl (set3 HK2.out) Try.underlying56 rfl (by kernel_rfl)) rfl ?_
    exact planRd_nil (set3b HB2.out (Nat.le_refl _)) HBAD.out.1 HBAD.out.2
  have HIN : Hid (inOK vs cs = true) := hid (by unfold inOK; rw [hd, hcs]; rfl)
  have h100 : cs.length ≤ 100 := by simp at hcs; exact hcs.1
  clear hd hcs
  go_wp2_with fail
  refine (l2texts100_any a2 c2 cs w2 (H2.out.later HB2.out) h100).mono ?_
  rintro e w3 ⟨v3, rfl, r3, b3⟩
  obtain ⟨a3, c3, rfl, -⟩ := id r3
  have HN := hid r3
  have HC3 := hid (HC2.out.trans (b3.mono hs2))
  have hs3 : w.heap.size + 3 ≤ w3.heap.size := Nat.le_trans hs2 b3.size
  have hNN := tot_nn cs
  have hND := tot_ddv (nn cs)
  have hLS := lack_small vs (nn cs)
  have htN : totL List.length (ddv (nn cs)) ≤ 1048576 := by rw [totL_tot]; omega
  have htL : totL List.length vs + totL List.length (lack vs (nn cs)) ≤ 1048576 := by rw [totL_tot (lack vs (nn cs))]; omega
  have HFA : Hid (flt vs (ddv (nn cs)) (ddv (nn cs)).length = lack vs (nn cs)) := hid (by unfold flt lack; rw [List.take_length])
  have HL0 : Hid (lack vs (nn cs) = [] → planP vs cs = ⟨0, [], vs⟩ ∧ planC vs cs = 0) := hid (fun h => plan_keep' HIN.out h)
  have HL1 : Hid (lack vs (nn cs) ≠ [] → dictOK (vs ++ lack vs (nn cs)) = true → planP vs cs = ⟨1, lack vs (nn cs), vs ++ lack vs (nn cs)⟩ ∧ planC vs cs = 0) := hid (fun h => plan_delta' HIN.out h)
  have HL2 : Hid (lack vs (nn cs) ≠ [] → dictOK (vs ++ lack vs (nn cs)) = false → dictOK (ddv (nn cs)) = true → planP vs cs = ⟨2, ddv (nn cs), ddv (nn cs)⟩ ∧ planC vs cs = 0) := hid (fun h => plan_repl' HIN.out h)
  have HL3 : Hid (lack vs (nn cs) ≠ [] → dictOK (vs ++ lack vs (nn cs)) = false → dictOK (ddv (nn cs)) = false → planP vs cs = noPlan ∧ planC vs cs = 2) := hid (fun h => plan_full' HIN.out h)
  have hNl : (ddv (nn cs)).length ≤ 1048576 := by omega
  have hLl : (lack vs (nn cs)).length ≤ 1048576 := by omega
  have hvl : vs.length ≤ 1048576 := by unfold totL at ht; omega
  clear b3 r3 hNN hND hLS
  generalize lack vs (nn cs) = L at *
  generalize ddv (nn cs) = N at *
  go_wp2
  go_loopw [8, 9] (fun v i wr => ∃ (k : Nat) (a' : Option Addr) (c' : Nat), k ≤ N.length ∧ i = .int .i64 k ∧ v = .slice a' (flt vs N k).length c' ∧ Gath w3 wr v (flt vs N k) ∧ Below w3.heap.size w3 wr) (fun _ i _ => N.length - (intOf i).toNat)
  case atStart => exact ⟨0, none, 0, Nat.zero_le _, rfl, by simp [flt], by simpa [flt] using Gath.nil w3, Below.refl _ _⟩
  case round =>
    obtain ⟨k, a', c', hk, rfl, rfl, hga, hbe⟩ := hrel
    have HG := hid hga
    have HB := hid hbe
    have hle := flt_len vs N k
    have HW : Hid (Below (w.heap.size + 3) (((w.alloc (.cells #[.int .i64 0, .slice none 0 0, .slice none 0 0] 56)).alloc (.cells #[.int .u8 100] 5 (1, 2))).alloc (.cells #[.slice (some ⟨w.heap.size + 1, 0, none⟩) 1 1, .int .i64 3, .int .i64 0] 84)) wr) := hid (HC3.out.trans (hbe.mono hs3))
    have HBW := hid (HKK.out _ HW.out).2.2.2
    have hsr : w.heap.size + 3 ≤ wr.heap.size := Nat.le_trans hs3 hbe.size
    clear hga hbe
    by_cases hlt : k < N.length
    · have hki : (k : Int) < (N.length : Int) := by omega
      obtain ⟨b, off, ax, cx, rfl, hc3, hr3⟩ := HN.out.row hlt
      have hcb : wr.cell? ⟨b, off + k, none⟩ = some (.slice ax N[k].length cx) := (HB.out.cell (p := ⟨b, off + k, none⟩) (World.block_lt_of_cell? _ _ hc3)).trans hc3
      have HT := hid hr3
      have HQ : Hid (Calls Try.prog 75 #[.slice a1 vs.length c1, .slice ax N[k].length cx] wr fun e w' => e = .returned (.int .i64 (place vs N[k])) ∧ w' = wr) := hid (by
        obtain ⟨hrd, hby⟩ := (HT.out.later HB.out).rdB
        exact l2place_any a1 ax c1 cx _ _ wr (H1.out.later HBW.out) hrd hby hvl)
      have HP := hid (place_neg (vs := vs) (t := N[k]))
      have hpl := place_lt vs N[k]
      have HFI : Hid (N[k] ∈ vs → flt vs N (k + 1) = flt vs N k) := hid (fun h => flt_in hlt h)
      have HFO : Hid (N[k] ∉ vs → flt vs N (k + 1) = flt vs N k ++ [N[k]]) := hid (fun h => flt_out hlt h)
      clear hc3 hr3
      by_cases hp : place vs N[k] < 0
      · have HS2 := hid (HFO.out (HP.out.1 hp))
        obtain ⟨vals, how, hel⟩ := HG.out
        have HVL : Hid (vals.length = (flt vs N k).length) := hid (by have := how.1; omega)
        have HO := hid how
        have HEL := hid hel
        clear how hel
        generalize flt vs N k = M at *
        generalize place vs N[k] = p at *
        go_wp2_with fail
        refine HQ.out.mono ?_
        rintro e w5 ⟨rfl, rfl⟩
        go_wp2_with (first | (at_builtin; refine wpList_append_own _ rfl _ _ 45 rfl w3.heap.size 69 i0 (.slice none 0 0) 1 24 Try.underlying45 hi hz0 hz1 hz2 rfl (by decide) _ M.length _ rfl (HO.out.alloc _) ⟨w5.heap.size, 0, none⟩ 1 1 [.slice ax N[k].length cx] rfl rfl (cell_one_new _ _ _) (one_cell rfl) (by unfold maxLen; omega) (by omega) (by have := HB.out.size; simp; omega) ?_))
        intro v' w9 hown' hgrow _
        have HB9 : Hid (Below w3.heap.size w3 w9) := hid ((HB.out.alloc HB.out.size _).grown hgrow (by have := HB.out.size; simp; omega) (fun k h => (World.ownsRow.lt HO.out k h).1))
        obtain ⟨a5, c5, hv5⟩ : ∃ a5 c5, v' = .slice a5 (M.length + 1) c5 := by
          rcases hown'.2 with ⟨_, h0⟩ | ⟨g, cc, _, h, _⟩
          · omega
          · exact ⟨_, cc, h⟩
        subst hv5
        have HG9 : Hid (Gath w3 w9 (.slice a5 (M.length + 1) c5) (M ++ [N[k]])) := hid (Gath.snoc HVL.out HEL.out hown' HT.out)
        clear hown' hgrow
        go_wp2
        go_roundw
        case rel => exact ⟨k + 1, a5, c5, by omega, by go_num, by rw [HS2.out]; simp, by rw [HS2.out]; exact HG9.out, HB9.out⟩
        case measure => simp [intOf]; omega
      · have HS2 := hid (HFI.out (Classical.not_not.1 (fun h => hp (HP.out.2 h))))
        generalize flt vs N k = M at *
        generalize place vs N[k] = p at *
        go_wp2_with fail
        refine HQ.out.mono ?_
        rintro e w5 ⟨rfl, rfl⟩
        go_wp2
        go_roundw
        case rel => exact ⟨k + 1, a', c', by omega, by go_num, by rw [HS2.out], by rw [HS2.out]; exact HG.out, HB.out⟩
        case measure => simp [intOf]; omega
    · obtain rfl : k = N.length := by omega
      have hF := HG.out.rd HB.out
      rw [HFA.out] at hF ⊢
      have HL := hid hF
      have HNR := hid (HN.out.later HB.out)
      clear hF HG
      by_cases hl0 : L = []
      · subst hl0
        have HEQ := hid (HL0.out rfl)
        go_wp2_with fail
        refine (l3texts_any a1 c1 vs wr (H1.out.later HBW.out) (by omega)).mono ?_
        rintro e w5 ⟨v5, rfl, x5, b5⟩
        obtain ⟨a5, c5, rfl⟩ := x5.len
        have HX5 := hid x5
        have HC5 := hid (HW.out.trans (b5.mono hsr))
        have HK5 := hid (HKK.out _ HC5.out).1
        have HB5 := hid (HKK.out _ HC5.out).2.2.2
        clear x5 b5
        have q0 := cell_of_row w5 _ 0 _ _ _ HK5.out
        have q1 := cell_of_row w5 _ 1 _ _ _ HK5.out
        have q2 := cell_of_row w5 _ 2 _ _ _ HK5.out
        have f0 := frozen_of_row w5 _ 0 _ _ HK5.out
        have f1 := frozen_of_row w5 _ 1 _ _ HK5.out
        have f2 := frozen_of_row w5 _ 2 _ _ HK5.out
        simp at q0 q1 q2
        go_wp2
        refine bodyPost_ret (results_cell_row_tmp' rfl _ _ w.heap.size 56 #[.int .i64 0, .slice none 0 0, .slice a5 vs.length c5] (0, 0) _ rfl (set3 HK5.out) Try.underlying56 rfl (by kernel_rfl)) rfl ?_
        exact planRd_set (p := ⟨0, [], vs⟩) HEQ.out.1 HEQ.out.2 (RdSl.empty none) (txts_set3 HX5.out (by omega)).rd HB5.out
      have hln : ((L.length : Int) == 0) = false := by
        have : L.length ≠ 0 := fun e => hl0 (List.length_eq_zero_iff.1 e)
        simp; intro e; exact this (by simp [e])
      have HNE := hid hl0
      clear hl0
      obtain ⟨ys, hys⟩ : ∃ ys, ys = vs ++ L := ⟨_, rfl⟩
      have hty : totL List.length ys ≤ 1048576 := by rw [hys]; simp [totL] at htL ⊢; omega
      have HYS := hid hys
      clear hys
      go_wp2_with fail
      refine (l3join_any a1 a' c1 c' vs L wr (H1.out.later HBW.out) HL.out (by omega) (by omega)).mono ?_
      rintro e w5 ⟨v5, rfl, x5, b5⟩
      rw [← HYS.out] at x5
      obtain ⟨a5, c5, rfl⟩ := x5.len
      have HX5 := hid x5.rd
      have HC5 := hid (HW.out.trans (b5.mono hsr))
      have hs5 : w.heap.size + 3 ≤ w5.heap.size := Nat.le_trans hsr b5.size
      have HL5 := hid (HL.out.later b5)
      have HN5 := hid (HNR.out.later b5)
      clear x5 b5 HL HNR
      go_wp2_with fail
      refine (specDict_any a5 c5 ys w5 HX5.out hty).mono ?_
      rintro e w6 ⟨rfl, b6⟩
      have HC6 := hid (HC5.out.trans (b6.mono hs5))
      have hs6 : w.heap.size + 3 ≤ w6.heap.size := Nat.le_trans hs5 b6.size
      have HL6 := hid (HL5.out.later b6)
      have HN6 := hid (HN5.out.later b6)
      have HB6 := hid (HKK.out _ HC6.out).2.2.2
      clear b6 HL5 HN5 HX5
      cases hdy : dictOK ys
      · have HDY : Hid (dictOK (vs ++ L) = false) := hid (by rw [← HYS.out]; exact hdy)
        clear hdy
        go_wp2_with fail
        refine (specDict_any a3 c3 N w6 HN6.out htN).mono ?_
        rintro e w7 ⟨rfl, b7⟩
        have HC7 := hid (HC6.out.trans (b7.mono hs6))
        have hs7 : w.heap.size + 3 ≤ w7.heap.size := Nat.le_trans hs6 b7.size
        have HN7 := hid (HN6.out.later b7)
        clear b7
        cases hdn : dictOK N
        · have HEQ := hid (HL3.out HNE.out HDY.out hdn)
          have HK7 := hid (HKK.out _ HC7.out).1
          have HB7 := hid (HKK.out _ HC7.out).2.2.2
          have q0 := cell_of_row w7 _ 0 _ _ _ HK7.out
          have q1 := cell_of_row w7 _ 1 _ _ _ HK7.out
          have q2 := cell_of_row w7 _ 2 _ _ _ HK7.out
          have f0 := frozen_of_row w7 _ 0 _ _ HK7.out
          have f1 := frozen_of_row w7 _ 1 _ _ HK7.out
          have f2 := frozen_of_row w7 _ 2 _ _ HK7.out
          simp at q0 q1 q2
          go_wp2
          refine bodyPost_ret (results_cell_row_tmp' rfl _ _ w.heap.size 56 #[.int .i64 0, .slice none 0 0, .slice none 0 0] (0, 0) _ rfl (set3 HK7.out) Try.underlying56 rfl (by kernel_rfl)) rfl ?_
          exact planRd_nil (set3b HB7.out (Nat.le_refl _)) HEQ.out.1 HEQ.out.2
        · have HEQ := hid (HL2.out HNE.out HDY.out hdn)
          clear hdn
          go_wp2_with fail
          refine (l3texts_any a3 c3 N w7 HN7.out htN).mono ?_
          rintro e w8 ⟨v8, rfl, x8, b8⟩
          obtain ⟨a8, c8, rfl⟩ := x8.len
          have HX8 := hid x8
          have HC8 := hid (HC7.out.trans (b8.mono hs7))
          have hs8 : w.heap.size + 3 ≤ w8.heap.size := Nat.le_trans hs7 b8.size
          have HN8 := hid (HN7.out.later b8)
          clear x8 b8
          go_wp2_with fail
          refine (l3texts_any a3 c3 N w8 HN8.out htN).mono ?_
          rintro e w9 ⟨v9, rfl, x9, b9⟩
          obtain ⟨a9, c9, rfl⟩ := x9.len
          have HX9 := hid x9
          have HY9 := hid (HX8.out.later b9)
          have HC9 := hid (HC8.out.trans (b9.mono hs8))
          have HK9 := hid (HKK.out _ HC9.out).1
          have HB9 := hid (HKK.out _ HC9.out).2.2.2
          clear x9 b9
          have q0 := cell_of_row w9 _ 0 _ _ _ HK9.out
          have q1 := cell_of_row w9 _ 1 _ _ _ HK9.out
          have q2 := cell_of_row w9 _ 2 _ _ _ HK9.out
          have f0 := frozen_of_row w9 _ 0 _ _ HK9.out
          have f1 := frozen_of_row w9 _ 1 _ _ HK9.out
          have f2 := frozen_of_row w9 _ 2 _ _ HK9.out
          simp at q0 q1 q2
          go_wp2
          refine bodyPost_ret (results_cell_row_tmp' rfl _ _ w.heap.size 56 #[.int .i64 2, .slice a8 N.length c8, .slice a9 N.length c9] (0, 0) _ rfl (set3 HK9.out) Try.underlying56 rfl (by kernel_rfl)) rfl ?_
          exact planRd_set (p := ⟨2, N, N⟩) HEQ.out.1 HEQ.out.2 (txts_set3 HY9.out (by omega)).rd (txts_set3 HX9.out (by omega)).rd HB9.out
      · have HEQ := hid (HL1.out HNE.out (by rw [← HYS.out]; exact hdy))
        rw [← HYS.out] at HEQ
        clear hdy
        go_wp2_with fail
        refine (l3texts_any a' c' L w6 HL6.out (by omega)).mono ?_
        rintro e w8 ⟨v8, rfl, x8, b8⟩
        obtain ⟨a8, c8, rfl⟩ := x8.len
        have HX8 := hid x8
        have HC8 := hid (HC6.out.trans (b8.mono hs6))
        have hs8 : w.heap.size + 3 ≤ w8.heap.size := Nat.le_trans hs6 b8.size
        have HL8 := hid (HL6.out.later b8)
        have HB8 := hid (below_chain HB6.out b8)
        clear x8 b8
        go_wp2_with fail
        refine (l3join_any a1 a' c1 c' vs L w8 (H1.out.later HB8.out) HL8.out (by omega) (by omega)).mono ?_
        rintro e w9 ⟨v9, rfl, x9, b9⟩
        rw [← HYS.out] at x9
        obtain ⟨a9, c9, rfl⟩ := x9.len
        have HX9 := hid x9
        have HY9 := hid (HX8.out.later b9)
        have HC9 := hid (HC8.out.trans (b9.mono hs8))
        have HK9 := hid (HKK.out _ HC9.out).1
        have HB9 := hid (HKK.out _ HC9.out).2.2.2
        clear x9 b9
        have q0 := cell_of_row w9 _ 0 _ _ _ HK9.out
        have q1 := cell_of_row w9 _ 1 _ _ _ HK9.out
        have q2 := cell_of_row w9 _ 2 _ _ _ HK9.out
        have f0 := frozen_of_row w9 _ 0 _ _ HK9.out
        have f1 := frozen_of_row w9 _ 1 _ _ HK9.out
        have f2 := frozen_of_row w9 _ 2 _ _ HK9.out
        simp at q0 q1 q2
        go_wp2
        refine bodyPost_ret (results_cell_row_tmp' rfl _ _ w.heap.size 56 #[.int .i64 1, .slice a8 L.length c8, .slice a9 ys.length c9] (0, 0) _ rfl (set3 HK9.out) Try.underlying56 rfl (by kernel_rfl)) rfl ?_
        exact planRd_set (p := ⟨1, L, ys⟩) HEQ.out.1 HEQ.out.2 (txts_set3 HY9.out (by omega)).rd (txts_set3 HX9.out (by omega)).rd HB9.out
end Go.Proofs.Ytcljakdcejhfiad
