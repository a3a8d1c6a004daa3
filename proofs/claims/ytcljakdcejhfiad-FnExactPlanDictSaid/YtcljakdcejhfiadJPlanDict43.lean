import Derived.Test.YtcljakdcejhfiadJPlanDict29
import Derived.Test.YtcljakdcejhfiadJPlanDict30
import Derived.Test.YtcljakdcejhfiadJPlanDict37
import Derived.Test.YtcljakdcejhfiadJPlanDict42
import Derived.Laws.ResultCell
namespace Go.Proofs.Ytcljakdcejhfiad
open Go.RowKit
theorem results_cell_row_tmp {P : Program} {fn : Func} {p u : Tmp} {ty : TypeId} (h : fn.results = #[.cell p ty, .tmp u]) (tmps : Array Value) (w : World) (g : Nat) (t : TypeId) (cs : Array Value) (fr : Nat × Nat) (d : TypeDesc)
    (hp : tmps.getD p undef = .pointer (some ⟨g, 0, none⟩)) (hg : w.heap[g]? = some (.cells cs t fr))
    (hu : P.underlying ty = some d) (hd : (match d with | .struct _ | .array _ _ => true | _ => false) = true) (hi : (P.info? ty).map (·.size) = some cs.size) :
    (results fn tmps).run P w = .ok (.tuple #[.agg cs, tmps.getD u undef]) w := by
  rw [results_cell_tmp h, hp]
  simp [asAddr, run_loadVar_row w g t ty cs fr d hg hu hd hi]
def PlanOwn (w : World) (p : PP) (C : Int) (e : Ending) (w' : World) : Prop :=
  ∃ a1 c1 a2 c2 x1 x2, e = .returned (.tuple #[.agg #[.int .i64 p.act, .slice a1 p.fresh.length c1, .slice a2 p.values.length c2], .int .i64 C]) ∧
    OwnSl cSS 69 w' p.fresh (.slice a1 p.fresh.length c1) x1 ∧ OwnSl cSS 69 w' p.values (.slice a2 p.values.length c2) x2 ∧ (∀ b ∈ x1 ++ x2, w.heap.size ≤ b) ∧ (x1 ++ x2).Nodup ∧ Below w.heap.size w w'
theorem planOwn_nil {w w' : World} {p : PP} {C C' : Int} (hb : Below w.heap.size w w') (hp : p = noPlan) (hC : C = C') : PlanOwn w p C (.returned (.tuple #[.agg #[.int .i64 0, .slice none 0 0, .slice none 0 0], .int .i64 C'])) w' := by
  subst hp hC
  exact ⟨none, 0, none, 0, [], [], rfl, .inl ⟨rfl, rfl, rfl⟩, .inl ⟨rfl, rfl, rfl⟩, by simp, by simp, hb⟩
theorem own_set3 {w : World} {g : Nat} {x y z : Value} {xs : List (List Nat)} {v : Value} {bs : List Nat} (h : OwnSl cSS 69 w xs v bs) (hg : ∀ b ∈ bs, b ≠ g) : OwnSl cSS 69 (((w.setCell ⟨g, 0, none⟩ x).setCell ⟨g, 1, none⟩ y).setCell ⟨g, 2, none⟩ z) xs v bs :=
  h.kept (fun b hb => set3o (hg b hb))
set_option maxRecDepth 100000 in
set_option maxHeartbeats 2000000 in
theorem planOf_any (a1 a2 : Option Addr) (c1 c2 : Nat) (vs fs : List (List Nat)) (act : Int) (w : World) (h1 : RdSl cSS w vs (.slice a1 vs.length c1)) (h2 : RdSl cSS w fs (.slice a2 fs.length c2)) (ha : IntIn act) (ht : totL List.length vs + totL List.length fs ≤ 1048576) :
    Calls Try.prog 82 #[.slice a1 vs.length c1, .int .i64 act, .slice a2 fs.length c2] w (PlanOwn w (planOfP vs act fs) (planOfC vs act fs)) := by
  have H1 := hid h1
  have H2 := hid h2
  have HA := hid ha
  clear h1 h2 ha
  have hB0 := below_new1 w (.cells #[.int .i64 0, .slice none 0 0, .slice none 0 0] 56)
  have HQ : Hid (Calls Try.prog 121 #[.slice a1 vs.length c1, .int .i64 act, .slice a2 fs.length c2] (w.alloc (.cells #[.int .i64 0, .slice none 0 0, .slice none 0 0] 56)) (AppOwn (w.alloc (.cells #[.int .i64 0, .slice none 0 0, .slice none 0 0] 56)) (applyV vs act fs) (applyC vs act fs))) := hid (implApply_any a1 a2 c1 c2 vs fs act _ (H1.out.later hB0) (H2.out.later hB0) HA.out ht)
  have HB0 := hid hB0
  clear hB0
  go_enter Try.func82, Try.ntmps82
  go_wp2_with fail
  refine HQ.out.mono ?_
  rintro e w2 ⟨aR, cR, bs, rfl, oR, lR, nR, b2⟩
  have hsz1 : (w.alloc (.cells #[.int .i64 0, .slice none 0 0, .slice none 0 0] 56)).heap.size = w.heap.size + 1 := by simp
  rw [hsz1] at b2 lR
  have HK2 : Hid (w2.heap[w.heap.size]? = some (.cells #[.int .i64 0, .slice none 0 0, .slice none 0 0] 56 (0, 0))) := hid (heap1 _ b2)
  have HB2 : Hid (Below w.heap.size w w2) := hid (HB0.out.trans (b2.mono (by omega)))
  have hs2 : w.heap.size + 1 ≤ w2.heap.size := by have := b2.size; rw [hsz1] at this; exact this
  clear hsz1 b2
  by_cases hc : applyC vs act fs = 0
  · have HP : Hid (planOfP vs act fs = ⟨act, fs, nextD vs act fs⟩) := hid (by unfold planOfP; rw [if_pos hc])
    have HC : Hid (planOfC vs act fs = 0) := hid (by unfold planOfC; rw [if_pos hc])
    rw [applyV_ok hc] at oR ⊢
    rw [hc]
    have HOR := hid oR
    have HLR := hid lR
    have HNR := hid nR
    have HLT := hid oR.lt
    clear oR lR nR hc
    generalize nextD vs act fs = ys at *
    go_wp2_with fail
    refine (copyTexts_any a2 c2 fs w2 (H2.out.later HB2.out) (by omega)).mono ?_
    rintro e w3 ⟨v3, bs3, rfl, o3, l3, n3, b3⟩
    obtain ⟨a3, c3, rfl, -⟩ := id o3.rd
    have HK3 : Hid (w3.heap[w.heap.size]? = some (.cells #[.int .i64 0, .slice none 0 0, .slice none 0 0] 56 (0, 0))) := hid ((b3.block _ (by omega)).trans HK2.out)
    have HB3 := hid (below_chain HB2.out b3)
    have HO3 := hid o3
    have HL3 := hid l3
    have HN3 := hid n3
    have HOR3 := hid (HOR.out.kept (fun b hb => b3.block b (HLT.out b hb)))
    clear o3 l3 n3 b3
    have q0 := cell_of_row w3 _ 0 _ _ _ HK3.out
    have q1 := cell_of_row w3 _ 1 _ _ _ HK3.out
    have q2 := cell_of_row w3 _ 2 _ _ _ HK3.out
    have f0 := frozen_of_row w3 _ 0 _ _ HK3.out
    have f1 := frozen_of_row w3 _ 1 _ _ HK3.out
    have f2 := frozen_of_row w3 _ 2 _ _ HK3.out
    simp at q0 q1 q2
    go_wp2
    refine bodyPost_ret (results_cell_row_tmp rfl _ _ w.heap.size 56 #[.int .i64 act, .slice a3 fs.length c3, .slice aR ys.length cR] (0, 0) _ rfl (set3 HK3.out) Try.underlying56 rfl (by kernel_rfl)) rfl ?_
    rw [HP.out, HC.out]
    refine ⟨a3, c3, aR, cR, bs3, bs, rfl, own_set3 HO3.out (fun b hb => by have := HL3.out b hb; omega), own_set3 HOR3.out (fun b hb => by have := HLR.out b hb; omega), ?_, ?_, set3b HB3.out (Nat.le_refl _)⟩
    · intro b hb
      rcases List.mem_append.1 hb with hb | hb
      · have := HL3.out b hb; omega
      · have := HLR.out b hb; omega
    · refine List.nodup_append.2 ⟨HN3.out, HNR.out, fun x hx y hy e => ?_⟩
      have := HL3.out x hx
      have := HLT.out y hy
      omega
  · have HP : Hid (planOfP vs act fs = noPlan) := hid (by unfold planOfP; rw [if_neg hc])
    have HC : Hid (planOfC vs act fs = 2) := hid (by unfold planOfC; rw [if_neg hc])
    have hb : (applyC vs act fs != 0) = true := by simpa using hc
    clear oR lR nR
    generalize applyC vs act fs = C at *
    generalize (applyV vs act fs).length = n at *
    have q0 := cell_of_row w2 _ 0 _ _ _ HK2.out
    have q1 := cell_of_row w2 _ 1 _ _ _ HK2.out
    have q2 := cell_of_row w2 _ 2 _ _ _ HK2.out
    have f0 := frozen_of_row w2 _ 0 _ _ HK2.out
    have f1 := frozen_of_row w2 _ 1 _ _ HK2.out
    have f2 := frozen_of_row w2 _ 2 _ _ HK2.out
    simp at q0 q1 q2
    go_wp2
    refine bodyPost_ret (results_cell_row_tmp rfl _ _ w.heap.size 56 #[.int .i64 0, .slice none 0 0, .slice none 0 0] (0, 0) _ rfl (set3 HK2.out) Try.underlying56 rfl (by kernel_rfl)) rfl ?_
    exact planOwn_nil (set3b HB2.out (Nat.le_refl _)) HP.out HC.out
end Go.Proofs.Ytcljakdcejhfiad
