import Derived.Test.YtcljakdcejhfiadJPlanDict23
import Derived.Test.YtcljakdcejhfiadJPlanDict28
import Derived.Test.YtcljakdcejhfiadJPlanDict14
namespace Go.Proofs.Ytcljakdcejhfiad
open Go.RowKit
set_option maxHeartbeats 1000000 in
theorem eqPlan_any (a1 a2 b1 b2 : Option Addr) (c1 c2 d1 d2 : Nat) (p : PP) (w : World) (h1 : RdSl cSS w p.fresh (.slice a1 p.fresh.length c1)) (h2 : RdSl cSS w p.values (.slice a2 p.values.length c2)) (k1 : RdSl cSS w p.fresh (.slice b1 p.fresh.length d1)) (k2 : RdSl cSS w p.values (.slice b2 p.values.length d2))
    (t1 : totL List.length p.fresh ≤ 1048576) (t2 : totL List.length p.values ≤ 1048576) :
    Calls Try.prog 31 #[.agg #[.int .i64 p.act, .slice a1 p.fresh.length c1, .slice a2 p.values.length c2], .agg #[.int .i64 p.act, .slice b1 p.fresh.length d1, .slice b2 p.values.length d2]] w fun e w' => e = .returned (.bool true) ∧ Below w.heap.size w w' := by
  have H1 := hid h1
  have H2 := hid h2
  have K1 := hid k1
  have K2 := hid k2
  clear h1 h2 k1 k2
  go_enter Try.func31, Try.ntmps31
  go_wp2_with fail
  refine (eqSS_any a1 b1 c1 d1 p.fresh _ (H1.out.later (below_new2 _ _ _)) (K1.out.later (below_new2 _ _ _)) t1).mono ?_
  rintro e w2 ⟨rfl, b2'⟩
  have hh := heap2 (w := w) _ _ (by simpa using b2')
  have p0 := cell_of_row w2 _ 2 _ _ _ hh.1
  have q0 := cell_of_row w2 _ 2 _ _ _ hh.2
  simp at p0 q0
  have HB : Hid (Below w.heap.size w w2) := hid ((below_new2 w _ _).trans (b2'.mono (by simp; omega)))
  clear b2' hh
  go_wp2_with fail
  refine (eqSS_any a2 b2 c2 d2 p.values w2 (H2.out.later HB.out) (K2.out.later HB.out) t2).mono ?_
  rintro e w3 ⟨rfl, b3⟩
  have HB3 := hid (below_chain HB.out b3)
  clear b3
  go_wp2
  go_ret
  exact ⟨rfl, HB3.out⟩
set_option maxHeartbeats 1000000 in
theorem markPlan_any (v1 v2 : Value) (p : PP) (x1 x2 : List Nat) (m : Nat) (w : World) (h1 : OwnSl cSS 69 w p.fresh v1 x1) (h2 : OwnSl cSS 69 w p.values v2 x2) (hnd : (x1 ++ x2).Nodup)
    (t1 : p.fresh.length ≤ 40 ∧ tot p.fresh ≤ 4000) (t2 : p.values.length ≤ 40 ∧ tot p.values ≤ 4000) (hm : m ≤ 1048576) :
    Calls Try.prog 34 #[.agg #[.int .i64 p.act, v1, v2], .int .i64 m] w fun e w' => e = .returned (.int .i64 ((m + tot p.fresh + tot p.values : Nat) : Int)) ∧ OwnSl cSS 69 w' (mkSS m p.fresh) v1 x1 ∧ OwnSl cSS 69 w' (mkSS (m + tot p.fresh) p.values) v2 x2 ∧ Only (x1 ++ x2) w w' := by
  obtain ⟨a1, c1, rfl, -⟩ := id h1.rd
  obtain ⟨a2, c2, rfl, -⟩ := id h2.rd
  obtain ⟨n1, n2, n12⟩ := List.nodup_append.1 hnd
  have N1 := hid n1
  have N2 := hid n2
  have N12 := hid n12
  have H1 := hid h1
  have H2 := hid h2
  have L1 := hid h1.lt
  have L2 := hid h2.lt
  clear h1 h2 hnd n1 n2 n12
  go_enter Try.func34, Try.ntmps34
  go_wp2_with fail
  refine (markSS_any _ p.fresh x1 m _ (H1.out.kept (fun b hb => (below_new1 w _).block b (L1.out b hb))) N1.out (by omega) (by omega) (by omega)).mono ?_
  rintro e w2 ⟨rfl, o2, on2⟩
  have hblk : w2.heap[w.heap.size]? = some (.cells #[.int .i64 p.act, .slice a1 p.fresh.length c1, .slice a2 p.values.length c2] 56 (0, 0)) := by
    rw [on2.block w.heap.size (by simp) (fun h => by have := L1.out _ h; omega)]
    exact heap_alloc_new w _
  have p0 := cell_of_row w2 _ 2 _ _ _ hblk
  simp at p0
  have hk : ∀ b ∈ x2, w2.heap[b]? = w.heap[b]? := fun b hb => by
    rw [on2.block b (by have := L2.out b hb; simp; omega) (fun h => N12.out b h b hb rfl)]
    exact (below_new1 w _).block b (L2.out b hb)
  have HO2 := hid o2
  have HN2 := hid on2
  have HK := hid hk
  clear o2 on2 hk hblk
  go_wp2_with fail
  refine (markSS_any _ p.values x2 (m + tot p.fresh) w2 (H2.out.kept HK.out) N2.out (by omega) (by omega) (by omega)).mono ?_
  rintro e w3 ⟨rfl, o3, on3⟩
  have HO3 := hid o3
  have HN3 := hid on3
  have HL2 := hid HO2.out.lt
  clear o3 on3
  go_wp2
  go_ret
  refine ⟨rfl, HO2.out.kept (fun b hb => HN3.out.block b (HL2.out b hb) (fun h => N12.out b hb b h rfl)), HO3.out, ?_⟩
  have hA : Only (x1 ++ x2) w w2 := (Only.of_below (below_new1 w _)).trans (HN2.out.mono (fun x hx => List.mem_append_left _ hx))
  exact hA.trans (HN3.out.mono (fun x hx => List.mem_append_right _ hx))
set_option maxHeartbeats 1000000 in
theorem heldPlan_any (a1 a2 : Option Addr) (c1 c2 : Nat) (p : PP) (m : Nat) (w : World) (h1 : RdSl cSS w (mkSS m p.fresh) (.slice a1 p.fresh.length c1)) (h2 : RdSl cSS w (mkSS (m + tot p.fresh) p.values) (.slice a2 p.values.length c2))
    (t1 : p.fresh.length ≤ 40 ∧ tot p.fresh ≤ 4000) (t2 : p.values.length ≤ 40 ∧ tot p.values ≤ 4000) (hm : m ≤ 1048576) :
    Calls Try.prog 35 #[.agg #[.int .i64 p.act, .slice a1 p.fresh.length c1, .slice a2 p.values.length c2], .int .i64 m] w fun e w' => e = .returned (.int .i64 ((m + tot p.fresh + tot p.values : Nat) : Int)) ∧ Below w.heap.size w w' := by
  have H1 := hid h1
  have H2 := hid h2
  clear h1 h2
  go_enter Try.func35, Try.ntmps35
  go_wp2_with fail
  refine (heldSS_any a1 c1 p.fresh m _ (H1.out.later (below_new1 _ _)) (by omega) (by omega) (by omega)).mono ?_
  rintro e w2 ⟨rfl, b2⟩
  have hh := heap1 (w := w) _ (by simpa using b2)
  have p0 := cell_of_row w2 _ 2 _ _ _ hh
  simp at p0
  have HB : Hid (Below w.heap.size w w2) := hid ((below_new1 w _).trans (b2.mono (by simp)))
  clear b2 hh
  go_wp2_with fail
  refine (heldSS_any a2 c2 p.values (m + tot p.fresh) w2 (H2.out.later HB.out) (by omega) (by omega) (by omega)).mono ?_
  rintro e w3 ⟨rfl, b3⟩
  have HB3 := hid (below_chain HB.out b3)
  clear b3
  go_wp2
  go_ret
  exact ⟨rfl, HB3.out⟩
end Go.Proofs.Ytcljakdcejhfiad
