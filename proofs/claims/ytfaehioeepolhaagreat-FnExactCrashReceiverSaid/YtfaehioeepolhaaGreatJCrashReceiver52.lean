import Derived.Test.YtfaehioeepolhaaGreatJCrashReceiver51
namespace Go.Proofs.YtfaehioeepolhaaGreat
open Go.RowKit
set_option maxHeartbeats 1000000 in
theorem markT_none (a : Option Addr) (cap m : Nat) (w : World) (_hm : m ≤ 1099511627776) :
    Calls Tryz.prog 33 #[.slice a 0 cap, .int .i64 m] w fun e w' => e = .returned (.int .i64 m) ∧ w' = w := by
  go_enter Tryz.func33, Tryz.ntmps33
  go_wp2
  refine wp_loop_rounds 1 ?_; rw [rounds_succ]
  go_wp2
  go_ret
  exact ⟨rfl, rfl⟩
set_option maxHeartbeats 1000000 in
theorem heldT_none (a : Option Addr) (cap m : Nat) (w : World) (_hm : m ≤ 1099511627776) :
    Calls Tryz.prog 34 #[.slice a 0 cap, .int .i64 m] w fun e w' => e = .returned (.int .i64 m) ∧ w' = w := by
  go_enter Tryz.func34, Tryz.ntmps34
  go_wp2
  refine wp_loop_rounds 1 ?_; rw [rounds_succ]
  go_wp2
  go_ret
  exact ⟨rfl, rfl⟩
set_option maxRecDepth 100000 in
set_option maxHeartbeats 4000000 in
theorem heldRcv_none (x y : Int) (w : World) :
    Calls Tryz.prog 29 #[.agg #[.int .i64 x, .int .i64 y, .bool false, .int .i64 0, .int .i64 0, .slice none 0 0, .slice none 0 0, .bool false, .slice none 0 0, .int .i64 0, .slice none 0 0, .slice none 0 0, .int .i64 0], .int .i64 1] w fun e w' => e = .returned (.int .i64 1) ∧ Below w.heap.size w w' := by
  have HK0 : Hid ((w.alloc (.cells #[.int .i64 x, .int .i64 y, .bool false, .int .i64 0, .int .i64 0, .slice none 0 0, .slice none 0 0, .bool false, .slice none 0 0, .int .i64 0, .slice none 0 0, .slice none 0 0, .int .i64 0] 43)).heap[w.heap.size]? = some (.cells #[.int .i64 x, .int .i64 y, .bool false, .int .i64 0, .int .i64 0, .slice none 0 0, .slice none 0 0, .bool false, .slice none 0 0, .int .i64 0, .slice none 0 0, .slice none 0 0, .int .i64 0] 43 (0, 0))) := hid (heap_alloc_new w _)
  have HB0 := hid (below_new1 w (.cells #[.int .i64 x, .int .i64 y, .bool false, .int .i64 0, .int .i64 0, .slice none 0 0, .slice none 0 0, .bool false, .slice none 0 0, .int .i64 0, .slice none 0 0, .slice none 0 0, .int .i64 0] 43))
  go_enter Tryz.func29, Tryz.ntmps29
  go_upto_region 1 with fail
  generalize (w.alloc (.cells #[.int .i64 x, .int .i64 y, .bool false, .int .i64 0, .int .i64 0, .slice none 0 0, .slice none 0 0, .bool false, .slice none 0 0, .int .i64 0, .slice none 0 0, .slice none 0 0, .int .i64 0] 43)) = W0 at *
  have p3 := cell_of_row _ _ 3 _ _ _ HK0.out
  have p4 := cell_of_row _ _ 4 _ _ _ HK0.out
  have p5 := cell_of_row _ _ 5 _ _ _ HK0.out
  have p6 := cell_of_row _ _ 6 _ _ _ HK0.out
  simp only [List.getElem?_toArray, List.getElem?_cons_zero, List.getElem?_cons_succ] at p3 p4 p5 p6
  go_wp2_with fail
  refine (heldLinkIn_any 0 0 none none 0 0 0 [] 1 W0 ⟨none, 0, rfl, Nat.le_refl _, Nat.zero_le _, fun _ => rfl, .inl rfl⟩ ⟨none, 0, rfl, Nat.le_refl _, Nat.zero_le _, fun _ => rfl, .inl rfl⟩ (by decide) (by decide) (by decide)).mono ?_
  rintro e w2 ⟨rfl, b2⟩
  have HK2 := hid (boxR HK0.out b2)
  have HB2 := hid (below_chain HB0.out b2)
  clear b2 p3 p4 p5 p6
  have p7 := cell_of_row _ _ 7 _ _ _ HK2.out
  have p8 := cell_of_row _ _ 8 _ _ _ HK2.out
  have p9 := cell_of_row _ _ 9 _ _ _ HK2.out
  have p10 := cell_of_row _ _ 10 _ _ _ HK2.out
  simp only [List.getElem?_toArray, List.getElem?_cons_zero, List.getElem?_cons_succ] at p7 p8 p9 p10
  rw [show (((1 + sumL kT [] + 0 : Nat) : Int)) = 1 from rfl]
  go_wp2_with fail
  refine (heldStream_any ⟨false, [], 0, []⟩ 0 rfl none none 0 0 1 w2 ⟨none, 0, rfl, Nat.le_refl _, Nat.zero_le _, fun _ => rfl, .inl rfl⟩ ⟨none, 0, rfl, Nat.le_refl _, Nat.zero_le _, fun _ => rfl, .inl rfl⟩ (by decide) (by decide) (by decide) (by decide)).mono ?_
  rintro e w3 ⟨rfl, b3⟩
  have HK3 := hid (boxR HK2.out b3)
  have HB3 := hid (below_chain HB2.out b3)
  clear b3 p7 p8 p9 p10
  have p11 := cell_of_row _ _ 11 _ _ _ HK3.out
  simp only [List.getElem?_toArray, List.getElem?_cons_zero, List.getElem?_cons_succ] at p11
  rw [show (((1 + fT (⟨false, [], 0, []⟩ : PStr).fields : Nat) : Int)) = 1 from rfl]
  go_wp2_with fail
  refine (heldT_none none 0 1 w3 (by decide)).mono ?_
  rintro e w4 ⟨rfl, rfl⟩
  go_wp2
  go_ret
  exact ⟨rfl, HB3.out⟩
theorem ownRcv_none (x y : Int) (w : World) : OwnRcv w ⟨x, y, false, ⟨0, 0, [], []⟩, ⟨false, [], 0, []⟩, [], 0⟩ none 0 none 0 none 0 none 0 none 0 [] [] [] [] [] := ⟨⟨.inl ⟨rfl, rfl, rfl⟩, .inl ⟨rfl, rfl, rfl⟩⟩, ⟨.inl ⟨rfl, rfl, rfl⟩, .inl ⟨rfl, rfl, rfl⟩⟩, .inl ⟨rfl, rfl, rfl⟩⟩
set_option maxRecDepth 100000 in
set_option maxHeartbeats 4000000 in
theorem markRcv_none (x y : Int) (w : World) :
    Calls Tryz.prog 28 #[.agg #[.int .i64 x, .int .i64 y, .bool false, .int .i64 0, .int .i64 0, .slice none 0 0, .slice none 0 0, .bool false, .slice none 0 0, .int .i64 0, .slice none 0 0, .slice none 0 0, .int .i64 0], .int .i64 1] w fun e w' => e = .returned (.int .i64 1) ∧ Only [] w w' := by
  have HK0 : Hid ((w.alloc (.cells #[.int .i64 x, .int .i64 y, .bool false, .int .i64 0, .int .i64 0, .slice none 0 0, .slice none 0 0, .bool false, .slice none 0 0, .int .i64 0, .slice none 0 0, .slice none 0 0, .int .i64 0] 43)).heap[w.heap.size]? = some (.cells #[.int .i64 x, .int .i64 y, .bool false, .int .i64 0, .int .i64 0, .slice none 0 0, .slice none 0 0, .bool false, .slice none 0 0, .int .i64 0, .slice none 0 0, .slice none 0 0, .int .i64 0] 43 (0, 0))) := hid (heap_alloc_new w _)
  have HO0 := hid (Only.of_below (bs := []) (below_new1 w (.cells #[.int .i64 x, .int .i64 y, .bool false, .int .i64 0, .int .i64 0, .slice none 0 0, .slice none 0 0, .bool false, .slice none 0 0, .int .i64 0, .slice none 0 0, .slice none 0 0, .int .i64 0] 43)))
  go_enter Tryz.func28, Tryz.ntmps28
  go_upto_region 1 with fail
  generalize (w.alloc (.cells #[.int .i64 x, .int .i64 y, .bool false, .int .i64 0, .int .i64 0, .slice none 0 0, .slice none 0 0, .bool false, .slice none 0 0, .int .i64 0, .slice none 0 0, .slice none 0 0, .int .i64 0] 43)) = W0 at *
  have p3 := cell_of_row _ _ 3 _ _ _ HK0.out
  have p4 := cell_of_row _ _ 4 _ _ _ HK0.out
  have p5 := cell_of_row _ _ 5 _ _ _ HK0.out
  have p6 := cell_of_row _ _ 6 _ _ _ HK0.out
  simp only [List.getElem?_toArray, List.getElem?_cons_zero, List.getElem?_cons_succ] at p3 p4 p5 p6
  go_wp2_with fail
  refine (markLinkIn_any 0 0 none none 0 0 [] [] [] [] 1 W0 (.inl ⟨rfl, rfl, rfl⟩) List.nodup_nil (.inl ⟨rfl, rfl, rfl⟩) (by simp) (by decide) (by decide) (by decide)).mono ?_
  rintro e w2 ⟨rfl, -, -, on2⟩
  have HK2 := hid (box_keptI HK0.out on2 (by simp))
  have HO2 := hid (HO0.out.trans on2)
  clear on2 p3 p4 p5 p6
  have p7 := cell_of_row _ _ 7 _ _ _ HK2.out
  have p8 := cell_of_row _ _ 8 _ _ _ HK2.out
  have p9 := cell_of_row _ _ 9 _ _ _ HK2.out
  have p10 := cell_of_row _ _ 10 _ _ _ HK2.out
  simp only [List.getElem?_toArray, List.getElem?_cons_zero, List.getElem?_cons_succ] at p7 p8 p9 p10
  rw [show (((1 + sumL kT [] + ([] : List Nat).length : Nat) : Int)) = 1 from rfl]
  go_wp2_with fail
  refine (markStrX_any ⟨false, [], 0, []⟩ none none 0 0 [] [] 1 w2 ⟨.inl ⟨rfl, rfl, rfl⟩, .inl ⟨rfl, rfl, rfl⟩⟩ List.nodup_nil (by decide) (by decide) (by decide) (by decide)).mono ?_
  rintro e w3 ⟨rfl, -, on3⟩
  have HK3 := hid (box_keptI HK2.out on3 (by simp))
  have HO3 := hid (HO2.out.trans on3)
  clear on3 p7 p8 p9 p10
  have p11 := cell_of_row _ _ 11 _ _ _ HK3.out
  simp only [List.getElem?_toArray, List.getElem?_cons_zero, List.getElem?_cons_succ] at p11
  rw [show (((1 + fT (⟨false, [], 0, []⟩ : PStr).fields + sumL tot (⟨false, [], 0, []⟩ : PStr).dicts : Nat) : Int)) = 1 from rfl]
  go_wp2_with fail
  refine (markT_none none 0 1 w3 (by decide)).mono ?_
  rintro e w4 ⟨rfl, rfl⟩
  go_wp2
  go_ret
  exact ⟨rfl, HO3.out⟩
end Go.Proofs.YtfaehioeepolhaaGreat
