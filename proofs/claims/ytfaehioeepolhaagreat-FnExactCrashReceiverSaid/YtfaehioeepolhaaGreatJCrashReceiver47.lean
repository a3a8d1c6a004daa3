import Derived.Test.YtfaehioeepolhaaGreatJCrashReceiver46
import Derived.Test.YtfaehioeepolhaaGreatJCrashReceiver17
namespace Go.Proofs.YtfaehioeepolhaaGreat
open Go.RowKit
theorem box_keptI {w w' : World} {g : Nat} {o : Obj} {bs : List Nat} (h : w.heap[g]? = some o) (ho : Only bs w w') (hg : g ∉ bs) : w'.heap[g]? = some o := (ho.block g (Array.getElem?_eq_some_iff.1 h).1 hg).trans h
set_option maxRecDepth 100000 in
set_option maxHeartbeats 2000000 in
theorem markLinkIn_any (e x : Int) (a b : Option Addr) (cap cd : Nat) (ys : List PP) (D : List Nat) (bs ds : List Nat) (m : Nat) (w : World) (h : OwnSl cPkt 120 w ys (.slice a ys.length cap) bs) (hnd : bs.Nodup) (h2 : OwnSl cByte 5 w D (.slice b D.length cd) ds) (hdj : ∀ y ∈ bs, y ∉ ds) (ht : totL pN ys ≤ 1048576) (hD : D.length ≤ 1048576) (hm : m ≤ 536870912) :
    Calls Tryz.prog 74 #[.agg #[.int .i64 e, .int .i64 x, .slice a ys.length cap, .slice b D.length cd], .int .i64 m] w fun e w' => e = .returned (.int .i64 ((m + sumL kT ys + D.length : Nat) : Int)) ∧ OwnCut cPkt 120 w' (mkL kT mkK m ys) 0 a cap bs ∧ OwnSl cByte 5 w' (mkByte (m + sumL kT ys) D.length) (.slice b D.length cd) ds ∧ Only (bs ++ ds) w w' := by
  have ht2 : ys.length ≤ 1048576 ∧ (ys.map pN).sum ≤ 1048576 := by unfold totL at ht; omega
  have hsm : sumL kT ys ≤ 8388608 := by have h1 := kT_le ys; omega
  have hb0 := below_new1 w (.cells #[.int .i64 e, .int .i64 x, .slice a ys.length cap, .slice b D.length cd] 37)
  have HK0 : Hid ((w.alloc (.cells #[.int .i64 e, .int .i64 x, .slice a ys.length cap, .slice b D.length cd] 37)).heap[w.heap.size]? = some (.cells #[.int .i64 e, .int .i64 x, .slice a ys.length cap, .slice b D.length cd] 37 (0, 0))) := hid (heap_alloc_new w _)
  have HO := hid (h.cut0.later hb0)
  have HBL := hid h.lt
  have HP := hid (h2.kept (fun y hy => hb0.block y (h2.lt y hy)))
  have HND := hid hnd
  have HDJ := hid hdj
  have HT2 := hid ht2
  have HB0 := hid hb0
  clear h h2 hnd hdj ht ht2 hb0
  go_enter Tryz.func74, Tryz.ntmps74
  go_wp2_with fail
  generalize (w.alloc (.cells #[.int .i64 e, .int .i64 x, .slice a ys.length cap, .slice b D.length cd] 37)) = W0 at *
  refine (markPacketS_any a cap ys 0 bs m W0 HO.out HND.out HT2.out.1 HT2.out.2 (by omega)).mono ?_
  rintro e2 w2 ⟨rfl, o2, on2⟩
  rw [List.drop_zero]
  simp only [List.drop_zero, List.take_zero, List.nil_append] at o2
  have K2 := hid (box_keptI HK0.out on2 (fun h => absurd (HBL.out _ h) (by omega)))
  have P2 := HP.out.kept (w' := w2) (fun y hy => on2.block y (HP.out.lt y hy) (fun h => HDJ.out y h hy))
  have HROW := hid P2.bytes.1
  have HDS := hid P2.bytes.2.1
  have HO2 := hid o2
  have HON := hid ((Only.of_below HB0.out).trans on2)
  clear o2 on2 P2
  have p3 := cell_of_row _ _ 3 _ _ _ K2.out
  simp only [List.getElem?_toArray, List.getElem?_cons_zero, List.getElem?_cons_succ] at p3
  generalize hS : sumL kT ys = S at *
  have HS := hid hS
  clear hS
  go_wp2_with fail
  (first | rw [show ((m : Int) + (S : Int)) = ((m + S : Nat) : Int) from by omega] | skip)
  refine (markByteS_any 0 _ (m + S) _ _ w2 HROW.out (by omega) (by omega)).mono ?_
  rintro e3 w3 ⟨rfl, o3, g3⟩
  have on3 := only_of_grown g3
  rw [← HDS.out] at on3
  have o2' := HO2.out.only on3 (fun y hy h => HDJ.out y hy h)
  have HR := hid o2'
  have HR3 : Hid (OwnSl cByte 5 w3 (mkByte (m + S) D.length) (.slice b D.length cd) ds) := hid (by rw [HDS.out]; exact ownSl_bytes o3 (mkByte_ok _ _))
  have HON3 : Hid (Only (bs ++ ds) w w3) := hid ((HON.out.mono (fun y hy => List.mem_append_left _ hy)).trans (on3.mono (fun y hy => List.mem_append_right _ hy)))
  clear o3 g3 on3 o2' p3
  obtain ⟨Z, hZ⟩ : ∃ Z : Int, Z = ((m + S + D.length : Nat) : Int) := ⟨_, rfl⟩
  (first | rw [← hZ] | skip)
  have HZ := hid hZ
  clear hZ
  go_wp2
  go_ret
  exact ⟨by rw [HS.out, HZ.out]; rfl, HR.out, by rw [HS.out]; exact HR3.out, HON3.out⟩
set_option maxRecDepth 100000 in
set_option maxHeartbeats 2000000 in
theorem heldLinkIn_any (e x : Int) (a b : Option Addr) (cap cd n : Nat) (xs : List PP) (m : Nat) (w : World) (hr : RdSl cPkt w (mkL kT mkK m xs) (.slice a xs.length cap)) (hp : RdSl cByte w (mkByte (m + sumL kT xs) n) (.slice b n cd)) (ht : totL pN xs ≤ 1048576) (hn : n ≤ 1048576) (hm : m ≤ 536870912) :
    Calls Tryz.prog 75 #[.agg #[.int .i64 e, .int .i64 x, .slice a xs.length cap, .slice b n cd], .int .i64 m] w fun e w' => e = .returned (.int .i64 ((m + sumL kT xs + n : Nat) : Int)) ∧ Below w.heap.size w w' := by
  have ht2 : xs.length ≤ 1048576 ∧ (xs.map pN).sum ≤ 1048576 := by unfold totL at ht; omega
  have hsm : sumL kT xs ≤ 8388608 := by have h1 := kT_le xs; omega
  have hb0 := below_new1 w (.cells #[.int .i64 e, .int .i64 x, .slice a xs.length cap, .slice b n cd] 37)
  have HK0 : Hid ((w.alloc (.cells #[.int .i64 e, .int .i64 x, .slice a xs.length cap, .slice b n cd] 37)).heap[w.heap.size]? = some (.cells #[.int .i64 e, .int .i64 x, .slice a xs.length cap, .slice b n cd] 37 (0, 0))) := hid (heap_alloc_new w _)
  have HR := hid (hr.later hb0)
  have HP := hid (hp.later hb0)
  have HT2 := hid ht2
  have HB0 := hid hb0
  clear hr hp ht ht2 hb0
  go_enter Tryz.func75, Tryz.ntmps75
  go_wp2_with fail
  generalize (w.alloc (.cells #[.int .i64 e, .int .i64 x, .slice a xs.length cap, .slice b n cd] 37)) = W0 at *
  refine (heldPacketS_any a cap xs m W0 HR.out HT2.out.1 HT2.out.2 (by omega)).mono ?_
  rintro e2 w2 ⟨rfl, b2⟩
  have K2 := hid ((b2.block _ (Array.getElem?_eq_some_iff.1 HK0.out).1).trans HK0.out)
  have HP2 := hid (rdBytes_rdP (HP.out.later b2))
  have HB2 := hid (below_chain HB0.out b2)
  clear b2
  have p3 := cell_of_row _ _ 3 _ _ _ K2.out
  simp only [List.getElem?_toArray, List.getElem?_cons_zero, List.getElem?_cons_succ] at p3
  generalize hS : sumL kT xs = S at *
  have HS := hid hS
  clear hS
  obtain ⟨Y, hY⟩ : ∃ Y : Int, Y = ((m + S : Nat) : Int) := ⟨_, rfl⟩
  have hY0 : decide (Y < 0) = false := decide_eq_false (by omega)
  rw [← hY]
  have HY := hid hY
  clear hY
  go_wp2_with fail
  rw [HY.out]
  refine (heldByteS_any b n cd (m + S) w2 HP2.out (by omega) (by omega)).mono ?_
  rintro e3 w3 ⟨rfl, b3⟩
  have HB3 := hid (below_chain HB2.out b3)
  clear b3 p3
  obtain ⟨Z, hZ⟩ : ∃ Z : Int, Z = ((m + S + n : Nat) : Int) := ⟨_, rfl⟩
  have hZ0 : decide (Z < 0) = false := decide_eq_false (by omega)
  rw [← hZ]
  have HZ := hid hZ
  clear hZ
  go_wp2
  go_ret
  exact ⟨by rw [HS.out, HZ.out]; rfl, HB3.out⟩
end Go.Proofs.YtfaehioeepolhaaGreat
