import Derived.Test.YtfaehioeepolhaaGreatJPoll48
import Derived.Test.YtfaehioeepolhaaGreatJPoll11
import Derived.Test.YtfaehioeepolhaaGreatJPoll7
import Derived.Test.YtfaehioeepolhaaGreatJPoll2
import Derived.Test.YtfaehioeepolhaaGreatJPoll9
namespace Go.Proofs.YtfaehioeepolhaaGreat
open Go.RowKit
theorem box_keptI {w w' : World} {g : Nat} {o : Obj} {bs : List Nat} (h : w.heap[g]? = some o) (ho : Only bs w w') (hg : g ∉ bs) : w'.heap[g]? = some o := (ho.block g (Array.getElem?_eq_some_iff.1 h).1 hg).trans h
set_option maxRecDepth 100000 in
set_option maxHeartbeats 2000000 in
theorem markLinkIn_any (e x : Int) (a b : Option Addr) (cap cd : Nat) (ys : List PP) (D : List Nat) (bs ds : List Nat) (m : Nat) (w : World) (h : OwnSl cPkt 120 w ys (.slice a ys.length cap) bs) (hnd : bs.Nodup) (h2 : OwnSl cByte 5 w D (.slice b D.length cd) ds) (hdj : ∀ y ∈ bs, y ∉ ds) (ht : totL pN ys ≤ 1048576) (hD : D.length ≤ 1048576) (hm : m ≤ 536870912) :
    Calls Tryz.prog 74 #[.agg #[.int .i64 e, .int .i64 x, .slice a ys.length cap, .slice b D.length cd], .int .i64 m] w fun e w' => e = .returned (.int .i64 ((m + sumL kT ys + D.length : Nat) : Int)) ∧ OwnCut cPkt 120 w' (mkL kT mkK m ys) 0 a cap bs ∧ OwnSl cByte 5 w' (mkByte (m + sumL kT ys) D.length) (.slice b D.length cd) ds ∧ Only (bs ++ ds) w w' := by
  have ht2 : ys.length ≤ 1048576 ∧ (ys.map pN).sum ≤ 1048576 := by unfold totL at ht; omega
  have hsm : sumL kT ys ≤ 8388608 := by have h1 := kT_le ys; omega
  have hb0 := below_new1 w (.cells #[.int .i64 e, .int .i64 x, .slice a ys.length cap, .slice b D.length cd] 37)
  have HK0 : Hid ((w.alloc (.cells #[.int .i64 e, .int .i64 x, .slice a ys.length cap, .slice b D.length cd] 37)).heap[w.heap.size]? = some (.cells #[.int .i64 e, .int .i64 x, .slice a ys.length cap, .slice b D.length cd] 37 (0, 0))) := hid (heap_alloc_new w _)
  have HO := hid (h.cut0.later hb0)
  have HBL := hid h.lt
  have HP := hid (h2.kept (fun y hy => hb0.block y (h2.lt y hy)))
  have HND := hid hnd
  have HDJ := hid hdj
  have HT2 := hid ht2
  have HB0 := hid hb0
  clear h h2 hnd hdj ht ht2 hb0
  go_enter Tryz.func74, Tryz.ntmps74
  go_wp2_with fail
  generalize (w.alloc (.cells #[.int .i64 e, .int .i64 x, .slice a ys.length cap, .slice b D.length cd] 37)) = W0 at *
  refine (markPacketS_any a cap ys 0 bs m W0 HO.out HND.out HT2.out.1 HT2.out.2 (by omega)).mono ?_
  rintro e2 w2 ⟨rfl, o2, on2⟩
  rw [List.drop_zero]
  simp only [List.drop_zero, List.take_zero, List.nil_append] at o2
  have K2 := hid (box_keptI HK0.out on2 (fun h => absurd (HBL.out _ h) (by omega)))
  have P2 := HP.out.kept (w' := w2) (fun y hy => on2.block y (HP.out.lt y hy) (fun h => HDJ.out y h hy))
  have HROW := hid P2.bytes.1
  have HDS := hid P2.bytes.2.1
  have HO2 := hid o2
  have HON := hid ((Only.of_below HB0.out).trans on2)
  clear o2 on2 P2
  have p3 := cell_of_row _ _ 3 _ _ _ K2.out
  simp only [List.getElem?_toArray, List.getElem?_cons_zero, List.getElem?_cons_succ] at p3
  generalize hS : sumL kT ys = S at *
  have HS := hid hS
  clear hS
  go_wp2_with fail
  (first | rw [show ((m : Int) + (S : Int)) = ((m + S : Nat) : Int) from by omega] | skip)
  refine (markByteS_any 0 _ (m + S) _ _ w2 HROW.out (by omega) (by omega)).mono ?_
  rintro e3 w3 ⟨rfl, o3, g3⟩
  have on3 := only_of_grown g3
  rw [← HDS.out] at on3
  have o2' := HO2.out.only on3 (fun y hy h => HDJ.out y hy h)
  have HR := hid o2'
  have HR3 : Hid (OwnSl cByte 5 w3 (mkByte (m + S) D.length) (.slice b D.length cd) ds) := hid (by rw [HDS.out]; exact ownSl_bytes o3 (mkByte_ok _ _))
  have HON3 : Hid (Only (bs ++ ds) w w3) := hid ((HON.out.mono (fun y hy => List.mem_append_left _ hy)).trans (on3.mono (fun y hy => List.mem_append_right _ hy)))
  clear o3 g3 on3 o2' p3
  obtain ⟨Z, hZ⟩ : ∃ Z : Int, Z = ((m + S + D.length : Nat) : Int) := ⟨_, rfl⟩
  (first | rw [← hZ] | skip)
  have HZ := hid hZ
  clear hZ
  go_wp2
  go_ret
  exact ⟨by rw [HS.out, HZ.out]; rfl, HR.out, by rw [HS.out]; exact HR3.out, HON3.out⟩
set_option maxRecDepth 100000 in
set_option maxHeartbeats 2000000 in
theorem heldLinkIn_any (e x : Int) (a b : Option Addr) (cap cd n : Nat) (xs : List PP) (m : Nat) (w : World) (hr : RdSl cPkt w (mkL kT mkK m xs) (.slice a xs.length cap)) (hp : RdSl cByte w (mkByte (m + sumL kT xs) n) (.slice b n cd)) (ht : totL pN xs ≤ 1048576) (hn : n ≤ 1048576) (hm : m ≤ 536870912) :
    Calls Tryz.prog 75 #[.agg #[.int .i64 e, .int .i64 x, .slice a xs.length cap, .slice b n cd], .int .i64 m] w fun e w' => e = .returned (.int .i64 ((m + sumL kT xs + n : Nat) : Int)) ∧ Below w.heap.size w w' := by
  have ht2 : xs.length ≤ 1048576 ∧ (xs.map pN).sum ≤ 1048576 := by unfold totL at ht; omega
  have hsm : sumL kT xs ≤ 8388608 := by have h1 := kT_le xs; omega
  have hb0 := below_new1 w (.cells #[.int .i64 e, .int .i64 x, .slice a xs.length cap, .slice b n cd] 37)
  have HK0 : Hid ((w.alloc (.cells #[.int .i64 e, .int .i64 x, .slice a xs.length cap, .slice b n cd] 37)).heap[w.heap.size]? = some (.cells #[.int .i64 e, .int .i64 x, .slice a xs.length cap, .slice b n cd] 37 (0, 0))) := hid (heap_alloc_new w _)
  have HR := hid (hr.later hb0)
  have HP := hid (hp.later hb0)
  have HT2 := hid ht2
  have HB0 := hid hb0
  clear hr hp ht ht2 hb0
  go_enter Tryz.func75, Tryz.ntmps75
  go_wp2_with fail
  generalize (w.alloc (.cells #[.int .i64 e, .int .i64 x, .slice a xs.length cap, .slice b n cd] 37)) = W0 at *
  refine (heldPacketS_any a cap xs m W0 HR.out HT2.out.1 HT2.out.2 (by omega)).mono ?_
  rintro e2 w2 ⟨rfl, b2⟩
  have K2 := hid ((b2.block _ (Array.getElem?_eq_some_iff.1 HK0.out).1).trans HK0.out)
  have HP2 := hid (rdBytes_rdP (HP.out.later b2))
  have HB2 := hid (below_chain HB0.out b2)
  clear b2
  have p3 := cell_of_row _ _ 3 _ _ _ K2.out
  simp only [List.getElem?_toArray, List.getElem?_cons_zero, List.getElem?_cons_succ] at p3
  generalize hS : sumL kT xs = S at *
  have HS := hid hS
  clear hS
  obtain ⟨Y, hY⟩ : ∃ Y : Int, Y = ((m + S : Nat) : Int) := ⟨_, rfl⟩
  have hY0 : decide (Y < 0) = false := decide_eq_false (by omega)
  rw [← hY]
  have HY := hid hY
  clear hY
  go_wp2_with fail
  rw [HY.out]
  refine (heldByteS_any b n cd (m + S) w2 HP2.out (by omega) (by omega)).mono ?_
  rintro e3 w3 ⟨rfl, b3⟩
  have HB3 := hid (below_chain HB2.out b3)
  clear b3 p3
  obtain ⟨Z, hZ⟩ : ∃ Z : Int, Z = ((m + S + n : Nat) : Int) := ⟨_, rfl⟩
  have hZ0 : decide (Z < 0) = false := decide_eq_false (by omega)
  rw [← hZ]
  have HZ := hid hZ
  clear hZ
  go_wp2
  go_ret
  exact ⟨by rw [HS.out, HZ.out]; rfl, HB3.out⟩
end Go.Proofs.YtfaehioeepolhaaGreat
namespace Go.Proofs.YtfaehioeepolhaaGreat
open Go.RowKit
def fT (xs : List PF) : Nat := (xs.map fun f : PF => f.name.length + 2).sum
theorem fT_snoc (xs : List PF) (k : Nat) (h : k < xs.length) : fT (xs.take (k + 1)) = fT (xs.take k) + (xs[k].name.length + 2) := sum_snoc (fun f : PF => f.name.length + 2) xs k h
theorem fT_take (xs : List PF) (k : Nat) : fT (xs.take k) ≤ fT xs := sum_take (fun f : PF => f.name.length + 2) xs k
theorem fT_le (xs : List PF) : fT xs = (xs.map fun f : PF => f.name.length).sum + 2 * xs.length := by
  unfold fT
  induction xs with
  | nil => rfl
  | cons x l ih => simp at ih ⊢; omega
def mkF1 (q n : Nat) : PF := ⟨mkByte q n, ((q + n : Nat) : Int), ((q + n + 1 : Nat) : Int)⟩
def mkF (m : Nat) (xs : List PF) : List PF := (List.range xs.length).map fun i => mkF1 (m + fT (xs.take i)) (xs[i]?.getD ⟨[], 0, 0⟩).name.length
theorem mkF_len (m : Nat) (xs : List PF) : (mkF m xs).length = xs.length := by simp [mkF]
theorem mkF_at (m : Nat) (xs : List PF) (k : Nat) (h : k < xs.length) : (mkF m xs)[k]'(by rw [mkF_len]; exact h) = mkF1 (m + fT (xs.take k)) xs[k].name.length := by simp [mkF, h]
def mixF (m : Nat) (xs : List PF) (k : Nat) : List PF := (mkF m xs).take k ++ xs.drop k
theorem mixF_len (m : Nat) (xs : List PF) (k : Nat) (hk : k ≤ xs.length) : (mixF m xs k).length = xs.length := by simp [mixF, mkF_len]; omega
theorem mixF_at (m : Nat) (xs : List PF) (k : Nat) (hk : k < xs.length) : (mixF m xs k)[k]'(by rw [mixF_len m xs k (by omega)]; exact hk) = xs[k] := by
  have h : ((mkF m xs).take k).length = k := by rw [List.length_take, mkF_len]; omega
  simp only [mixF]
  rw [List.getElem_append_right (by omega)]
  simp [h]
theorem mixF_succ (m : Nat) (xs : List PF) (k : Nat) (hk : k < xs.length) : (mixF m xs k).set k (mkF1 (m + fT (xs.take k)) xs[k].name.length) = mixF m xs (k + 1) := by
  have h : ((mkF m xs).take k).length = k := by rw [List.length_take, mkF_len]; omega
  have hd : xs.drop k = xs[k] :: xs.drop (k + 1) := List.drop_eq_getElem_cons hk
  unfold mixF
  rw [List.set_append_right _ _ (by omega), h, Nat.sub_self, hd, List.set_cons_zero, List.take_succ_eq_append_getElem (by rw [mkF_len]; exact hk), mkF_at m xs k hk, List.append_assoc]
  rfl
theorem OwnSl.setNums {w : World} {xs : List PF} {g n cap : Nat} {bs : List Nat} (h : OwnSl cField 98 w xs (.slice (some ⟨g, 0, none⟩) n cap) bs) (hnd : bs.Nodup) {k : Nat} (hk : k < xs.length) (p q : Int) (hp : IntIn p) (hq : IntIn q) :
    OwnSl cField 98 ((w.setCell ⟨g, k * 3 + 1, none⟩ (.int .i64 p)).setCell ⟨g, k * 3 + 2, none⟩ (.int .i64 q)) (xs.set k ⟨xs[k].name, p, q⟩) (.slice (some ⟨g, 0, none⟩) n cap) bs ∧ Only bs w ((w.setCell ⟨g, k * 3 + 1, none⟩ (.int .i64 p)).setCell ⟨g, k * 3 + 2, none⟩ (.int .i64 q)) := by
  rcases h with ⟨h0, _⟩ | ⟨g', cap', vs, bss, e, ho, hb, hbl, hi⟩
  · cases h0
  simp only [Value.slice.injEq, Option.some.injEq, Addr.mk.injEq, and_true] at e
  obtain ⟨rfl, rfl, rfl⟩ := e
  rw [show cField.n = 3 from rfl] at ho
  have hvl : vs.length = xs.length * 3 := ho.1
  have s1 := World.ownsRow.stored ho (k * 3 + 1) (.int .i64 p)
  have s2 := World.ownsRow.stored s1.1 (k * 3 + 2) (.int .i64 q)
  subst hb
  have hng := (List.nodup_cons.1 hnd).1
  have keep : ∀ j, j ≠ g → ((w.setCell ⟨g, k * 3 + 1, none⟩ (.int .i64 p)).setCell ⟨g, k * 3 + 2, none⟩ (.int .i64 q)).heap[j]? = w.heap[j]? := fun j hj => by
    rw [Below.heap_setCell _ _ _ _ hj, Below.heap_setCell _ _ _ _ hj]
  refine ⟨.inr ⟨g, cap, _, bss, by simp, by rw [show cField.n = 3 from rfl, List.length_set]; exact s2.1, rfl, by simpa using hbl, fun i h1 h2 => ?_⟩, ((Only.of_grown s1.2).trans (Only.of_grown s2.2)).mono (by simp)⟩
  have h1' : i < xs.length := by simpa using h1
  have hmem : ∀ b ∈ bss[i], b ≠ g := fun b hb e => hng (e ▸ List.mem_flatten.2 ⟨_, List.getElem_mem h2, hb⟩)
  have hown := cField.kept (hi i h1' h2) (w' := ((w.setCell ⟨g, k * 3 + 1, none⟩ (.int .i64 p)).setCell ⟨g, k * 3 + 2, none⟩ (.int .i64 q))) (fun b hb => keep b (hmem b hb))
  by_cases e : i = k
  · subst e
    rw [List.getElem_set_self]
    obtain ⟨u, hu, h3, _, _⟩ := cField_owned hown
    have hp0 : vs[i * 3]? = some u := by
      have := part_at (vs := vs) (n := 3) (i := i) (j := 0) (by omega)
      rw [show part vs 3 i = _ from hu] at this
      simpa using this.symm
    have hpart : part ((vs.set (i * 3 + 1) (.int .i64 p)).set (i * 3 + 2) (.int .i64 q)) cField.n i = [u, .int .i64 p, .int .i64 q] := by
      rw [show cField.n = 3 from rfl]
      apply List.ext_getElem?
      intro t
      by_cases ht : t < 3
      · rw [part_at ht]
        rcases (by omega : t = 0 ∨ t = 1 ∨ t = 2) with rfl | rfl | rfl
        · rw [List.getElem?_set_ne (by omega), List.getElem?_set_ne (by omega), Nat.add_zero, hp0]; rfl
        · rw [List.getElem?_set_ne (by omega), List.getElem?_set_self (by omega)]; rfl
        · rw [List.getElem?_set_self (by simp; omega)]; rfl
      · rw [List.getElem?_eq_none (by simp [part]; omega), List.getElem?_eq_none (by simp; omega)]
    rw [hpart]
    exact cField_own h3 hp hq
  · rw [List.getElem_set_ne (fun h => e h.symm)]
    have e1 := part_other (vs := vs) (n := 3) (i := i) (k := k) (j := 1) (u := .int .i64 p) (by omega) e
    have e2 := part_other (vs := vs.set (k * 3 + 1) (.int .i64 p)) (n := 3) (i := i) (k := k) (j := 2) (u := .int .i64 q) (by omega) e
    rw [show cField.n = 3 from rfl, e2, e1]
    exact hown
set_option maxHeartbeats 4000000 in
theorem markFieldS_any (v : Value) (xs : List PF) (bs : List Nat) (m : Nat) (w : World) (ho : OwnSl cField 98 w xs v bs) (hnd : bs.Nodup) (hn : xs.length ≤ 1048576) (ht : fT xs ≤ 4194304) (hm : m ≤ 1073741824) :
    Calls Tryz.prog 23 #[v, .int .i64 m] w fun e w' => e = .returned (.int .i64 ((m + fT xs : Nat) : Int)) ∧ OwnSl cField 98 w' (mkF m xs) v bs ∧ Only bs w w' := by
  obtain ⟨a, cap, rfl, -⟩ := id ho.rd
  have H0 : Hid (OwnSl cField 98 w (mixF m xs 0) (.slice a xs.length cap) bs) := hid (by simpa [mixF] using ho)
  have HND := hid hnd
  clear ho hnd
  go_enter Tryz.func23, Tryz.ntmps23
  go_wp2
  go_loopw [1, 5] (fun q i wr => ∃ k : Nat, k ≤ xs.length ∧ i = .int .i64 k ∧ q = .int .i64 ((m + fT (xs.take k) : Nat) : Int) ∧ OwnSl cField 98 wr (mixF m xs k) (.slice a xs.length cap) bs ∧ Only bs w wr) (fun _ i _ => xs.length - (intOf i).toNat)
  case atStart => exact ⟨0, Nat.zero_le _, rfl, by simp [fT], H0.out, Only.refl _ _⟩
  case round =>
    obtain ⟨k, hk, rfl, rfl, how, hon⟩ := hrel
    have HO := hid how
    have HON := hid hon
    clear how hon
    have hki0 := fT_take xs k
    by_cases hlt : k < xs.length
    · have hlt2 : k < (mixF m xs k).length := by rw [mixF_len m xs k hk]; exact hlt
      obtain ⟨g, cap2, cs, bk, hv, hc, hbn, hbm, hcell, hset⟩ := HO.out.focus HND.out hlt2
      simp only [Value.slice.injEq] at hv
      obtain ⟨rfl, -, rfl⟩ := hv
      rw [mixF_at m xs k hlt] at hc
      obtain ⟨u, rfl, hu, hik, hiw⟩ := cField_owned hc
      have hub := hu.bytes
      obtain ⟨au, cu, rfl, -⟩ := id hu.rd
      have q0 := hcell 0 (by decide)
      rw [show k * cField.n + 0 = k * 3 from by rw [show cField.n = 3 from rfl]; omega] at q0
      have HUB := hid hub
      have hki : (k : Int) < (xs.length : Int) := by omega
      have HTS := hid (fT_snoc xs k hlt)
      have hts2 := fT_take xs (k + 1)
      have HSU := hid (mixF_succ m xs k hlt)
      have HML := hid (mixF_len m xs k hk)
      have HLT2 := hid hlt2
      have HNX : Hid (∀ w2 (q : Nat), q = m + fT (xs.take k) → w2.ownsRow 0 5 1 (.slice au xs[k].name.length cu) xs[k].name.length (byt (mkByte q xs[k].name.length)) → wr.grownBy w2 (Value.slice au xs[k].name.length cu).ownBlock →
          (∃ y1 y2, w2.cell? ⟨g, k * 3 + 1, none⟩ = some y1 ∧ w2.cell? ⟨g, k * 3 + 2, none⟩ = some y2 ∧ w2.frozen? ⟨g, k * 3 + 1, none⟩ = false ∧ w2.frozen? ⟨g, k * 3 + 2, none⟩ = false) ∧
          OwnSl cField 98 ((w2.setCell ⟨g, k * 3 + 1, none⟩ (.int .i64 ((q + xs[k].name.length : Nat) : Int))).setCell ⟨g, k * 3 + 2, none⟩ (.int .i64 ((q + xs[k].name.length + 1 : Nat) : Int))) (mixF m xs (k + 1)) (.slice (some ⟨g, 0, none⟩) xs.length cap) bs ∧ Only bs wr ((w2.setCell ⟨g, k * 3 + 1, none⟩ (.int .i64 ((q + xs[k].name.length : Nat) : Int))).setCell ⟨g, k * 3 + 2, none⟩ (.int .i64 ((q + xs[k].name.length + 1 : Nat) : Int)))) := hid (fun w2 q hq o2 g2 => by
        have hbk : bk = (Value.slice au xs[k].name.length cu).ownBlock.toList := HUB.out.2.1
        have hon2 : Only bk wr w2 := by rw [hbk]; exact only_of_grown g2
        have hy : cField.own w2 ⟨mkByte q xs[k].name.length, xs[k].kind, xs[k].width⟩ [.slice au xs[k].name.length cu, .int .i64 xs[k].kind, .int .i64 xs[k].width] bk := cField_own (by rw [hbk]; exact ownSl_bytes o2 (mkByte_ok _ _)) hik hiw
        have h1 := hset w2 _ hy hon2
        have hkl : k < ((mixF m xs k).set k ⟨mkByte q xs[k].name.length, xs[k].kind, xs[k].width⟩).length := by rw [List.length_set]; exact HLT2.out
        have hqb : fT (xs.take k) ≤ 4194304 := by omega
        have hnb : xs[k].name.length ≤ 4194304 := by have := HTS.out; omega
        have h2 := h1.setNums HND.out hkl ((q + xs[k].name.length : Nat) : Int) ((q + xs[k].name.length + 1 : Nat) : Int) (by unfold IntIn; omega) (by unfold IntIn; omega)
        rw [List.set_set, List.getElem_set_self] at h2
        subst hq
        rw [← HSU.out]
        refine ⟨?_, h2.1, (hon2.mono hbm).trans h2.2⟩
        rcases h1 with ⟨h0, _⟩ | ⟨g', cap', vs, bss, e, hrow, _⟩
        · cases h0
        · simp only [Value.slice.injEq, Option.some.injEq, Addr.mk.injEq, and_true] at e
          obtain ⟨rfl, -, rfl⟩ := e
          rw [show cField.n = 3 from rfl, List.length_set, HML.out] at hrow
          have hvl : vs.length = xs.length * 3 := hrow.1
          have z1 := hrow.cellAt (k * 3 + 1) (by omega)
          have z2 := hrow.cellAt (k * 3 + 2) (by omega)
          rw [List.getElem?_eq_getElem (by omega)] at z1 z2
          exact ⟨_, _, z1, z2, hrow.frozenAt _, hrow.frozenAt _⟩)
      simp only [List.getElem?_cons_zero] at q0
      clear hset hcell hu hub hik hiw hc
      generalize hq : fT (xs.take k) = t at *
      go_wp2_with fail
      refine (markByteS_any 0 _ (m + t) _ _ wr HUB.out.1 (by have := HTS.out; omega) (by omega)).mono ?_
      rintro e w2 ⟨rfl, o2, g2⟩
      obtain ⟨⟨y1, y2, z1, z2, f1, f2⟩, hN, hO⟩ := HNX.out w2 (m + t) rfl o2 g2
      have HN := hid hN
      have HON2 := hid (HON.out.trans hO)
      clear hN hO o2 g2 HNX q0
      have hln : xs[k].name.length ≤ 4194304 := by have := HTS.out; omega
      generalize hL : xs[k].name.length = ln at *
      go_wp2
      go_roundw
      case rel =>
        refine ⟨k + 1, by omega, by go_num, by rw [HTS.out]; go_num, ?_, ?_⟩
        · have h := HN.out
          rw [show (((m + t + ln : Nat) : Int)) = (m : Int) + (t : Int) + (ln : Int) from by omega, show (((m + t + ln + 1 : Nat) : Int)) = (m : Int) + (t : Int) + (ln : Int) + 1 from by omega] at h
          exact h
        · have h := HON2.out
          rw [show (((m + t + ln : Nat) : Int)) = (m : Int) + (t : Int) + (ln : Int) from by omega, show (((m + t + ln + 1 : Nat) : Int)) = (m : Int) + (t : Int) + (ln : Int) + 1 from by omega] at h
          exact h
      case measure => simp [intOf]; omega
    · obtain rfl : k = xs.length := by omega
      have HF : Hid (OwnSl cField 98 wr (mkF m xs) (.slice a xs.length cap) bs) := hid (by
        have h := HO.out
        unfold mixF at h
        rwa [List.take_of_length_le (by rw [mkF_len]; exact Nat.le_refl _), List.drop_length, List.append_nil] at h)
      have HT : Hid (fT (xs.take xs.length) = fT xs) := hid (by rw [List.take_length])
      rw [HT.out]
      go_wp2
      go_ret
      exact ⟨rfl, HF.out, HON.out⟩
set_option maxHeartbeats 2000000 in
theorem heldFieldS_any (a : Option Addr) (cap : Nat) (xs : List PF) (m : Nat) (w : World) (hr : RdSl cField w (mkF m xs) (.slice a xs.length cap)) (hn : xs.length ≤ 1048576) (ht : fT xs ≤ 4194304) (hm : m ≤ 1073741824) :
    Calls Tryz.prog 71 #[.slice a xs.length cap, .int .i64 m] w fun e w' => e = .returned (.int .i64 ((m + fT xs : Nat) : Int)) ∧ Below w.heap.size w w' := by
  have HR := hid hr
  clear hr
  go_enter Tryz.func71, Tryz.ntmps71
  go_wp2
  go_loopw [1, 5] (fun q i wr => ∃ k : Nat, k ≤ xs.length ∧ i = .int .i64 k ∧ q = .int .i64 ((m + fT (xs.take k) : Nat) : Int) ∧ Below w.heap.size w wr) (fun _ i _ => xs.length - (intOf i).toNat)
  case atStart => exact ⟨0, Nat.zero_le _, rfl, by simp [fT], Below.refl _ _⟩
  case round =>
    obtain ⟨k, hk, rfl, rfl, hbe⟩ := hrel
    have HB := hid hbe
    clear hbe
    have hki0 := fT_take xs k
    by_cases hlt : k < xs.length
    · obtain ⟨b, off, x0, x1, x2, rfl, hes, d0, d1, d2⟩ := (HR.out.later HB.out).at3 rfl (k := k) (by rw [mkF_len]; exact hlt)
      rw [mkF_at m xs k hlt] at hes
      obtain ⟨vn, en, hnm, -, -⟩ := cField_rd hes
      simp only [List.cons.injEq, and_true] at en
      obtain ⟨rfl, rfl, rfl⟩ := en
      obtain ⟨an, cn, rfl, -, -, -, hrd, -⟩ := hnm.bytes
      have e1 : (mkF1 (m + fT (xs.take k)) xs[k].name.length).name = mkByte (m + fT (xs.take k)) xs[k].name.length := rfl
      have e2 : (mkF1 (m + fT (xs.take k)) xs[k].name.length).kind = ((m + fT (xs.take k) + xs[k].name.length : Nat) : Int) := rfl
      have e3 : (mkF1 (m + fT (xs.take k)) xs[k].name.length).width = ((m + fT (xs.take k) + xs[k].name.length + 1 : Nat) : Int) := rfl
      rw [e1, mkByte_length] at d0
      rw [e1] at hrd
      rw [e2] at d1
      rw [e3] at d2
      have HRD := hid hrd
      have hki : (k : Int) < (xs.length : Int) := by omega
      have HTS := hid (fT_snoc xs k hlt)
      have hts2 := fT_take xs (k + 1)
      have hln : xs[k].name.length ≤ 4194304 := by have := HTS.out; omega
      clear hes hnm hrd e1 e2 e3
      generalize fT (xs.take k) = t at *
      generalize xs[k].name.length = ln at *
      go_wp2_with fail
      refine (heldByteS_any an _ cn (m + t) wr HRD.out (by omega) (by omega)).mono ?_
      rintro e w2 ⟨rfl, b2⟩
      have HB2 := hid (HB.out.trans (b2.mono HB.out.size))
      have d1' := (b2.cell (World.block_lt_of_cell? _ _ d1)).trans d1
      have d2' := (b2.cell (World.block_lt_of_cell? _ _ d2)).trans d2
      have g1 : (((m : Int) + (t : Int) + (ln : Int)) != ((m : Int) + (t : Int) + (ln : Int))) = false := by simp
      have g2 : (((m : Int) + (t : Int) + (ln : Int) + 1) != ((m : Int) + (t : Int) + (ln : Int) + 1)) = false := by simp
      rw [show (((m + t + ln : Nat) : Int)) = (m : Int) + (t : Int) + (ln : Int) from by omega] at d1'
      rw [show (((m + t + ln + 1 : Nat) : Int)) = (m : Int) + (t : Int) + (ln : Int) + 1 from by omega] at d2'
      clear b2 d0 d1 d2
      go_wp2
      go_roundw
      case rel => exact ⟨k + 1, by omega, by go_num, by rw [HTS.out]; go_num, HB2.out⟩
      case measure => simp [intOf]; omega
    · obtain rfl : k = xs.length := by omega
      have HT : Hid (fT (xs.take xs.length) = fT xs) := hid (by rw [List.take_length])
      rw [HT.out]
      go_wp2
      go_ret
      exact ⟨rfl, HB.out⟩
end Go.Proofs.YtfaehioeepolhaaGreat
