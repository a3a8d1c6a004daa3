import Derived.Test.YtfaehioeepolhaaGreatJPoll50
import Derived.Test.YtfaehioeepolhaaGreatJPoll11
import Derived.Test.YtfaehioeepolhaaGreatJPoll49
import Derived.Test.YtfaehioeepolhaaGreatJPoll12
namespace Go.Proofs.YtfaehioeepolhaaGreat
open Go.RowKit
theorem cTable_owned {w : World} {t : PT} {cs : List Value} {bs : List Nat} (h : cTable.own w t cs bs) : ∃ v, cs = [.int .i64 t.rows, v] ∧ OwnSl cCell 157 w t.cells v bs ∧ IntIn t.rows := by
  obtain ⟨c1, c2, b1, b2, rfl, rfl, ⟨rfl, h2, rfl⟩, v, rfl, h3⟩ := h
  exact ⟨v, rfl, by simpa using h3, h2⟩
def hT_ (t : PT) : Nat := sumL gT t.cells + 1
def mkH (q : Nat) (t : PT) : PT := ⟨((q : Nat) : Int), mkL gT mkG (q + 1) t.cells⟩
theorem hT_le (ts : List PT) : sumL hT_ ts ≤ 2 * totL totT ts + ts.length := by
  unfold sumL totL
  induction ts with
  | nil => simp
  | cons x l ih =>
    have h := gT_le x.cells
    have h2 : totT x = x.cells.length + (x.cells.map fun f : PC => f.text.length).sum := rfl
    have h3 : hT_ x = sumL gT x.cells + 1 := rfl
    simp only [List.map_cons, List.sum_cons, List.length_cons] at ih ⊢
    omega
theorem hT_at (ts : List PT) (k : Nat) (h : k < ts.length) (ht : totL totT ts ≤ 1048576) : ts[k].cells.length ≤ 1048576 ∧ (ts[k].cells.map fun x : PC => x.text.length).sum ≤ 1048576 := by
  have h1 := tot_at totT ts k h
  unfold totL at ht
  have h2 : totT ts[k] = ts[k].cells.length + (ts[k].cells.map fun x : PC => x.text.length).sum := rfl
  omega
set_option maxRecDepth 100000 in
set_option maxHeartbeats 8000000 in
theorem markTableS_any (v : Value) (ys : List PT) (bs : List Nat) (m : Nat) (w : World) (h : OwnSl cTable 111 w ys v bs) (hnd : bs.Nodup) (ht : totL totT ys ≤ 1048576) (hm : m ≤ 536870912) :
    Calls Tryz.prog 33 #[v, .int .i64 m] w fun e w' => e = .returned (.int .i64 ((m + sumL hT_ ys : Nat) : Int)) ∧ OwnSl cTable 111 w' (mkL hT_ mkH m ys) v bs ∧ Only bs w w' := by
  obtain ⟨a, cap, rfl, -⟩ := id h.rd
  have hn : ys.length ≤ 1048576 := by unfold totL at ht; omega
  have hsm : sumL hT_ ys ≤ 8388608 := by have h1 := hT_le ys; omega
  have HTE : Hid (∀ k, (hk : k < ys.length) → ys[k].cells.length ≤ 1048576 ∧ (ys[k].cells.map fun x : PC => x.text.length).sum ≤ 1048576) := hid (fun k hk => hT_at ys k hk ht)
  have H0 : Hid (OwnSl cTable 111 w (mixL hT_ mkH m ys 0 0) (.slice a ys.length cap) bs) := hid (by rw [mixL_zero]; exact h)
  have HND := hid hnd
  clear h hnd ht
  go_enter Tryz.func33, Tryz.ntmps33
  go_wp2
  go_loopw [1, 5] (fun q i wr => ∃ k : Nat, k ≤ ys.length ∧ i = .int .i64 k ∧ q = .int .i64 ((m + sumL hT_ (ys.take k) : Nat) : Int) ∧ OwnSl cTable 111 wr (mixL hT_ mkH m ys 0 k) (.slice a ys.length cap) bs ∧ Only bs w wr) (fun _ i _ => ys.length - (intOf i).toNat)
  case atStart => exact ⟨0, Nat.zero_le _, rfl, by simp [sumL], H0.out, Only.refl _ _⟩
  case round =>
    obtain ⟨k, hk, rfl, rfl, how, hon⟩ := hrel
    have HO := hid how
    have HON := hid hon
    clear how hon
    have hki0 := sumL_take hT_ ys k
    by_cases hlt : k < ys.length
    · have hlt2 : k < (mixL hT_ mkH m ys 0 k).length := by rw [mixL_len hT_ mkH m ys 0 k (by omega)]; exact hlt
      have hat : (mixL hT_ mkH m ys 0 k)[k] = ys[k] := by
        have h1 := mixL_at hT_ mkH m ys 0 k (by omega)
        simp only [Nat.zero_add] at h1
        rw [List.getElem?_eq_getElem hlt2, Option.some.injEq] at h1
        exact h1
      obtain ⟨g, cap2, cs, bk, hv, hc, hbn, hbm, hng, hcell, -⟩ := HO.out.focus2 HND.out hlt2
      simp only [Value.slice.injEq] at hv
      obtain ⟨rfl, -, rfl⟩ := hv
      rw [hat] at hc
      obtain ⟨u, rfl, hu, hin⟩ := cTable_owned hc
      obtain ⟨au, cu, rfl, -⟩ := id hu.rd
      have d0 := hcell 0 (by decide)
      have d1 := hcell 1 (by decide)
      rw [show k * cTable.n + 0 = k * 2 from rfl] at d0
      rw [show k * cTable.n + 1 = k * 2 + 1 from rfl] at d1
      simp only [List.getElem?_cons_zero, List.getElem?_cons_succ] at d0 d1
      have f0 := HO.out.frozenAt (k * 2)
      have f1 := HO.out.frozenAt (k * 2 + 1)
      have HTS := hid (sumL_snoc hT_ ys k hlt)
      have hts2 := sumL_take hT_ ys (k + 1)
      have hle2 := HTE.out k hlt
      have HSU : Hid ((mixL hT_ mkH m ys 0 k).set k (mkH (m + sumL hT_ (ys.take k)) ys[k]) = mixL hT_ mkH m ys 0 (k + 1)) := hid (by have h := mixL_succ hT_ mkH m ys 0 k (by omega); simpa only [Nat.zero_add, List.drop_zero] using h)
      have HFT : Hid (hT_ ys[k] = sumL gT ys[k].cells + 1) := hid rfl
      have hsb : sumL hT_ (ys.take k) + sumL gT ys[k].cells + 1 ≤ 8388608 := by have := HTS.out; have := HFT.out; omega
      have hst := HO.out.store HND.out hlt2 (k * 2) 0 [.int .i64 ((m + sumL hT_ (ys.take k) : Nat) : Int)] rfl (by show 1 ≤ 2; decide) ⟨((m + sumL hT_ (ys.take k) : Nat) : Int), ys[k].cells⟩ (fun cs bk w' ho hk => by
        rw [hat] at ho
        obtain ⟨u1, rfl, hd1, hin1⟩ := cTable_owned ho
        exact cTable_own (t := ⟨((m + sumL hT_ (ys.take k) : Nat) : Int), ys[k].cells⟩) (hd1.kept hk) (by dsimp only [IntIn]; omega))
      rw [show wsetAll wr g (k * 2) [.int .i64 ((m + sumL hT_ (ys.take k) : Nat) : Int)] = wr.setCell ⟨g, k * 2, none⟩ (.int .i64 ((m + sumL hT_ (ys.take k) : Nat) : Int)) from rfl] at hst
      obtain ⟨g1, cap1, cs1, bk1, hv1, hc1, hbn1, hbm1, hng1, hcell1, hset1⟩ := hst.1.focus2 HND.out (k := k) (by simpa using hlt2)
      simp only [Value.slice.injEq, Option.some.injEq, Addr.mk.injEq, and_true] at hv1
      obtain ⟨rfl, -, rfl⟩ := hv1
      rw [List.getElem_set_self] at hc1
      obtain ⟨u1, rfl, hu1, hin1⟩ := cTable_owned hc1
      have e1 := hcell1 1 (by decide)
      rw [show k * cTable.n + 1 = k * 2 + 1 from rfl, World.cell?_setCell_other _ _ _ _ (by simp), d1] at e1
      simp only [List.getElem?_cons_zero, List.getElem?_cons_succ, Option.some.injEq] at e1
      subst e1
      have HSET : Hid (∀ w' y, OwnSl cCell 157 w' y (.slice au ys[k].cells.length cu) bk1 → Only bk1 (wr.setCell ⟨g, k * 2, none⟩ (.int .i64 ((m + sumL hT_ (ys.take k) : Nat) : Int))) w' → OwnSl cTable 111 w' ((mixL hT_ mkH m ys 0 k).set k ⟨((m + sumL hT_ (ys.take k) : Nat) : Int), y⟩) (.slice (some ⟨g, 0, none⟩) ys.length cap) bs) := hid (fun w' y h1 h2 => by
        have h := hset1 w' ⟨((m + sumL hT_ (ys.take k) : Nat) : Int), y⟩ (cTable_own (t := ⟨((m + sumL hT_ (ys.take k) : Nat) : Int), y⟩) h1 hin1) h2
        rwa [List.set_set] at h)
      have HU := hid hu1
      have HBN := hid hbn1
      have HOS := hid hst.2
      have HBM := hid hbm1
      have hki : (k : Int) < (ys.length : Int) := by omega
      have HMH : Hid (mkH (m + sumL hT_ (ys.take k)) ys[k] = ⟨((m + sumL hT_ (ys.take k) : Nat) : Int), mkL gT mkG (m + sumL hT_ (ys.take k) + 1) ys[k].cells⟩) := hid rfl
      clear hat hst hset1 hcell1 hcell hu1 hu hc hc1 hbn hbn1 hbm hbm1 hng hng1 hts2 hki0 hin hin1
      rw [HMH.out] at HSU
      clear HMH
      generalize sumL hT_ (ys.take k) = t at *
      rw [show ((m + t : Nat) : Int) = (m : Int) + (t : Int) from by omega] at HU HSET HOS HSU
      go_wp2_with fail
      rw [show ((m : Int) + (t : Int) + 1) = ((m + t + 1 : Nat) : Int) from by omega]
      generalize (wr.setCell ⟨g, k * 2, none⟩ (.int .i64 ((m : Int) + (t : Int)))) = W5 at *
      clear d0 d1 f0 f1
      refine (markCellX_any _ ys[k].cells bk1 (m + t + 1) W5 HU.out HBN.out hle2.1 hle2.2 (by omega)).mono ?_
      rintro e w2 ⟨rfl, o2, on2⟩
      have HN : Hid (OwnSl cTable 111 w2 (mixL hT_ mkH m ys 0 (k + 1)) (.slice (some ⟨g, 0, none⟩) ys.length cap) bs) := hid (by
        rw [← HSU.out]
        exact HSET.out w2 _ o2 on2)
      have HON2 := hid (HON.out.trans (HOS.out.trans (on2.mono HBM.out)))
      generalize hln : sumL gT ys[k].cells = ln at *
      obtain ⟨Z, hZ⟩ : ∃ Z : Int, Z = ((m + t + 1 + ln : Nat) : Int) := ⟨_, rfl⟩
      rw [← hZ]
      have hz0 : 0 ≤ Z := by omega
      have hz1 : Z ≤ 1099511627776 := by omega
      have HZ := hid hZ
      clear hZ o2 on2 HSET HSU HU
      go_wp2
      go_roundw
      case rel => exact ⟨k + 1, by omega, by go_num, by rw [HTS.out, HFT.out]; congr 1; have := HZ.out; omega, HN.out, HON2.out⟩
      case measure => simp [intOf]; omega
    · obtain rfl : k = ys.length := by omega
      have HF : Hid (OwnSl cTable 111 wr (mkL hT_ mkH m ys) (.slice a ys.length cap) bs) := hid (by
        have h := HO.out
        rw [mixL_done hT_ mkH m ys 0 ys.length (by omega)] at h
        simpa only [List.take_zero, List.nil_append, List.drop_zero] using h)
      have HT : Hid (sumL hT_ (ys.take ys.length) = sumL hT_ ys) := hid (by rw [List.take_length])
      rw [HT.out]
      go_wp2
      go_ret
      exact ⟨rfl, HF.out, HON.out⟩
end Go.Proofs.YtfaehioeepolhaaGreat
namespace Go.Proofs.YtfaehioeepolhaaGreat
open Go.RowKit
theorem sumT_le (xs : List (List (List Nat))) (h : totL tS xs ≤ 1048576) : sumL tot xs ≤ 1048576 := Nat.le_trans (tS_le xs) h
set_option maxRecDepth 100000 in
set_option maxHeartbeats 8000000 in
theorem markRcv_only (r : PRcv) (a1 b1 a2 b2 a3 : Option Addr) (c1 d1 c2 d2 c3 : Nat) (bi di bs ds ts : List Nat) (m : Nat) (w : World) (ho : OwnRcv w r a1 c1 b1 d1 a2 c2 b2 d2 a3 c3 bi di bs ds ts) (hnd : ((bi ++ di) ++ ((bs ++ ds) ++ ts)).Nodup) (ht : tRcv r ≤ 1048576) (hm : m ≤ 1048576) :
    Calls Tryz.prog 28 #[.agg #[.int .i64 r.epoch, .int .i64 r.count, .bool r.live, .int .i64 r.inn.epoch, .int .i64 r.inn.expect, .slice a1 r.inn.held.length c1, .slice b1 r.inn.part.length d1, .bool r.str.opened, .slice a2 r.str.fields.length c2, .int .i64 r.str.next, .slice b2 r.str.dicts.length d2, .slice a3 r.ready.length c3, .int .i64 r.errors], .int .i64 m] w fun e w' => ∃ q : Nat, e = .returned (.int .i64 (q : Int)) ∧ q ≤ 1073741824 ∧ Only ((bi ++ di) ++ ((bs ++ ds) ++ ts)) w w' := by
  obtain ⟨nI, nR, xI⟩ := List.nodup_append.1 hnd
  obtain ⟨nS, nT, xS⟩ := List.nodup_append.1 nR
  obtain ⟨nb, nd, xb⟩ := List.nodup_append.1 nI
  have HXI := hid xI
  have HXS := hid xS
  have HNS := hid nS
  have HNT := hid nT
  have HNB := hid nb
  have HXB : Hid (∀ y ∈ bi, y ∉ di) := hid (fun y h1 h2 => xb y h1 y h2 rfl)
  have hT : totL pN r.inn.held ≤ 1048576 ∧ r.inn.part.length ≤ 1048576 ∧ totL fN r.str.fields ≤ 1048576 ∧ totL tS r.str.dicts ≤ 1048576 ∧ totL totT r.ready ≤ 1048576 := by unfold tRcv tIn tStr at ht; omega
  have hS1 : sumL kT r.inn.held ≤ 8388608 := by have h1 := kT_le r.inn.held; have h2 := hT.1; unfold totL at h2; omega
  have hS2 : fT r.str.fields ≤ 4194304 ∧ r.str.fields.length ≤ 1048576 := by have h1 := fT_le r.str.fields; have h2 := hT.2.2.1; unfold totL fN at h2; omega
  have hS3 := sumT_le _ hT.2.2.2.1
  have hS4 : sumL hT_ r.ready ≤ 8388608 := by have h1 := hT_le r.ready; have h2 := hT.2.2.2.2; unfold totL at h1 h2; omega
  have HLT : Hid (∀ y ∈ ((bi ++ di) ++ ((bs ++ ds) ++ ts)), y < w.heap.size) := hid (fun y hy => by
    rcases List.mem_append.1 hy with h | h
    · rcases List.mem_append.1 h with h | h
      · exact ho.i.f.lt y h
      · exact ho.i.t.lt y h
    · rcases List.mem_append.1 h with h | h
      · rcases List.mem_append.1 h with h | h
        · exact ho.s.f.lt y h
        · exact ho.s.t.lt y h
      · exact ho.t.lt y h)
  have hb0 := below_new1 w (.cells #[.int .i64 r.epoch, .int .i64 r.count, .bool r.live, .int .i64 r.inn.epoch, .int .i64 r.inn.expect, .slice a1 r.inn.held.length c1, .slice b1 r.inn.part.length d1, .bool r.str.opened, .slice a2 r.str.fields.length c2, .int .i64 r.str.next, .slice b2 r.str.dicts.length d2, .slice a3 r.ready.length c3, .int .i64 r.errors] 43)
  have HI := hid (keptI ho.i (fun x hx => hb0.block x (HLT.out x (List.mem_append_left _ hx))))
  have HS := hid (keptS ho.s (fun x hx => hb0.block x (HLT.out x (List.mem_append_right _ (List.mem_append_left _ hx)))))
  have HT := hid (ho.t.kept (fun x hx => hb0.block x (HLT.out x (List.mem_append_right _ (List.mem_append_right _ hx)))))
  have HK0 : Hid ((w.alloc (.cells #[.int .i64 r.epoch, .int .i64 r.count, .bool r.live, .int .i64 r.inn.epoch, .int .i64 r.inn.expect, .slice a1 r.inn.held.length c1, .slice b1 r.inn.part.length d1, .bool r.str.opened, .slice a2 r.str.fields.length c2, .int .i64 r.str.next, .slice b2 r.str.dicts.length d2, .slice a3 r.ready.length c3, .int .i64 r.errors] 43)).heap[w.heap.size]? = some (.cells #[.int .i64 r.epoch, .int .i64 r.count, .bool r.live, .int .i64 r.inn.epoch, .int .i64 r.inn.expect, .slice a1 r.inn.held.length c1, .slice b1 r.inn.part.length d1, .bool r.str.opened, .slice a2 r.str.fields.length c2, .int .i64 r.str.next, .slice b2 r.str.dicts.length d2, .slice a3 r.ready.length c3, .int .i64 r.errors] 43 (0, 0))) := hid (heap_alloc_new w _)
  have HO0 := hid ((Only.of_below hb0).mono (fun x (hx : x ∈ ([] : List Nat)) => (List.not_mem_nil hx).elim) : Only ((bi ++ di) ++ ((bs ++ ds) ++ ts)) w (w.alloc (.cells #[.int .i64 r.epoch, .int .i64 r.count, .bool r.live, .int .i64 r.inn.epoch, .int .i64 r.inn.expect, .slice a1 r.inn.held.length c1, .slice b1 r.inn.part.length d1, .bool r.str.opened, .slice a2 r.str.fields.length c2, .int .i64 r.str.next, .slice b2 r.str.dicts.length d2, .slice a3 r.ready.length c3, .int .i64 r.errors] 43)))
  have HGI : Hid (w.heap.size ∉ ((bi ++ di) ++ ((bs ++ ds) ++ ts))) := hid (fun h => by have := HLT.out _ h; omega)
  clear ho hnd nI nR nS nT nb nd xI xS xb hb0
  go_enter Tryz.func28, Tryz.ntmps28
  go_upto_region 1 with fail
  generalize (w.alloc (.cells #[.int .i64 r.epoch, .int .i64 r.count, .bool r.live, .int .i64 r.inn.epoch, .int .i64 r.inn.expect, .slice a1 r.inn.held.length c1, .slice b1 r.inn.part.length d1, .bool r.str.opened, .slice a2 r.str.fields.length c2, .int .i64 r.str.next, .slice b2 r.str.dicts.length d2, .slice a3 r.ready.length c3, .int .i64 r.errors] 43)) = W0 at *
  have p3 := cell_of_row _ _ 3 _ _ _ HK0.out
  have p4 := cell_of_row _ _ 4 _ _ _ HK0.out
  have p5 := cell_of_row _ _ 5 _ _ _ HK0.out
  have p6 := cell_of_row _ _ 6 _ _ _ HK0.out
  simp only [List.getElem?_toArray, List.getElem?_cons_zero, List.getElem?_cons_succ] at p3 p4 p5 p6
  go_wp2_with fail
  refine (markLinkIn_any r.inn.epoch r.inn.expect a1 b1 c1 d1 r.inn.held r.inn.part bi di m W0 HI.out.f HNB.out HI.out.t HXB.out hT.1 hT.2.1 (by omega)).mono ?_
  rintro e w2 ⟨rfl, -, -, on2⟩
  have HK2 := hid (box_keptI HK0.out on2 (fun h => HGI.out (List.mem_append_left _ h)))
  have HS2 := hid (keptS HS.out (fun x hx => on2.block x (ltS HS.out x hx) (fun h => HXI.out x h x (List.mem_append_left _ hx) rfl)))
  have HT2 := hid (HT.out.kept (fun x hx => on2.block x (HT.out.lt x hx) (fun h => HXI.out x h x (List.mem_append_right _ hx) rfl)))
  have HO2 := hid (HO0.out.trans (on2.mono (fun x hx => List.mem_append_left _ hx)))
  clear on2 p3 p4 p5 p6
  have p7 := cell_of_row _ _ 7 _ _ _ HK2.out
  have p8 := cell_of_row _ _ 8 _ _ _ HK2.out
  have p9 := cell_of_row _ _ 9 _ _ _ HK2.out
  have p10 := cell_of_row _ _ 10 _ _ _ HK2.out
  simp only [List.getElem?_toArray, List.getElem?_cons_zero, List.getElem?_cons_succ] at p7 p8 p9 p10
  generalize hQ : m + sumL kT r.inn.held + r.inn.part.length = Q at *
  go_wp2_with fail
  refine (markStrX_any r.str a2 b2 c2 d2 bs ds Q w2 HS2.out HNS.out hS2.2 hS2.1 hT.2.2.2.1 (by omega)).mono ?_
  rintro e w3 ⟨rfl, -, on3⟩
  have HK3 := hid (box_keptI HK2.out on3 (fun h => HGI.out (List.mem_append_right _ (List.mem_append_left _ h))))
  have HT3 := hid (HT2.out.kept (fun x hx => on3.block x (HT2.out.lt x hx) (fun h => HXS.out x h x hx rfl)))
  have HO3 := hid (HO2.out.trans (on3.mono (fun x hx => List.mem_append_right _ (List.mem_append_left _ hx))))
  clear on3 p7 p8 p9 p10
  have p11 := cell_of_row _ _ 11 _ _ _ HK3.out
  simp only [List.getElem?_toArray, List.getElem?_cons_zero, List.getElem?_cons_succ] at p11
  generalize hR : Q + fT r.str.fields + sumL tot r.str.dicts = R at *
  go_wp2_with fail
  refine (markTableS_any _ r.ready ts R w3 HT3.out HNT.out hT.2.2.2.2 (by omega)).mono ?_
  rintro e w4 ⟨rfl, -, on4⟩
  have HO4 := hid (HO3.out.trans (on4.mono (fun x hx => List.mem_append_right _ (List.mem_append_right _ hx))))
  clear on4
  obtain ⟨Z, hZ⟩ : ∃ Z : Nat, Z = R + sumL hT_ r.ready := ⟨_, rfl⟩
  rw [← hZ]
  have hZ1 : Z ≤ 1073741824 := by omega
  clear hZ
  go_wp2
  go_ret
  exact ⟨Z, rfl, hZ1, HO4.out⟩
end Go.Proofs.YtfaehioeepolhaaGreat
namespace Go.Proofs.YtfaehioeepolhaaGreat
open Go.RowKit
def nRcv (r : PRcv) : Nat := sumL kT r.inn.held + r.inn.part.length + (fT r.str.fields + sumL tot r.str.dicts) + sumL hT_ r.ready
structure MkRcv (w : World) (r : PRcv) (m : Nat) (a1 : Option Addr) (c1 : Nat) (b1 : Option Addr) (d1 : Nat) (a2 : Option Addr) (c2 : Nat) (b2 : Option Addr) (d2 : Nat) (a3 : Option Addr) (c3 : Nat) (bi di bs ds ts : List Nat) : Prop where
  i : OwnCut cPkt 120 w (mkL kT mkK m r.inn.held) 0 a1 c1 bi
  p : OwnSl cByte 5 w (mkByte (m + sumL kT r.inn.held) r.inn.part.length) (.slice b1 r.inn.part.length d1) di
  s : OwnStr w ⟨r.str.opened, mkF (m + sumL kT r.inn.held + r.inn.part.length) r.str.fields, r.str.next, mkL tot mkSS ((m + sumL kT r.inn.held + r.inn.part.length) + fT r.str.fields) r.str.dicts⟩ a2 c2 b2 d2 bs ds
  t : OwnSl cTable 111 w (mkL hT_ mkH ((m + sumL kT r.inn.held + r.inn.part.length) + fT r.str.fields + sumL tot r.str.dicts) r.ready) (.slice a3 r.ready.length c3) ts
theorem MkRcv.kept {w w' : World} {r : PRcv} {m : Nat} {a1 b1 a2 b2 a3 : Option Addr} {c1 d1 c2 d2 c3 : Nat} {bi di bs ds ts : List Nat} (h : MkRcv w r m a1 c1 b1 d1 a2 c2 b2 d2 a3 c3 bi di bs ds ts) (hk : ∀ x ∈ ((bi ++ di) ++ ((bs ++ ds) ++ ts)), w'.heap[x]? = w.heap[x]?) : MkRcv w' r m a1 c1 b1 d1 a2 c2 b2 d2 a3 c3 bi di bs ds ts :=
  ⟨h.i.kept (fun x hx => hk x (List.mem_append_left _ (List.mem_append_left _ hx))), h.p.kept (fun x hx => hk x (List.mem_append_left _ (List.mem_append_right _ hx))), keptS h.s (fun x hx => hk x (List.mem_append_right _ (List.mem_append_left _ hx))), h.t.kept (fun x hx => hk x (List.mem_append_right _ (List.mem_append_right _ hx)))⟩
theorem MkRcv.lt {w : World} {r : PRcv} {m : Nat} {a1 b1 a2 b2 a3 : Option Addr} {c1 d1 c2 d2 c3 : Nat} {bi di bs ds ts : List Nat} (h : MkRcv w r m a1 c1 b1 d1 a2 c2 b2 d2 a3 c3 bi di bs ds ts) : ∀ x ∈ ((bi ++ di) ++ ((bs ++ ds) ++ ts)), x < w.heap.size := fun y hy => by
  rcases List.mem_append.1 hy with k | k
  · rcases List.mem_append.1 k with k | k
    · exact h.i.lt y k
    · exact h.p.lt y k
  · rcases List.mem_append.1 k with k | k
    · exact ltS h.s y k
    · exact h.t.lt y k
set_option maxRecDepth 100000 in
set_option maxHeartbeats 8000000 in
theorem markRcX_any (r : PRcv) (a1 b1 a2 b2 a3 : Option Addr) (c1 d1 c2 d2 c3 : Nat) (bi di bs ds ts : List Nat) (m : Nat) (w : World) (ho : OwnRcv w r a1 c1 b1 d1 a2 c2 b2 d2 a3 c3 bi di bs ds ts) (hnd : ((bi ++ di) ++ ((bs ++ ds) ++ ts)).Nodup) (ht : tRcv r ≤ 1048576) (hm : m ≤ 1048576) :
    Calls Tryz.prog 28 #[.agg #[.int .i64 r.epoch, .int .i64 r.count, .bool r.live, .int .i64 r.inn.epoch, .int .i64 r.inn.expect, .slice a1 r.inn.held.length c1, .slice b1 r.inn.part.length d1, .bool r.str.opened, .slice a2 r.str.fields.length c2, .int .i64 r.str.next, .slice b2 r.str.dicts.length d2, .slice a3 r.ready.length c3, .int .i64 r.errors], .int .i64 m] w fun e w' => e = .returned (.int .i64 ((m + nRcv r : Nat) : Int)) ∧ MkRcv w' r m a1 c1 b1 d1 a2 c2 b2 d2 a3 c3 bi di bs ds ts ∧ Only ((bi ++ di) ++ ((bs ++ ds) ++ ts)) w w' := by
  obtain ⟨nI, nR, xI⟩ := List.nodup_append.1 hnd
  obtain ⟨nS, nT, xS⟩ := List.nodup_append.1 nR
  obtain ⟨nb, nd, xb⟩ := List.nodup_append.1 nI
  have HXI := hid xI
  have HXS := hid xS
  have HNS := hid nS
  have HNT := hid nT
  have HNB := hid nb
  have HXB : Hid (∀ y ∈ bi, y ∉ di) := hid (fun y h1 h2 => xb y h1 y h2 rfl)
  have hT : totL pN r.inn.held ≤ 1048576 ∧ r.inn.part.length ≤ 1048576 ∧ totL fN r.str.fields ≤ 1048576 ∧ totL tS r.str.dicts ≤ 1048576 ∧ totL totT r.ready ≤ 1048576 := by unfold tRcv tIn tStr at ht; omega
  have hS1 : sumL kT r.inn.held ≤ 8388608 := by have h1 := kT_le r.inn.held; have h2 := hT.1; unfold totL at h2; omega
  have hS2 : fT r.str.fields ≤ 4194304 ∧ r.str.fields.length ≤ 1048576 := by have h1 := fT_le r.str.fields; have h2 := hT.2.2.1; unfold totL fN at h2; omega
  have hS3 := sumT_le _ hT.2.2.2.1
  have hS4 : sumL hT_ r.ready ≤ 8388608 := by have h1 := hT_le r.ready; have h2 := hT.2.2.2.2; unfold totL at h1 h2; omega
  have HLT : Hid (∀ y ∈ ((bi ++ di) ++ ((bs ++ ds) ++ ts)), y < w.heap.size) := hid (fun y hy => by
    rcases List.mem_append.1 hy with h | h
    · rcases List.mem_append.1 h with h | h
      · exact ho.i.f.lt y h
      · exact ho.i.t.lt y h
    · rcases List.mem_append.1 h with h | h
      · rcases List.mem_append.1 h with h | h
        · exact ho.s.f.lt y h
        · exact ho.s.t.lt y h
      · exact ho.t.lt y h)
  have hb0 := below_new1 w (.cells #[.int .i64 r.epoch, .int .i64 r.count, .bool r.live, .int .i64 r.inn.epoch, .int .i64 r.inn.expect, .slice a1 r.inn.held.length c1, .slice b1 r.inn.part.length d1, .bool r.str.opened, .slice a2 r.str.fields.length c2, .int .i64 r.str.next, .slice b2 r.str.dicts.length d2, .slice a3 r.ready.length c3, .int .i64 r.errors] 43)
  have HI := hid (keptI ho.i (fun x hx => hb0.block x (HLT.out x (List.mem_append_left _ hx))))
  have HS := hid (keptS ho.s (fun x hx => hb0.block x (HLT.out x (List.mem_append_right _ (List.mem_append_left _ hx)))))
  have HT := hid (ho.t.kept (fun x hx => hb0.block x (HLT.out x (List.mem_append_right _ (List.mem_append_right _ hx)))))
  have HK0 : Hid ((w.alloc (.cells #[.int .i64 r.epoch, .int .i64 r.count, .bool r.live, .int .i64 r.inn.epoch, .int .i64 r.inn.expect, .slice a1 r.inn.held.length c1, .slice b1 r.inn.part.length d1, .bool r.str.opened, .slice a2 r.str.fields.length c2, .int .i64 r.str.next, .slice b2 r.str.dicts.length d2, .slice a3 r.ready.length c3, .int .i64 r.errors] 43)).heap[w.heap.size]? = some (.cells #[.int .i64 r.epoch, .int .i64 r.count, .bool r.live, .int .i64 r.inn.epoch, .int .i64 r.inn.expect, .slice a1 r.inn.held.length c1, .slice b1 r.inn.part.length d1, .bool r.str.opened, .slice a2 r.str.fields.length c2, .int .i64 r.str.next, .slice b2 r.str.dicts.length d2, .slice a3 r.ready.length c3, .int .i64 r.errors] 43 (0, 0))) := hid (heap_alloc_new w _)
  have HO0 := hid ((Only.of_below hb0).mono (fun x (hx : x ∈ ([] : List Nat)) => (List.not_mem_nil hx).elim) : Only ((bi ++ di) ++ ((bs ++ ds) ++ ts)) w (w.alloc (.cells #[.int .i64 r.epoch, .int .i64 r.count, .bool r.live, .int .i64 r.inn.epoch, .int .i64 r.inn.expect, .slice a1 r.inn.held.length c1, .slice b1 r.inn.part.length d1, .bool r.str.opened, .slice a2 r.str.fields.length c2, .int .i64 r.str.next, .slice b2 r.str.dicts.length d2, .slice a3 r.ready.length c3, .int .i64 r.errors] 43)))
  have HGI : Hid (w.heap.size ∉ ((bi ++ di) ++ ((bs ++ ds) ++ ts))) := hid (fun h => by have := HLT.out _ h; omega)
  clear ho hnd nI nR nS nT nb nd xI xS xb hb0
  go_enter Tryz.func28, Tryz.ntmps28
  go_upto_region 1 with fail
  generalize (w.alloc (.cells #[.int .i64 r.epoch, .int .i64 r.count, .bool r.live, .int .i64 r.inn.epoch, .int .i64 r.inn.expect, .slice a1 r.inn.held.length c1, .slice b1 r.inn.part.length d1, .bool r.str.opened, .slice a2 r.str.fields.length c2, .int .i64 r.str.next, .slice b2 r.str.dicts.length d2, .slice a3 r.ready.length c3, .int .i64 r.errors] 43)) = W0 at *
  have p3 := cell_of_row _ _ 3 _ _ _ HK0.out
  have p4 := cell_of_row _ _ 4 _ _ _ HK0.out
  have p5 := cell_of_row _ _ 5 _ _ _ HK0.out
  have p6 := cell_of_row _ _ 6 _ _ _ HK0.out
  simp only [List.getElem?_toArray, List.getElem?_cons_zero, List.getElem?_cons_succ] at p3 p4 p5 p6
  go_wp2_with fail
  refine (markLinkIn_any r.inn.epoch r.inn.expect a1 b1 c1 d1 r.inn.held r.inn.part bi di m W0 HI.out.f HNB.out HI.out.t HXB.out hT.1 hT.2.1 (by omega)).mono ?_
  rintro e w2 ⟨rfl, oi2, od2, on2⟩
  have HOI2 := hid oi2
  have HOD2 := hid od2
  clear oi2 od2
  have HK2 := hid (box_keptI HK0.out on2 (fun h => HGI.out (List.mem_append_left _ h)))
  have HS2 := hid (keptS HS.out (fun x hx => on2.block x (ltS HS.out x hx) (fun h => HXI.out x h x (List.mem_append_left _ hx) rfl)))
  have HT2 := hid (HT.out.kept (fun x hx => on2.block x (HT.out.lt x hx) (fun h => HXI.out x h x (List.mem_append_right _ hx) rfl)))
  have HO2 := hid (HO0.out.trans (on2.mono (fun x hx => List.mem_append_left _ hx)))
  clear on2 p3 p4 p5 p6
  have p7 := cell_of_row _ _ 7 _ _ _ HK2.out
  have p8 := cell_of_row _ _ 8 _ _ _ HK2.out
  have p9 := cell_of_row _ _ 9 _ _ _ HK2.out
  have p10 := cell_of_row _ _ 10 _ _ _ HK2.out
  simp only [List.getElem?_toArray, List.getElem?_cons_zero, List.getElem?_cons_succ] at p7 p8 p9 p10
  have HNR : Hid (nRcv r = sumL kT r.inn.held + r.inn.part.length + (fT r.str.fields + sumL tot r.str.dicts) + sumL hT_ r.ready) := hid rfl
  obtain ⟨Q, hQ⟩ : ∃ Q : Nat, Q = m + sumL kT r.inn.held + r.inn.part.length := ⟨_, rfl⟩
  rw [← hQ]
  have HQ := hid hQ
  have hQ1 : Q ≤ 67108864 := by omega
  clear hQ
  go_wp2_with fail
  refine (markStrX_any r.str a2 b2 c2 d2 bs ds Q w2 HS2.out HNS.out hS2.2 hS2.1 hT.2.2.2.1 (by omega)).mono ?_
  rintro e w3 ⟨rfl, os3, on3⟩
  have HOS3 := hid os3
  have HOI3 := hid (HOI2.out.only on3 (fun y hy h => HXI.out y (List.mem_append_left _ hy) y (List.mem_append_left _ h) rfl))
  have HOD3 := hid (HOD2.out.kept (w' := w3) (fun y hy => on3.block y (HOD2.out.lt y hy) (fun h => HXI.out y (List.mem_append_right _ hy) y (List.mem_append_left _ h) rfl)))
  clear os3
  have HK3 := hid (box_keptI HK2.out on3 (fun h => HGI.out (List.mem_append_right _ (List.mem_append_left _ h))))
  have HT3 := hid (HT2.out.kept (fun x hx => on3.block x (HT2.out.lt x hx) (fun h => HXS.out x h x hx rfl)))
  have HO3 := hid (HO2.out.trans (on3.mono (fun x hx => List.mem_append_right _ (List.mem_append_left _ hx))))
  clear on3 p7 p8 p9 p10
  have p11 := cell_of_row _ _ 11 _ _ _ HK3.out
  simp only [List.getElem?_toArray, List.getElem?_cons_zero, List.getElem?_cons_succ] at p11
  obtain ⟨R, hR⟩ : ∃ R : Nat, R = Q + fT r.str.fields + sumL tot r.str.dicts := ⟨_, rfl⟩
  rw [← hR]
  have HRR := hid hR
  have hR1 : R ≤ 134217728 := by omega
  clear hR
  go_wp2_with fail
  refine (markTableS_any _ r.ready ts R w3 HT3.out HNT.out hT.2.2.2.2 (by omega)).mono ?_
  rintro e w4 ⟨rfl, ot4, on4⟩
  have HOT4 := hid ot4
  have HOI4 := hid (HOI3.out.only on4 (fun y hy h => HXI.out y (List.mem_append_left _ hy) y (List.mem_append_right _ h) rfl))
  have HOD4 := hid (HOD3.out.kept (w' := w4) (fun y hy => on4.block y (HOD3.out.lt y hy) (fun h => HXI.out y (List.mem_append_right _ hy) y (List.mem_append_right _ h) rfl)))
  have HOS4 := hid (keptS HOS3.out (w' := w4) (fun y hy => on4.block y (ltS HOS3.out y hy) (fun h => HXS.out y hy y h rfl)))
  clear ot4
  have HO4 := hid (HO3.out.trans (on4.mono (fun x hx => List.mem_append_right _ (List.mem_append_right _ hx))))
  clear on4
  obtain ⟨Z, hZ⟩ : ∃ Z : Nat, Z = R + sumL hT_ r.ready := ⟨_, rfl⟩
  rw [← hZ]
  have HZ := hid hZ
  have hZ1 : Z ≤ 1073741824 := by omega
  clear hZ
  go_wp2
  go_ret
  have eQ := HQ.out
  have eR := HRR.out
  have hh : Z = m + nRcv r := by have := HZ.out; have := HNR.out; omega
  refine ⟨by rw [hh]; rfl, ⟨HOI4.out, HOD4.out, ?_, ?_⟩, HO4.out⟩
  · rw [← eQ]; exact HOS4.out
  · rw [← eQ, ← eR]; exact HOT4.out
end Go.Proofs.YtfaehioeepolhaaGreat
