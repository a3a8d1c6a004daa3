import Derived.Test.YtfaehioeepolhaaGreatJOpenSender51
import Derived.Test.YtfaehioeepolhaaGreatJOpenSender13
import Derived.Test.YtfaehioeepolhaaGreatJOpenSender30
namespace Go.Proofs.YtfaehioeepolhaaGreat
open Go.RowKit
theorem cTable_owned {w : World} {t : PT} {cs : List Value} {bs : List Nat} (h : cTable.own w t cs bs) : ∃ v, cs = [.int .i64 t.rows, v] ∧ OwnSl cCell 157 w t.cells v bs ∧ IntIn t.rows := by
  obtain ⟨c1, c2, b1, b2, rfl, rfl, ⟨rfl, h2, rfl⟩, v, rfl, h3⟩ := h
  exact ⟨v, rfl, by simpa using h3, h2⟩
def hT_ (t : PT) : Nat := sumL gT t.cells + 1
def mkH (q : Nat) (t : PT) : PT := ⟨((q : Nat) : Int), mkL gT mkG (q + 1) t.cells⟩
theorem hT_le (ts : List PT) : sumL hT_ ts ≤ 2 * totL totT ts + ts.length := by
  unfold sumL totL
  induction ts with
  | nil => simp
  | cons x l ih =>
    have h := gT_le x.cells
    have h2 : totT x = x.cells.length + (x.cells.map fun f : PC => f.text.length).sum := rfl
    have h3 : hT_ x = sumL gT x.cells + 1 := rfl
    simp only [List.map_cons, List.sum_cons, List.length_cons] at ih ⊢
    omega
theorem hT_at (ts : List PT) (k : Nat) (h : k < ts.length) (ht : totL totT ts ≤ 1048576) : ts[k].cells.length ≤ 1048576 ∧ (ts[k].cells.map fun x : PC => x.text.length).sum ≤ 1048576 := by
  have h1 := tot_at totT ts k h
  unfold totL at ht
  have h2 : totT ts[k] = ts[k].cells.length + (ts[k].cells.map fun x : PC => x.text.length).sum := rfl
  omega
set_option maxRecDepth 100000 in
set_option maxHeartbeats 8000000 in
theorem markTableS_any (v : Value) (ys : List PT) (bs : List Nat) (m : Nat) (w : World) (h : OwnSl cTable 111 w ys v bs) (hnd : bs.Nodup) (ht : totL totT ys ≤ 1048576) (hm : m ≤ 536870912) :
    Calls Tryz.prog 33 #[v, .int .i64 m] w fun e w' => e = .returned (.int .i64 ((m + sumL hT_ ys : Nat) : Int)) ∧ OwnSl cTable 111 w' (mkL hT_ mkH m ys) v bs ∧ Only bs w w' := by
  obtain ⟨a, cap, rfl, -⟩ := id h.rd
  have hn : ys.length ≤ 1048576 := by unfold totL at ht; omega
  have hsm : sumL hT_ ys ≤ 8388608 := by have h1 := hT_le ys; omega
  have HTE : Hid (∀ k, (hk : k < ys.length) → ys[k].cells.length ≤ 1048576 ∧ (ys[k].cells.map fun x : PC => x.text.length).sum ≤ 1048576) := hid (fun k hk => hT_at ys k hk ht)
  have H0 : Hid (OwnSl cTable 111 w (mixL hT_ mkH m ys 0 0) (.slice a ys.length cap) bs) := hid (by rw [mixL_zero]; exact h)
  have HND := hid hnd
  clear h hnd ht
  go_enter Tryz.func33, Tryz.ntmps33
  go_wp2
  go_loopw [1, 5] (fun q i wr => ∃ k : Nat, k ≤ ys.length ∧ i = .int .i64 k ∧ q = .int .i64 ((m + sumL hT_ (ys.take k) : Nat) : Int) ∧ OwnSl cTable 111 wr (mixL hT_ mkH m ys 0 k) (.slice a ys.length cap) bs ∧ Only bs w wr) (fun _ i _ => ys.length - (intOf i).toNat)
  case atStart => exact ⟨0, Nat.zero_le _, rfl, by simp [sumL], H0.out, Only.refl _ _⟩
  case round =>
    obtain ⟨k, hk, rfl, rfl, how, hon⟩ := hrel
    have HO := hid how
    have HON := hid hon
    clear how hon
    have hki0 := sumL_take hT_ ys k
    by_cases hlt : k < ys.length
    · have hlt2 : k < (mixL hT_ mkH m ys 0 k).length := by rw [mixL_len hT_ mkH m ys 0 k (by omega)]; exact hlt
      have hat : (mixL hT_ mkH m ys 0 k)[k] = ys[k] := by
        have h1 := mixL_at hT_ mkH m ys 0 k (by omega)
        simp only [Nat.zero_add] at h1
        rw [List.getElem?_eq_getElem hlt2, Option.some.injEq] at h1
        exact h1
      obtain ⟨g, cap2, cs, bk, hv, hc, hbn, hbm, hng, hcell, -⟩ := HO.out.focus2 HND.out hlt2
      simp only [Value.slice.injEq] at hv
      obtain ⟨rfl, -, rfl⟩ := hv
      rw [hat] at hc
      obtain ⟨u, rfl, hu, hin⟩ := cTable_owned hc
      obtain ⟨au, cu, rfl, -⟩ := id hu.rd
      have d0 := hcell 0 (by decide)
      have d1 := hcell 1 (by decide)
      rw [show k * cTable.n + 0 = k * 2 from rfl] at d0
      rw [show k * cTable.n + 1 = k * 2 + 1 from rfl] at d1
      simp only [List.getElem?_cons_zero, List.getElem?_cons_succ] at d0 d1
      have f0 := HO.out.frozenAt (k * 2)
      have f1 := HO.out.frozenAt (k * 2 + 1)
      have HTS := hid (sumL_snoc hT_ ys k hlt)
      have hts2 := sumL_take hT_ ys (k + 1)
      have hle2 := HTE.out k hlt
      have HSU : Hid ((mixL hT_ mkH m ys 0 k).set k (mkH (m + sumL hT_ (ys.take k)) ys[k]) = mixL hT_ mkH m ys 0 (k + 1)) := hid (by have h := mixL_succ hT_ mkH m ys 0 k (by omega); simpa only [Nat.zero_add, List.drop_zero] using h)
      have HFT : Hid (hT_ ys[k] = sumL gT ys[k].cells + 1) := hid rfl
      have hsb : sumL hT_ (ys.take k) + sumL gT ys[k].cells + 1 ≤ 8388608 := by have := HTS.out; have := HFT.out; omega
      have hst := HO.out.store HND.out hlt2 (k * 2) 0 [.int .i64 ((m + sumL hT_ (ys.take k) : Nat) : Int)] rfl (by show 1 ≤ 2; decide) ⟨((m + sumL hT_ (ys.take k) : Nat) : Int), ys[k].cells⟩ (fun cs bk w' ho hk => by
        rw [hat] at ho
        obtain ⟨u1, rfl, hd1, hin1⟩ := cTable_owned ho
        exact cTable_own (t := ⟨((m + sumL hT_ (ys.take k) : Nat) : Int), ys[k].cells⟩) (hd1.kept hk) (by dsimp only [IntIn]; omega))
      rw [show wsetAll wr g (k * 2) [.int .i64 ((m + sumL hT_ (ys.take k) : Nat) : Int)] = wr.setCell ⟨g, k * 2, none⟩ (.int .i64 ((m + sumL hT_ (ys.take k) : Nat) : Int)) from rfl] at hst
      obtain ⟨g1, cap1, cs1, bk1, hv1, hc1, hbn1, hbm1, hng1, hcell1, hset1⟩ := hst.1.focus2 HND.out (k := k) (by simpa using hlt2)
      simp only [Value.slice.injEq, Option.some.injEq, Addr.mk.injEq, and_true] at hv1
      obtain ⟨rfl, -, rfl⟩ := hv1
      rw [List.getElem_set_self] at hc1
      obtain ⟨u1, rfl, hu1, hin1⟩ := cTable_owned hc1
      have e1 := hcell1 1 (by decide)
      rw [show k * cTable.n + 1 = k * 2 + 1 from rfl, World.cell?_setCell_other _ _ _ _ (by simp), d1] at e1
      simp only [List.getElem?_cons_zero, List.getElem?_cons_succ, Option.some.injEq] at e1
      subst e1
      have HSET : Hid (∀ w' y, OwnSl cCell 157 w' y (.slice au ys[k].cells.length cu) bk1 → Only bk1 (wr.setCell ⟨g, k * 2, none⟩ (.int .i64 ((m + sumL hT_ (ys.take k) : Nat) : Int))) w' → OwnSl cTable 111 w' ((mixL hT_ mkH m ys 0 k).set k ⟨((m + sumL hT_ (ys.take k) : Nat) : Int), y⟩) (.slice (some ⟨g, 0, none⟩) ys.length cap) bs) := hid (fun w' y h1 h2 => by
        have h := hset1 w' ⟨((m + sumL hT_ (ys.take k) : Nat) : Int), y⟩ (cTable_own (t := ⟨((m + sumL hT_ (ys.take k) : Nat) : Int), y⟩) h1 hin1) h2
        rwa [List.set_set] at h)
      have HU := hid hu1
      have HBN := hid hbn1
      have HOS := hid hst.2
      have HBM := hid hbm1
      have hki : (k : Int) < (ys.length : Int) := by omega
      have HMH : Hid (mkH (m + sumL hT_ (ys.take k)) ys[k] = ⟨((m + sumL hT_ (ys.take k) : Nat) : Int), mkL gT mkG (m + sumL hT_ (ys.take k) + 1) ys[k].cells⟩) := hid rfl
      clear hat hst hset1 hcell1 hcell hu1 hu hc hc1 hbn hbn1 hbm hbm1 hng hng1 hts2 hki0 hin hin1
      rw [HMH.out] at HSU
      clear HMH
      generalize sumL hT_ (ys.take k) = t at *
      rw [show ((m + t : Nat) : Int) = (m : Int) + (t : Int) from by omega] at HU HSET HOS HSU
      go_wp2_with fail
      rw [show ((m : Int) + (t : Int) + 1) = ((m + t + 1 : Nat) : Int) from by omega]
      generalize (wr.setCell ⟨g, k * 2, none⟩ (.int .i64 ((m : Int) + (t : Int)))) = W5 at *
      clear d0 d1 f0 f1
      refine (markCellX_any _ ys[k].cells bk1 (m + t + 1) W5 HU.out HBN.out hle2.1 hle2.2 (by omega)).mono ?_
      rintro e w2 ⟨rfl, o2, on2⟩
      have HN : Hid (OwnSl cTable 111 w2 (mixL hT_ mkH m ys 0 (k + 1)) (.slice (some ⟨g, 0, none⟩) ys.length cap) bs) := hid (by
        rw [← HSU.out]
        exact HSET.out w2 _ o2 on2)
      have HON2 := hid (HON.out.trans (HOS.out.trans (on2.mono HBM.out)))
      generalize hln : sumL gT ys[k].cells = ln at *
      obtain ⟨Z, hZ⟩ : ∃ Z : Int, Z = ((m + t + 1 + ln : Nat) : Int) := ⟨_, rfl⟩
      rw [← hZ]
      have hz0 : 0 ≤ Z := by omega
      have hz1 : Z ≤ 1099511627776 := by omega
      have HZ := hid hZ
      clear hZ o2 on2 HSET HSU HU
      go_wp2
      go_roundw
      case rel => exact ⟨k + 1, by omega, by go_num, by rw [HTS.out, HFT.out]; congr 1; have := HZ.out; omega, HN.out, HON2.out⟩
      case measure => simp [intOf]; omega
    · obtain rfl : k = ys.length := by omega
      have HF : Hid (OwnSl cTable 111 wr (mkL hT_ mkH m ys) (.slice a ys.length cap) bs) := hid (by
        have h := HO.out
        rw [mixL_done hT_ mkH m ys 0 ys.length (by omega)] at h
        simpa only [List.take_zero, List.nil_append, List.drop_zero] using h)
      have HT : Hid (sumL hT_ (ys.take ys.length) = sumL hT_ ys) := hid (by rw [List.take_length])
      rw [HT.out]
      go_wp2
      go_ret
      exact ⟨rfl, HF.out, HON.out⟩
end Go.Proofs.YtfaehioeepolhaaGreat
namespace Go.Proofs.YtfaehioeepolhaaGreat
open Go.RowKit
def SndFits (r : PSnd) : Prop := totL fN r.fields ≤ 1048576 ∧ totL totT r.tables ≤ 1048576 ∧ totL wN r.out.wait ≤ 1048576 ∧ tStr r.str ≤ 1048576
theorem sndFits_of {r : PSnd} (h : tSnd r ≤ 1048576) : SndFits r := by unfold tSnd at h; unfold SndFits; omega
end Go.Proofs.YtfaehioeepolhaaGreat
namespace Go.Proofs.YtfaehioeepolhaaGreat
open Go.RowKit
theorem box_keptS {w w' : World} {g : Nat} {o : Obj} {bs : List Nat} (h : w.heap[g]? = some o) (ho : Only bs w w') (hg : g ∉ bs) : w'.heap[g]? = some o := (ho.block g (Array.getElem?_eq_some_iff.1 h).1 hg).trans h
def nSnd (r : PSnd) : Nat := fT r.fields + sumL hT_ r.tables + sumL sT r.out.wait + (fT r.str.fields + sumL tot r.str.dicts)
theorem nSnd_le (r : PSnd) (ht : SndFits r) : nSnd r ≤ 67108864 := by
  have hT : totL fN r.fields ≤ 1048576 ∧ totL totT r.tables ≤ 1048576 ∧ totL wN r.out.wait ≤ 1048576 ∧ totL fN r.str.fields ≤ 1048576 ∧ totL tS r.str.dicts ≤ 1048576 := by unfold SndFits tStr at ht; omega
  have hS1 : fT r.fields ≤ 4194304 := by have h1 := fT_le r.fields; have h2 := hT.1; unfold totL fN at h2; omega
  have hS2 : sumL hT_ r.tables ≤ 8388608 := by have h1 := hT_le r.tables; have h2 := hT.2.1; unfold totL at h1 h2; omega
  have hS3 : sumL sT r.out.wait ≤ 16777216 := by have h1 := sT_le r.out.wait; have h2 := hT.2.2.1; unfold totL at h2; omega
  have hS4 : fT r.str.fields ≤ 4194304 := by have h1 := fT_le r.str.fields; have h2 := hT.2.2.2.1; unfold totL fN at h2; omega
  have hS5 : sumL tot r.str.dicts ≤ 1048576 := Nat.le_trans (tS_le _) hT.2.2.2.2
  unfold nSnd
  omega
theorem ltSt {w : World} {s : PStr} {a b : Option Addr} {c d : Nat} {bs ds : List Nat} (h : OwnStr w s a c b d bs ds) : ∀ x ∈ bs ++ ds, x < w.heap.size := fun x hx => by
  rcases List.mem_append.1 hx with h1 | h1
  · exact h.f.lt x h1
  · exact h.t.lt x h1
structure MkSnd (w : World) (r : PSnd) (m : Nat) (a0 : Option Addr) (c0 : Nat) (a3 : Option Addr) (c3 : Nat) (a1 : Option Addr) (c1 : Nat) (a2 : Option Addr) (c2 : Nat) (b2 : Option Addr) (d2 : Nat) (fs ts os bs ds : List Nat) : Prop where
  f : OwnSl cField 98 w (mkF m r.fields) (.slice a0 r.fields.length c0) fs
  t : OwnSl cTable 111 w (mkL hT_ mkH (m + fT r.fields) r.tables) (.slice a3 r.tables.length c3) ts
  o : OwnCut cSnt 137 w (mkL sT mkS ((m + fT r.fields) + sumL hT_ r.tables) r.out.wait) 0 a1 c1 os
  s : OwnStr w ⟨r.str.opened, mkF (((m + fT r.fields) + sumL hT_ r.tables) + sumL sT r.out.wait) r.str.fields, r.str.next, mkL tot mkSS ((((m + fT r.fields) + sumL hT_ r.tables) + sumL sT r.out.wait) + fT r.str.fields) r.str.dicts⟩ a2 c2 b2 d2 bs ds
theorem MkSnd.kept {w w' : World} {r : PSnd} {m : Nat} {a0 a3 a1 a2 b2 : Option Addr} {c0 c3 c1 c2 d2 : Nat} {fs ts os bs ds : List Nat} (h : MkSnd w r m a0 c0 a3 c3 a1 c1 a2 c2 b2 d2 fs ts os bs ds) (hk : ∀ x ∈ ((fs ++ ts) ++ (os ++ (bs ++ ds))), w'.heap[x]? = w.heap[x]?) : MkSnd w' r m a0 c0 a3 c3 a1 c1 a2 c2 b2 d2 fs ts os bs ds :=
  ⟨h.f.kept (fun x hx => hk x (List.mem_append_left _ (List.mem_append_left _ hx))), h.t.kept (fun x hx => hk x (List.mem_append_left _ (List.mem_append_right _ hx))), h.o.kept (fun x hx => hk x (List.mem_append_right _ (List.mem_append_left _ hx))), keptSt h.s (fun x hx => hk x (List.mem_append_right _ (List.mem_append_right _ hx)))⟩
theorem MkSnd.lt {w : World} {r : PSnd} {m : Nat} {a0 a3 a1 a2 b2 : Option Addr} {c0 c3 c1 c2 d2 : Nat} {fs ts os bs ds : List Nat} (h : MkSnd w r m a0 c0 a3 c3 a1 c1 a2 c2 b2 d2 fs ts os bs ds) : ∀ x ∈ ((fs ++ ts) ++ (os ++ (bs ++ ds))), x < w.heap.size := fun y hy => by
  rcases List.mem_append.1 hy with k | k
  · rcases List.mem_append.1 k with k | k
    · exact h.f.lt y k
    · exact h.t.lt y k
  · rcases List.mem_append.1 k with k | k
    · exact h.o.lt y k
    · exact ltSt h.s y k
theorem OwnSnd.lt {w : World} {r : PSnd} {a0 a3 a1 a2 b2 : Option Addr} {c0 c3 c1 c2 d2 : Nat} {fs ts os bs ds : List Nat} (h : OwnSnd w r a0 c0 a3 c3 a1 c1 a2 c2 b2 d2 fs ts os bs ds) : ∀ x ∈ ((fs ++ ts) ++ (os ++ (bs ++ ds))), x < w.heap.size := fun y hy => by
  rcases List.mem_append.1 hy with k | k
  · rcases List.mem_append.1 k with k | k
    · exact h.f.lt y k
    · exact h.t.lt y k
  · rcases List.mem_append.1 k with k | k
    · exact h.o.lt y k
    · exact ltSt h.s y k
theorem OwnSnd.kept {w w' : World} {r : PSnd} {a0 a3 a1 a2 b2 : Option Addr} {c0 c3 c1 c2 d2 : Nat} {fs ts os bs ds : List Nat} (h : OwnSnd w r a0 c0 a3 c3 a1 c1 a2 c2 b2 d2 fs ts os bs ds) (hk : ∀ x ∈ ((fs ++ ts) ++ (os ++ (bs ++ ds))), w'.heap[x]? = w.heap[x]?) : OwnSnd w' r a0 c0 a3 c3 a1 c1 a2 c2 b2 d2 fs ts os bs ds :=
  ⟨h.f.kept (fun x hx => hk x (List.mem_append_left _ (List.mem_append_left _ hx))), h.t.kept (fun x hx => hk x (List.mem_append_left _ (List.mem_append_right _ hx))), h.o.kept (fun x hx => hk x (List.mem_append_right _ (List.mem_append_left _ hx))), keptSt h.s (fun x hx => hk x (List.mem_append_right _ (List.mem_append_right _ hx)))⟩
theorem OwnSnd.later {w w' : World} {r : PSnd} {a0 a3 a1 a2 b2 : Option Addr} {c0 c3 c1 c2 d2 : Nat} {fs ts os bs ds : List Nat} (h : OwnSnd w r a0 c0 a3 c3 a1 c1 a2 c2 b2 d2 fs ts os bs ds) (hb : Below w.heap.size w w') : OwnSnd w' r a0 c0 a3 c3 a1 c1 a2 c2 b2 d2 fs ts os bs ds := h.kept (fun x hx => hb.block x (h.lt x hx))
set_option maxRecDepth 100000 in
set_option maxHeartbeats 8000000 in
theorem markSdX_any (r : PSnd) (a0 a3 a1 a2 b2 : Option Addr) (c0 c3 c1 c2 d2 : Nat) (fs ts os bs ds : List Nat) (m : Nat) (w : World) (ho : OwnSnd w r a0 c0 a3 c3 a1 c1 a2 c2 b2 d2 fs ts os bs ds) (hnd : ((fs ++ ts) ++ (os ++ (bs ++ ds))).Nodup) (ht : SndFits r) (hm : m ≤ 1048576) :
    Calls Tryz.prog 24 #[.agg #[.slice a0 r.fields.length c0, .int .i64 r.epoch, .int .i64 r.base, .slice a3 r.tables.length c3, .int .i64 r.pushed, .int .i64 r.out.epoch, .int .i64 r.out.next, .int .i64 r.out.now, .slice a1 r.out.wait.length c1, .bool r.str.opened, .slice a2 r.str.fields.length c2, .int .i64 r.str.next, .slice b2 r.str.dicts.length d2], .int .i64 m] w fun e w' => e = .returned (.int .i64 ((m + nSnd r : Nat) : Int)) ∧ MkSnd w' r m a0 c0 a3 c3 a1 c1 a2 c2 b2 d2 fs ts os bs ds ∧ Only ((fs ++ ts) ++ (os ++ (bs ++ ds))) w w' := by
  obtain ⟨nL, nR, xL⟩ := List.nodup_append.1 hnd
  obtain ⟨nf, nt, xf⟩ := List.nodup_append.1 nL
  obtain ⟨no, ns, xo⟩ := List.nodup_append.1 nR
  have HXL := hid xL
  have HXF := hid xf
  have HXO := hid xo
  have HNF := hid nf
  have HNT := hid nt
  have HNO := hid no
  have HNS := hid ns
  have hT : totL fN r.fields ≤ 1048576 ∧ totL totT r.tables ≤ 1048576 ∧ totL wN r.out.wait ≤ 1048576 ∧ totL fN r.str.fields ≤ 1048576 ∧ totL tS r.str.dicts ≤ 1048576 := by unfold SndFits tStr at ht; omega
  have hS1 : fT r.fields ≤ 4194304 ∧ r.fields.length ≤ 1048576 := by have h1 := fT_le r.fields; have h2 := hT.1; unfold totL fN at h2; omega
  have hS2 : sumL hT_ r.tables ≤ 8388608 := by have h1 := hT_le r.tables; have h2 := hT.2.1; unfold totL at h1 h2; omega
  have hS3 : sumL sT r.out.wait ≤ 16777216 := by have h1 := sT_le r.out.wait; have h2 := hT.2.2.1; unfold totL at h2; omega
  have hS4 : fT r.str.fields ≤ 4194304 ∧ r.str.fields.length ≤ 1048576 := by have h1 := fT_le r.str.fields; have h2 := hT.2.2.2.1; unfold totL fN at h2; omega
  have hS5 : sumL tot r.str.dicts ≤ 1048576 := Nat.le_trans (tS_le _) hT.2.2.2.2
  have HNR : Hid (nSnd r = fT r.fields + sumL hT_ r.tables + sumL sT r.out.wait + (fT r.str.fields + sumL tot r.str.dicts)) := hid rfl
  obtain ⟨A, hA⟩ : ∃ A : Nat, A = m + fT r.fields := ⟨_, rfl⟩
  obtain ⟨B, hB⟩ : ∃ B : Nat, B = A + sumL hT_ r.tables := ⟨_, rfl⟩
  obtain ⟨C, hC⟩ : ∃ C : Nat, C = B + sumL sT r.out.wait := ⟨_, rfl⟩
  have hA1 : A ≤ 8388608 := by omega
  have hB1 : B ≤ 33554432 := by omega
  have hC1 : C ≤ 67108864 := by omega
  have HA := hid hA
  have HB := hid hB
  have HC := hid hC
  have HLT := hid ho.lt
  have hb0 := below_new1 w (.cells #[.slice a0 r.fields.length c0, .int .i64 r.epoch, .int .i64 r.base, .slice a3 r.tables.length c3, .int .i64 r.pushed, .int .i64 r.out.epoch, .int .i64 r.out.next, .int .i64 r.out.now, .slice a1 r.out.wait.length c1, .bool r.str.opened, .slice a2 r.str.fields.length c2, .int .i64 r.str.next, .slice b2 r.str.dicts.length d2] 58)
  have HO := hid (ho.later hb0)
  have HK0 : Hid ((w.alloc (.cells #[.slice a0 r.fields.length c0, .int .i64 r.epoch, .int .i64 r.base, .slice a3 r.tables.length c3, .int .i64 r.pushed, .int .i64 r.out.epoch, .int .i64 r.out.next, .int .i64 r.out.now, .slice a1 r.out.wait.length c1, .bool r.str.opened, .slice a2 r.str.fields.length c2, .int .i64 r.str.next, .slice b2 r.str.dicts.length d2] 58)).heap[w.heap.size]? = some (.cells #[.slice a0 r.fields.length c0, .int .i64 r.epoch, .int .i64 r.base, .slice a3 r.tables.length c3, .int .i64 r.pushed, .int .i64 r.out.epoch, .int .i64 r.out.next, .int .i64 r.out.now, .slice a1 r.out.wait.length c1, .bool r.str.opened, .slice a2 r.str.fields.length c2, .int .i64 r.str.next, .slice b2 r.str.dicts.length d2] 58 (0, 0))) := hid (heap_alloc_new w _)
  have HO0 := hid ((Only.of_below hb0).mono (fun x (hx : x ∈ ([] : List Nat)) => (List.not_mem_nil hx).elim) : Only ((fs ++ ts) ++ (os ++ (bs ++ ds))) w (w.alloc (.cells #[.slice a0 r.fields.length c0, .int .i64 r.epoch, .int .i64 r.base, .slice a3 r.tables.length c3, .int .i64 r.pushed, .int .i64 r.out.epoch, .int .i64 r.out.next, .int .i64 r.out.now, .slice a1 r.out.wait.length c1, .bool r.str.opened, .slice a2 r.str.fields.length c2, .int .i64 r.str.next, .slice b2 r.str.dicts.length d2] 58)))
  have HGI : Hid (w.heap.size ∉ ((fs ++ ts) ++ (os ++ (bs ++ ds)))) := hid (fun h => by have := HLT.out _ h; omega)
  clear ho hnd nL nR nf nt no ns xL xf xo hb0 hA hB hC
  go_enter Tryz.func24, Tryz.ntmps24
  go_upto_region 1 with fail
  generalize (w.alloc (.cells #[.slice a0 r.fields.length c0, .int .i64 r.epoch, .int .i64 r.base, .slice a3 r.tables.length c3, .int .i64 r.pushed, .int .i64 r.out.epoch, .int .i64 r.out.next, .int .i64 r.out.now, .slice a1 r.out.wait.length c1, .bool r.str.opened, .slice a2 r.str.fields.length c2, .int .i64 r.str.next, .slice b2 r.str.dicts.length d2] 58)) = W0 at *
  have p0 := cell_of_row _ _ 0 _ _ _ HK0.out
  simp only [List.getElem?_toArray, List.getElem?_cons_zero] at p0
  go_wp2_with fail
  refine (markFieldS_any _ r.fields fs m W0 HO.out.f HNF.out hS1.2 hS1.1 (by omega)).mono ?_
  rintro e w2 ⟨rfl, of2, on2⟩
  rw [← HA.out]
  have HF2 := hid of2
  have HK2 := hid (box_keptS HK0.out on2 (fun hx => HGI.out (List.mem_append_left _ (List.mem_append_left _ hx))))
  have HT2 := hid (HO.out.t.kept (w' := w2) (fun x hx => on2.block x (HO.out.t.lt x hx) (fun h => HXF.out x h x hx rfl)))
  have HO2 := hid (HO.out.o.kept (w' := w2) (fun x hx => on2.block x (HO.out.o.lt x hx) (fun h => HXL.out x (List.mem_append_left _ h) x (List.mem_append_left _ hx) rfl)))
  have HS2 := hid (keptSt HO.out.s (w' := w2) (fun x hx => on2.block x (ltSt HO.out.s x hx) (fun h => HXL.out x (List.mem_append_left _ h) x (List.mem_append_right _ hx) rfl)))
  have HON2 := hid (HO0.out.trans (on2.mono (fun x hx => List.mem_append_left _ (List.mem_append_left _ hx))))
  clear of2 on2 p0
  have p3 := cell_of_row _ _ 3 _ _ _ HK2.out
  simp only [List.getElem?_toArray, List.getElem?_cons_zero, List.getElem?_cons_succ] at p3
  go_wp2_with fail
  refine (markTableS_any _ r.tables ts A w2 HT2.out HNT.out hT.2.1 (by omega)).mono ?_
  rintro e w3 ⟨rfl, ot3, on3⟩
  rw [← HB.out]
  have HT3 := hid ot3
  have HK3 := hid (box_keptS HK2.out on3 (fun hx => HGI.out (List.mem_append_left _ (List.mem_append_right _ hx))))
  have HF3 := hid (HF2.out.kept (w' := w3) (fun x hx => on3.block x (HF2.out.lt x hx) (fun h => HXF.out x hx x h rfl)))
  have HO3 := hid (HO2.out.kept (w' := w3) (fun x hx => on3.block x (HO2.out.lt x hx) (fun h => HXL.out x (List.mem_append_right _ h) x (List.mem_append_left _ hx) rfl)))
  have HS3 := hid (keptSt HS2.out (w' := w3) (fun x hx => on3.block x (ltSt HS2.out x hx) (fun h => HXL.out x (List.mem_append_right _ h) x (List.mem_append_right _ hx) rfl)))
  have HON3 := hid (HON2.out.trans (on3.mono (fun x hx => List.mem_append_left _ (List.mem_append_right _ hx))))
  clear ot3 on3 p3 HF2 HT2 HO2 HS2 HK2
  have p5 := cell_of_row _ _ 5 _ _ _ HK3.out
  have p6 := cell_of_row _ _ 6 _ _ _ HK3.out
  have p7 := cell_of_row _ _ 7 _ _ _ HK3.out
  have p8 := cell_of_row _ _ 8 _ _ _ HK3.out
  simp only [List.getElem?_toArray, List.getElem?_cons_zero, List.getElem?_cons_succ] at p5 p6 p7 p8
  go_wp2_with fail
  refine (markLinkOut_any r.out.epoch r.out.next r.out.now a1 c1 r.out.wait 0 os B r.out.wait.length w3 (by omega) HO3.out.cut0 HNO.out hT.2.2.1 (by omega)).mono ?_
  rintro e w4 ⟨rfl, oo4, on4⟩
  simp only [List.drop_zero, List.take_zero, List.nil_append] at oo4
  rw [List.drop_zero, ← HC.out]
  have HO4 := hid oo4
  have HK4 := hid (box_keptS HK3.out on4 (fun hx => HGI.out (List.mem_append_right _ (List.mem_append_left _ hx))))
  have HF4 := hid (HF3.out.kept (w' := w4) (fun x hx => on4.block x (HF3.out.lt x hx) (fun h => HXL.out x (List.mem_append_left _ hx) x (List.mem_append_left _ h) rfl)))
  have HT4 := hid (HT3.out.kept (w' := w4) (fun x hx => on4.block x (HT3.out.lt x hx) (fun h => HXL.out x (List.mem_append_right _ hx) x (List.mem_append_left _ h) rfl)))
  have HS4 := hid (keptSt HS3.out (w' := w4) (fun x hx => on4.block x (ltSt HS3.out x hx) (fun h => HXO.out x h x hx rfl)))
  have HON4 := hid (HON3.out.trans (on4.mono (fun x hx => List.mem_append_right _ (List.mem_append_left _ hx))))
  clear oo4 on4 p5 p6 p7 p8 HF3 HT3 HO3 HS3 HK3
  have p9 := cell_of_row _ _ 9 _ _ _ HK4.out
  have p10 := cell_of_row _ _ 10 _ _ _ HK4.out
  have p11 := cell_of_row _ _ 11 _ _ _ HK4.out
  have p12 := cell_of_row _ _ 12 _ _ _ HK4.out
  simp only [List.getElem?_toArray, List.getElem?_cons_zero, List.getElem?_cons_succ] at p9 p10 p11 p12
  go_wp2_with fail
  refine (markStrX_any r.str a2 b2 c2 d2 bs ds C w4 HS4.out HNS.out hS4.2 hS4.1 hT.2.2.2.2 (by omega)).mono ?_
  rintro e w5 ⟨rfl, os5, on5⟩
  have HS5 := hid os5
  have HF5 := hid (HF4.out.kept (w' := w5) (fun x hx => on5.block x (HF4.out.lt x hx) (fun h => HXL.out x (List.mem_append_left _ hx) x (List.mem_append_right _ h) rfl)))
  have HT5 := hid (HT4.out.kept (w' := w5) (fun x hx => on5.block x (HT4.out.lt x hx) (fun h => HXL.out x (List.mem_append_right _ hx) x (List.mem_append_right _ h) rfl)))
  have HO5 := hid (HO4.out.kept (w' := w5) (fun x hx => on5.block x (HO4.out.lt x hx) (fun h => HXO.out x hx x h rfl)))
  have HON5 := hid (HON4.out.trans (on5.mono (fun x hx => List.mem_append_right _ (List.mem_append_right _ hx))))
  clear os5 on5 p9 p10 p11 p12 HF4 HT4 HO4 HS4 HK4
  obtain ⟨Z, hZ⟩ : ∃ Z : Nat, Z = C + fT r.str.fields + sumL tot r.str.dicts := ⟨_, rfl⟩
  rw [← hZ]
  have HZ := hid hZ
  have hZ1 : Z ≤ 1073741824 := by omega
  clear hZ
  go_wp2
  go_ret
  have eA := HA.out
  have eB := HB.out
  have eC := HC.out
  have hh : Z = m + nSnd r := by have := HZ.out; have := HNR.out; omega
  refine ⟨by rw [hh]; rfl, ⟨HF5.out, ?_, ?_, ?_⟩, HON5.out⟩
  · rw [← eA]; exact HT5.out
  · rw [← eA, ← eB]; exact HO5.out
  · rw [← eA, ← eB, ← eC]; exact HS5.out
end Go.Proofs.YtfaehioeepolhaaGreat
