import Derived.Test.YtfaehioeepolhabGreatJCrashSender51
import Derived.Test.YtfaehioeepolhabGreatJCrashSender9
import Derived.Test.YtfaehioeepolhabGreatJCrashSender17
import Derived.Test.YtfaehioeepolhabGreatJCrashSender4
import Derived.Test.YtfaehioeepolhabGreatJCrashSender25
import Derived.Test.YtfaehioeepolhabGreatJCrashSender2
import Derived.Test.YtfaehioeepolhabGreatJCrashSender10
namespace Go.Proofs.YtfaehioeepolhabGreat
open Go.RowKit
set_option maxRecDepth 100000 in
set_option maxHeartbeats 2000000 in
theorem markLinkOut_any (e n t : Int) (a : Option Addr) (cap : Nat) (ys : List PW) (d : Nat) (bs : List Nat) (m L : Nat) (w : World) (hL : L = ys.length - d) (h : OwnCut cSnt 141 w ys d a cap bs) (hnd : bs.Nodup) (ht : totL wN ys ≤ 1048576) (hm : m ≤ 1073741824) :
  Calls Tryz.prog 44 #[.agg #[.int .i64 e, .int .i64 n, .int .i64 t, .slice a L cap], .int .i64 m] w fun e w' => e = .returned (.int .i64 ((m + sumL sT (ys.drop d) : Nat) : Int)) ∧ OwnCut cSnt 141 w' (ys.take d ++ mkL sT mkS m (ys.drop d)) d a cap bs ∧ Only bs w w' := by
 subst hL
 have HO := hid h
 have HND := hid hnd
 have ht2 : ys.length ≤ 1048576 ∧ (ys.map wN).sum ≤ 1048576 := by unfold totL at ht; omega
 have HT2 := hid ht2
 clear h hnd ht ht2
 go_enter Tryz.func44, Tryz.ntmps44
 go_wp2_with fail
 refine (markSentS_any a cap ys d bs m _ (HO.out.later (bN w _)) HND.out HT2.out.1 HT2.out.2 hm).mono ?_
 rintro e w2 ⟨rfl, o2, on2⟩
 have HO2 := hid o2
 have HON := hid ((Only.of_below (bN w _)).trans on2)
 clear o2 on2
 go_wp2
 go_ret
 exact ⟨rfl, HO2.out, HON.out⟩
set_option maxRecDepth 100000 in
set_option maxHeartbeats 2000000 in
theorem heldLinkOut_any (e n t : Int) (a : Option Addr) (cap : Nat) (xs : List PW) (m : Nat) (w : World) (hr : RdSl cSnt w (mkL sT mkS m xs) (.slice a xs.length cap)) (ht : totL wN xs ≤ 1048576) (hm : m ≤ 1073741824) :
  Calls Tryz.prog 49 #[.agg #[.int .i64 e, .int .i64 n, .int .i64 t, .slice a xs.length cap], .int .i64 m] w fun e w' => e = .returned (.int .i64 ((m + sumL sT xs : Nat) : Int)) ∧ Below w.heap.size w w' := by
 have HR := hid hr
 have ht2 : xs.length ≤ 1048576 ∧ (xs.map wN).sum ≤ 1048576 := by unfold totL at ht; omega
 have HT2 := hid ht2
 have hsm : sumL sT xs ≤ 8388608 := by have h1 := sT_le xs; omega
 clear hr ht ht2
 go_enter Tryz.func49, Tryz.ntmps49
 go_wp2_with fail
 refine (heldSentS_any a cap xs m _ (HR.out.later (bN w _)) HT2.out.1 HT2.out.2 hm).mono ?_
 rintro e w2 ⟨rfl, b2⟩
 have HB := hid (bC (bN w _) b2)
 clear b2
 generalize hS : sumL sT xs = S at *
 have HS := hid hS
 clear hS
 go_wp2
 go_ret
 exact ⟨ret_int (by rw [HS.out]; omega), HB.out⟩
theorem tS_le (xs : List (List (List Nat))) : sumL tot xs ≤ totL tS xs := by
 unfold sumL totL
 induction xs with
 | nil => simp
 | cons x l ih => simp [tS, totL, tot] at ih ⊢; omega
theorem tS_at (xs : List (List (List Nat))) (k : Nat) (h : k < xs.length) : xs[k].length ≤ totL tS xs ∧ tot xs[k] ≤ totL tS xs := by
 have h1 := tot_at tS xs k h
 unfold totL
 have h2 : tS xs[k] = xs[k].length + tot xs[k] := rfl
 omega
set_option maxHeartbeats 4000000 in
theorem markSSS_any (v : Value) (xs : List (List (List Nat))) (bs : List Nat) (m : Nat) (w : World) (ho : OwnSl cSSS 103 w xs v bs) (hnd : bs.Nodup) (ht : totL tS xs ≤ 1048576) (hm : m ≤ 536870912) :
  Calls Tryz.prog 96 #[v, .int .i64 m] w fun e w' => e = .returned (.int .i64 ((m + sumL tot xs : Nat) : Int)) ∧ OwnSl cSSS 103 w' (mkL tot mkSS m xs) v bs ∧ Only bs w w' := by
 obtain ⟨a, cap, rfl, -⟩ := id ho.rd
 have hsl := tS_le xs
 have hn : xs.length ≤ 1048576 := by unfold totL at ht; omega
 have HAT : Hid (∀ k, (h : k < xs.length) → xs[k].length ≤ 1048576 ∧ tot xs[k] ≤ 1048576) := hid (fun k h => by have := tS_at xs k h; omega)
 have H0 : Hid (OwnSl cSSS 103 w (mixL tot mkSS m xs 0 0) (.slice a xs.length cap) bs) := hid (by rw [mixL_zero]; exact ho)
 have HND := hid hnd
 clear ho hnd
 go_enter Tryz.func96, Tryz.ntmps96
 go_wp2
 go_loopw [1, 5] (fun q i wr => ∃ k : Nat, k ≤ xs.length ∧ i = .int .i64 k ∧ q = .int .i64 ((m + sumL tot (xs.take k) : Nat) : Int) ∧ OwnSl cSSS 103 wr (mixL tot mkSS m xs 0 k) (.slice a xs.length cap) bs ∧ Only bs w wr) (fun _ i _ => xs.length - (intOf i).toNat)
 case atStart => exact ⟨0, Nat.zero_le _, rfl, by simp [sumL], H0.out, Only.refl _ _⟩
 case round =>
  obtain ⟨k, hk, rfl, rfl, how, hon⟩ := hrel
  have HO := hid how
  have HON := hid hon
  clear how hon
  have hki0 := sumL_take tot xs k
  by_cases hlt : k < xs.length
  ·have hlt2 : k < (mixL tot mkSS m xs 0 k).length := by rw [mixL_len tot mkSS m xs 0 k (by omega)]; exact hlt
   have hat : (mixL tot mkSS m xs 0 k)[k] = xs[k] := by
    have h1 := mixL_at tot mkSS m xs 0 k (by omega)
    simp only [Nat.zero_add] at h1
    rw [List.getElem?_eq_getElem hlt2, Option.some.injEq] at h1
    exact h1
   obtain ⟨g, cap2, cs, bk, hv, hc, hbn, hbm, hng, hcell, hset⟩ := HO.out.focus2 HND.out hlt2
   simp only [Value.slice.injEq] at hv
   obtain ⟨rfl, -, rfl⟩ := hv
   rw [hat] at hc
   obtain ⟨u, rfl, hu⟩ := hc
   obtain ⟨au, cu, rfl, -⟩ := id hu.rd
   have hcb := hcell 0 (by decide)
   rw [show k * cSSS.n + 0 = k from by simp [cSl]] at hcb
   have HU := hid hu
   have HBN := hid hbn
   have HSET : Hid (∀ w' y, OwnSl cSS 87 w' y (.slice au xs[k].length cu) bk → Only bk wr w' → OwnSl cSSS 103 w' ((mixL tot mkSS m xs 0 k).set k y) (.slice (some ⟨g, 0, none⟩) xs.length cap) bs) := hid (fun w' y h1 h2 => hset w' y ⟨_, rfl, h1⟩ h2)
   have HBM := hid hbm
   have hki : (k : Int) < (xs.length : Int) := by omega
   have HTS := hid (sumL_snoc tot xs k hlt)
   have HSU : Hid ((mixL tot mkSS m xs 0 k).set k (mkSS (m + sumL tot (xs.take k)) xs[k]) = mixL tot mkSS m xs 0 (k + 1)) := hid (by have h := mixL_succ tot mkSS m xs 0 k (by omega); simpa only [Nat.zero_add, List.drop_zero] using h)
   have hts2 := sumL_take tot xs (k + 1)
   have hle := HAT.out k hlt
   simp at hcb
   clear hset hcell hu hbn hbm hng
   generalize sumL tot (xs.take k) = t at *
   go_wp2_with fail
   refine (markSS_any _ xs[k] bk (m + t) wr HU.out HBN.out hle.1 hle.2 (by omega)).mono ?_
   rintro e w2 ⟨rfl, o2, on2⟩
   have HN : Hid (OwnSl cSSS 103 w2 (mixL tot mkSS m xs 0 (k + 1)) (.slice (some ⟨g, 0, none⟩) xs.length cap) bs) := hid (by
    rw [← HSU.out]
    exact HSET.out w2 _ o2 on2)
   have HON2 := hid (HON.out.trans (on2.mono HBM.out))
   clear o2 on2
   go_wp2
   go_roundw
   case rel => exact ⟨k + 1, by omega, by go_num, by rw [HTS.out]; go_num, HN.out, HON2.out⟩
   case measure => simp [intOf]; omega
  ·obtain rfl : k = xs.length := by omega
   have HF : Hid (OwnSl cSSS 103 wr (mkL tot mkSS m xs) (.slice a xs.length cap) bs) := hid (by
    have h := HO.out
    rw [mixL_done tot mkSS m xs 0 xs.length (by omega)] at h
    simpa only [List.take_zero, List.nil_append, List.drop_zero] using h)
   have HT : Hid (sumL tot (xs.take xs.length) = sumL tot xs) := hid (by rw [List.take_length])
   rw [HT.out]
   go_wp2
   go_ret
   exact ⟨rfl, HF.out, HON.out⟩
set_option maxHeartbeats 2000000 in
theorem markStrX_any (s : PStr) (a b : Option Addr) (c d : Nat) (bs ds : List Nat) (m : Nat) (w : World) (ho : OwnStr w s a c b d bs ds) (hnd : (bs ++ ds).Nodup) (hl : s.fields.length ≤ 1048576) (ht : fT s.fields ≤ 4194304) (htd : totL tS s.dicts ≤ 1048576) (hm : m ≤ 268435456) :
  Calls Tryz.prog 45 #[.agg #[.bool s.opened, .slice a s.fields.length c, .int .i64 s.next, .slice b s.dicts.length d], .int .i64 m] w fun e w' => e = .returned (.int .i64 ((m + fT s.fields + sumL tot s.dicts : Nat) : Int)) ∧ OwnStr w' ⟨s.opened, mkF m s.fields, s.next, mkL tot mkSS (m + fT s.fields) s.dicts⟩ a c b d bs ds ∧ Only (bs ++ ds) w w' := by
 have HF := hid ho.f
 have HT := hid ho.t
 obtain ⟨n1, n2, n3⟩ := List.nodup_append.1 hnd
 have HN1 := hid n1
 have HN2 := hid n2
 have HN3 := hid n3
 have HL1 := hid ho.f.lt
 have HL2 := hid ho.t.lt
 clear ho hnd n1 n2 n3
 go_enter Tryz.func45, Tryz.ntmps45
 go_wp2_with fail
 refine (markFieldS_any _ s.fields bs m _ (HF.out.kept (fun p hp => (bN w _).block p (HL1.out p hp))) HN1.out hl ht (by omega)).mono ?_
 rintro e w2 ⟨rfl, o2, on2⟩
 have hg : w.heap.size ∉ bs := fun h => by have := HL1.out _ h; omega
 have kb : w2.heap[w.heap.size]? = some (.cells #[.bool s.opened, .slice a s.fields.length c, .int .i64 s.next, .slice b s.dicts.length d] 43 (0, 0)) := (on2.block _ (by simp) hg).trans (heap_alloc_new w _)
 have p3 := cR w2 _ 3 _ _ _ kb
 simp only [gA, gZ, gU] at p3
 have HT2 : Hid (OwnSl cSSS 103 w2 s.dicts (.slice b s.dicts.length d) ds) := hid (HT.out.kept (fun p hp => by
  have hlt := HL2.out p hp
  exact (on2.block p (by simp; omega) (fun h => HN3.out p h p hp rfl)).trans ((bN w _).block p hlt)))
 have HO2 := hid o2
 have HON : Hid (Only (bs ++ ds) w w2) := hid (((Only.of_below (bN w _)).trans on2).mono (fun x hx => List.mem_append_left _ hx))
 clear o2 on2 kb hg
 generalize hQ : fT s.fields = Q at *
 have HQ := hid hQ
 clear hQ
 go_wp2_with fail
 (first | rw [show ((m : Int) + (Q : Int)) = ((m + Q : Nat) : Int) from by omega] | skip)
 refine (markSSS_any _ s.dicts ds (m + Q) w2 HT2.out HN2.out htd (by omega)).mono ?_
 rintro e w3 ⟨rfl, o3, on3⟩
 have HO3 := hid o3
 have HF3 := hid (HO2.out.kept (w' := w3) (fun p hp => on3.block p (HO2.out.lt p hp) (fun h => HN3.out p hp p h rfl)))
 have HON3 := hid (HON.out.trans (on3.mono (fun x hx => List.mem_append_right _ hx)))
 clear o3 on3
 obtain ⟨Z, hZ⟩ : ∃ Z : Int, Z = ((m + Q + sumL tot s.dicts : Nat) : Int) := ⟨_, rfl⟩
 rw [← hZ]
 have HZ := hid hZ
 clear hZ
 go_wp2
 go_ret
 refine ⟨by rw [HQ.out, HZ.out]; rfl, ⟨?_, ?_⟩, HON3.out⟩
 ·have h := HF3.out
  show OwnSl cField 101 w3 (mkF m s.fields) (.slice a (mkF m s.fields).length c) bs
  rw [mkF_len]
  exact h
 ·have h := HO3.out
  show OwnSl cSSS 103 w3 (mkL tot mkSS (m + fT s.fields) s.dicts) (.slice b (mkL tot mkSS (m + fT s.fields) s.dicts).length d) ds
  rw [mkL_len, HQ.out]
  exact h
def gT (x : PC) : Nat := x.text.length + 2
def mkG (q : Nat) (x : PC) : PC := ⟨(((q : Nat) : Int) % 3 == 0), ((q + 1 : Nat) : Int), mkByte (q + 2) x.text.length⟩
theorem wset2_3 (w : World) (g off : Nat) (x0 x1 : Value) : wsetAll w g off [x0, x1] = ((w.setCell ⟨g, off, none⟩ x0).setCell ⟨g, off + 1, none⟩ x1) := rfl
theorem gT_le (xs : List PC) : sumL gT xs = (xs.map fun x : PC => x.text.length).sum + 2 * xs.length := by
 unfold sumL
 induction xs with
 | nil => rfl
 | cons x l ih => simp [gT] at ih ⊢; omega
set_option maxHeartbeats 1000000 in
theorem mkG_round {wr : World} {ys : List PC} {g m cap : Nat} {bs : List Nat} (h : OwnSl cCell 102 wr ys (.slice (some ⟨g, 0, none⟩) m cap) bs) (hnd : bs.Nodup) {i : Nat} (hi : i < ys.length) (off : Nat) (hoff : off = i * 3) (q : Nat) (hq : q ≤ 1099511627776) :
  ∃ a0 c0, wr.cell? ⟨g, off, none⟩ = some (.bool ys[i].null) ∧ wr.cell? ⟨g, off + 1, none⟩ = some (.int .i64 ys[i].num) ∧ wr.cell? ⟨g, off + 2, none⟩ = some (.slice a0 ys[i].text.length c0) ∧ (∀ j, wr.frozen? ⟨g, j, none⟩ = false) ∧
   ((wr.setCell ⟨g, off, none⟩ (.bool (((q : Nat) : Int) % 3 == 0))).setCell ⟨g, off + 1, none⟩ (.int .i64 ((q + 1 : Nat) : Int))).ownsRow 0 5 1 (.slice a0 ys[i].text.length c0) ys[i].text.length (byt ys[i].text) ∧
   ∀ w2, w2.ownsRow 0 5 1 (.slice a0 ys[i].text.length c0) ys[i].text.length (byt (mkByte (q + 2) ys[i].text.length)) → ((wr.setCell ⟨g, off, none⟩ (.bool (((q : Nat) : Int) % 3 == 0))).setCell ⟨g, off + 1, none⟩ (.int .i64 ((q + 1 : Nat) : Int))).grownBy w2 (Value.slice a0 ys[i].text.length c0).ownBlock →
    OwnSl cCell 102 w2 (ys.set i (mkG q ys[i])) (.slice (some ⟨g, 0, none⟩) m cap) bs ∧ Only bs wr w2 := by
 have hn : cCell.n = 3 := rfl
 obtain ⟨g0, cap0, cs, bk, hv, hc, hbn, hbm, hng, hcell, -⟩ := h.focus2 hnd hi
 simp only [Value.slice.injEq, Option.some.injEq, Addr.mk.injEq, and_true] at hv
 obtain ⟨rfl, rfl, rfl⟩ := hv
 obtain ⟨u, rfl, hd, hin⟩ := cCell_owned hc
 obtain ⟨a0, c0, rfl, -⟩ := id hd.rd
 have hst := h.store hnd hi off 0 [.bool (((q : Nat) : Int) % 3 == 0), .int .i64 ((q + 1 : Nat) : Int)] (by rw [hn, hoff]; rfl) (by rw [hn]; simp) ⟨(((q : Nat) : Int) % 3 == 0), ((q + 1 : Nat) : Int), ys[i].text⟩ (fun cs bk w' ho hk => by
  obtain ⟨u1, rfl, hd1, hin1⟩ := cCell_owned ho
  exact cCell_own (f := ⟨(((q : Nat) : Int) % 3 == 0), ((q + 1 : Nat) : Int), ys[i].text⟩) (hd1.kept hk) (by dsimp only [IntIn]; omega))
 have hko : ∀ b, b ≠ g → ((wr.setCell ⟨g, off, none⟩ (.bool (((q : Nat) : Int) % 3 == 0))).setCell ⟨g, off + 1, none⟩ (.int .i64 ((q + 1 : Nat) : Int))).heap[b]? = wr.heap[b]? := fun b hb => by
  rw [← wset2_3]; exact wsetAll_other _ wr g off hb
 rw [wset2_3] at hst
 have hbk : bk = (Value.slice a0 ys[i].text.length c0).ownBlock.toList := hd.bytes.2.1
 have d0 := hcell 0 (by decide)
 have d1 := hcell 1 (by decide)
 have d2 := hcell 2 (by decide)
 rw [hn] at d0 d1 d2
 simp only [gZ, gU, Nat.add_zero] at d0 d1 d2
 subst hoff
 refine ⟨a0, c0, d0, d1, d2, fun j => h.frozenAt j, ownsRow_kept hd.bytes.1 (fun b hb => hko b (fun e => hng (by rw [hbk, ← e, hb]; simp))), fun w2 o2 g2 => ?_⟩
 have h5 : ((wr.setCell ⟨g, i * 3, none⟩ (.bool (((q : Nat) : Int) % 3 == 0))).setCell ⟨g, i * 3 + 1, none⟩ (.int .i64 ((q + 1 : Nat) : Int))).cell? ⟨g, i * 3 + 2, none⟩ = some (.slice a0 ys[i].text.length c0) := by
  rw [World.cell?_setCell_other _ _ _ _ (by simp), World.cell?_setCell_other _ _ _ _ (by simp)]
  exact d2
 obtain ⟨g1, cap1, cs1, bk1, hv1, hc1, hbn1, hbm1, hng1, hcell1, hset1⟩ := hst.1.focus2 hnd (k := i) (by simpa using hi)
 simp only [Value.slice.injEq, Option.some.injEq, Addr.mk.injEq, and_true] at hv1
 obtain ⟨rfl, -, rfl⟩ := hv1
 rw [List.getElem_set_self] at hc1
 obtain ⟨u1, rfl, hd1, hin1⟩ := cCell_owned hc1
 have d51 := hcell1 2 (by decide)
 rw [hn, h5] at d51
 simp only [gZ, gU, Option.some.injEq] at d51
 subst d51
 have hbk1 : bk1 = (Value.slice a0 ys[i].text.length c0).ownBlock.toList := hd1.bytes.2.1
 have hon2 := only_of_grown g2
 rw [← hbk1] at hon2
 have hy2 := cCell_own (f := ⟨(((q : Nat) : Int) % 3 == 0), ((q + 1 : Nat) : Int), mkByte (q + 2) ys[i].text.length⟩) (v := (.slice a0 ys[i].text.length c0)) (bs := bk1) (w := w2) (by rw [hbk1]; exact ownSl_bytes o2 (mkByte_ok _ _)) hin1
 have h2 := hset1 w2 _ hy2 hon2
 rw [List.set_set] at h2
 exact ⟨h2, hst.2.trans (hon2.mono hbm1)⟩
set_option maxRecDepth 100000 in
set_option maxHeartbeats 8000000 in
theorem markCellX_any (v : Value) (ys : List PC) (bs : List Nat) (m : Nat) (w : World) (h : OwnSl cCell 102 w ys v bs) (hnd : bs.Nodup) (hn : ys.length ≤ 1048576) (ht : (ys.map fun x : PC => x.text.length).sum ≤ 1048576) (hm : m ≤ 1073741824) :
  Calls Tryz.prog 46 #[v, .int .i64 m] w fun e w' => e = .returned (.int .i64 ((m + sumL gT ys : Nat) : Int)) ∧ OwnSl cCell 102 w' (mkL gT mkG m ys) v bs ∧ Only bs w w' := by
 obtain ⟨a, cap, rfl, -⟩ := id h.rd
 have hsm : sumL gT ys ≤ 8388608 := by have h1 := gT_le ys; omega
 have HTE : Hid (∀ k, (hk : k < ys.length) → ys[k].text.length ≤ 1048576) := hid (fun k hk => by have := tot_at (fun x : PC => x.text.length) ys k hk; omega)
 have H0 : Hid (OwnSl cCell 102 w (mixL gT mkG m ys 0 0) (.slice a ys.length cap) bs) := hid (by rw [mixL_zero]; exact h)
 have HND := hid hnd
 clear h hnd ht
 go_enter Tryz.func46, Tryz.ntmps46
 go_wp2
 go_loopw [1, 5] (fun q i wr => ∃ k : Nat, k ≤ ys.length ∧ i = .int .i64 k ∧ q = .int .i64 ((m + sumL gT (ys.take k) : Nat) : Int) ∧ OwnSl cCell 102 wr (mixL gT mkG m ys 0 k) (.slice a ys.length cap) bs ∧ Only bs w wr) (fun _ i _ => ys.length - (intOf i).toNat)
 case atStart => exact ⟨0, Nat.zero_le _, rfl, by simp [sumL], H0.out, Only.refl _ _⟩
 case round =>
  obtain ⟨k, hk, rfl, rfl, how, hon⟩ := hrel
  have HO := hid how
  have HON := hid hon
  clear how hon
  have hki0 := sumL_take gT ys k
  by_cases hlt : k < ys.length
  ·have hlt2 : k < (mixL gT mkG m ys 0 k).length := by rw [mixL_len gT mkG m ys 0 k (by omega)]; exact hlt
   have hat : (mixL gT mkG m ys 0 k)[k] = ys[k] := by
    have h1 := mixL_at gT mkG m ys 0 k (by omega)
    simp only [Nat.zero_add] at h1
    rw [List.getElem?_eq_getElem hlt2, Option.some.injEq] at h1
    exact h1
   obtain ⟨g, cap2, cs, bk, hv, -⟩ := HO.out.focus2 HND.out hlt2
   simp only [Value.slice.injEq] at hv
   obtain ⟨rfl, -, rfl⟩ := hv
   have HTS := hid (sumL_snoc gT ys k hlt)
   have hts2 := sumL_take gT ys (k + 1)
   have hle2 := HTE.out k hlt
   have HSU : Hid ((mixL gT mkG m ys 0 k).set k (mkG (m + sumL gT (ys.take k)) ys[k]) = mixL gT mkG m ys 0 (k + 1)) := hid (by have h := mixL_succ gT mkG m ys 0 k (by omega); simpa only [Nat.zero_add, List.drop_zero] using h)
   have HFT : Hid (gT ys[k] = ys[k].text.length + 2) := hid rfl
   have hsb : sumL gT (ys.take k) + ys[k].text.length + 2 ≤ 8388608 := by have := HTS.out; have := HFT.out; omega
   have hR := mkG_round HO.out HND.out hlt2 (k * 3) rfl (m + sumL gT (ys.take k)) (by omega)
   rw [hat, HSU.out] at hR
   clear hat HSU hts2 hki0
   generalize sumL gT (ys.take k) = t at *
   generalize ys[k].text.length = ln at *
   obtain ⟨a0, c0, d0, d1, d2, hfz, o5, hfin⟩ := hR
   have f0 := hfz (k * 3)
   have f1 := hfz (k * 3 + 1)
   have f2 := hfz (k * 3 + 2)
   rw [show ((m + t : Nat) : Int) = (m : Int) + (t : Int) from by omega, show ((m + t + 1 : Nat) : Int) = (m : Int) + (t : Int) + 1 from by omega] at o5 hfin
   have HO5 := hid o5
   have HF := hid hfin
   have hki : (k : Int) < (ys.length : Int) := by omega
   clear o5 hfin hfz
   go_wp2_with fail
   rw [show ((m : Int) + (t : Int) + 1 + 1) = ((m + t + 2 : Nat) : Int) from by omega]
   generalize ((wr.setCell ⟨g, k * 3, none⟩ (.bool (((m : Int) + (t : Int)) % 3 == 0))).setCell ⟨g, k * 3 + 1, none⟩ (.int .i64 ((m : Int) + (t : Int) + 1))) = W5 at *
   clear d0 d1 d2 f0 f1 f2
   refine (markByteS_any 0 _ (m + t + 2) _ _ W5 HO5.out (by omega) (by omega)).mono ?_
   rintro e w2 ⟨rfl, o2, g2⟩
   obtain ⟨Z, hZ⟩ : ∃ Z : Int, Z = ((m + t + 2 + ln : Nat) : Int) := ⟨_, rfl⟩
   have hR2 := HF.out w2 o2 g2
   rw [← hZ]
   have hz0 : 0 ≤ Z := by omega
   have hz1 : Z ≤ 1099511627776 := by omega
   have HZ := hid hZ
   clear hZ
   obtain ⟨hN, hO⟩ := hR2
   have HN := hid hN
   have HON2 := hid (HON.out.trans hO)
   clear hN hO o2 g2 HF HO5
   go_wp2
   go_roundw
   case rel => exact ⟨k + 1, by omega, by go_num, by rw [HTS.out, HFT.out]; congr 1; have := HZ.out; omega, HN.out, HON2.out⟩
   case measure => simp [intOf]; omega
  ·obtain rfl : k = ys.length := by omega
   have HF : Hid (OwnSl cCell 102 wr (mkL gT mkG m ys) (.slice a ys.length cap) bs) := hid (by
    have h := HO.out
    rw [mixL_done gT mkG m ys 0 ys.length (by omega)] at h
    simpa only [List.take_zero, List.nil_append, List.drop_zero] using h)
   have HT : Hid (sumL gT (ys.take ys.length) = sumL gT ys) := hid (by rw [List.take_length])
   rw [HT.out]
   go_wp2
   go_ret
   exact ⟨rfl, HF.out, HON.out⟩
theorem cTable_owned {w : World} {t : PT} {cs : List Value} {bs : List Nat} (h : cTable.own w t cs bs) : ∃ v, cs = [.int .i64 t.rows, v] ∧ OwnSl cCell 102 w t.cells v bs ∧ IntIn t.rows := by
 obtain ⟨c1, c2, b1, b2, rfl, rfl, ⟨rfl, h2, rfl⟩, v, rfl, h3⟩ := h
 exact ⟨v, rfl, by simpa using h3, h2⟩
def hT_ (t : PT) : Nat := sumL gT t.cells + 1
def mkH (q : Nat) (t : PT) : PT := ⟨((q : Nat) : Int), mkL gT mkG (q + 1) t.cells⟩
theorem hT_le (ts : List PT) : sumL hT_ ts ≤ 2 * totL totT ts + ts.length := by
 unfold sumL totL
 induction ts with
 | nil => simp
 | cons x l ih =>
  have h := gT_le x.cells
  have h2 : totT x = x.cells.length + (x.cells.map fun f : PC => f.text.length).sum := rfl
  have h3 : hT_ x = sumL gT x.cells + 1 := rfl
  simp only [List.map_cons, List.sum_cons, List.length_cons] at ih ⊢
  omega
theorem hT_at (ts : List PT) (k : Nat) (h : k < ts.length) (ht : totL totT ts ≤ 1048576) : ts[k].cells.length ≤ 1048576 ∧ (ts[k].cells.map fun x : PC => x.text.length).sum ≤ 1048576 := by
 have h1 := tot_at totT ts k h
 unfold totL at ht
 have h2 : totT ts[k] = ts[k].cells.length + (ts[k].cells.map fun x : PC => x.text.length).sum := rfl
 omega
set_option maxRecDepth 100000 in
set_option maxHeartbeats 8000000 in
theorem markTableS_any (v : Value) (ys : List PT) (bs : List Nat) (m : Nat) (w : World) (h : OwnSl cTable 51 w ys v bs) (hnd : bs.Nodup) (ht : totL totT ys ≤ 1048576) (hm : m ≤ 536870912) :
  Calls Tryz.prog 43 #[v, .int .i64 m] w fun e w' => e = .returned (.int .i64 ((m + sumL hT_ ys : Nat) : Int)) ∧ OwnSl cTable 51 w' (mkL hT_ mkH m ys) v bs ∧ Only bs w w' := by
 obtain ⟨a, cap, rfl, -⟩ := id h.rd
 have hn : ys.length ≤ 1048576 := by unfold totL at ht; omega
 have hsm : sumL hT_ ys ≤ 8388608 := by have h1 := hT_le ys; omega
 have HTE : Hid (∀ k, (hk : k < ys.length) → ys[k].cells.length ≤ 1048576 ∧ (ys[k].cells.map fun x : PC => x.text.length).sum ≤ 1048576) := hid (fun k hk => hT_at ys k hk ht)
 have H0 : Hid (OwnSl cTable 51 w (mixL hT_ mkH m ys 0 0) (.slice a ys.length cap) bs) := hid (by rw [mixL_zero]; exact h)
 have HND := hid hnd
 clear h hnd ht
 go_enter Tryz.func43, Tryz.ntmps43
 go_wp2
 go_loopw [1, 5] (fun q i wr => ∃ k : Nat, k ≤ ys.length ∧ i = .int .i64 k ∧ q = .int .i64 ((m + sumL hT_ (ys.take k) : Nat) : Int) ∧ OwnSl cTable 51 wr (mixL hT_ mkH m ys 0 k) (.slice a ys.length cap) bs ∧ Only bs w wr) (fun _ i _ => ys.length - (intOf i).toNat)
 case atStart => exact ⟨0, Nat.zero_le _, rfl, by simp [sumL], H0.out, Only.refl _ _⟩
 case round =>
  obtain ⟨k, hk, rfl, rfl, how, hon⟩ := hrel
  have HO := hid how
  have HON := hid hon
  clear how hon
  have hki0 := sumL_take hT_ ys k
  by_cases hlt : k < ys.length
  ·have hlt2 : k < (mixL hT_ mkH m ys 0 k).length := by rw [mixL_len hT_ mkH m ys 0 k (by omega)]; exact hlt
   have hat : (mixL hT_ mkH m ys 0 k)[k] = ys[k] := by
    have h1 := mixL_at hT_ mkH m ys 0 k (by omega)
    simp only [Nat.zero_add] at h1
    rw [List.getElem?_eq_getElem hlt2, Option.some.injEq] at h1
    exact h1
   obtain ⟨g, cap2, cs, bk, hv, hc, hbn, hbm, hng, hcell, -⟩ := HO.out.focus2 HND.out hlt2
   simp only [Value.slice.injEq] at hv
   obtain ⟨rfl, -, rfl⟩ := hv
   rw [hat] at hc
   obtain ⟨u, rfl, hu, hin⟩ := cTable_owned hc
   obtain ⟨au, cu, rfl, -⟩ := id hu.rd
   have d0 := hcell 0 (by decide)
   have d1 := hcell 1 (by decide)
   rw [show k * cTable.n + 0 = k * 2 from rfl] at d0
   rw [show k * cTable.n + 1 = k * 2 + 1 from rfl] at d1
   simp only [gZ, gU] at d0 d1
   have f0 := HO.out.frozenAt (k * 2)
   have f1 := HO.out.frozenAt (k * 2 + 1)
   have HTS := hid (sumL_snoc hT_ ys k hlt)
   have hts2 := sumL_take hT_ ys (k + 1)
   have hle2 := HTE.out k hlt
   have HSU : Hid ((mixL hT_ mkH m ys 0 k).set k (mkH (m + sumL hT_ (ys.take k)) ys[k]) = mixL hT_ mkH m ys 0 (k + 1)) := hid (by have h := mixL_succ hT_ mkH m ys 0 k (by omega); simpa only [Nat.zero_add, List.drop_zero] using h)
   have HFT : Hid (hT_ ys[k] = sumL gT ys[k].cells + 1) := hid rfl
   have hsb : sumL hT_ (ys.take k) + sumL gT ys[k].cells + 1 ≤ 8388608 := by have := HTS.out; have := HFT.out; omega
   have hst := HO.out.store HND.out hlt2 (k * 2) 0 [.int .i64 ((m + sumL hT_ (ys.take k) : Nat) : Int)] rfl (by show 1 ≤ 2; decide) ⟨((m + sumL hT_ (ys.take k) : Nat) : Int), ys[k].cells⟩ (fun cs bk w' ho hk => by
    rw [hat] at ho
    obtain ⟨u1, rfl, hd1, hin1⟩ := cTable_owned ho
    exact cTable_own (t := ⟨((m + sumL hT_ (ys.take k) : Nat) : Int), ys[k].cells⟩) (hd1.kept hk) (by dsimp only [IntIn]; omega))
   rw [show wsetAll wr g (k * 2) [.int .i64 ((m + sumL hT_ (ys.take k) : Nat) : Int)] = wr.setCell ⟨g, k * 2, none⟩ (.int .i64 ((m + sumL hT_ (ys.take k) : Nat) : Int)) from rfl] at hst
   obtain ⟨g1, cap1, cs1, bk1, hv1, hc1, hbn1, hbm1, hng1, hcell1, hset1⟩ := hst.1.focus2 HND.out (k := k) (by simpa using hlt2)
   simp only [Value.slice.injEq, Option.some.injEq, Addr.mk.injEq, and_true] at hv1
   obtain ⟨rfl, -, rfl⟩ := hv1
   rw [List.getElem_set_self] at hc1
   obtain ⟨u1, rfl, hu1, hin1⟩ := cTable_owned hc1
   have e1 := hcell1 1 (by decide)
   rw [show k * cTable.n + 1 = k * 2 + 1 from rfl, World.cell?_setCell_other _ _ _ _ (by simp), d1] at e1
   simp only [gZ, gU, Option.some.injEq] at e1
   subst e1
   have HSET : Hid (∀ w' y, OwnSl cCell 102 w' y (.slice au ys[k].cells.length cu) bk1 → Only bk1 (wr.setCell ⟨g, k * 2, none⟩ (.int .i64 ((m + sumL hT_ (ys.take k) : Nat) : Int))) w' → OwnSl cTable 51 w' ((mixL hT_ mkH m ys 0 k).set k ⟨((m + sumL hT_ (ys.take k) : Nat) : Int), y⟩) (.slice (some ⟨g, 0, none⟩) ys.length cap) bs) := hid (fun w' y h1 h2 => by
    have h := hset1 w' ⟨((m + sumL hT_ (ys.take k) : Nat) : Int), y⟩ (cTable_own (t := ⟨((m + sumL hT_ (ys.take k) : Nat) : Int), y⟩) h1 hin1) h2
    rwa [List.set_set] at h)
   have HU := hid hu1
   have HBN := hid hbn1
   have HOS := hid hst.2
   have HBM := hid hbm1
   have hki : (k : Int) < (ys.length : Int) := by omega
   have HMH : Hid (mkH (m + sumL hT_ (ys.take k)) ys[k] = ⟨((m + sumL hT_ (ys.take k) : Nat) : Int), mkL gT mkG (m + sumL hT_ (ys.take k) + 1) ys[k].cells⟩) := hid rfl
   clear hat hst hset1 hcell1 hcell hu1 hu hc hc1 hbn hbn1 hbm hbm1 hng hng1 hts2 hki0 hin hin1
   rw [HMH.out] at HSU
   clear HMH
   generalize sumL hT_ (ys.take k) = t at *
   rw [show ((m + t : Nat) : Int) = (m : Int) + (t : Int) from by omega] at HU HSET HOS HSU
   go_wp2_with fail
   rw [show ((m : Int) + (t : Int) + 1) = ((m + t + 1 : Nat) : Int) from by omega]
   generalize (wr.setCell ⟨g, k * 2, none⟩ (.int .i64 ((m : Int) + (t : Int)))) = W5 at *
   clear d0 d1 f0 f1
   refine (markCellX_any _ ys[k].cells bk1 (m + t + 1) W5 HU.out HBN.out hle2.1 hle2.2 (by omega)).mono ?_
   rintro e w2 ⟨rfl, o2, on2⟩
   have HN : Hid (OwnSl cTable 51 w2 (mixL hT_ mkH m ys 0 (k + 1)) (.slice (some ⟨g, 0, none⟩) ys.length cap) bs) := hid (by
    rw [← HSU.out]
    exact HSET.out w2 _ o2 on2)
   have HON2 := hid (HON.out.trans (HOS.out.trans (on2.mono HBM.out)))
   generalize hln : sumL gT ys[k].cells = ln at *
   obtain ⟨Z, hZ⟩ : ∃ Z : Int, Z = ((m + t + 1 + ln : Nat) : Int) := ⟨_, rfl⟩
   rw [← hZ]
   have hz0 : 0 ≤ Z := by omega
   have hz1 : Z ≤ 1099511627776 := by omega
   have HZ := hid hZ
   clear hZ o2 on2 HSET HSU HU
   go_wp2
   go_roundw
   case rel => exact ⟨k + 1, by omega, by go_num, by rw [HTS.out, HFT.out]; congr 1; have := HZ.out; omega, HN.out, HON2.out⟩
   case measure => simp [intOf]; omega
  ·obtain rfl : k = ys.length := by omega
   have HF : Hid (OwnSl cTable 51 wr (mkL hT_ mkH m ys) (.slice a ys.length cap) bs) := hid (by
    have h := HO.out
    rw [mixL_done hT_ mkH m ys 0 ys.length (by omega)] at h
    simpa only [List.take_zero, List.nil_append, List.drop_zero] using h)
   have HT : Hid (sumL hT_ (ys.take ys.length) = sumL hT_ ys) := hid (by rw [List.take_length])
   rw [HT.out]
   go_wp2
   go_ret
   exact ⟨rfl, HF.out, HON.out⟩
end Go.Proofs.YtfaehioeepolhabGreat
