import Derived.Test.YtfaehioeepolhabGreatJSend50
import Derived.Test.YtfaehioeepolhabGreatJSend9
import Derived.Test.YtfaehioeepolhabGreatJSend18
import Derived.Test.YtfaehioeepolhabGreatJSend4
import Derived.Test.YtfaehioeepolhabGreatJSend19
import Derived.Test.YtfaehioeepolhabGreatJSend44
import Derived.Test.YtfaehioeepolhabGreatJSend26
namespace Go.Proofs.YtfaehioeepolhabGreat
open Go.RowKit
set_option maxRecDepth 100000 in
set_option maxHeartbeats 2000000 in
theorem markLinkOut_any (e n t : Int) (a : Option Addr) (cap : Nat) (ys : List PW) (d : Nat) (bs : List Nat) (m L : Nat) (w : World) (hL : L = ys.length - d) (h : OwnCut cSnt 141 w ys d a cap bs) (hnd : bs.Nodup) (ht : totL wN ys ≤ 1048576) (hm : m ≤ 1073741824) :
    Calls Tryz.prog 44 #[.agg #[.int .i64 e, .int .i64 n, .int .i64 t, .slice a L cap], .int .i64 m] w fun e w' => e = .returned (.int .i64 ((m + sumL sT (ys.drop d) : Nat) : Int)) ∧ OwnCut cSnt 141 w' (ys.take d ++ mkL sT mkS m (ys.drop d)) d a cap bs ∧ Only bs w w' := by
  subst hL
  have HO := hid h
  have HND := hid hnd
  have ht2 : ys.length ≤ 1048576 ∧ (ys.map wN).sum ≤ 1048576 := by unfold totL at ht; omega
  have HT2 := hid ht2
  clear h hnd ht ht2
  go_enter Tryz.func44, Tryz.ntmps44
  go_wp2_with fail
  refine (markSentS_any a cap ys d bs m _ (HO.out.later (below_new1 w _)) HND.out HT2.out.1 HT2.out.2 hm).mono ?_
  rintro e w2 ⟨rfl, o2, on2⟩
  have HO2 := hid o2
  have HON := hid ((Only.of_below (below_new1 w _)).trans on2)
  clear o2 on2
  go_wp2
  go_ret
  exact ⟨rfl, HO2.out, HON.out⟩
set_option maxRecDepth 100000 in
set_option maxHeartbeats 2000000 in
theorem heldLinkOut_any (e n t : Int) (a : Option Addr) (cap : Nat) (xs : List PW) (m : Nat) (w : World) (hr : RdSl cSnt w (mkL sT mkS m xs) (.slice a xs.length cap)) (ht : totL wN xs ≤ 1048576) (hm : m ≤ 1073741824) :
    Calls Tryz.prog 49 #[.agg #[.int .i64 e, .int .i64 n, .int .i64 t, .slice a xs.length cap], .int .i64 m] w fun e w' => e = .returned (.int .i64 ((m + sumL sT xs : Nat) : Int)) ∧ Below w.heap.size w w' := by
  have HR := hid hr
  have ht2 : xs.length ≤ 1048576 ∧ (xs.map wN).sum ≤ 1048576 := by unfold totL at ht; omega
  have HT2 := hid ht2
  have hsm : sumL sT xs ≤ 8388608 := by have h1 := sT_le xs; omega
  clear hr ht ht2
  go_enter Tryz.func49, Tryz.ntmps49
  go_wp2_with fail
  refine (heldSentS_any a cap xs m _ (HR.out.later (below_new1 w _)) HT2.out.1 HT2.out.2 hm).mono ?_
  rintro e w2 ⟨rfl, b2⟩
  have HB := hid (below_chain (below_new1 w _) b2)
  clear b2
  generalize hS : sumL sT xs = S at *
  have HS := hid hS
  clear hS
  go_wp2
  go_ret
  exact ⟨ret_int (by rw [HS.out]; omega), HB.out⟩
end Go.Proofs.YtfaehioeepolhabGreat
namespace Go.Proofs.YtfaehioeepolhabGreat
open Go.RowKit
theorem tS_le (xs : List (List (List Nat))) : sumL tot xs ≤ totL tS xs := by
  unfold sumL totL
  induction xs with
  | nil => simp
  | cons x l ih => simp [tS, totL, tot] at ih ⊢; omega
theorem tS_at (xs : List (List (List Nat))) (k : Nat) (h : k < xs.length) : xs[k].length ≤ totL tS xs ∧ tot xs[k] ≤ totL tS xs := by
  have h1 := tot_at tS xs k h
  unfold totL
  have h2 : tS xs[k] = xs[k].length + tot xs[k] := rfl
  omega
set_option maxHeartbeats 4000000 in
theorem markSSS_any (v : Value) (xs : List (List (List Nat))) (bs : List Nat) (m : Nat) (w : World) (ho : OwnSl cSSS 103 w xs v bs) (hnd : bs.Nodup) (ht : totL tS xs ≤ 1048576) (hm : m ≤ 536870912) :
    Calls Tryz.prog 96 #[v, .int .i64 m] w fun e w' => e = .returned (.int .i64 ((m + sumL tot xs : Nat) : Int)) ∧ OwnSl cSSS 103 w' (mkL tot mkSS m xs) v bs ∧ Only bs w w' := by
  obtain ⟨a, cap, rfl, -⟩ := id ho.rd
  have hsl := tS_le xs
  have hn : xs.length ≤ 1048576 := by unfold totL at ht; omega
  have HAT : Hid (∀ k, (h : k < xs.length) → xs[k].length ≤ 1048576 ∧ tot xs[k] ≤ 1048576) := hid (fun k h => by have := tS_at xs k h; omega)
  have H0 : Hid (OwnSl cSSS 103 w (mixL tot mkSS m xs 0 0) (.slice a xs.length cap) bs) := hid (by rw [mixL_zero]; exact ho)
  have HND := hid hnd
  clear ho hnd
  go_enter Tryz.func96, Tryz.ntmps96
  go_wp2
  go_loopw [1, 5] (fun q i wr => ∃ k : Nat, k ≤ xs.length ∧ i = .int .i64 k ∧ q = .int .i64 ((m + sumL tot (xs.take k) : Nat) : Int) ∧ OwnSl cSSS 103 wr (mixL tot mkSS m xs 0 k) (.slice a xs.length cap) bs ∧ Only bs w wr) (fun _ i _ => xs.length - (intOf i).toNat)
  case atStart => exact ⟨0, Nat.zero_le _, rfl, by simp [sumL], H0.out, Only.refl _ _⟩
  case round =>
    obtain ⟨k, hk, rfl, rfl, how, hon⟩ := hrel
    have HO := hid how
    have HON := hid hon
    clear how hon
    have hki0 := sumL_take tot xs k
    by_cases hlt : k < xs.length
    · have hlt2 : k < (mixL tot mkSS m xs 0 k).length := by rw [mixL_len tot mkSS m xs 0 k (by omega)]; exact hlt
      have hat : (mixL tot mkSS m xs 0 k)[k] = xs[k] := by
        have h1 := mixL_at tot mkSS m xs 0 k (by omega)
        simp only [Nat.zero_add] at h1
        rw [List.getElem?_eq_getElem hlt2, Option.some.injEq] at h1
        exact h1
      obtain ⟨g, cap2, cs, bk, hv, hc, hbn, hbm, hng, hcell, hset⟩ := HO.out.focus2 HND.out hlt2
      simp only [Value.slice.injEq] at hv
      obtain ⟨rfl, -, rfl⟩ := hv
      rw [hat] at hc
      obtain ⟨u, rfl, hu⟩ := hc
      obtain ⟨au, cu, rfl, -⟩ := id hu.rd
      have hcb := hcell 0 (by decide)
      rw [show k * cSSS.n + 0 = k from by simp [cSl]] at hcb
      have HU := hid hu
      have HBN := hid hbn
      have HSET : Hid (∀ w' y, OwnSl cSS 87 w' y (.slice au xs[k].length cu) bk → Only bk wr w' → OwnSl cSSS 103 w' ((mixL tot mkSS m xs 0 k).set k y) (.slice (some ⟨g, 0, none⟩) xs.length cap) bs) := hid (fun w' y h1 h2 => hset w' y ⟨_, rfl, h1⟩ h2)
      have HBM := hid hbm
      have hki : (k : Int) < (xs.length : Int) := by omega
      have HTS := hid (sumL_snoc tot xs k hlt)
      have HSU : Hid ((mixL tot mkSS m xs 0 k).set k (mkSS (m + sumL tot (xs.take k)) xs[k]) = mixL tot mkSS m xs 0 (k + 1)) := hid (by have h := mixL_succ tot mkSS m xs 0 k (by omega); simpa only [Nat.zero_add, List.drop_zero] using h)
      have hts2 := sumL_take tot xs (k + 1)
      have hle := HAT.out k hlt
      simp at hcb
      clear hset hcell hu hbn hbm hng
      generalize sumL tot (xs.take k) = t at *
      go_wp2_with fail
      refine (markSS_any _ xs[k] bk (m + t) wr HU.out HBN.out hle.1 hle.2 (by omega)).mono ?_
      rintro e w2 ⟨rfl, o2, on2⟩
      have HN : Hid (OwnSl cSSS 103 w2 (mixL tot mkSS m xs 0 (k + 1)) (.slice (some ⟨g, 0, none⟩) xs.length cap) bs) := hid (by
        rw [← HSU.out]
        exact HSET.out w2 _ o2 on2)
      have HON2 := hid (HON.out.trans (on2.mono HBM.out))
      clear o2 on2
      go_wp2
      go_roundw
      case rel => exact ⟨k + 1, by omega, by go_num, by rw [HTS.out]; go_num, HN.out, HON2.out⟩
      case measure => simp [intOf]; omega
    · obtain rfl : k = xs.length := by omega
      have HF : Hid (OwnSl cSSS 103 wr (mkL tot mkSS m xs) (.slice a xs.length cap) bs) := hid (by
        have h := HO.out
        rw [mixL_done tot mkSS m xs 0 xs.length (by omega)] at h
        simpa only [List.take_zero, List.nil_append, List.drop_zero] using h)
      have HT : Hid (sumL tot (xs.take xs.length) = sumL tot xs) := hid (by rw [List.take_length])
      rw [HT.out]
      go_wp2
      go_ret
      exact ⟨rfl, HF.out, HON.out⟩
end Go.Proofs.YtfaehioeepolhabGreat
namespace Go.Proofs.YtfaehioeepolhabGreat
open Go.RowKit
set_option maxHeartbeats 2000000 in
theorem markStrX_any (s : PStr) (a b : Option Addr) (c d : Nat) (bs ds : List Nat) (m : Nat) (w : World) (ho : OwnStr w s a c b d bs ds) (hnd : (bs ++ ds).Nodup) (hl : s.fields.length ≤ 1048576) (ht : fT s.fields ≤ 4194304) (htd : totL tS s.dicts ≤ 1048576) (hm : m ≤ 268435456) :
    Calls Tryz.prog 45 #[.agg #[.bool s.opened, .slice a s.fields.length c, .int .i64 s.next, .slice b s.dicts.length d], .int .i64 m] w fun e w' => e = .returned (.int .i64 ((m + fT s.fields + sumL tot s.dicts : Nat) : Int)) ∧ OwnStr w' ⟨s.opened, mkF m s.fields, s.next, mkL tot mkSS (m + fT s.fields) s.dicts⟩ a c b d bs ds ∧ Only (bs ++ ds) w w' := by
  have HF := hid ho.f
  have HT := hid ho.t
  obtain ⟨n1, n2, n3⟩ := List.nodup_append.1 hnd
  have HN1 := hid n1
  have HN2 := hid n2
  have HN3 := hid n3
  have HL1 := hid ho.f.lt
  have HL2 := hid ho.t.lt
  clear ho hnd n1 n2 n3
  go_enter Tryz.func45, Tryz.ntmps45
  go_wp2_with fail
  refine (markFieldS_any _ s.fields bs m _ (HF.out.kept (fun p hp => (below_new1 w _).block p (HL1.out p hp))) HN1.out hl ht (by omega)).mono ?_
  rintro e w2 ⟨rfl, o2, on2⟩
  have hg : w.heap.size ∉ bs := fun h => by have := HL1.out _ h; omega
  have kb : w2.heap[w.heap.size]? = some (.cells #[.bool s.opened, .slice a s.fields.length c, .int .i64 s.next, .slice b s.dicts.length d] 43 (0, 0)) := (on2.block _ (by simp) hg).trans (heap_alloc_new w _)
  have p3 := cell_of_row w2 _ 3 _ _ _ kb
  simp only [List.getElem?_toArray, List.getElem?_cons_zero, List.getElem?_cons_succ] at p3
  have HT2 : Hid (OwnSl cSSS 103 w2 s.dicts (.slice b s.dicts.length d) ds) := hid (HT.out.kept (fun p hp => by
    have hlt := HL2.out p hp
    exact (on2.block p (by simp; omega) (fun h => HN3.out p h p hp rfl)).trans ((below_new1 w _).block p hlt)))
  have HO2 := hid o2
  have HON : Hid (Only (bs ++ ds) w w2) := hid (((Only.of_below (below_new1 w _)).trans on2).mono (fun x hx => List.mem_append_left _ hx))
  clear o2 on2 kb hg
  generalize hQ : fT s.fields = Q at *
  have HQ := hid hQ
  clear hQ
  go_wp2_with fail
  (first | rw [show ((m : Int) + (Q : Int)) = ((m + Q : Nat) : Int) from by omega] | skip)
  refine (markSSS_any _ s.dicts ds (m + Q) w2 HT2.out HN2.out htd (by omega)).mono ?_
  rintro e w3 ⟨rfl, o3, on3⟩
  have HO3 := hid o3
  have HF3 := hid (HO2.out.kept (w' := w3) (fun p hp => on3.block p (HO2.out.lt p hp) (fun h => HN3.out p hp p h rfl)))
  have HON3 := hid (HON.out.trans (on3.mono (fun x hx => List.mem_append_right _ hx)))
  clear o3 on3
  obtain ⟨Z, hZ⟩ : ∃ Z : Int, Z = ((m + Q + sumL tot s.dicts : Nat) : Int) := ⟨_, rfl⟩
  rw [← hZ]
  have HZ := hid hZ
  clear hZ
  go_wp2
  go_ret
  refine ⟨by rw [HQ.out, HZ.out]; rfl, ⟨?_, ?_⟩, HON3.out⟩
  · have h := HF3.out
    show OwnSl cField 101 w3 (mkF m s.fields) (.slice a (mkF m s.fields).length c) bs
    rw [mkF_len]
    exact h
  · have h := HO3.out
    show OwnSl cSSS 103 w3 (mkL tot mkSS (m + fT s.fields) s.dicts) (.slice b (mkL tot mkSS (m + fT s.fields) s.dicts).length d) ds
    rw [mkL_len, HQ.out]
    exact h
end Go.Proofs.YtfaehioeepolhabGreat
namespace Go.Proofs.YtfaehioeepolhabGreat
open Go.RowKit
theorem box_keptS {w w' : World} {g : Nat} {o : Obj} {bs : List Nat} (h : w.heap[g]? = some o) (ho : Only bs w w') (hg : g ∉ bs) : w'.heap[g]? = some o := (ho.block g (Array.getElem?_eq_some_iff.1 h).1 hg).trans h
def nSnd (r : PSnd) : Nat := fT r.fields + sumL hT_ r.tables + sumL sT r.out.wait + (fT r.str.fields + sumL tot r.str.dicts)
theorem nSnd_le (r : PSnd) (ht : SndFits r) : nSnd r ≤ 67108864 := by
  have hT : totL fN r.fields ≤ 1048576 ∧ totL totT r.tables ≤ 1048576 ∧ totL wN r.out.wait ≤ 1048576 ∧ totL fN r.str.fields ≤ 1048576 ∧ totL tS r.str.dicts ≤ 1048576 := by unfold SndFits tStr at ht; omega
  have hS1 : fT r.fields ≤ 4194304 := by have h1 := fT_le r.fields; have h2 := hT.1; unfold totL fN at h2; omega
  have hS2 : sumL hT_ r.tables ≤ 8388608 := by have h1 := hT_le r.tables; have h2 := hT.2.1; unfold totL at h1 h2; omega
  have hS3 : sumL sT r.out.wait ≤ 16777216 := by have h1 := sT_le r.out.wait; have h2 := hT.2.2.1; unfold totL at h2; omega
  have hS4 : fT r.str.fields ≤ 4194304 := by have h1 := fT_le r.str.fields; have h2 := hT.2.2.2.1; unfold totL fN at h2; omega
  have hS5 : sumL tot r.str.dicts ≤ 1048576 := Nat.le_trans (tS_le _) hT.2.2.2.2
  unfold nSnd
  omega
theorem ltSt {w : World} {s : PStr} {a b : Option Addr} {c d : Nat} {bs ds : List Nat} (h : OwnStr w s a c b d bs ds) : ∀ x ∈ bs ++ ds, x < w.heap.size := fun x hx => by
  rcases List.mem_append.1 hx with h1 | h1
  · exact h.f.lt x h1
  · exact h.t.lt x h1
structure MkSnd (w : World) (r : PSnd) (m : Nat) (a0 : Option Addr) (c0 : Nat) (a3 : Option Addr) (c3 : Nat) (a1 : Option Addr) (c1 : Nat) (a2 : Option Addr) (c2 : Nat) (b2 : Option Addr) (d2 : Nat) (fs ts os bs ds : List Nat) : Prop where
  f : OwnSl cField 101 w (mkF m r.fields) (.slice a0 r.fields.length c0) fs
  t : OwnSl cTable 51 w (mkL hT_ mkH (m + fT r.fields) r.tables) (.slice a3 r.tables.length c3) ts
  o : OwnCut cSnt 141 w (mkL sT mkS ((m + fT r.fields) + sumL hT_ r.tables) r.out.wait) 0 a1 c1 os
  s : OwnStr w ⟨r.str.opened, mkF (((m + fT r.fields) + sumL hT_ r.tables) + sumL sT r.out.wait) r.str.fields, r.str.next, mkL tot mkSS ((((m + fT r.fields) + sumL hT_ r.tables) + sumL sT r.out.wait) + fT r.str.fields) r.str.dicts⟩ a2 c2 b2 d2 bs ds
theorem MkSnd.kept {w w' : World} {r : PSnd} {m : Nat} {a0 a3 a1 a2 b2 : Option Addr} {c0 c3 c1 c2 d2 : Nat} {fs ts os bs ds : List Nat} (h : MkSnd w r m a0 c0 a3 c3 a1 c1 a2 c2 b2 d2 fs ts os bs ds) (hk : ∀ x ∈ ((fs ++ ts) ++ (os ++ (bs ++ ds))), w'.heap[x]? = w.heap[x]?) : MkSnd w' r m a0 c0 a3 c3 a1 c1 a2 c2 b2 d2 fs ts os bs ds :=
  ⟨h.f.kept (fun x hx => hk x (List.mem_append_left _ (List.mem_append_left _ hx))), h.t.kept (fun x hx => hk x (List.mem_append_left _ (List.mem_append_right _ hx))), h.o.kept (fun x hx => hk x (List.mem_append_right _ (List.mem_append_left _ hx))), keptSt h.s (fun x hx => hk x (List.mem_append_right _ (List.mem_append_right _ hx)))⟩
theorem MkSnd.lt {w : World} {r : PSnd} {m : Nat} {a0 a3 a1 a2 b2 : Option Addr} {c0 c3 c1 c2 d2 : Nat} {fs ts os bs ds : List Nat} (h : MkSnd w r m a0 c0 a3 c3 a1 c1 a2 c2 b2 d2 fs ts os bs ds) : ∀ x ∈ ((fs ++ ts) ++ (os ++ (bs ++ ds))), x < w.heap.size := fun y hy => by
  rcases List.mem_append.1 hy with k | k
  · rcases List.mem_append.1 k with k | k
    · exact h.f.lt y k
    · exact h.t.lt y k
  · rcases List.mem_append.1 k with k | k
    · exact h.o.lt y k
    · exact ltSt h.s y k
theorem OwnSnd.lt {w : World} {r : PSnd} {a0 a3 a1 a2 b2 : Option Addr} {c0 c3 c1 c2 d2 : Nat} {fs ts os bs ds : List Nat} (h : OwnSnd w r a0 c0 a3 c3 a1 c1 a2 c2 b2 d2 fs ts os bs ds) : ∀ x ∈ ((fs ++ ts) ++ (os ++ (bs ++ ds))), x < w.heap.size := fun y hy => by
  rcases List.mem_append.1 hy with k | k
  · rcases List.mem_append.1 k with k | k
    · exact h.f.lt y k
    · exact h.t.lt y k
  · rcases List.mem_append.1 k with k | k
    · exact h.o.lt y k
    · exact ltSt h.s y k
theorem OwnSnd.kept {w w' : World} {r : PSnd} {a0 a3 a1 a2 b2 : Option Addr} {c0 c3 c1 c2 d2 : Nat} {fs ts os bs ds : List Nat} (h : OwnSnd w r a0 c0 a3 c3 a1 c1 a2 c2 b2 d2 fs ts os bs ds) (hk : ∀ x ∈ ((fs ++ ts) ++ (os ++ (bs ++ ds))), w'.heap[x]? = w.heap[x]?) : OwnSnd w' r a0 c0 a3 c3 a1 c1 a2 c2 b2 d2 fs ts os bs ds :=
  ⟨h.f.kept (fun x hx => hk x (List.mem_append_left _ (List.mem_append_left _ hx))), h.t.kept (fun x hx => hk x (List.mem_append_left _ (List.mem_append_right _ hx))), h.o.kept (fun x hx => hk x (List.mem_append_right _ (List.mem_append_left _ hx))), keptSt h.s (fun x hx => hk x (List.mem_append_right _ (List.mem_append_right _ hx)))⟩
theorem OwnSnd.later {w w' : World} {r : PSnd} {a0 a3 a1 a2 b2 : Option Addr} {c0 c3 c1 c2 d2 : Nat} {fs ts os bs ds : List Nat} (h : OwnSnd w r a0 c0 a3 c3 a1 c1 a2 c2 b2 d2 fs ts os bs ds) (hb : Below w.heap.size w w') : OwnSnd w' r a0 c0 a3 c3 a1 c1 a2 c2 b2 d2 fs ts os bs ds := h.kept (fun x hx => hb.block x (h.lt x hx))
set_option maxRecDepth 100000 in
set_option maxHeartbeats 8000000 in
theorem markSdX_any (r : PSnd) (a0 a3 a1 a2 b2 : Option Addr) (c0 c3 c1 c2 d2 : Nat) (fs ts os bs ds : List Nat) (m : Nat) (w : World) (ho : OwnSnd w r a0 c0 a3 c3 a1 c1 a2 c2 b2 d2 fs ts os bs ds) (hnd : ((fs ++ ts) ++ (os ++ (bs ++ ds))).Nodup) (ht : SndFits r) (hm : m ≤ 1048576) :
    Calls Tryz.prog 13 #[.agg #[.slice a0 r.fields.length c0, .int .i64 r.epoch, .int .i64 r.base, .slice a3 r.tables.length c3, .int .i64 r.pushed, .int .i64 r.out.epoch, .int .i64 r.out.next, .int .i64 r.out.now, .slice a1 r.out.wait.length c1, .bool r.str.opened, .slice a2 r.str.fields.length c2, .int .i64 r.str.next, .slice b2 r.str.dicts.length d2], .int .i64 m] w fun e w' => e = .returned (.int .i64 ((m + nSnd r : Nat) : Int)) ∧ MkSnd w' r m a0 c0 a3 c3 a1 c1 a2 c2 b2 d2 fs ts os bs ds ∧ Only ((fs ++ ts) ++ (os ++ (bs ++ ds))) w w' := by
  obtain ⟨nL, nR, xL⟩ := List.nodup_append.1 hnd
  obtain ⟨nf, nt, xf⟩ := List.nodup_append.1 nL
  obtain ⟨no, ns, xo⟩ := List.nodup_append.1 nR
  have HXL := hid xL
  have HXF := hid xf
  have HXO := hid xo
  have HNF := hid nf
  have HNT := hid nt
  have HNO := hid no
  have HNS := hid ns
  have hT : totL fN r.fields ≤ 1048576 ∧ totL totT r.tables ≤ 1048576 ∧ totL wN r.out.wait ≤ 1048576 ∧ totL fN r.str.fields ≤ 1048576 ∧ totL tS r.str.dicts ≤ 1048576 := by unfold SndFits tStr at ht; omega
  have hS1 : fT r.fields ≤ 4194304 ∧ r.fields.length ≤ 1048576 := by have h1 := fT_le r.fields; have h2 := hT.1; unfold totL fN at h2; omega
  have hS2 : sumL hT_ r.tables ≤ 8388608 := by have h1 := hT_le r.tables; have h2 := hT.2.1; unfold totL at h1 h2; omega
  have hS3 : sumL sT r.out.wait ≤ 16777216 := by have h1 := sT_le r.out.wait; have h2 := hT.2.2.1; unfold totL at h2; omega
  have hS4 : fT r.str.fields ≤ 4194304 ∧ r.str.fields.length ≤ 1048576 := by have h1 := fT_le r.str.fields; have h2 := hT.2.2.2.1; unfold totL fN at h2; omega
  have hS5 : sumL tot r.str.dicts ≤ 1048576 := Nat.le_trans (tS_le _) hT.2.2.2.2
  have HNR : Hid (nSnd r = fT r.fields + sumL hT_ r.tables + sumL sT r.out.wait + (fT r.str.fields + sumL tot r.str.dicts)) := hid rfl
  obtain ⟨A, hA⟩ : ∃ A : Nat, A = m + fT r.fields := ⟨_, rfl⟩
  obtain ⟨B, hB⟩ : ∃ B : Nat, B = A + sumL hT_ r.tables := ⟨_, rfl⟩
  obtain ⟨C, hC⟩ : ∃ C : Nat, C = B + sumL sT r.out.wait := ⟨_, rfl⟩
  have hA1 : A ≤ 8388608 := by omega
  have hB1 : B ≤ 33554432 := by omega
  have hC1 : C ≤ 67108864 := by omega
  have HA := hid hA
  have HB := hid hB
  have HC := hid hC
  have HLT := hid ho.lt
  have hb0 := below_new1 w (.cells #[.slice a0 r.fields.length c0, .int .i64 r.epoch, .int .i64 r.base, .slice a3 r.tables.length c3, .int .i64 r.pushed, .int .i64 r.out.epoch, .int .i64 r.out.next, .int .i64 r.out.now, .slice a1 r.out.wait.length c1, .bool r.str.opened, .slice a2 r.str.fields.length c2, .int .i64 r.str.next, .slice b2 r.str.dicts.length d2] 45)
  have HO := hid (ho.later hb0)
  have HK0 : Hid ((w.alloc (.cells #[.slice a0 r.fields.length c0, .int .i64 r.epoch, .int .i64 r.base, .slice a3 r.tables.length c3, .int .i64 r.pushed, .int .i64 r.out.epoch, .int .i64 r.out.next, .int .i64 r.out.now, .slice a1 r.out.wait.length c1, .bool r.str.opened, .slice a2 r.str.fields.length c2, .int .i64 r.str.next, .slice b2 r.str.dicts.length d2] 45)).heap[w.heap.size]? = some (.cells #[.slice a0 r.fields.length c0, .int .i64 r.epoch, .int .i64 r.base, .slice a3 r.tables.length c3, .int .i64 r.pushed, .int .i64 r.out.epoch, .int .i64 r.out.next, .int .i64 r.out.now, .slice a1 r.out.wait.length c1, .bool r.str.opened, .slice a2 r.str.fields.length c2, .int .i64 r.str.next, .slice b2 r.str.dicts.length d2] 45 (0, 0))) := hid (heap_alloc_new w _)
  have HO0 := hid ((Only.of_below hb0).mono (fun x (hx : x ∈ ([] : List Nat)) => (List.not_mem_nil hx).elim) : Only ((fs ++ ts) ++ (os ++ (bs ++ ds))) w (w.alloc (.cells #[.slice a0 r.fields.length c0, .int .i64 r.epoch, .int .i64 r.base, .slice a3 r.tables.length c3, .int .i64 r.pushed, .int .i64 r.out.epoch, .int .i64 r.out.next, .int .i64 r.out.now, .slice a1 r.out.wait.length c1, .bool r.str.opened, .slice a2 r.str.fields.length c2, .int .i64 r.str.next, .slice b2 r.str.dicts.length d2] 45)))
  have HGI : Hid (w.heap.size ∉ ((fs ++ ts) ++ (os ++ (bs ++ ds)))) := hid (fun h => by have := HLT.out _ h; omega)
  clear ho hnd nL nR nf nt no ns xL xf xo hb0 hA hB hC
  go_enter Tryz.func13, Tryz.ntmps13
  go_upto_region 1 with fail
  generalize (w.alloc (.cells #[.slice a0 r.fields.length c0, .int .i64 r.epoch, .int .i64 r.base, .slice a3 r.tables.length c3, .int .i64 r.pushed, .int .i64 r.out.epoch, .int .i64 r.out.next, .int .i64 r.out.now, .slice a1 r.out.wait.length c1, .bool r.str.opened, .slice a2 r.str.fields.length c2, .int .i64 r.str.next, .slice b2 r.str.dicts.length d2] 45)) = W0 at *
  have p0 := cell_of_row _ _ 0 _ _ _ HK0.out
  simp only [List.getElem?_toArray, List.getElem?_cons_zero] at p0
  go_wp2_with fail
  refine (markFieldS_any _ r.fields fs m W0 HO.out.f HNF.out hS1.2 hS1.1 (by omega)).mono ?_
  rintro e w2 ⟨rfl, of2, on2⟩
  rw [← HA.out]
  have HF2 := hid of2
  have HK2 := hid (box_keptS HK0.out on2 (fun hx => HGI.out (List.mem_append_left _ (List.mem_append_left _ hx))))
  have HT2 := hid (HO.out.t.kept (w' := w2) (fun x hx => on2.block x (HO.out.t.lt x hx) (fun h => HXF.out x h x hx rfl)))
  have HO2 := hid (HO.out.o.kept (w' := w2) (fun x hx => on2.block x (HO.out.o.lt x hx) (fun h => HXL.out x (List.mem_append_left _ h) x (List.mem_append_left _ hx) rfl)))
  have HS2 := hid (keptSt HO.out.s (w' := w2) (fun x hx => on2.block x (ltSt HO.out.s x hx) (fun h => HXL.out x (List.mem_append_left _ h) x (List.mem_append_right _ hx) rfl)))
  have HON2 := hid (HO0.out.trans (on2.mono (fun x hx => List.mem_append_left _ (List.mem_append_left _ hx))))
  clear of2 on2 p0
  have p3 := cell_of_row _ _ 3 _ _ _ HK2.out
  simp only [List.getElem?_toArray, List.getElem?_cons_zero, List.getElem?_cons_succ] at p3
  go_wp2_with fail
  refine (markTableS_any _ r.tables ts A w2 HT2.out HNT.out hT.2.1 (by omega)).mono ?_
  rintro e w3 ⟨rfl, ot3, on3⟩
  rw [← HB.out]
  have HT3 := hid ot3
  have HK3 := hid (box_keptS HK2.out on3 (fun hx => HGI.out (List.mem_append_left _ (List.mem_append_right _ hx))))
  have HF3 := hid (HF2.out.kept (w' := w3) (fun x hx => on3.block x (HF2.out.lt x hx) (fun h => HXF.out x hx x h rfl)))
  have HO3 := hid (HO2.out.kept (w' := w3) (fun x hx => on3.block x (HO2.out.lt x hx) (fun h => HXL.out x (List.mem_append_right _ h) x (List.mem_append_left _ hx) rfl)))
  have HS3 := hid (keptSt HS2.out (w' := w3) (fun x hx => on3.block x (ltSt HS2.out x hx) (fun h => HXL.out x (List.mem_append_right _ h) x (List.mem_append_right _ hx) rfl)))
  have HON3 := hid (HON2.out.trans (on3.mono (fun x hx => List.mem_append_left _ (List.mem_append_right _ hx))))
  clear ot3 on3 p3 HF2 HT2 HO2 HS2 HK2
  have p5 := cell_of_row _ _ 5 _ _ _ HK3.out
  have p6 := cell_of_row _ _ 6 _ _ _ HK3.out
  have p7 := cell_of_row _ _ 7 _ _ _ HK3.out
  have p8 := cell_of_row _ _ 8 _ _ _ HK3.out
  simp only [List.getElem?_toArray, List.getElem?_cons_zero, List.getElem?_cons_succ] at p5 p6 p7 p8
  go_wp2_with fail
  refine (markLinkOut_any r.out.epoch r.out.next r.out.now a1 c1 r.out.wait 0 os B r.out.wait.length w3 (by omega) HO3.out.cut0 HNO.out hT.2.2.1 (by omega)).mono ?_
  rintro e w4 ⟨rfl, oo4, on4⟩
  simp only [List.drop_zero, List.take_zero, List.nil_append] at oo4
  rw [List.drop_zero, ← HC.out]
  have HO4 := hid oo4
  have HK4 := hid (box_keptS HK3.out on4 (fun hx => HGI.out (List.mem_append_right _ (List.mem_append_left _ hx))))
  have HF4 := hid (HF3.out.kept (w' := w4) (fun x hx => on4.block x (HF3.out.lt x hx) (fun h => HXL.out x (List.mem_append_left _ hx) x (List.mem_append_left _ h) rfl)))
  have HT4 := hid (HT3.out.kept (w' := w4) (fun x hx => on4.block x (HT3.out.lt x hx) (fun h => HXL.out x (List.mem_append_right _ hx) x (List.mem_append_left _ h) rfl)))
  have HS4 := hid (keptSt HS3.out (w' := w4) (fun x hx => on4.block x (ltSt HS3.out x hx) (fun h => HXO.out x h x hx rfl)))
  have HON4 := hid (HON3.out.trans (on4.mono (fun x hx => List.mem_append_right _ (List.mem_append_left _ hx))))
  clear oo4 on4 p5 p6 p7 p8 HF3 HT3 HO3 HS3 HK3
  have p9 := cell_of_row _ _ 9 _ _ _ HK4.out
  have p10 := cell_of_row _ _ 10 _ _ _ HK4.out
  have p11 := cell_of_row _ _ 11 _ _ _ HK4.out
  have p12 := cell_of_row _ _ 12 _ _ _ HK4.out
  simp only [List.getElem?_toArray, List.getElem?_cons_zero, List.getElem?_cons_succ] at p9 p10 p11 p12
  go_wp2_with fail
  refine (markStrX_any r.str a2 b2 c2 d2 bs ds C w4 HS4.out HNS.out hS4.2 hS4.1 hT.2.2.2.2 (by omega)).mono ?_
  rintro e w5 ⟨rfl, os5, on5⟩
  have HS5 := hid os5
  have HF5 := hid (HF4.out.kept (w' := w5) (fun x hx => on5.block x (HF4.out.lt x hx) (fun h => HXL.out x (List.mem_append_left _ hx) x (List.mem_append_right _ h) rfl)))
  have HT5 := hid (HT4.out.kept (w' := w5) (fun x hx => on5.block x (HT4.out.lt x hx) (fun h => HXL.out x (List.mem_append_right _ hx) x (List.mem_append_right _ h) rfl)))
  have HO5 := hid (HO4.out.kept (w' := w5) (fun x hx => on5.block x (HO4.out.lt x hx) (fun h => HXO.out x hx x h rfl)))
  have HON5 := hid (HON4.out.trans (on5.mono (fun x hx => List.mem_append_right _ (List.mem_append_right _ hx))))
  clear os5 on5 p9 p10 p11 p12 HF4 HT4 HO4 HS4 HK4
  obtain ⟨Z, hZ⟩ : ∃ Z : Nat, Z = C + fT r.str.fields + sumL tot r.str.dicts := ⟨_, rfl⟩
  rw [← hZ]
  have HZ := hid hZ
  have hZ1 : Z ≤ 1073741824 := by omega
  clear hZ
  go_wp2
  go_ret
  have eA := HA.out
  have eB := HB.out
  have eC := HC.out
  have hh : Z = m + nSnd r := by have := HZ.out; have := HNR.out; omega
  refine ⟨by rw [hh]; rfl, ⟨HF5.out, ?_, ?_, ?_⟩, HON5.out⟩
  · rw [← eA]; exact HT5.out
  · rw [← eA, ← eB]; exact HO5.out
  · rw [← eA, ← eB, ← eC]; exact HS5.out
end Go.Proofs.YtfaehioeepolhabGreat
