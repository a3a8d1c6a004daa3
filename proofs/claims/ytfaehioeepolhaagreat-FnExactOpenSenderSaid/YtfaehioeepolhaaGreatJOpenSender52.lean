/- MarkSdX. -/
import Derived.Test.YtfaehioeepolhaaGreatJOpenSender50
import Derived.Test.YtfaehioeepolhaaGreatJOpenSender51
/- laws.markSender, exactly. -/
namespace Go.Proofs.YtfaehioeepolhaaGreat
open Go.RowKit

theorem box_keptS {w w' : World} {g : Nat} {o : Obj} {bs : List Nat} (h : w.heap[g]? = some o) (ho : Only bs w w') (hg : g ∉ bs) : w'.heap[g]? = some o := (ho.block g (Array.getElem?_eq_some_iff.1 h).1 hg).trans h
def nSnd (r : PSnd) : Nat := fT r.fields + sumL hT_ r.tables + sumL sT r.out.wait + (fT r.str.fields + sumL tot r.str.dicts)
theorem nSnd_le (r : PSnd) (ht : SndFits r) : nSnd r ≤ 67108864 := by
  have hT : totL fN r.fields ≤ 1048576 ∧ totL totT r.tables ≤ 1048576 ∧ totL wN r.out.wait ≤ 1048576 ∧ totL fN r.str.fields ≤ 1048576 ∧ totL tS r.str.dicts ≤ 1048576 := by unfold SndFits tStr at ht; omega
  have hS1 : fT r.fields ≤ 4194304 := by have h1 := fT_le r.fields; have h2 := hT.1; unfold totL fN at h2; omega
  have hS2 : sumL hT_ r.tables ≤ 8388608 := by have h1 := hT_le r.tables; have h2 := hT.2.1; unfold totL at h1 h2; omega
  have hS3 : sumL sT r.out.wait ≤ 16777216 := by have h1 := sT_le r.out.wait; have h2 := hT.2.2.1; unfold totL at h2; omega
  have hS4 : fT r.str.fields ≤ 4194304 := by have h1 := fT_le r.str.fields; have h2 := hT.2.2.2.1; unfold totL fN at h2; omega
  have hS5 : sumL tot r.str.dicts ≤ 1048576 := Nat.le_trans (tS_le _) hT.2.2.2.2
  unfold nSnd
  omega
theorem ltSt {w : World} {s : PStr} {a b : Option Addr} {c d : Nat} {bs ds : List Nat} (h : OwnStr w s a c b d bs ds) : ∀ x ∈ bs ++ ds, x < w.heap.size := fun x hx => by
  rcases List.mem_append.1 hx with h1 | h1
  · exact h.f.lt x h1
  · exact h.t.lt x h1
/-- A sender that was marked from m on. -/
structure MkSnd (w : World) (r : PSnd) (m : Nat) (a0 : Option Addr) (c0 : Nat) (a3 : Option Addr) (c3 : Nat) (a1 : Option Addr) (c1 : Nat) (a2 : Option Addr) (c2 : Nat) (b2 : Option Addr) (d2 : Nat) (fs ts os bs ds : List Nat) : Prop where
  f : OwnSl cField 98 w (mkF m r.fields) (.slice a0 r.fields.length c0) fs
  t : OwnSl cTable 111 w (mkL hT_ mkH (m + fT r.fields) r.tables) (.slice a3 r.tables.length c3) ts
  o : OwnCut cSnt 137 w (mkL sT mkS ((m + fT r.fields) + sumL hT_ r.tables) r.out.wait) 0 a1 c1 os
  s : OwnStr w ⟨r.str.opened, mkF (((m + fT r.fields) + sumL hT_ r.tables) + sumL sT r.out.wait) r.str.fields, r.str.next, mkL tot mkSS ((((m + fT r.fields) + sumL hT_ r.tables) + sumL sT r.out.wait) + fT r.str.fields) r.str.dicts⟩ a2 c2 b2 d2 bs ds
theorem MkSnd.kept {w w' : World} {r : PSnd} {m : Nat} {a0 a3 a1 a2 b2 : Option Addr} {c0 c3 c1 c2 d2 : Nat} {fs ts os bs ds : List Nat} (h : MkSnd w r m a0 c0 a3 c3 a1 c1 a2 c2 b2 d2 fs ts os bs ds) (hk : ∀ x ∈ ((fs ++ ts) ++ (os ++ (bs ++ ds))), w'.heap[x]? = w.heap[x]?) : MkSnd w' r m a0 c0 a3 c3 a1 c1 a2 c2 b2 d2 fs ts os bs ds :=
  ⟨h.f.kept (fun x hx => hk x (List.mem_append_left _ (List.mem_append_left _ hx))), h.t.kept (fun x hx => hk x (List.mem_append_left _ (List.mem_append_right _ hx))), h.o.kept (fun x hx => hk x (List.mem_append_right _ (List.mem_append_left _ hx))), keptSt h.s (fun x hx => hk x (List.mem_append_right _ (List.mem_append_right _ hx)))⟩
theorem MkSnd.lt {w : World} {r : PSnd} {m : Nat} {a0 a3 a1 a2 b2 : Option Addr} {c0 c3 c1 c2 d2 : Nat} {fs ts os bs ds : List Nat} (h : MkSnd w r m a0 c0 a3 c3 a1 c1 a2 c2 b2 d2 fs ts os bs ds) : ∀ x ∈ ((fs ++ ts) ++ (os ++ (bs ++ ds))), x < w.heap.size := fun y hy => by
  rcases List.mem_append.1 hy with k | k
  · rcases List.mem_append.1 k with k | k
    · exact h.f.lt y k
    · exact h.t.lt y k
  · rcases List.mem_append.1 k with k | k
    · exact h.o.lt y k
    · exact ltSt h.s y k
theorem OwnSnd.lt {w : World} {r : PSnd} {a0 a3 a1 a2 b2 : Option Addr} {c0 c3 c1 c2 d2 : Nat} {fs ts os bs ds : List Nat} (h : OwnSnd w r a0 c0 a3 c3 a1 c1 a2 c2 b2 d2 fs ts os bs ds) : ∀ x ∈ ((fs ++ ts) ++ (os ++ (bs ++ ds))), x < w.heap.size := fun y hy => by
  rcases List.mem_append.1 hy with k | k
  · rcases List.mem_append.1 k with k | k
    · exact h.f.lt y k
    · exact h.t.lt y k
  · rcases List.mem_append.1 k with k | k
    · exact h.o.lt y k
    · exact ltSt h.s y k
theorem OwnSnd.kept {w w' : World} {r : PSnd} {a0 a3 a1 a2 b2 : Option Addr} {c0 c3 c1 c2 d2 : Nat} {fs ts os bs ds : List Nat} (h : OwnSnd w r a0 c0 a3 c3 a1 c1 a2 c2 b2 d2 fs ts os bs ds) (hk : ∀ x ∈ ((fs ++ ts) ++ (os ++ (bs ++ ds))), w'.heap[x]? = w.heap[x]?) : OwnSnd w' r a0 c0 a3 c3 a1 c1 a2 c2 b2 d2 fs ts os bs ds :=
  ⟨h.f.kept (fun x hx => hk x (List.mem_append_left _ (List.mem_append_left _ hx))), h.t.kept (fun x hx => hk x (List.mem_append_left _ (List.mem_append_right _ hx))), h.o.kept (fun x hx => hk x (List.mem_append_right _ (List.mem_append_left _ hx))), keptSt h.s (fun x hx => hk x (List.mem_append_right _ (List.mem_append_right _ hx)))⟩
theorem OwnSnd.later {w w' : World} {r : PSnd} {a0 a3 a1 a2 b2 : Option Addr} {c0 c3 c1 c2 d2 : Nat} {fs ts os bs ds : List Nat} (h : OwnSnd w r a0 c0 a3 c3 a1 c1 a2 c2 b2 d2 fs ts os bs ds) (hb : Below w.heap.size w w') : OwnSnd w' r a0 c0 a3 c3 a1 c1 a2 c2 b2 d2 fs ts os bs ds := h.kept (fun x hx => hb.block x (h.lt x hx))

set_option maxRecDepth 100000 in
set_option maxHeartbeats 8000000 in
theorem markSdX_any (r : PSnd) (a0 a3 a1 a2 b2 : Option Addr) (c0 c3 c1 c2 d2 : Nat) (fs ts os bs ds : List Nat) (m : Nat) (w : World) (ho : OwnSnd w r a0 c0 a3 c3 a1 c1 a2 c2 b2 d2 fs ts os bs ds) (hnd : ((fs ++ ts) ++ (os ++ (bs ++ ds))).Nodup) (ht : SndFits r) (hm : m ≤ 1048576) :
    Calls Tryz.prog 24 #[.agg #[.slice a0 r.fields.length c0, .int .i64 r.epoch, .int .i64 r.base, .slice a3 r.tables.length c3, .int .i64 r.pushed, .int .i64 r.out.epoch, .int .i64 r.out.next, .int .i64 r.out.now, .slice a1 r.out.wait.length c1, .bool r.str.opened, .slice a2 r.str.fields.length c2, .int .i64 r.str.next, .slice b2 r.str.dicts.length d2], .int .i64 m] w fun e w' => e = .returned (.int .i64 ((m + nSnd r : Nat) : Int)) ∧ MkSnd w' r m a0 c0 a3 c3 a1 c1 a2 c2 b2 d2 fs ts os bs ds ∧ Only ((fs ++ ts) ++ (os ++ (bs ++ ds))) w w' := by
  obtain ⟨nL, nR, xL⟩ := List.nodup_append.1 hnd
  obtain ⟨nf, nt, xf⟩ := List.nodup_append.1 nL
  obtain ⟨no, ns, xo⟩ := List.nodup_append.1 nR
  have HXL := hid xL
  have HXF := hid xf
  have HXO := hid xo
  have HNF := hid nf
  have HNT := hid nt
  have HNO := hid no
  have HNS := hid ns
  have hT : totL fN r.fields ≤ 1048576 ∧ totL totT r.tables ≤ 1048576 ∧ totL wN r.out.wait ≤ 1048576 ∧ totL fN r.str.fields ≤ 1048576 ∧ totL tS r.str.dicts ≤ 1048576 := by unfold SndFits tStr at ht; omega
  have hS1 : fT r.fields ≤ 4194304 ∧ r.fields.length ≤ 1048576 := by have h1 := fT_le r.fields; have h2 := hT.1; unfold totL fN at h2; omega
  have hS2 : sumL hT_ r.tables ≤ 8388608 := by have h1 := hT_le r.tables; have h2 := hT.2.1; unfold totL at h1 h2; omega
  have hS3 : sumL sT r.out.wait ≤ 16777216 := by have h1 := sT_le r.out.wait; have h2 := hT.2.2.1; unfold totL at h2; omega
  have hS4 : fT r.str.fields ≤ 4194304 ∧ r.str.fields.length ≤ 1048576 := by have h1 := fT_le r.str.fields; have h2 := hT.2.2.2.1; unfold totL fN at h2; omega
  have hS5 : sumL tot r.str.dicts ≤ 1048576 := Nat.le_trans (tS_le _) hT.2.2.2.2
  have HNR : Hid (nSnd r = fT r.fields + sumL hT_ r.tables + sumL sT r.out.wait + (fT r.str.fields + sumL tot r.str.dicts)) := hid rfl
  obtain ⟨A, hA⟩ : ∃ A : Nat, A = m + fT r.fields := ⟨_, rfl⟩
  obtain ⟨B, hB⟩ : ∃ B : Nat, B = A + sumL hT_ r.tables := ⟨_, rfl⟩
  obtain ⟨C, hC⟩ : ∃ C : Nat, C = B + sumL sT r.out.wait := ⟨_, rfl⟩
  have hA1 : A ≤ 8388608 := by omega
  have hB1 : B ≤ 33554432 := by omega
  have hC1 : C ≤ 67108864 := by omega
  have HA := hid hA
  have HB := hid hB
  have HC := hid hC
  have HLT := hid ho.lt
  have hb0 := below_new1 w (.cells #[.slice a0 r.fields.length c0, .int .i64 r.epoch, .int .i64 r.base, .slice a3 r.tables.length c3, .int .i64 r.pushed, .int .i64 r.out.epoch, .int .i64 r.out.next, .int .i64 r.out.now, .slice a1 r.out.wait.length c1, .bool r.str.opened, .slice a2 r.str.fields.length c2, .int .i64 r.str.next, .slice b2 r.str.dicts.length d2] 58)
  have HO := hid (ho.later hb0)
  have HK0 : Hid ((w.alloc (.cells #[.slice a0 r.fields.length c0, .int .i64 r.epoch, .int .i64 r.base, .slice a3 r.tables.length c3, .int .i64 r.pushed, .int .i64 r.out.epoch, .int .i64 r.out.next, .int .i64 r.out.now, .slice a1 r.out.wait.length c1, .bool r.str.opened, .slice a2 r.str.fields.length c2, .int .i64 r.str.next, .slice b2 r.str.dicts.length d2] 58)).heap[w.heap.size]? = some (.cells #[.slice a0 r.fields.length c0, .int .i64 r.epoch, .int .i64 r.base, .slice a3 r.tables.length c3, .int .i64 r.pushed, .int .i64 r.out.epoch, .int .i64 r.out.next, .int .i64 r.out.now, .slice a1 r.out.wait.length c1, .bool r.str.opened, .slice a2 r.str.fields.length c2, .int .i64 r.str.next, .slice b2 r.str.dicts.length d2] 58 (0, 0))) := hid (heap_alloc_new w _)
  have HO0 := hid ((Only.of_below hb0).mono (fun x (hx : x ∈ ([] : List Nat)) => (List.not_mem_nil hx).elim) : Only ((fs ++ ts) ++ (os ++ (bs ++ ds))) w (w.alloc (.cells #[.slice a0 r.fields.length c0, .int .i64 r.epoch, .int .i64 r.base, .slice a3 r.tables.length c3, .int .i64 r.pushed, .int .i64 r.out.epoch, .int .i64 r.out.next, .int .i64 r.out.now, .slice a1 r.out.wait.length c1, .bool r.str.opened, .slice a2 r.str.fields.length c2, .int .i64 r.str.next, .slice b2 r.str.dicts.length d2] 58)))
  have HGI : Hid (w.heap.size ∉ ((fs ++ ts) ++ (os ++ (bs ++ ds)))) := hid (fun h => by have := HLT.out _ h; omega)
  clear ho hnd nL nR nf nt no ns xL xf xo hb0 hA hB hC
  go_enter Tryz.func24, Tryz.ntmps24
  go_upto_region 1 with fail
  generalize (w.alloc (.cells #[.slice a0 r.fields.length c0, .int .i64 r.epoch, .int .i64 r.base, .slice a3 r.tables.length c3, .int .i64 r.pushed, .int .i64 r.out.epoch, .int .i64 r.out.next, .int .i64 r.out.now, .slice a1 r.out.wait.length c1, .bool r.str.opened, .slice a2 r.str.fields.length c2, .int .i64 r.str.next, .slice b2 r.str.dicts.length d2] 58)) = W0 at *
  have p0 := cell_of_row _ _ 0 _ _ _ HK0.out
  simp only [List.getElem?_toArray, List.getElem?_cons_zero] at p0
  go_wp2_with fail
  refine (markFieldS_any _ r.fields fs m W0 HO.out.f HNF.out hS1.2 hS1.1 (by omega)).mono ?_
  rintro e w2 ⟨rfl, of2, on2⟩
  rw [← HA.out]
  have HF2 := hid of2
  have HK2 := hid (box_keptS HK0.out on2 (fun hx => HGI.out (List.mem_append_left _ (List.mem_append_left _ hx))))
  have HT2 := hid (HO.out.t.kept (w' := w2) (fun x hx => on2.block x (HO.out.t.lt x hx) (fun h => HXF.out x h x hx rfl)))
  have HO2 := hid (HO.out.o.kept (w' := w2) (fun x hx => on2.block x (HO.out.o.lt x hx) (fun h => HXL.out x (List.mem_append_left _ h) x (List.mem_append_left _ hx) rfl)))
  have HS2 := hid (keptSt HO.out.s (w' := w2) (fun x hx => on2.block x (ltSt HO.out.s x hx) (fun h => HXL.out x (List.mem_append_left _ h) x (List.mem_append_right _ hx) rfl)))
  have HON2 := hid (HO0.out.trans (on2.mono (fun x hx => List.mem_append_left _ (List.mem_append_left _ hx))))
  clear of2 on2 p0
  have p3 := cell_of_row _ _ 3 _ _ _ HK2.out
  simp only [List.getElem?_toArray, List.getElem?_cons_zero, List.getElem?_cons_succ] at p3
  go_wp2_with fail
  refine (markTableS_any _ r.tables ts A w2 HT2.out HNT.out hT.2.1 (by omega)).mono ?_
  rintro e w3 ⟨rfl, ot3, on3⟩
  rw [← HB.out]
  have HT3 := hid ot3
  have HK3 := hid (box_keptS HK2.out on3 (fun hx => HGI.out (List.mem_append_left _ (List.mem_append_right _ hx))))
  have HF3 := hid (HF2.out.kept (w' := w3) (fun x hx => on3.block x (HF2.out.lt x hx) (fun h => HXF.out x hx x h rfl)))
  have HO3 := hid (HO2.out.kept (w' := w3) (fun x hx => on3.block x (HO2.out.lt x hx) (fun h => HXL.out x (List.mem_append_right _ h) x (List.mem_append_left _ hx) rfl)))
  have HS3 := hid (keptSt HS2.out (w' := w3) (fun x hx => on3.block x (ltSt HS2.out x hx) (fun h => HXL.out x (List.mem_append_right _ h) x (List.mem_append_right _ hx) rfl)))
  have HON3 := hid (HON2.out.trans (on3.mono (fun x hx => List.mem_append_left _ (List.mem_append_right _ hx))))
  clear ot3 on3 p3 HF2 HT2 HO2 HS2 HK2
  have p5 := cell_of_row _ _ 5 _ _ _ HK3.out
  have p6 := cell_of_row _ _ 6 _ _ _ HK3.out
  have p7 := cell_of_row _ _ 7 _ _ _ HK3.out
  have p8 := cell_of_row _ _ 8 _ _ _ HK3.out
  simp only [List.getElem?_toArray, List.getElem?_cons_zero, List.getElem?_cons_succ] at p5 p6 p7 p8
  go_wp2_with fail
  refine (markLinkOut_any r.out.epoch r.out.next r.out.now a1 c1 r.out.wait 0 os B r.out.wait.length w3 (by omega) HO3.out.cut0 HNO.out hT.2.2.1 (by omega)).mono ?_
  rintro e w4 ⟨rfl, oo4, on4⟩
  simp only [List.drop_zero, List.take_zero, List.nil_append] at oo4
  rw [List.drop_zero, ← HC.out]
  have HO4 := hid oo4
  have HK4 := hid (box_keptS HK3.out on4 (fun hx => HGI.out (List.mem_append_right _ (List.mem_append_left _ hx))))
  have HF4 := hid (HF3.out.kept (w' := w4) (fun x hx => on4.block x (HF3.out.lt x hx) (fun h => HXL.out x (List.mem_append_left _ hx) x (List.mem_append_left _ h) rfl)))
  have HT4 := hid (HT3.out.kept (w' := w4) (fun x hx => on4.block x (HT3.out.lt x hx) (fun h => HXL.out x (List.mem_append_right _ hx) x (List.mem_append_left _ h) rfl)))
  have HS4 := hid (keptSt HS3.out (w' := w4) (fun x hx => on4.block x (ltSt HS3.out x hx) (fun h => HXO.out x h x hx rfl)))
  have HON4 := hid (HON3.out.trans (on4.mono (fun x hx => List.mem_append_right _ (List.mem_append_left _ hx))))
  clear oo4 on4 p5 p6 p7 p8 HF3 HT3 HO3 HS3 HK3
  have p9 := cell_of_row _ _ 9 _ _ _ HK4.out
  have p10 := cell_of_row _ _ 10 _ _ _ HK4.out
  have p11 := cell_of_row _ _ 11 _ _ _ HK4.out
  have p12 := cell_of_row _ _ 12 _ _ _ HK4.out
  simp only [List.getElem?_toArray, List.getElem?_cons_zero, List.getElem?_cons_succ] at p9 p10 p11 p12
  go_wp2_with fail
  refine (markStrX_any r.str a2 b2 c2 d2 bs ds C w4 HS4.out HNS.out hS4.2 hS4.1 hT.2.2.2.2 (by omega)).mono ?_
  rintro e w5 ⟨rfl, os5, on5⟩
  have HS5 := hid os5
  have HF5 := hid (HF4.out.kept (w' := w5) (fun x hx => on5.block x (HF4.out.lt x hx) (fun h => HXL.out x (List.mem_append_left _ hx) x (List.mem_append_right _ h) rfl)))
  have HT5 := hid (HT4.out.kept (w' := w5) (fun x hx => on5.block x (HT4.out.lt x hx) (fun h => HXL.out x (List.mem_append_right _ hx) x (List.mem_append_right _ h) rfl)))
  have HO5 := hid (HO4.out.kept (w' := w5) (fun x hx => on5.block x (HO4.out.lt x hx) (fun h => HXO.out x hx x h rfl)))
  have HON5 := hid (HON4.out.trans (on5.mono (fun x hx => List.mem_append_right _ (List.mem_append_right _ hx))))
  clear os5 on5 p9 p10 p11 p12 HF4 HT4 HO4 HS4 HK4
  obtain ⟨Z, hZ⟩ : ∃ Z : Nat, Z = C + fT r.str.fields + sumL tot r.str.dicts := ⟨_, rfl⟩
  rw [← hZ]
  have HZ := hid hZ
  have hZ1 : Z ≤ 1073741824 := by omega
  clear hZ
  go_wp2
  go_ret
  have eA := HA.out
  have eB := HB.out
  have eC := HC.out
  have hh : Z = m + nSnd r := by have := HZ.out; have := HNR.out; omega
  refine ⟨by rw [hh]; rfl, ⟨HF5.out, ?_, ?_, ?_⟩, HON5.out⟩
  · rw [← eA]; exact HT5.out
  · rw [← eA, ← eB]; exact HO5.out
  · rw [← eA, ← eB, ← eC]; exact HS5.out

end Go.Proofs.YtfaehioeepolhaaGreat
