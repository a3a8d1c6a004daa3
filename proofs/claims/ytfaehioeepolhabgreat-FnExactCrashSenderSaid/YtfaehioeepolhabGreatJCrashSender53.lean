import Derived.Test.YtfaehioeepolhabGreatJCrashSender52
import Derived.Test.YtfaehioeepolhabGreatJCrashSender33
import Derived.Deep.DeepCutAuto
namespace Go.Proofs.YtfaehioeepolhabGreat
open Go.RowKit
theorem box_keptS {w w' : World} {g : Nat} {o : Obj} {bs : List Nat} (h : w.heap[g]? = some o) (ho : Only bs w w') (hg : g ∉ bs) : w'.heap[g]? = some o := (ho.block g (Array.getElem?_eq_some_iff.1 h).1 hg).trans h
def nSnd (r : PSnd) : Nat := fT r.fields + sumL hT_ r.tables + sumL sT r.out.wait + (fT r.str.fields + sumL tot r.str.dicts)
theorem nSnd_le (r : PSnd) (ht : SndFits r) : nSnd r ≤ 67108864 := by
 have hT : totL fN r.fields ≤ 1048576 ∧ totL totT r.tables ≤ 1048576 ∧ totL wN r.out.wait ≤ 1048576 ∧ totL fN r.str.fields ≤ 1048576 ∧ totL tS r.str.dicts ≤ 1048576 := by unfold SndFits tStr at ht; omega
 have hS1 : fT r.fields ≤ 4194304 := by have h1 := fT_le r.fields; have h2 := hT.1; unfold totL fN at h2; omega
 have hS2 : sumL hT_ r.tables ≤ 8388608 := by have h1 := hT_le r.tables; have h2 := hT.2.1; unfold totL at h1 h2; omega
 have hS3 : sumL sT r.out.wait ≤ 16777216 := by have h1 := sT_le r.out.wait; have h2 := hT.2.2.1; unfold totL at h2; omega
 have hS4 : fT r.str.fields ≤ 4194304 := by have h1 := fT_le r.str.fields; have h2 := hT.2.2.2.1; unfold totL fN at h2; omega
 have hS5 : sumL tot r.str.dicts ≤ 1048576 := Nat.le_trans (tS_le _) hT.2.2.2.2
 unfold nSnd
 omega
theorem ltSt {w : World} {s : PStr} {a b : Option Addr} {c d : Nat} {bs ds : List Nat} (h : OwnStr w s a c b d bs ds) : ∀ x ∈ bs ++ ds, x < w.heap.size := fun x hx => by
 rcases List.mem_append.1 hx with h1 | h1
 ·exact h.f.lt x h1
 ·exact h.t.lt x h1
structure MkSnd (w : World) (r : PSnd) (m : Nat) (a0 : Option Addr) (c0 : Nat) (a3 : Option Addr) (c3 : Nat) (a1 : Option Addr) (c1 : Nat) (a2 : Option Addr) (c2 : Nat) (b2 : Option Addr) (d2 : Nat) (fs ts os bs ds : List Nat) : Prop where
 f : OwnSl cField 101 w (mkF m r.fields) (.slice a0 r.fields.length c0) fs
 t : OwnSl cTable 51 w (mkL hT_ mkH (m + fT r.fields) r.tables) (.slice a3 r.tables.length c3) ts
 o : OwnCut cSnt 141 w (mkL sT mkS ((m + fT r.fields) + sumL hT_ r.tables) r.out.wait) 0 a1 c1 os
 s : OwnStr w ⟨r.str.opened, mkF (((m + fT r.fields) + sumL hT_ r.tables) + sumL sT r.out.wait) r.str.fields, r.str.next, mkL tot mkSS ((((m + fT r.fields) + sumL hT_ r.tables) + sumL sT r.out.wait) + fT r.str.fields) r.str.dicts⟩ a2 c2 b2 d2 bs ds
theorem OwnSnd.lt {w : World} {r : PSnd} {a0 a3 a1 a2 b2 : Option Addr} {c0 c3 c1 c2 d2 : Nat} {fs ts os bs ds : List Nat} (h : OwnSnd w r a0 c0 a3 c3 a1 c1 a2 c2 b2 d2 fs ts os bs ds) : ∀ x ∈ ((fs ++ ts) ++ (os ++ (bs ++ ds))), x < w.heap.size := fun y hy => by
 rcases List.mem_append.1 hy with k | k
 ·rcases List.mem_append.1 k with k | k
  ·exact h.f.lt y k
  ·exact h.t.lt y k
 ·rcases List.mem_append.1 k with k | k
  ·exact h.o.lt y k
  ·exact ltSt h.s y k
theorem OwnSnd.kept {w w' : World} {r : PSnd} {a0 a3 a1 a2 b2 : Option Addr} {c0 c3 c1 c2 d2 : Nat} {fs ts os bs ds : List Nat} (h : OwnSnd w r a0 c0 a3 c3 a1 c1 a2 c2 b2 d2 fs ts os bs ds) (hk : ∀ x ∈ ((fs ++ ts) ++ (os ++ (bs ++ ds))), w'.heap[x]? = w.heap[x]?) : OwnSnd w' r a0 c0 a3 c3 a1 c1 a2 c2 b2 d2 fs ts os bs ds :=
 ⟨h.f.kept (fun x hx => hk x (List.mem_append_left _ (List.mem_append_left _ hx))), h.t.kept (fun x hx => hk x (List.mem_append_left _ (List.mem_append_right _ hx))), h.o.kept (fun x hx => hk x (List.mem_append_right _ (List.mem_append_left _ hx))), keptSt h.s (fun x hx => hk x (List.mem_append_right _ (List.mem_append_right _ hx)))⟩
theorem OwnSnd.later {w w' : World} {r : PSnd} {a0 a3 a1 a2 b2 : Option Addr} {c0 c3 c1 c2 d2 : Nat} {fs ts os bs ds : List Nat} (h : OwnSnd w r a0 c0 a3 c3 a1 c1 a2 c2 b2 d2 fs ts os bs ds) (hb : Below w.heap.size w w') : OwnSnd w' r a0 c0 a3 c3 a1 c1 a2 c2 b2 d2 fs ts os bs ds := h.kept (fun x hx => hb.block x (h.lt x hx))
set_option maxRecDepth 100000 in
set_option maxHeartbeats 8000000 in
theorem markSdX_any (r : PSnd) (a0 a3 a1 a2 b2 : Option Addr) (c0 c3 c1 c2 d2 : Nat) (fs ts os bs ds : List Nat) (m : Nat) (w : World) (ho : OwnSnd w r a0 c0 a3 c3 a1 c1 a2 c2 b2 d2 fs ts os bs ds) (hnd : ((fs ++ ts) ++ (os ++ (bs ++ ds))).Nodup) (ht : SndFits r) (hm : m ≤ 1048576) :
  Calls Tryz.prog 13 #[.agg #[.slice a0 r.fields.length c0, .int .i64 r.epoch, .int .i64 r.base, .slice a3 r.tables.length c3, .int .i64 r.pushed, .int .i64 r.out.epoch, .int .i64 r.out.next, .int .i64 r.out.now, .slice a1 r.out.wait.length c1, .bool r.str.opened, .slice a2 r.str.fields.length c2, .int .i64 r.str.next, .slice b2 r.str.dicts.length d2], .int .i64 m] w fun e w' => e = .returned (.int .i64 ((m + nSnd r : Nat) : Int)) ∧ MkSnd w' r m a0 c0 a3 c3 a1 c1 a2 c2 b2 d2 fs ts os bs ds ∧ Only ((fs ++ ts) ++ (os ++ (bs ++ ds))) w w' := by
 obtain ⟨nL, nR, xL⟩ := List.nodup_append.1 hnd
 obtain ⟨nf, nt, xf⟩ := List.nodup_append.1 nL
 obtain ⟨no, ns, xo⟩ := List.nodup_append.1 nR
 have HXL := hid xL
 have HXF := hid xf
 have HXO := hid xo
 have HNF := hid nf
 have HNT := hid nt
 have HNO := hid no
 have HNS := hid ns
 have hT : totL fN r.fields ≤ 1048576 ∧ totL totT r.tables ≤ 1048576 ∧ totL wN r.out.wait ≤ 1048576 ∧ totL fN r.str.fields ≤ 1048576 ∧ totL tS r.str.dicts ≤ 1048576 := by unfold SndFits tStr at ht; omega
 have hS1 : fT r.fields ≤ 4194304 ∧ r.fields.length ≤ 1048576 := by have h1 := fT_le r.fields; have h2 := hT.1; unfold totL fN at h2; omega
 have hS2 : sumL hT_ r.tables ≤ 8388608 := by have h1 := hT_le r.tables; have h2 := hT.2.1; unfold totL at h1 h2; omega
 have hS3 : sumL sT r.out.wait ≤ 16777216 := by have h1 := sT_le r.out.wait; have h2 := hT.2.2.1; unfold totL at h2; omega
 have hS4 : fT r.str.fields ≤ 4194304 ∧ r.str.fields.length ≤ 1048576 := by have h1 := fT_le r.str.fields; have h2 := hT.2.2.2.1; unfold totL fN at h2; omega
 have hS5 : sumL tot r.str.dicts ≤ 1048576 := Nat.le_trans (tS_le _) hT.2.2.2.2
 have HNR : Hid (nSnd r = fT r.fields + sumL hT_ r.tables + sumL sT r.out.wait + (fT r.str.fields + sumL tot r.str.dicts)) := hid rfl
 obtain ⟨A, hA⟩ : ∃ A : Nat, A = m + fT r.fields := ⟨_, rfl⟩
 obtain ⟨B, hB⟩ : ∃ B : Nat, B = A + sumL hT_ r.tables := ⟨_, rfl⟩
 obtain ⟨C, hC⟩ : ∃ C : Nat, C = B + sumL sT r.out.wait := ⟨_, rfl⟩
 have hA1 : A ≤ 8388608 := by omega
 have hB1 : B ≤ 33554432 := by omega
 have hC1 : C ≤ 67108864 := by omega
 have HA := hid hA
 have HB := hid hB
 have HC := hid hC
 have HLT := hid ho.lt
 have hb0 := bN w (.cells #[.slice a0 r.fields.length c0, .int .i64 r.epoch, .int .i64 r.base, .slice a3 r.tables.length c3, .int .i64 r.pushed, .int .i64 r.out.epoch, .int .i64 r.out.next, .int .i64 r.out.now, .slice a1 r.out.wait.length c1, .bool r.str.opened, .slice a2 r.str.fields.length c2, .int .i64 r.str.next, .slice b2 r.str.dicts.length d2] 45)
 have HO := hid (ho.later hb0)
 have HK0 : Hid ((w.alloc (.cells #[.slice a0 r.fields.length c0, .int .i64 r.epoch, .int .i64 r.base, .slice a3 r.tables.length c3, .int .i64 r.pushed, .int .i64 r.out.epoch, .int .i64 r.out.next, .int .i64 r.out.now, .slice a1 r.out.wait.length c1, .bool r.str.opened, .slice a2 r.str.fields.length c2, .int .i64 r.str.next, .slice b2 r.str.dicts.length d2] 45)).heap[w.heap.size]? = some (.cells #[.slice a0 r.fields.length c0, .int .i64 r.epoch, .int .i64 r.base, .slice a3 r.tables.length c3, .int .i64 r.pushed, .int .i64 r.out.epoch, .int .i64 r.out.next, .int .i64 r.out.now, .slice a1 r.out.wait.length c1, .bool r.str.opened, .slice a2 r.str.fields.length c2, .int .i64 r.str.next, .slice b2 r.str.dicts.length d2] 45 (0, 0))) := hid (heap_alloc_new w _)
 have HO0 := hid ((Only.of_below hb0).mono (fun x (hx : x ∈ ([] : List Nat)) => (List.not_mem_nil hx).elim) : Only ((fs ++ ts) ++ (os ++ (bs ++ ds))) w (w.alloc (.cells #[.slice a0 r.fields.length c0, .int .i64 r.epoch, .int .i64 r.base, .slice a3 r.tables.length c3, .int .i64 r.pushed, .int .i64 r.out.epoch, .int .i64 r.out.next, .int .i64 r.out.now, .slice a1 r.out.wait.length c1, .bool r.str.opened, .slice a2 r.str.fields.length c2, .int .i64 r.str.next, .slice b2 r.str.dicts.length d2] 45)))
 have HGI : Hid (w.heap.size ∉ ((fs ++ ts) ++ (os ++ (bs ++ ds)))) := hid (fun h => by have := HLT.out _ h; omega)
 clear ho hnd nL nR nf nt no ns xL xf xo hb0 hA hB hC
 go_enter Tryz.func13, Tryz.ntmps13
 go_upto_region 1 with fail
 generalize (w.alloc (.cells #[.slice a0 r.fields.length c0, .int .i64 r.epoch, .int .i64 r.base, .slice a3 r.tables.length c3, .int .i64 r.pushed, .int .i64 r.out.epoch, .int .i64 r.out.next, .int .i64 r.out.now, .slice a1 r.out.wait.length c1, .bool r.str.opened, .slice a2 r.str.fields.length c2, .int .i64 r.str.next, .slice b2 r.str.dicts.length d2] 45)) = W0 at *
 have p0 := cR _ _ 0 _ _ _ HK0.out
 simp only [gA, gZ] at p0
 go_wp2_with fail
 refine (markFieldS_any _ r.fields fs m W0 HO.out.f HNF.out hS1.2 hS1.1 (by omega)).mono ?_
 rintro e w2 ⟨rfl, of2, on2⟩
 rw [← HA.out]
 have HF2 := hid of2
 have HK2 := hid (box_keptS HK0.out on2 (fun hx => HGI.out (List.mem_append_left _ (List.mem_append_left _ hx))))
 have HT2 := hid (HO.out.t.kept (w' := w2) (fun x hx => on2.block x (HO.out.t.lt x hx) (fun h => HXF.out x h x hx rfl)))
 have HO2 := hid (HO.out.o.kept (w' := w2) (fun x hx => on2.block x (HO.out.o.lt x hx) (fun h => HXL.out x (List.mem_append_left _ h) x (List.mem_append_left _ hx) rfl)))
 have HS2 := hid (keptSt HO.out.s (w' := w2) (fun x hx => on2.block x (ltSt HO.out.s x hx) (fun h => HXL.out x (List.mem_append_left _ h) x (List.mem_append_right _ hx) rfl)))
 have HON2 := hid (HO0.out.trans (on2.mono (fun x hx => List.mem_append_left _ (List.mem_append_left _ hx))))
 clear of2 on2 p0
 have p3 := cR _ _ 3 _ _ _ HK2.out
 simp only [gA, gZ, gU] at p3
 go_wp2_with fail
 refine (markTableS_any _ r.tables ts A w2 HT2.out HNT.out hT.2.1 (by omega)).mono ?_
 rintro e w3 ⟨rfl, ot3, on3⟩
 rw [← HB.out]
 have HT3 := hid ot3
 have HK3 := hid (box_keptS HK2.out on3 (fun hx => HGI.out (List.mem_append_left _ (List.mem_append_right _ hx))))
 have HF3 := hid (HF2.out.kept (w' := w3) (fun x hx => on3.block x (HF2.out.lt x hx) (fun h => HXF.out x hx x h rfl)))
 have HO3 := hid (HO2.out.kept (w' := w3) (fun x hx => on3.block x (HO2.out.lt x hx) (fun h => HXL.out x (List.mem_append_right _ h) x (List.mem_append_left _ hx) rfl)))
 have HS3 := hid (keptSt HS2.out (w' := w3) (fun x hx => on3.block x (ltSt HS2.out x hx) (fun h => HXL.out x (List.mem_append_right _ h) x (List.mem_append_right _ hx) rfl)))
 have HON3 := hid (HON2.out.trans (on3.mono (fun x hx => List.mem_append_left _ (List.mem_append_right _ hx))))
 clear ot3 on3 p3 HF2 HT2 HO2 HS2 HK2
 have p5 := cR _ _ 5 _ _ _ HK3.out
 have p6 := cR _ _ 6 _ _ _ HK3.out
 have p7 := cR _ _ 7 _ _ _ HK3.out
 have p8 := cR _ _ 8 _ _ _ HK3.out
 simp only [gA, gZ, gU] at p5 p6 p7 p8
 go_wp2_with fail
 refine (markLinkOut_any r.out.epoch r.out.next r.out.now a1 c1 r.out.wait 0 os B r.out.wait.length w3 (by omega) HO3.out.cut0 HNO.out hT.2.2.1 (by omega)).mono ?_
 rintro e w4 ⟨rfl, oo4, on4⟩
 simp only [List.drop_zero, List.take_zero, List.nil_append] at oo4
 rw [List.drop_zero, ← HC.out]
 have HO4 := hid oo4
 have HK4 := hid (box_keptS HK3.out on4 (fun hx => HGI.out (List.mem_append_right _ (List.mem_append_left _ hx))))
 have HF4 := hid (HF3.out.kept (w' := w4) (fun x hx => on4.block x (HF3.out.lt x hx) (fun h => HXL.out x (List.mem_append_left _ hx) x (List.mem_append_left _ h) rfl)))
 have HT4 := hid (HT3.out.kept (w' := w4) (fun x hx => on4.block x (HT3.out.lt x hx) (fun h => HXL.out x (List.mem_append_right _ hx) x (List.mem_append_left _ h) rfl)))
 have HS4 := hid (keptSt HS3.out (w' := w4) (fun x hx => on4.block x (ltSt HS3.out x hx) (fun h => HXO.out x h x hx rfl)))
 have HON4 := hid (HON3.out.trans (on4.mono (fun x hx => List.mem_append_right _ (List.mem_append_left _ hx))))
 clear oo4 on4 p5 p6 p7 p8 HF3 HT3 HO3 HS3 HK3
 have p9 := cR _ _ 9 _ _ _ HK4.out
 have p10 := cR _ _ 10 _ _ _ HK4.out
 have p11 := cR _ _ 11 _ _ _ HK4.out
 have p12 := cR _ _ 12 _ _ _ HK4.out
 simp only [gA, gZ, gU] at p9 p10 p11 p12
 go_wp2_with fail
 refine (markStrX_any r.str a2 b2 c2 d2 bs ds C w4 HS4.out HNS.out hS4.2 hS4.1 hT.2.2.2.2 (by omega)).mono ?_
 rintro e w5 ⟨rfl, os5, on5⟩
 have HS5 := hid os5
 have HF5 := hid (HF4.out.kept (w' := w5) (fun x hx => on5.block x (HF4.out.lt x hx) (fun h => HXL.out x (List.mem_append_left _ hx) x (List.mem_append_right _ h) rfl)))
 have HT5 := hid (HT4.out.kept (w' := w5) (fun x hx => on5.block x (HT4.out.lt x hx) (fun h => HXL.out x (List.mem_append_right _ hx) x (List.mem_append_right _ h) rfl)))
 have HO5 := hid (HO4.out.kept (w' := w5) (fun x hx => on5.block x (HO4.out.lt x hx) (fun h => HXO.out x hx x h rfl)))
 have HON5 := hid (HON4.out.trans (on5.mono (fun x hx => List.mem_append_right _ (List.mem_append_right _ hx))))
 clear os5 on5 p9 p10 p11 p12 HF4 HT4 HO4 HS4 HK4
 obtain ⟨Z, hZ⟩ : ∃ Z : Nat, Z = C + fT r.str.fields + sumL tot r.str.dicts := ⟨_, rfl⟩
 rw [← hZ]
 have HZ := hid hZ
 have hZ1 : Z ≤ 1073741824 := by omega
 clear hZ
 go_wp2
 go_ret
 have eA := HA.out
 have eB := HB.out
 have eC := HC.out
 have hh : Z = m + nSnd r := by have := HZ.out; have := HNR.out; omega
 refine ⟨by rw [hh]; rfl, ⟨HF5.out, ?_, ?_, ?_⟩, HON5.out⟩
 ·rw [← eA]; exact HT5.out
 ·rw [← eA, ← eB]; exact HO5.out
 ·rw [← eA, ← eB, ← eC]; exact HS5.out
set_option maxHeartbeats 4000000 in
theorem heldSSS_any (a : Option Addr) (cap : Nat) (xs : List (List (List Nat))) (m : Nat) (w : World) (hr : RdSl cSSS w (mkL tot mkSS m xs) (.slice a xs.length cap)) (ht : totL tS xs ≤ 1048576) (hm : m ≤ 536870912) :
  Calls Tryz.prog 100 #[.slice a xs.length cap, .int .i64 m] w fun e w' => e = .returned (.int .i64 ((m + sumL tot xs : Nat) : Int)) ∧ Below w.heap.size w w' := by
 have HR := hid hr
 have hsl := tS_le xs
 have hn : xs.length ≤ 1048576 := by unfold totL at ht; omega
 have HAT : Hid (∀ k, (h : k < xs.length) → xs[k].length ≤ 1048576 ∧ tot xs[k] ≤ 1048576) := hid (fun k h => by have := tS_at xs k h; omega)
 clear hr
 go_enter Tryz.func100, Tryz.ntmps100
 go_wp2
 go_loopw [1, 5] (fun q i wr => ∃ k : Nat, k ≤ xs.length ∧ i = .int .i64 k ∧ q = .int .i64 ((m + sumL tot (xs.take k) : Nat) : Int) ∧ Below w.heap.size w wr) (fun _ i _ => xs.length - (intOf i).toNat)
 case atStart => exact ⟨0, Nat.zero_le _, rfl, by simp [sumL], Below.refl _ _⟩
 case round =>
  obtain ⟨k, hk, rfl, rfl, hbe⟩ := hrel
  have HB := hid hbe
  clear hbe
  have hki0 := sumL_take tot xs k
  by_cases hlt : k < xs.length
  ·have hlt2 : k < (mkL tot mkSS m xs).length := by rw [mkL_len]; exact hlt
   obtain ⟨b, off, a', c', rfl, hcb, hrr⟩ := (HR.out.later HB.out).row3 (k := k) hlt2
   have hat : (mkL tot mkSS m xs)[k] = mkSS (m + sumL tot (xs.take k)) xs[k] := by
    have h1 := mkL_at tot mkSS m xs k hlt
    rw [List.getElem?_eq_getElem hlt2, Option.some.injEq] at h1
    exact h1
   rw [hat, mkSS_len] at hcb hrr
   have HRR := hid hrr
   have hki : (k : Int) < (xs.length : Int) := by omega
   have HTS := hid (sumL_snoc tot xs k hlt)
   have hts2 := sumL_take tot xs (k + 1)
   have hle := HAT.out k hlt
   clear hrr hat
   generalize sumL tot (xs.take k) = t at *
   go_wp2_with fail
   refine (heldSS_any a' c' xs[k] (m + t) wr HRR.out hle.1 hle.2 (by omega)).mono ?_
   rintro e w2 ⟨rfl, b2⟩
   have HB2 := hid (HB.out.trans (b2.mono HB.out.size))
   clear b2
   go_wp2
   go_roundw
   case rel => exact ⟨k + 1, by omega, by go_num, by rw [HTS.out]; go_num, HB2.out⟩
   case measure => simp [intOf]; omega
  ·obtain rfl : k = xs.length := by omega
   have HT : Hid (sumL tot (xs.take xs.length) = sumL tot xs) := hid (by rw [List.take_length])
   rw [HT.out]
   go_wp2
   go_ret
   exact ⟨rfl, HB.out⟩
set_option maxHeartbeats 2000000 in
theorem heldStrX_any (s : PStr) (a b : Option Addr) (c d : Nat) (m : Nat) (w : World) (hr : RdSl cField w (mkF m s.fields) (.slice a s.fields.length c)) (hr2 : RdSl cSSS w (mkL tot mkSS (m + fT s.fields) s.dicts) (.slice b s.dicts.length d)) (hl : s.fields.length ≤ 1048576) (ht : fT s.fields ≤ 4194304) (htd : totL tS s.dicts ≤ 1048576) (hm : m ≤ 268435456) :
  Calls Tryz.prog 50 #[.agg #[.bool s.opened, .slice a s.fields.length c, .int .i64 s.next, .slice b s.dicts.length d], .int .i64 m] w fun e w' => e = .returned (.int .i64 ((m + fT s.fields + sumL tot s.dicts : Nat) : Int)) ∧ Below w.heap.size w w' := by
 have HR := hid hr
 have HR2 := hid hr2
 have hsd : sumL tot s.dicts ≤ 1048576 := Nat.le_trans (tS_le _) htd
 clear hr hr2
 go_enter Tryz.func50, Tryz.ntmps50
 go_wp2_with fail
 refine (heldFieldS_any a c s.fields m _ (HR.out.later (bN _ _)) hl ht (by omega)).mono ?_
 rintro e w2 ⟨rfl, b2⟩
 have k1 := heap1 _ (by simpa using b2)
 have p3 := cR w2 _ 3 _ _ _ k1
 simp only [gA, gZ, gU] at p3
 have HB2 := hid (bC (bN _ _) b2)
 have HRN := hid (HR2.out.later HB2.out)
 clear k1 b2
 generalize hQ : m + fT s.fields = q at *
 have HQ := hid hQ
 have hq1 : q ≤ 536870912 := by omega
 clear hQ
 have hq0 : ¬ (q : Int) < 0 := by omega
 go_wp2_with fail
 refine (heldSSS_any b d s.dicts q w2 HRN.out htd hq1).mono ?_
 rintro e w3 ⟨rfl, b3⟩
 have HB3 := hid (bC HB2.out b3)
 clear b3
 obtain ⟨Z, hZ⟩ : ∃ Z : Int, Z = ((q + sumL tot s.dicts : Nat) : Int) := ⟨_, rfl⟩
 have hZ0 : decide (Z < 0) = false := decide_eq_false (by omega)
 rw [← hZ]
 have HZ := hid hZ
 clear hZ
 go_wp2
 go_ret
 have hh : Z = ((m + fT s.fields + sumL tot s.dicts : Nat) : Int) := by have := HZ.out; have := HQ.out; omega
 exact ⟨(by rw [hh]; rfl), HB3.out⟩
theorem rdBytes_rdC {w : World} {xs : List Nat} {a : Option Addr} {n c : Nat} (h : RdSl cByte w xs (.slice a n c)) : Rd w a (byt xs) := by
 obtain ⟨a', cap', e', g1, g2, g3, g4, g5⟩ := h.bytes
 simp only [Value.slice.injEq] at e'
 obtain ⟨rfl, -, -⟩ := e'
 exact g4
set_option maxRecDepth 100000 in
set_option maxHeartbeats 8000000 in
theorem heldCellX_any (a : Option Addr) (cap : Nat) (xs : List PC) (m : Nat) (w : World) (hr : RdSl cCell w (mkL gT mkG m xs) (.slice a xs.length cap)) (hn : xs.length ≤ 1048576) (ht : (xs.map fun x : PC => x.text.length).sum ≤ 1048576) (hm : m ≤ 1073741824) :
  Calls Tryz.prog 98 #[.slice a xs.length cap, .int .i64 m] w fun e w' => e = .returned (.int .i64 ((m + sumL gT xs : Nat) : Int)) ∧ Below w.heap.size w w' := by
 have HR := hid hr
 have hsm : sumL gT xs ≤ 8388608 := by have h1 := gT_le xs; omega
 have HTE : Hid (∀ k, (hk : k < xs.length) → xs[k].text.length ≤ 1048576) := hid (fun k hk => by have := tot_at (fun x : PC => x.text.length) xs k hk; omega)
 clear hr ht
 go_enter Tryz.func98, Tryz.ntmps98
 go_wp2
 go_loopw [1, 5] (fun q i wr => ∃ k : Nat, k ≤ xs.length ∧ i = .int .i64 k ∧ q = .int .i64 ((m + sumL gT (xs.take k) : Nat) : Int) ∧ Below w.heap.size w wr) (fun _ i _ => xs.length - (intOf i).toNat)
 case atStart => exact ⟨0, Nat.zero_le _, rfl, by simp [sumL], Below.refl _ _⟩
 case round =>
  obtain ⟨k, hk, rfl, rfl, hbe⟩ := hrel
  have HB := hid hbe
  clear hbe
  have hki0 := sumL_take gT xs k
  by_cases hlt : k < xs.length
  ·have hlt2 : k < (mkL gT mkG m xs).length := by rw [mkL_len]; exact hlt
   obtain ⟨b, off, x0, x1, x2, rfl, hes, d0, d1, d2⟩ := (HR.out.later HB.out).at3 (k := k) rfl hlt2
   have hat : (mkL gT mkG m xs)[k] = mkG (m + sumL gT (xs.take k)) xs[k] := by
    have h1 := mkL_at gT mkG m xs k hlt
    rw [List.getElem?_eq_getElem hlt2, Option.some.injEq] at h1
    exact h1
   rw [hat] at hes
   have HTS := hid (sumL_snoc gT xs k hlt)
   have hts2 := sumL_take gT xs (k + 1)
   have HFT : Hid (gT xs[k] = xs[k].text.length + 2) := hid rfl
   have hsb : sumL gT (xs.take k) + xs[k].text.length + 2 ≤ 8388608 := by have := HTS.out; have := HFT.out; omega
   have hln := HTE.out k hlt
   obtain ⟨u, he, hrd, -⟩ := cCell_rd hes
   have hrd2 : RdSl cByte wr (mkByte (m + sumL gT (xs.take k) + 2) xs[k].text.length) u := hrd
   obtain ⟨a0, c0, rfl, -⟩ := id hrd2
   rw [mkByte_length] at he hrd2
   simp only [List.cons.injEq, and_true] at he
   obtain ⟨rfl, rfl, rfl⟩ := he
   have HRD := hid (rdBytes_rdC hrd2)
   have e0 : (mkG (m + sumL gT (xs.take k)) xs[k]).null = (((m + sumL gT (xs.take k) : Nat) : Int) % 3 == 0) := rfl
   have e1 : (mkG (m + sumL gT (xs.take k)) xs[k]).num = ((m + sumL gT (xs.take k) + 1 : Nat) : Int) := rfl
   rw [e0] at d0
   rw [e1] at d1
   clear e0 e1 hes hrd hrd2 hat
   generalize sumL gT (xs.take k) = t at *
   generalize xs[k].text.length = ln at *
   rw [show ((m + t : Nat) : Int) = (m : Int) + (t : Int) from by omega] at d0
   rw [show ((m + t + 1 : Nat) : Int) = (m : Int) + (t : Int) + 1 from by omega] at d1
   obtain ⟨Z, hZ⟩ : ∃ Z : Int, Z = ((m + t + 2 + ln : Nat) : Int) := ⟨_, rfl⟩
   have hki : (k : Int) < (xs.length : Int) := by omega
   have g0 : ((((m : Int) + (t : Int)) % 3 == 0) != (((m : Int) + (t : Int)) % 3 == 0)) = false := by simp
   have g1 : (((m : Int) + (t : Int) + 1) != ((m : Int) + (t : Int) + 1)) = false := by simp
   have hz0 : decide (Z < 0) = false := decide_eq_false (by omega)
   have HZ := hid hZ
   clear hts2 hki0 hZ
   go_wp2_with fail
   rw [show ((m : Int) + (t : Int) + 1 + 1) = ((m + t + 2 : Nat) : Int) from by omega]
   refine (heldByteS_any a0 _ c0 (m + t + 2) wr HRD.out (by omega) (by omega)).mono ?_
   rintro e w2 ⟨rfl, b2⟩
   rw [← HZ.out]
   have HB2 := hid (HB.out.trans (b2.mono HB.out.size))
   clear b2 d0 d1 d2
   go_wp2
   go_roundw
   case rel => exact ⟨k + 1, by omega, by go_num, by rw [HTS.out, HFT.out]; congr 1; have := HZ.out; omega, HB2.out⟩
   case measure => simp [intOf]; omega
  ·obtain rfl : k = xs.length := by omega
   have HT : Hid (sumL gT (xs.take xs.length) = sumL gT xs) := hid (by rw [List.take_length])
   rw [HT.out]
   go_wp2
   go_ret
   exact ⟨rfl, HB.out⟩
set_option maxRecDepth 100000 in
set_option maxHeartbeats 8000000 in
theorem heldTableS_any (a : Option Addr) (cap : Nat) (xs : List PT) (m : Nat) (w : World) (hr : RdSl cTable w (mkL hT_ mkH m xs) (.slice a xs.length cap)) (ht : totL totT xs ≤ 1048576) (hm : m ≤ 536870912) :
  Calls Tryz.prog 48 #[.slice a xs.length cap, .int .i64 m] w fun e w' => e = .returned (.int .i64 ((m + sumL hT_ xs : Nat) : Int)) ∧ Below w.heap.size w w' := by
 have HR := hid hr
 have hn : xs.length ≤ 1048576 := by unfold totL at ht; omega
 have hsm : sumL hT_ xs ≤ 8388608 := by have h1 := hT_le xs; omega
 have HTE : Hid (∀ k, (hk : k < xs.length) → xs[k].cells.length ≤ 1048576 ∧ (xs[k].cells.map fun x : PC => x.text.length).sum ≤ 1048576) := hid (fun k hk => hT_at xs k hk ht)
 clear hr ht
 go_enter Tryz.func48, Tryz.ntmps48
 go_wp2
 go_loopw [1, 5] (fun q i wr => ∃ k : Nat, k ≤ xs.length ∧ i = .int .i64 k ∧ q = .int .i64 ((m + sumL hT_ (xs.take k) : Nat) : Int) ∧ Below w.heap.size w wr) (fun _ i _ => xs.length - (intOf i).toNat)
 case atStart => exact ⟨0, Nat.zero_le _, rfl, by simp [sumL], Below.refl _ _⟩
 case round =>
  obtain ⟨k, hk, rfl, rfl, hbe⟩ := hrel
  have HB := hid hbe
  clear hbe
  have hki0 := sumL_take hT_ xs k
  by_cases hlt : k < xs.length
  ·have hlt2 : k < (mkL hT_ mkH m xs).length := by rw [mkL_len]; exact hlt
   obtain ⟨b, off, es, rfl, hes, hcs⟩ := (HR.out.later HB.out).atN hlt2
   have hat : (mkL hT_ mkH m xs)[k] = mkH (m + sumL hT_ (xs.take k)) xs[k] := by
    have h1 := mkL_at hT_ mkH m xs k hlt
    rw [List.getElem?_eq_getElem hlt2, Option.some.injEq] at h1
    exact h1
   rw [hat] at hes
   obtain ⟨u, rfl, hu, -⟩ := cTable_rd hes
   have hu2 : RdSl cCell wr (mkL gT mkG (m + sumL hT_ (xs.take k) + 1) xs[k].cells) u := hu
   obtain ⟨a0, c0, rfl, -⟩ := id hu2
   rw [mkL_len] at hu2
   have d0 : wr.cell? ⟨b, off + k * 2, none⟩ = some (.int .i64 ((m + sumL hT_ (xs.take k) : Nat) : Int)) := by have h := hcs 0 (by decide); rw [show cTable.n = 2 from rfl] at h; simpa [Nat.add_assoc, mkH] using h
   have d1 : wr.cell? ⟨b, off + k * 2 + 1, none⟩ = some (.slice a0 xs[k].cells.length c0) := by have h := hcs 1 (by decide); rw [show cTable.n = 2 from rfl] at h; simpa [Nat.add_assoc, mkL_len] using h
   have HU := hid hu2
   have HTS := hid (sumL_snoc hT_ xs k hlt)
   have hts2 := sumL_take hT_ xs (k + 1)
   have HFT : Hid (hT_ xs[k] = sumL gT xs[k].cells + 1) := hid rfl
   have hsb : sumL hT_ (xs.take k) + sumL gT xs[k].cells + 1 ≤ 8388608 := by have := HTS.out; have := HFT.out; omega
   have hle := HTE.out k hlt
   have hki : (k : Int) < (xs.length : Int) := by omega
   clear hes hu hu2 hcs hat hki0 hts2
   generalize sumL hT_ (xs.take k) = t at *
   rw [show ((m + t : Nat) : Int) = (m : Int) + (t : Int) from by omega] at d0
   have g0 : (((m : Int) + (t : Int)) != ((m : Int) + (t : Int))) = false := by simp
   go_wp2_with fail
   rw [show ((m : Int) + (t : Int) + 1) = ((m + t + 1 : Nat) : Int) from by omega]
   refine (heldCellX_any a0 c0 xs[k].cells (m + t + 1) wr HU.out hle.1 hle.2 (by omega)).mono ?_
   rintro e w2 ⟨rfl, b2⟩
   generalize sumL gT xs[k].cells = ln at *
   obtain ⟨Z, hZ⟩ : ∃ Z : Int, Z = ((m + t + 1 + ln : Nat) : Int) := ⟨_, rfl⟩
   rw [← hZ]
   have hz0 : decide (Z < 0) = false := decide_eq_false (by omega)
   have HZ := hid hZ
   have HB2 := hid (HB.out.trans (b2.mono HB.out.size))
   clear b2 d0 d1 hZ
   go_wp2
   go_roundw
   case rel => exact ⟨k + 1, by omega, by go_num, by rw [HTS.out, HFT.out]; congr 1; have := HZ.out; omega, HB2.out⟩
   case measure => simp [intOf]; omega
  ·obtain rfl : k = xs.length := by omega
   have HT : Hid (sumL hT_ (xs.take xs.length) = sumL hT_ xs) := hid (by rw [List.take_length])
   rw [HT.out]
   go_wp2
   go_ret
   exact ⟨rfl, HB.out⟩
set_option maxRecDepth 100000 in
set_option maxHeartbeats 8000000 in
theorem heldSdX_any (r : PSnd) (a0 a3 a1 a2 b2 : Option Addr) (c0 c3 c1 c2 d2 : Nat) (fs ts os bs ds : List Nat) (m : Nat) (w : World) (ho : MkSnd w r m a0 c0 a3 c3 a1 c1 a2 c2 b2 d2 fs ts os bs ds) (ht : SndFits r) (hm : m ≤ 1048576) :
  Calls Tryz.prog 15 #[.agg #[.slice a0 r.fields.length c0, .int .i64 r.epoch, .int .i64 r.base, .slice a3 r.tables.length c3, .int .i64 r.pushed, .int .i64 r.out.epoch, .int .i64 r.out.next, .int .i64 r.out.now, .slice a1 r.out.wait.length c1, .bool r.str.opened, .slice a2 r.str.fields.length c2, .int .i64 r.str.next, .slice b2 r.str.dicts.length d2], .int .i64 m] w fun e w' => e = .returned (.int .i64 ((m + nSnd r : Nat) : Int)) ∧ Below w.heap.size w w' := by
 have hT : totL fN r.fields ≤ 1048576 ∧ totL totT r.tables ≤ 1048576 ∧ totL wN r.out.wait ≤ 1048576 ∧ totL fN r.str.fields ≤ 1048576 ∧ totL tS r.str.dicts ≤ 1048576 := by unfold SndFits tStr at ht; omega
 have hS1 : fT r.fields ≤ 4194304 ∧ r.fields.length ≤ 1048576 := by have h1 := fT_le r.fields; have h2 := hT.1; unfold totL fN at h2; omega
 have hS2 : sumL hT_ r.tables ≤ 8388608 := by have h1 := hT_le r.tables; have h2 := hT.2.1; unfold totL at h1 h2; omega
 have hS3 : sumL sT r.out.wait ≤ 16777216 := by have h1 := sT_le r.out.wait; have h2 := hT.2.2.1; unfold totL at h2; omega
 have hS4 : fT r.str.fields ≤ 4194304 ∧ r.str.fields.length ≤ 1048576 := by have h1 := fT_le r.str.fields; have h2 := hT.2.2.2.1; unfold totL fN at h2; omega
 have hS5 : sumL tot r.str.dicts ≤ 1048576 := Nat.le_trans (tS_le _) hT.2.2.2.2
 have HNR : Hid (nSnd r = fT r.fields + sumL hT_ r.tables + sumL sT r.out.wait + (fT r.str.fields + sumL tot r.str.dicts)) := hid rfl
 obtain ⟨A, hA⟩ : ∃ A : Nat, A = m + fT r.fields := ⟨_, rfl⟩
 obtain ⟨B, hB⟩ : ∃ B : Nat, B = A + sumL hT_ r.tables := ⟨_, rfl⟩
 obtain ⟨C, hC⟩ : ∃ C : Nat, C = B + sumL sT r.out.wait := ⟨_, rfl⟩
 have hA1 : A ≤ 8388608 := by omega
 have hB1 : B ≤ 33554432 := by omega
 have hC1 : C ≤ 67108864 := by omega
 have HA := hid hA
 have HB := hid hB
 have HC := hid hC
 have HRF := hid ho.f.rd
 have HRT := hid ho.t.rd
 have HRO : Hid (RdSl cSnt w (mkL sT mkS ((m + fT r.fields) + sumL hT_ r.tables) r.out.wait) (.slice a1 r.out.wait.length c1)) := hid (by have h := ho.o.rd; simpa only [List.drop_zero, Nat.sub_zero, mkL_len] using h)
 have HRG : Hid (RdSl cField w (mkF (((m + fT r.fields) + sumL hT_ r.tables) + sumL sT r.out.wait) r.str.fields) (.slice a2 r.str.fields.length c2)) := hid (by have h := ho.s.f.rd; dsimp only at h; rwa [mkF_len] at h)
 have HRD : Hid (RdSl cSSS w (mkL tot mkSS ((((m + fT r.fields) + sumL hT_ r.tables) + sumL sT r.out.wait) + fT r.str.fields) r.str.dicts) (.slice b2 r.str.dicts.length d2)) := hid (by have h := ho.s.t.rd; dsimp only at h; rwa [mkL_len] at h)
 rw [← hA] at HRT HRO HRG HRD
 rw [← hB] at HRO HRG HRD
 rw [← hC] at HRG HRD
 clear ho hA hB hC
 have HK0 : Hid ((w.alloc (.cells #[.slice a0 r.fields.length c0, .int .i64 r.epoch, .int .i64 r.base, .slice a3 r.tables.length c3, .int .i64 r.pushed, .int .i64 r.out.epoch, .int .i64 r.out.next, .int .i64 r.out.now, .slice a1 r.out.wait.length c1, .bool r.str.opened, .slice a2 r.str.fields.length c2, .int .i64 r.str.next, .slice b2 r.str.dicts.length d2] 45)).heap[w.heap.size]? = some (.cells #[.slice a0 r.fields.length c0, .int .i64 r.epoch, .int .i64 r.base, .slice a3 r.tables.length c3, .int .i64 r.pushed, .int .i64 r.out.epoch, .int .i64 r.out.next, .int .i64 r.out.now, .slice a1 r.out.wait.length c1, .bool r.str.opened, .slice a2 r.str.fields.length c2, .int .i64 r.str.next, .slice b2 r.str.dicts.length d2] 45 (0, 0))) := hid (heap_alloc_new w _)
 have HB0 := hid (bN w (.cells #[.slice a0 r.fields.length c0, .int .i64 r.epoch, .int .i64 r.base, .slice a3 r.tables.length c3, .int .i64 r.pushed, .int .i64 r.out.epoch, .int .i64 r.out.next, .int .i64 r.out.now, .slice a1 r.out.wait.length c1, .bool r.str.opened, .slice a2 r.str.fields.length c2, .int .i64 r.str.next, .slice b2 r.str.dicts.length d2] 45))
 go_enter Tryz.func15, Tryz.ntmps15
 go_upto_region 1 with fail
 generalize (w.alloc (.cells #[.slice a0 r.fields.length c0, .int .i64 r.epoch, .int .i64 r.base, .slice a3 r.tables.length c3, .int .i64 r.pushed, .int .i64 r.out.epoch, .int .i64 r.out.next, .int .i64 r.out.now, .slice a1 r.out.wait.length c1, .bool r.str.opened, .slice a2 r.str.fields.length c2, .int .i64 r.str.next, .slice b2 r.str.dicts.length d2] 45)) = W0 at *
 have p0 := cR _ _ 0 _ _ _ HK0.out
 simp only [gA, gZ] at p0
 go_wp2_with fail
 refine (heldFieldS_any a0 c0 r.fields m W0 (HRF.out.later HB0.out) hS1.2 hS1.1 (by omega)).mono ?_
 rintro e w2 ⟨rfl, b2x⟩
 rw [← HA.out]
 have HK2 := hid (boxSd HK0.out b2x)
 have HB2 := hid (bC HB0.out b2x)
 clear b2x p0
 have p3 := cR _ _ 3 _ _ _ HK2.out
 simp only [gA, gZ, gU] at p3
 have n0 : ¬ (A : Int) < 0 := by omega
 go_wp2_with fail
 refine (heldTableS_any a3 c3 r.tables A w2 (HRT.out.later HB2.out) hT.2.1 (by omega)).mono ?_
 rintro e w3 ⟨rfl, b3x⟩
 rw [← HB.out]
 have HK3 := hid (boxSd HK2.out b3x)
 have HB3 := hid (bC HB2.out b3x)
 clear b3x p3 n0
 have p5 := cR _ _ 5 _ _ _ HK3.out
 have p6 := cR _ _ 6 _ _ _ HK3.out
 have p7 := cR _ _ 7 _ _ _ HK3.out
 have p8 := cR _ _ 8 _ _ _ HK3.out
 simp only [gA, gZ, gU] at p5 p6 p7 p8
 have n0 : ¬ (B : Int) < 0 := by omega
 go_wp2_with fail
 refine (heldLinkOut_any r.out.epoch r.out.next r.out.now a1 c1 r.out.wait B w3 (HRO.out.later HB3.out) hT.2.2.1 (by omega)).mono ?_
 rintro e w4 ⟨rfl, b4x⟩
 rw [← HC.out]
 have HK4 := hid (boxSd HK3.out b4x)
 have HB4 := hid (bC HB3.out b4x)
 clear b4x p5 p6 p7 p8 n0
 have p9 := cR _ _ 9 _ _ _ HK4.out
 have p10 := cR _ _ 10 _ _ _ HK4.out
 have p11 := cR _ _ 11 _ _ _ HK4.out
 have p12 := cR _ _ 12 _ _ _ HK4.out
 simp only [gA, gZ, gU] at p9 p10 p11 p12
 have n0 : ¬ (C : Int) < 0 := by omega
 go_wp2_with fail
 refine (heldStrX_any r.str a2 b2 c2 d2 C w4 (HRG.out.later HB4.out) (HRD.out.later HB4.out) hS4.2 hS4.1 hT.2.2.2.2 (by omega)).mono ?_
 rintro e w5 ⟨rfl, b5x⟩
 have HB5 := hid (bC HB4.out b5x)
 clear b5x p9 p10 p11 p12 n0
 obtain ⟨Z, hZ⟩ : ∃ Z : Int, Z = ((C + fT r.str.fields + sumL tot r.str.dicts : Nat) : Int) := ⟨_, rfl⟩
 have hZ0 : decide (Z < 0) = false := decide_eq_false (by omega)
 rw [← hZ]
 have HZ := hid hZ
 clear hZ
 go_wp2
 go_ret
 have eA := HA.out
 have eB := HB.out
 have eC := HC.out
 have hh : Z = ((m + nSnd r : Nat) : Int) := by have := HZ.out; have := HNR.out; omega
 exact ⟨by rw [hh]; rfl, HB5.out⟩
end Go.Proofs.YtfaehioeepolhabGreat
