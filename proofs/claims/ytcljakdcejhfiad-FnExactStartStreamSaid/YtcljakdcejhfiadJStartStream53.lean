import Derived.Test.YtcljakdcejhfiadJStartStream4
import Derived.Test.YtcljakdcejhfiadJStartStream50
import Derived.Test.YtcljakdcejhfiadJStartStream52
namespace Go.Proofs.Ytcljakdcejhfiad
open Go.RowKit
theorem OwnStr.kept {w w' : World} {s : PStr} {a b : Option Addr} {c d : Nat} {bs ds : List Nat} (h : OwnStr w s a c b d bs ds) (hk : ∀ x ∈ bs ++ ds, w'.heap[x]? = w.heap[x]?) : OwnStr w' s a c b d bs ds :=
  ⟨h.f.kept (fun x hx => hk x (List.mem_append_left _ hx)), h.t.kept (fun x hx => hk x (List.mem_append_right _ hx))⟩
theorem OwnStr.lt {w : World} {s : PStr} {a b : Option Addr} {c d : Nat} {bs ds : List Nat} (h : OwnStr w s a c b d bs ds) : ∀ x ∈ bs ++ ds, x < w.heap.size := fun x hx => (List.mem_append.1 hx).elim (h.f.lt x) (h.t.lt x)
theorem startS_small (fs : List PF) (next : Int) : tStr (startS fs next) ≤ 1048576 ∧ fT (startS fs next).fields ≤ 4194304 ∧ (startS fs next).fields.length ≤ 12 ∧ (∃ n, n ≤ 12 ∧ (startS fs next).dicts = List.replicate n []) ∧ (startB fs next).length ≤ 20000 := by
  cases h : startOK fs next with
  | false =>
    unfold startS startB
    rw [h]
    exact ⟨by simp [tStr, totL], by simp [fT], by simp, ⟨0, by omega, rfl⟩, by simp⟩
  | true =>
    unfold startS startB
    rw [h]
    have hf : fieldsOK fs = true := by unfold startOK at h; simp at h; exact h.1
    obtain ⟨hl, hb⟩ := fieldsOK_bounds hf
    have key : ∀ k, k ≤ fs.length → ((fs.take k).map fN).sum ≤ 20 * k := by
      intro k
      induction k with
      | zero => intro _; simp
      | succ k ih =>
        intro hk
        have h1 := sum_snoc fN fs k hk
        have h2 := ih (by omega)
        have h3 := (hb k hk).2.1
        have h4 : fN fs[k] = fs[k].name.length := rfl
        omega
    have hs := key fs.length (Nat.le_refl _)
    rw [List.take_length] at hs
    have hs2 : (fs.map fun f : PF => f.name.length).sum ≤ 20 * fs.length := hs
    have hft := fT_le fs
    refine ⟨?_, ?_, hl, ⟨fs.length, hl, rfl⟩, hdr_fits _ hf⟩
    · have hd : totL tS (List.replicate fs.length ([] : List (List Nat))) = fs.length := by simp [totL, tS]
      show totL fN fs + totL tS (List.replicate fs.length []) ≤ 1048576
      rw [hd]
      unfold totL
      omega
    · show fT fs ≤ 4194304
      omega
set_option maxRecDepth 1000000 in
set_option maxHeartbeats 16000000 in
theorem startStream_walk (a : Option Addr) (len cap : Nat) (next : Int) (w : World) (h : FieldsIn w a len cap) (hin : IntIn next) :
    Calls Try.prog 6 #[.slice a len cap, .int .i64 next] w fun e w' => e = .returned (.bool true) ∧ Below w.heap.size w w' := by
  obtain ⟨fs, rfl, hr⟩ := h
  have HR := hid hr
  have HIN := hid hin
  clear hr hin
  go_enter Try.func6, Try.ntmps6
  go_wp2_with fail
  refine (szFieldS_any a cap fs 1048576 w HR.out (by omega) (by omega)).mono ?_
  rintro e w1 ⟨rfl, B1⟩
  by_cases hneg : rest 1048576 (totL (fun f : PF => f.name.length) fs) < 0
  · generalize rest 1048576 (totL (fun f : PF => f.name.length) fs) = r at *
    go_wp2
    go_ret
    exact ⟨rfl, B1⟩
  have ht : totL (fun f : PF => f.name.length) fs ≤ 1048576 := by have := rest_fits (l := 1048576) (n := totL (fun f : PF => f.name.length) fs) (by omega); omega
  have hlen : fs.length ≤ 1048576 := by unfold totL at ht; omega
  have hft : fT fs ≤ 4194304 := by rw [fT_le]; unfold totL at ht; omega
  generalize rest 1048576 (totL (fun f : PF => f.name.length) fs) = r at *
  have HTO : Hid (∀ w', Below w.heap.size w w' → Calls Try.prog 10 #[.slice a fs.length cap] w' fun e w2 => ∃ a2 c2 bs, e = .returned (.slice a2 fs.length c2) ∧ OwnSl cField 84 w2 fs (.slice a2 fs.length c2) bs ∧ (∀ b ∈ bs, w'.heap.size ≤ b) ∧ bs.Nodup ∧ Below w'.heap.size w' w2) := hid (fun w' hb => by
    refine (toFieldS_any a cap fs w' (HR.out.later hb) ht).mono ?_
    rintro e w2 ⟨v2, bs, rfl, o2, l2, n2, b2⟩
    obtain ⟨a2, c2, rfl, -⟩ := id o2.rd
    exact ⟨a2, c2, bs, rfl, o2, l2, n2, b2⟩)
  have HSM := hid (startS_small fs next)
  have HSP : Hid (∀ w' a2 c2, RdSl cField w' fs (.slice a2 fs.length c2) → Calls Try.prog 36 #[.slice a2 fs.length c2, .int .i64 next] w' (StartPost w' (startS fs next) (startB fs next) (startC fs next))) := hid (fun w' a2 c2 h => specStart_any a2 c2 fs next w' h ht HIN.out)
  have HIM : Hid (∀ w' a2 c2, RdSl cField w' fs (.slice a2 fs.length c2) → Calls Try.prog 37 #[.slice a2 fs.length c2, .int .i64 next] w' (StartOwn w' (startS fs next) (startB fs next) (startC fs next))) := hid (fun w' a2 c2 h => implStart_any a2 c2 fs next w' h ht)
  generalize startS fs next = s at *
  generalize startB fs next = R at *
  generalize startC fs next = C at *
  obtain ⟨hts, hfs, hsl, ⟨nd, hnd, hsd⟩, hRl⟩ := HSM.out
  have HSD := hid hsd
  have hfsl : s.fields.length ≤ 1048576 := by omega
  clear HSM hsd
  have hCC : (C != C) = false := by simp
  go_wp2_with fail
  refine (HTO.out w1 B1).mono ?_
  rintro e w2 ⟨a2, c2, bs2, rfl, o2, -, -, b2⟩
  have B2 := below_chain B1 b2
  go_wp2_with fail
  refine (HSP.out w2 a2 c2 o2.rd).mono ?_
  rintro e w3 ⟨aW, cW, bW, dW, arW, crW, rfl, rW, rRW, b3⟩
  have B3 := below_chain B2 b3
  have HRW := hid rW
  have HRR := hid rRW
  clear o2 b2 b3 rW rRW
  have nb3 := below_new1 w3 (.cells #[.bool s.opened, .slice aW s.fields.length cW, .int .i64 s.next, .slice bW s.dicts.length dW] 68)
  have HKW : Hid ((w3.alloc (.cells #[.bool s.opened, .slice aW s.fields.length cW, .int .i64 s.next, .slice bW s.dicts.length dW] 68)).heap[w3.heap.size]? = some (.cells #[.bool s.opened, .slice aW s.fields.length cW, .int .i64 s.next, .slice bW s.dicts.length dW] 68 (0, 0))) := hid (heap_alloc_new w3 _)
  have hsW : w3.heap.size < (w3.alloc (.cells #[.bool s.opened, .slice aW s.fields.length cW, .int .i64 s.next, .slice bW s.dicts.length dW] 68)).heap.size := by simp
  have B3a := below_chain B3 nb3
  go_wp2_with fail
  generalize (w3.alloc (.cells #[.bool s.opened, .slice aW s.fields.length cW, .int .i64 s.next, .slice bW s.dicts.length dW] 68)) = w3a at *
  refine (HTO.out w3a B3a).mono ?_
  rintro e w4 ⟨a4, c4, bs4, rfl, o4, l4, n4, b4⟩
  have E4 : Below w3a.heap.size w3a w4 := b4
  have B4 := below_chain B3a b4
  have HO4 := hid o4
  have HL4 := hid l4
  have HN4 := hid n4
  have hlt4 := o4.lt
  have HLT4 := hid hlt4
  have hs34 : w3a.heap.size ≤ w4.heap.size := b4.size
  clear o4 l4 n4 b4 hlt4
  go_wp2_with fail
  refine (HIM.out w4 a4 c4 HO4.out.rd).mono ?_
  rintro e w5 ⟨aG, cG, bG, dG, bsG, dsG, arG, crG, rfl, oG, oR, lG, nG, apG, b5⟩
  have E5 := below_chain E4 b5
  have B5 := below_chain B4 b5
  have HO5 := hid (HO4.out.kept (fun x hx => b5.block x (HLT4.out x hx)))
  have HG5 := hid oG
  have HR5 := hid oR
  have HLG := hid lG
  have HNG := hid nG
  have HAG := hid apG
  have HLTG := hid oG.lt
  have HLTR := hid (fun p hp => own_in (g := p) oR hp)
  have hs45 : w4.heap.size ≤ w5.heap.size := b5.size
  clear oG oR lG nG apG b5 HO4
  have nb5 := below_new1 w5 (.cells #[.bool s.opened, .slice aG s.fields.length cG, .int .i64 s.next, .slice bG s.dicts.length dG] 68)
  have HKG : Hid ((w5.alloc (.cells #[.bool s.opened, .slice aG s.fields.length cG, .int .i64 s.next, .slice bG s.dicts.length dG] 68)).heap[w5.heap.size]? = some (.cells #[.bool s.opened, .slice aG s.fields.length cG, .int .i64 s.next, .slice bG s.dicts.length dG] 68 (0, 0))) := hid (heap_alloc_new w5 _)
  have E5a := below_chain E5 nb5
  have B5a := below_chain B5 nb5
  have HO5a := hid (HO5.out.kept (fun x hx => nb5.block x (by have := HLT4.out x hx; omega)))
  have HG5a := hid (HG5.out.kept (fun x hx => nb5.block x (HLTG.out x hx)))
  have HR5a := hid (own_later HR5.out nb5)
  have kW5 := hid ((E5a.block _ hsW).trans HKW.out)
  have hs5a : w5.heap.size < (w5.alloc (.cells #[.bool s.opened, .slice aG s.fields.length cG, .int .i64 s.next, .slice bG s.dicts.length dG] 68)).heap.size := by simp
  clear HO5 HG5 HR5
  have p0 := cell_of_row (w5.alloc (.cells #[.bool s.opened, .slice aG s.fields.length cG, .int .i64 s.next, .slice bG s.dicts.length dG] 68)) _ 0 _ _ _ HKG.out
  have p1 := cell_of_row (w5.alloc (.cells #[.bool s.opened, .slice aG s.fields.length cG, .int .i64 s.next, .slice bG s.dicts.length dG] 68)) _ 1 _ _ _ HKG.out
  have p2 := cell_of_row (w5.alloc (.cells #[.bool s.opened, .slice aG s.fields.length cG, .int .i64 s.next, .slice bG s.dicts.length dG] 68)) _ 2 _ _ _ HKG.out
  have p3 := cell_of_row (w5.alloc (.cells #[.bool s.opened, .slice aG s.fields.length cG, .int .i64 s.next, .slice bG s.dicts.length dG] 68)) _ 3 _ _ _ HKG.out
  simp only [List.getElem?_toArray, List.getElem?_cons_zero, List.getElem?_cons_succ] at p0 p1 p2 p3
  have q0 := cell_of_row (w5.alloc (.cells #[.bool s.opened, .slice aG s.fields.length cG, .int .i64 s.next, .slice bG s.dicts.length dG] 68)) _ 0 _ _ _ kW5.out
  have q1 := cell_of_row (w5.alloc (.cells #[.bool s.opened, .slice aG s.fields.length cG, .int .i64 s.next, .slice bG s.dicts.length dG] 68)) _ 1 _ _ _ kW5.out
  have q2 := cell_of_row (w5.alloc (.cells #[.bool s.opened, .slice aG s.fields.length cG, .int .i64 s.next, .slice bG s.dicts.length dG] 68)) _ 2 _ _ _ kW5.out
  have q3 := cell_of_row (w5.alloc (.cells #[.bool s.opened, .slice aG s.fields.length cG, .int .i64 s.next, .slice bG s.dicts.length dG] 68)) _ 3 _ _ _ kW5.out
  simp only [List.getElem?_toArray, List.getElem?_cons_zero, List.getElem?_cons_succ] at q0 q1 q2 q3
  go_wp2_with fail
  generalize (w5.alloc (.cells #[.bool s.opened, .slice aG s.fields.length cG, .int .i64 s.next, .slice bG s.dicts.length dG] 68)) = w5a at *
  refine (eqStream_any s aG bG aW bW cG dG cW dW w5a HG5a.out.rd (HRW.out.later (below_chain nb3 E5a)) hts).mono ?_
  rintro e w6 ⟨rfl, b6⟩
  have E6 := below_chain E5a b6
  have HG6 := hid (HG5a.out.kept (fun x hx => b6.block x (HG5a.out.lt x hx)))
  have HR6 := hid (own_later HR5a.out b6)
  have kG6 := hid ((b6.block _ (Array.getElem?_eq_some_iff.1 HKG.out).1).trans HKG.out)
  have kW6 := hid ((b6.block _ (Array.getElem?_eq_some_iff.1 kW5.out).1).trans kW5.out)
  clear p0 p1 p2 p3 q0 q1 q2 q3
  go_wp2_with fail
  refine (eqByteS_any _ _ _ _ _ R w6 (rd_at HR6.out) (HRR.out.later (below_chain nb3 E6)).rdB.1 rfl (by omega)).mono ?_
  rintro e w7 ⟨rfl, b7⟩
  have E7 := below_chain E6 b7
  have HG7 := hid (HG6.out.kept (fun x hx => b7.block x (HG6.out.lt x hx)))
  have HR7 := hid (own_later HR6.out b7)
  have kG7 := hid ((b7.block _ (Array.getElem?_eq_some_iff.1 kG6.out).1).trans kG6.out)
  have kW7 := hid ((b7.block _ (Array.getElem?_eq_some_iff.1 kW6.out).1).trans kW6.out)
  have b57 := below_chain b6 b7
  have HO7 := hid (HO5a.out.kept (fun x hx => b57.block x (HO5a.out.lt x hx)))
  have B7 := below_chain B5a b57
  clear HG6 HR6 kG6 kW6 b6 b7 HG5a HR5a HO5a
  go_wp2_with fail
  refine (HTO.out w7 B7).mono ?_
  rintro e w8 ⟨a8, c8, bs8, rfl, o8, -, -, b8⟩
  have HO8 := hid (HO7.out.kept (fun x hx => b8.block x (HO7.out.lt x hx)))
  go_wp2_with fail
  refine (eqFieldS_any a4 a8 c4 c8 fs w8 HO8.out.rd o8.rd ht).mono ?_
  rintro e w9 ⟨rfl, b9⟩
  have b79 := below_chain b8 b9
  have E9 := below_chain E7 b79
  have B9 := below_chain B7 b79
  have HO9 := hid (HO8.out.kept (fun x hx => b9.block x (HO8.out.lt x hx)))
  have HG9 := hid (HG7.out.kept (fun x hx => b79.block x (HG7.out.lt x hx)))
  have HR9 := hid (own_later HR7.out b79)
  have kG9 := hid ((b79.block _ (Array.getElem?_eq_some_iff.1 kG7.out).1).trans kG7.out)
  have kW9 := hid ((b79.block _ (Array.getElem?_eq_some_iff.1 kW7.out).1).trans kW7.out)
  clear HO7 HO8 HG7 HR7 kG7 kW7 o8 b8 b9 b79
  go_wp2_with fail
  refine (markFieldS_any _ fs bs4 1 w9 HO9.out HN4.out hlen hft (by omega)).mono ?_
  rintro e w10 ⟨rfl, -, on10⟩
  have E10 : Below w3a.heap.size w3a w10 := Only.chain E9 on10 (fun x hx => HL4.out x hx) (Nat.le_refl _)
  have B10 : Below w.heap.size w w10 := Only.chain B9 on10 (fun x hx => by have := HL4.out x hx; have := B3a.size; omega) (Nat.le_refl _)
  have f4 : ∀ x, w4.heap.size ≤ x → x ∉ bs4 := fun x hx hm => by have := HLT4.out x hm; omega
  have HG10 := hid (HG9.out.kept (fun x hx => on10.block x (HG9.out.lt x hx) (f4 x (HLG.out x hx))))
  have HR10 := hid (ownsRow_kept HR9.out (fun x hx => on10.block x (own_in HR9.out hx).2 (f4 x (HLTR.out x hx).1)))
  have kG10 := hid ((on10.block _ (Array.getElem?_eq_some_iff.1 kG9.out).1 (f4 _ hs45)).trans kG9.out)
  have kW10 := hid ((on10.block _ (Array.getElem?_eq_some_iff.1 kW9.out).1 (fun h => by have := HL4.out _ h; omega)).trans kW9.out)
  have hk0 : ¬ ((1 + fT fs : Nat) : Int) < 0 := by omega
  clear HO9 HG9 HR9 kG9 kW9 on10
  generalize 1 + fT fs = kx at *
  have p0 := cell_of_row w10 _ 0 _ _ _ kG10.out
  have p1 := cell_of_row w10 _ 1 _ _ _ kG10.out
  have p2 := cell_of_row w10 _ 2 _ _ _ kG10.out
  have p3 := cell_of_row w10 _ 3 _ _ _ kG10.out
  simp only [List.getElem?_toArray, List.getElem?_cons_zero, List.getElem?_cons_succ] at p0 p1 p2 p3
  have q0 := cell_of_row w10 _ 0 _ _ _ kW10.out
  have q1 := cell_of_row w10 _ 1 _ _ _ kW10.out
  have q2 := cell_of_row w10 _ 2 _ _ _ kW10.out
  have q3 := cell_of_row w10 _ 3 _ _ _ kW10.out
  simp only [List.getElem?_toArray, List.getElem?_cons_zero, List.getElem?_cons_succ] at q0 q1 q2 q3
  go_wp2_with fail
  refine (eqStream_any s aG bG aW bW cG dG cW dW w10 HG10.out.rd (HRW.out.later (below_chain nb3 E10)) hts).mono ?_
  rintro e w11 ⟨rfl, b11⟩
  have E11 := below_chain E10 b11
  have HG11 := hid (HG10.out.kept (fun x hx => b11.block x (HG10.out.lt x hx)))
  have HR11 := hid (own_later HR10.out b11)
  have kG11 := hid ((b11.block _ (Array.getElem?_eq_some_iff.1 kG10.out).1).trans kG10.out)
  have kW11 := hid ((b11.block _ (Array.getElem?_eq_some_iff.1 kW10.out).1).trans kW10.out)
  clear p0 p1 p2 p3 q0 q1 q2 q3
  go_wp2_with fail
  refine (eqByteS_any _ _ _ _ _ R w11 (rd_at HR11.out) (HRR.out.later (below_chain nb3 E11)).rdB.1 rfl (by omega)).mono ?_
  rintro e w12 ⟨rfl, b12⟩
  have E12 := below_chain E11 b12
  have HG12 := hid (HG11.out.kept (fun x hx => b12.block x (HG11.out.lt x hx)))
  have HR12 := hid (own_later HR11.out b12)
  have kG12 := hid ((b12.block _ (Array.getElem?_eq_some_iff.1 kG11.out).1).trans kG11.out)
  have kW12 := hid ((b12.block _ (Array.getElem?_eq_some_iff.1 kW11.out).1).trans kW11.out)
  have b1012 := below_chain b11 b12
  have B12 := below_chain B10 b1012
  clear HG11 HR11 kG11 kW11 b11 b12 b1012 HG10 HR10 kG10 kW10
  have p0 := cell_of_row w12 _ 0 _ _ _ kG12.out
  have p1 := cell_of_row w12 _ 1 _ _ _ kG12.out
  have p2 := cell_of_row w12 _ 2 _ _ _ kG12.out
  have p3 := cell_of_row w12 _ 3 _ _ _ kG12.out
  simp only [List.getElem?_toArray, List.getElem?_cons_zero, List.getElem?_cons_succ] at p0 p1 p2 p3
  go_wp2_with fail
  refine (markStream_any s nd HSD.out aG bG cG dG bsG dsG 1 w12 HG12.out HNG.out (by omega) hfsl hfs (by omega)).mono ?_
  rintro e w13 ⟨rfl, o13, on13⟩
  have hgm : ∀ x ∈ bsG ++ dsG, w3a.heap.size ≤ x := fun x hx => by have := HLG.out x hx; omega
  have E13 : Below w3a.heap.size w3a w13 := Only.chain E12 on13 hgm (Nat.le_refl _)
  have B13 : Below w.heap.size w w13 := Only.chain B12 on13 (fun x hx => by have := hgm x hx; have := B3a.size; omega) (Nat.le_refl _)
  have HG13 := hid o13
  have HR13 := hid (ownsRow_kept HR12.out (fun x hx => on13.block x (own_in HR12.out hx).2 (HAG.out x hx)))
  have kG13 := hid ((on13.block _ (Array.getElem?_eq_some_iff.1 kG12.out).1 (fun h => by have := HLTG.out _ h; omega)).trans kG12.out)
  have kW13 := hid ((on13.block _ (Array.getElem?_eq_some_iff.1 kW12.out).1 (fun h => by have := hgm _ h; omega)).trans kW12.out)
  clear p0 p1 p2 p3 o13 on13 HG12 HR12 kG12 kW12
  go_wp2_with fail
  refine (markByteS_any _ _ (1 + fT s.fields) _ _ w13 HR13.out (by omega) (by omega)).mono ?_
  rintro e w14 ⟨rfl, oR14, gr14⟩
  have hrw : ∀ p, (Value.slice arG R.length crG).ownBlock = some p → w4.heap.size ≤ p ∧ p < w5.heap.size := fun p hp => HLTR.out p hp
  have E14 := below_marked E13 gr14 (fun p hp => by have := hrw p hp; omega)
  have B14 := below_marked B13 gr14 (fun p hp => by have := hrw p hp; have := B3a.size; omega)
  have HG14 := hid (HG13.out.kept (fun x hx => gr14.block x (HG13.out.lt x hx) (fun e => HAG.out x e.symm hx)))
  have HR14 := hid oR14
  have kG14 := hid ((gr14.block _ (Array.getElem?_eq_some_iff.1 kG13.out).1 (fun e => by have := hrw _ e.symm; omega)).trans kG13.out)
  have kW14 := hid ((gr14.block _ (Array.getElem?_eq_some_iff.1 kW13.out).1 (fun e => by have := hrw _ e.symm; omega)).trans kW13.out)
  have HF14 : Hid (RdSl cField w14 (mkF 1 s.fields) (.slice aG s.fields.length cG)) := hid (by have h := HG14.out.f.rd; rw [mkF_len] at h; exact h)
  have HT14 : Hid (RdSl cSSS w14 s.dicts (.slice bG s.dicts.length dG)) := hid HG14.out.t.rd
  clear oR14 gr14 HG13 HR13 kG13 kW13 HG14
  have p0 := cell_of_row w14 _ 0 _ _ _ kG14.out
  have p1 := cell_of_row w14 _ 1 _ _ _ kG14.out
  have p2 := cell_of_row w14 _ 2 _ _ _ kG14.out
  have p3 := cell_of_row w14 _ 3 _ _ _ kG14.out
  simp only [List.getElem?_toArray, List.getElem?_cons_zero, List.getElem?_cons_succ] at p0 p1 p2 p3
  go_wp2_with fail
  refine (heldStream_any s nd HSD.out aG bG cG dG 1 w14 HF14.out HT14.out (by omega) hfsl hfs (by omega)).mono ?_
  rintro e w15 ⟨rfl, b15⟩
  have E15 := below_chain E14 b15
  have B15 := below_chain B14 b15
  have HR15 := hid (own_later HR14.out b15)
  have kW15 := hid ((b15.block _ (Array.getElem?_eq_some_iff.1 kW14.out).1).trans kW14.out)
  have hmn : ¬ (1 : Int) + ((fT s.fields : Nat) : Int) < 0 := by omega
  clear p0 p1 p2 p3 HR14 kG14 kW14 HF14 HT14 b15
  go_wp2_with fail
  refine (heldByteS_any _ _ _ (1 + fT s.fields) w15 (rd_at HR15.out) (by omega) (by omega)).mono ?_
  rintro e w16 ⟨rfl, b16⟩
  have E16 := below_chain E15 b16
  have B16 := below_chain B15 b16
  have kW16 := hid ((b16.block _ (Array.getElem?_eq_some_iff.1 kW15.out).1).trans kW15.out)
  clear HR15 kW15 b16
  have hmn2 : ¬ (1 : Int) + ((fT s.fields : Nat) : Int) + ((R.length : Nat) : Int) < 0 := by omega
  have hmq : ((1 : Int) + ((fT s.fields : Nat) : Int) + ((R.length : Nat) : Int) != (1 : Int) + ((fT s.fields : Nat) : Int) + ((R.length : Nat) : Int)) = false := by simp
  go_wp2_with fail
  refine (HTO.out w16 B16).mono ?_
  rintro e w17 ⟨a17, c17, bs17, rfl, o17, -, -, b17⟩
  have E17 := below_chain E16 b17
  have B17 := below_chain B16 b17
  have HRD17 := hid o17.rd
  have kW17 := hid ((b17.block _ (Array.getElem?_eq_some_iff.1 kW16.out).1).trans kW16.out)
  clear o17 b17 kW16
  go_wp2_with fail
  refine (HIM.out w17 a17 c17 HRD17.out).mono ?_
  rintro e w18 ⟨aH, cH, bH, dH, bsH, dsH, arH, crH, rfl, oH, oRH, -, -, -, b18⟩
  have E18 := below_chain E17 b18
  have B18 := below_chain B17 b18
  have nb18 := below_new1 w18 (.cells #[.bool s.opened, .slice aH s.fields.length cH, .int .i64 s.next, .slice bH s.dicts.length dH] 68)
  have HKH : Hid ((w18.alloc (.cells #[.bool s.opened, .slice aH s.fields.length cH, .int .i64 s.next, .slice bH s.dicts.length dH] 68)).heap[w18.heap.size]? = some (.cells #[.bool s.opened, .slice aH s.fields.length cH, .int .i64 s.next, .slice bH s.dicts.length dH] 68 (0, 0))) := hid (heap_alloc_new w18 _)
  have kW18 := hid (((below_chain b18 nb18).block _ (Array.getElem?_eq_some_iff.1 kW17.out).1).trans kW17.out)
  have E18a := below_chain E18 nb18
  have B18a := below_chain B18 nb18
  have HRH := hid (oH.rd.later nb18)
  have HRRH := hid (own_later oRH nb18)
  clear oH oRH b18 kW17 nb18
  have p0 := cell_of_row (w18.alloc (.cells #[.bool s.opened, .slice aH s.fields.length cH, .int .i64 s.next, .slice bH s.dicts.length dH] 68)) _ 0 _ _ _ HKH.out
  have p1 := cell_of_row (w18.alloc (.cells #[.bool s.opened, .slice aH s.fields.length cH, .int .i64 s.next, .slice bH s.dicts.length dH] 68)) _ 1 _ _ _ HKH.out
  have p2 := cell_of_row (w18.alloc (.cells #[.bool s.opened, .slice aH s.fields.length cH, .int .i64 s.next, .slice bH s.dicts.length dH] 68)) _ 2 _ _ _ HKH.out
  have p3 := cell_of_row (w18.alloc (.cells #[.bool s.opened, .slice aH s.fields.length cH, .int .i64 s.next, .slice bH s.dicts.length dH] 68)) _ 3 _ _ _ HKH.out
  simp only [List.getElem?_toArray, List.getElem?_cons_zero, List.getElem?_cons_succ] at p0 p1 p2 p3
  have q0 := cell_of_row (w18.alloc (.cells #[.bool s.opened, .slice aH s.fields.length cH, .int .i64 s.next, .slice bH s.dicts.length dH] 68)) _ 0 _ _ _ kW18.out
  have q1 := cell_of_row (w18.alloc (.cells #[.bool s.opened, .slice aH s.fields.length cH, .int .i64 s.next, .slice bH s.dicts.length dH] 68)) _ 1 _ _ _ kW18.out
  have q2 := cell_of_row (w18.alloc (.cells #[.bool s.opened, .slice aH s.fields.length cH, .int .i64 s.next, .slice bH s.dicts.length dH] 68)) _ 2 _ _ _ kW18.out
  have q3 := cell_of_row (w18.alloc (.cells #[.bool s.opened, .slice aH s.fields.length cH, .int .i64 s.next, .slice bH s.dicts.length dH] 68)) _ 3 _ _ _ kW18.out
  simp only [List.getElem?_toArray, List.getElem?_cons_zero, List.getElem?_cons_succ] at q0 q1 q2 q3
  go_wp2_with fail
  generalize (w18.alloc (.cells #[.bool s.opened, .slice aH s.fields.length cH, .int .i64 s.next, .slice bH s.dicts.length dH] 68)) = w18a at *
  refine (eqStream_any s aH bH aW bW cH dH cW dW w18a HRH.out (HRW.out.later (below_chain nb3 E18a)) hts).mono ?_
  rintro e w19 ⟨rfl, b19⟩
  have E19 := below_chain E18a b19
  have B19 := below_chain B18a b19
  have HRR19 := hid (own_later HRRH.out b19)
  clear p0 p1 p2 p3 q0 q1 q2 q3
  go_wp2_with fail
  refine (eqByteS_any _ _ _ _ _ R w19 (rd_at HRR19.out) (HRR.out.later (below_chain nb3 E19)).rdB.1 rfl (by omega)).mono ?_
  rintro e w20 ⟨rfl, b20⟩
  go_wp2
  go_ret
  exact ⟨rfl, below_chain B19 b20⟩
end Go.Proofs.Ytcljakdcejhfiad
