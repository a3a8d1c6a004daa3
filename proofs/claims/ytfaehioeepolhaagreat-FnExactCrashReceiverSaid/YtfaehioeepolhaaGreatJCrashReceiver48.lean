import Derived.Test.YtfaehioeepolhaaGreatJCrashReceiver10
import Derived.Test.YtfaehioeepolhaaGreatJCrashReceiver2
import Derived.Test.YtfaehioeepolhaaGreatJCrashReceiver13
namespace Go.Proofs.YtfaehioeepolhaaGreat
open Go.RowKit
def fT (xs : List PF) : Nat := (xs.map fun f : PF => f.name.length + 2).sum
theorem fT_snoc (xs : List PF) (k : Nat) (h : k < xs.length) : fT (xs.take (k + 1)) = fT (xs.take k) + (xs[k].name.length + 2) := sum_snoc (fun f : PF => f.name.length + 2) xs k h
theorem fT_take (xs : List PF) (k : Nat) : fT (xs.take k) ≤ fT xs := sum_take (fun f : PF => f.name.length + 2) xs k
theorem fT_le (xs : List PF) : fT xs = (xs.map fun f : PF => f.name.length).sum + 2 * xs.length := by
  unfold fT
  induction xs with
  | nil => rfl
  | cons x l ih => simp at ih ⊢; omega
def mkF1 (q n : Nat) : PF := ⟨mkByte q n, ((q + n : Nat) : Int), ((q + n + 1 : Nat) : Int)⟩
def mkF (m : Nat) (xs : List PF) : List PF := (List.range xs.length).map fun i => mkF1 (m + fT (xs.take i)) (xs[i]?.getD ⟨[], 0, 0⟩).name.length
theorem mkF_len (m : Nat) (xs : List PF) : (mkF m xs).length = xs.length := by simp [mkF]
theorem mkF_at (m : Nat) (xs : List PF) (k : Nat) (h : k < xs.length) : (mkF m xs)[k]'(by rw [mkF_len]; exact h) = mkF1 (m + fT (xs.take k)) xs[k].name.length := by simp [mkF, h]
def mixF (m : Nat) (xs : List PF) (k : Nat) : List PF := (mkF m xs).take k ++ xs.drop k
theorem mixF_len (m : Nat) (xs : List PF) (k : Nat) (hk : k ≤ xs.length) : (mixF m xs k).length = xs.length := by simp [mixF, mkF_len]; omega
theorem mixF_at (m : Nat) (xs : List PF) (k : Nat) (hk : k < xs.length) : (mixF m xs k)[k]'(by rw [mixF_len m xs k (by omega)]; exact hk) = xs[k] := by
  have h : ((mkF m xs).take k).length = k := by rw [List.length_take, mkF_len]; omega
  simp only [mixF]
  rw [List.getElem_append_right (by omega)]
  simp [h]
theorem mixF_succ (m : Nat) (xs : List PF) (k : Nat) (hk : k < xs.length) : (mixF m xs k).set k (mkF1 (m + fT (xs.take k)) xs[k].name.length) = mixF m xs (k + 1) := by
  have h : ((mkF m xs).take k).length = k := by rw [List.length_take, mkF_len]; omega
  have hd : xs.drop k = xs[k] :: xs.drop (k + 1) := List.drop_eq_getElem_cons hk
  unfold mixF
  rw [List.set_append_right _ _ (by omega), h, Nat.sub_self, hd, List.set_cons_zero, List.take_succ_eq_append_getElem (by rw [mkF_len]; exact hk), mkF_at m xs k hk, List.append_assoc]
  rfl
theorem OwnSl.setNums {w : World} {xs : List PF} {g n cap : Nat} {bs : List Nat} (h : OwnSl cField 98 w xs (.slice (some ⟨g, 0, none⟩) n cap) bs) (hnd : bs.Nodup) {k : Nat} (hk : k < xs.length) (p q : Int) (hp : IntIn p) (hq : IntIn q) :
    OwnSl cField 98 ((w.setCell ⟨g, k * 3 + 1, none⟩ (.int .i64 p)).setCell ⟨g, k * 3 + 2, none⟩ (.int .i64 q)) (xs.set k ⟨xs[k].name, p, q⟩) (.slice (some ⟨g, 0, none⟩) n cap) bs ∧ Only bs w ((w.setCell ⟨g, k * 3 + 1, none⟩ (.int .i64 p)).setCell ⟨g, k * 3 + 2, none⟩ (.int .i64 q)) := by
  rcases h with ⟨h0, _⟩ | ⟨g', cap', vs, bss, e, ho, hb, hbl, hi⟩
  · cases h0
  simp only [Value.slice.injEq, Option.some.injEq, Addr.mk.injEq, and_true] at e
  obtain ⟨rfl, rfl, rfl⟩ := e
  rw [show cField.n = 3 from rfl] at ho
  have hvl : vs.length = xs.length * 3 := ho.1
  have s1 := World.ownsRow.stored ho (k * 3 + 1) (.int .i64 p)
  have s2 := World.ownsRow.stored s1.1 (k * 3 + 2) (.int .i64 q)
  subst hb
  have hng := (List.nodup_cons.1 hnd).1
  have keep : ∀ j, j ≠ g → ((w.setCell ⟨g, k * 3 + 1, none⟩ (.int .i64 p)).setCell ⟨g, k * 3 + 2, none⟩ (.int .i64 q)).heap[j]? = w.heap[j]? := fun j hj => by
    rw [Below.heap_setCell _ _ _ _ hj, Below.heap_setCell _ _ _ _ hj]
  refine ⟨.inr ⟨g, cap, _, bss, by simp, by rw [show cField.n = 3 from rfl, List.length_set]; exact s2.1, rfl, by simpa using hbl, fun i h1 h2 => ?_⟩, ((Only.of_grown s1.2).trans (Only.of_grown s2.2)).mono (by simp)⟩
  have h1' : i < xs.length := by simpa using h1
  have hmem : ∀ b ∈ bss[i], b ≠ g := fun b hb e => hng (e ▸ List.mem_flatten.2 ⟨_, List.getElem_mem h2, hb⟩)
  have hown := cField.kept (hi i h1' h2) (w' := ((w.setCell ⟨g, k * 3 + 1, none⟩ (.int .i64 p)).setCell ⟨g, k * 3 + 2, none⟩ (.int .i64 q))) (fun b hb => keep b (hmem b hb))
  by_cases e : i = k
  · subst e
    rw [List.getElem_set_self]
    obtain ⟨u, hu, h3, _, _⟩ := cField_owned hown
    have hp0 : vs[i * 3]? = some u := by
      have := part_at (vs := vs) (n := 3) (i := i) (j := 0) (by omega)
      rw [show part vs 3 i = _ from hu] at this
      simpa using this.symm
    have hpart : part ((vs.set (i * 3 + 1) (.int .i64 p)).set (i * 3 + 2) (.int .i64 q)) cField.n i = [u, .int .i64 p, .int .i64 q] := by
      rw [show cField.n = 3 from rfl]
      apply List.ext_getElem?
      intro t
      by_cases ht : t < 3
      · rw [part_at ht]
        rcases (by omega : t = 0 ∨ t = 1 ∨ t = 2) with rfl | rfl | rfl
        · rw [List.getElem?_set_ne (by omega), List.getElem?_set_ne (by omega), Nat.add_zero, hp0]; rfl
        · rw [List.getElem?_set_ne (by omega), List.getElem?_set_self (by omega)]; rfl
        · rw [List.getElem?_set_self (by simp; omega)]; rfl
      · rw [List.getElem?_eq_none (by simp [part]; omega), List.getElem?_eq_none (by simp; omega)]
    rw [hpart]
    exact cField_own h3 hp hq
  · rw [List.getElem_set_ne (fun h => e h.symm)]
    have e1 := part_other (vs := vs) (n := 3) (i := i) (k := k) (j := 1) (u := .int .i64 p) (by omega) e
    have e2 := part_other (vs := vs.set (k * 3 + 1) (.int .i64 p)) (n := 3) (i := i) (k := k) (j := 2) (u := .int .i64 q) (by omega) e
    rw [show cField.n = 3 from rfl, e2, e1]
    exact hown
set_option maxHeartbeats 4000000 in
theorem markFieldS_any (v : Value) (xs : List PF) (bs : List Nat) (m : Nat) (w : World) (ho : OwnSl cField 98 w xs v bs) (hnd : bs.Nodup) (hn : xs.length ≤ 1048576) (ht : fT xs ≤ 4194304) (hm : m ≤ 1073741824) :
    Calls Tryz.prog 23 #[v, .int .i64 m] w fun e w' => e = .returned (.int .i64 ((m + fT xs : Nat) : Int)) ∧ OwnSl cField 98 w' (mkF m xs) v bs ∧ Only bs w w' := by
  obtain ⟨a, cap, rfl, -⟩ := id ho.rd
  have H0 : Hid (OwnSl cField 98 w (mixF m xs 0) (.slice a xs.length cap) bs) := hid (by simpa [mixF] using ho)
  have HND := hid hnd
  clear ho hnd
  go_enter Tryz.func23, Tryz.ntmps23
  go_wp2
  go_loopw [1, 5] (fun q i wr => ∃ k : Nat, k ≤ xs.length ∧ i = .int .i64 k ∧ q = .int .i64 ((m + fT (xs.take k) : Nat) : Int) ∧ OwnSl cField 98 wr (mixF m xs k) (.slice a xs.length cap) bs ∧ Only bs w wr) (fun _ i _ => xs.length - (intOf i).toNat)
  case atStart => exact ⟨0, Nat.zero_le _, rfl, by simp [fT], H0.out, Only.refl _ _⟩
  case round =>
    obtain ⟨k, hk, rfl, rfl, how, hon⟩ := hrel
    have HO := hid how
    have HON := hid hon
    clear how hon
    have hki0 := fT_take xs k
    by_cases hlt : k < xs.length
    · have hlt2 : k < (mixF m xs k).length := by rw [mixF_len m xs k hk]; exact hlt
      obtain ⟨g, cap2, cs, bk, hv, hc, hbn, hbm, hcell, hset⟩ := HO.out.focus HND.out hlt2
      simp only [Value.slice.injEq] at hv
      obtain ⟨rfl, -, rfl⟩ := hv
      rw [mixF_at m xs k hlt] at hc
      obtain ⟨u, rfl, hu, hik, hiw⟩ := cField_owned hc
      have hub := hu.bytes
      obtain ⟨au, cu, rfl, -⟩ := id hu.rd
      have q0 := hcell 0 (by decide)
      rw [show k * cField.n + 0 = k * 3 from by rw [show cField.n = 3 from rfl]; omega] at q0
      have HUB := hid hub
      have hki : (k : Int) < (xs.length : Int) := by omega
      have HTS := hid (fT_snoc xs k hlt)
      have hts2 := fT_take xs (k + 1)
      have HSU := hid (mixF_succ m xs k hlt)
      have HML := hid (mixF_len m xs k hk)
      have HLT2 := hid hlt2
      have HNX : Hid (∀ w2 (q : Nat), q = m + fT (xs.take k) → w2.ownsRow 0 5 1 (.slice au xs[k].name.length cu) xs[k].name.length (byt (mkByte q xs[k].name.length)) → wr.grownBy w2 (Value.slice au xs[k].name.length cu).ownBlock →
          (∃ y1 y2, w2.cell? ⟨g, k * 3 + 1, none⟩ = some y1 ∧ w2.cell? ⟨g, k * 3 + 2, none⟩ = some y2 ∧ w2.frozen? ⟨g, k * 3 + 1, none⟩ = false ∧ w2.frozen? ⟨g, k * 3 + 2, none⟩ = false) ∧
          OwnSl cField 98 ((w2.setCell ⟨g, k * 3 + 1, none⟩ (.int .i64 ((q + xs[k].name.length : Nat) : Int))).setCell ⟨g, k * 3 + 2, none⟩ (.int .i64 ((q + xs[k].name.length + 1 : Nat) : Int))) (mixF m xs (k + 1)) (.slice (some ⟨g, 0, none⟩) xs.length cap) bs ∧ Only bs wr ((w2.setCell ⟨g, k * 3 + 1, none⟩ (.int .i64 ((q + xs[k].name.length : Nat) : Int))).setCell ⟨g, k * 3 + 2, none⟩ (.int .i64 ((q + xs[k].name.length + 1 : Nat) : Int)))) := hid (fun w2 q hq o2 g2 => by
        have hbk : bk = (Value.slice au xs[k].name.length cu).ownBlock.toList := HUB.out.2.1
        have hon2 : Only bk wr w2 := by rw [hbk]; exact only_of_grown g2
        have hy : cField.own w2 ⟨mkByte q xs[k].name.length, xs[k].kind, xs[k].width⟩ [.slice au xs[k].name.length cu, .int .i64 xs[k].kind, .int .i64 xs[k].width] bk := cField_own (by rw [hbk]; exact ownSl_bytes o2 (mkByte_ok _ _)) hik hiw
        have h1 := hset w2 _ hy hon2
        have hkl : k < ((mixF m xs k).set k ⟨mkByte q xs[k].name.length, xs[k].kind, xs[k].width⟩).length := by rw [List.length_set]; exact HLT2.out
        have hqb : fT (xs.take k) ≤ 4194304 := by omega
        have hnb : xs[k].name.length ≤ 4194304 := by have := HTS.out; omega
        have h2 := h1.setNums HND.out hkl ((q + xs[k].name.length : Nat) : Int) ((q + xs[k].name.length + 1 : Nat) : Int) (by unfold IntIn; omega) (by unfold IntIn; omega)
        rw [List.set_set, List.getElem_set_self] at h2
        subst hq
        rw [← HSU.out]
        refine ⟨?_, h2.1, (hon2.mono hbm).trans h2.2⟩
        rcases h1 with ⟨h0, _⟩ | ⟨g', cap', vs, bss, e, hrow, _⟩
        · cases h0
        · simp only [Value.slice.injEq, Option.some.injEq, Addr.mk.injEq, and_true] at e
          obtain ⟨rfl, -, rfl⟩ := e
          rw [show cField.n = 3 from rfl, List.length_set, HML.out] at hrow
          have hvl : vs.length = xs.length * 3 := hrow.1
          have z1 := hrow.cellAt (k * 3 + 1) (by omega)
          have z2 := hrow.cellAt (k * 3 + 2) (by omega)
          rw [List.getElem?_eq_getElem (by omega)] at z1 z2
          exact ⟨_, _, z1, z2, hrow.frozenAt _, hrow.frozenAt _⟩)
      simp only [List.getElem?_cons_zero] at q0
      clear hset hcell hu hub hik hiw hc
      generalize hq : fT (xs.take k) = t at *
      go_wp2_with fail
      refine (markByteS_any 0 _ (m + t) _ _ wr HUB.out.1 (by have := HTS.out; omega) (by omega)).mono ?_
      rintro e w2 ⟨rfl, o2, g2⟩
      obtain ⟨⟨y1, y2, z1, z2, f1, f2⟩, hN, hO⟩ := HNX.out w2 (m + t) rfl o2 g2
      have HN := hid hN
      have HON2 := hid (HON.out.trans hO)
      clear hN hO o2 g2 HNX q0
      have hln : xs[k].name.length ≤ 4194304 := by have := HTS.out; omega
      generalize hL : xs[k].name.length = ln at *
      go_wp2
      go_roundw
      case rel =>
        refine ⟨k + 1, by omega, by go_num, by rw [HTS.out]; go_num, ?_, ?_⟩
        · have h := HN.out
          rw [show (((m + t + ln : Nat) : Int)) = (m : Int) + (t : Int) + (ln : Int) from by omega, show (((m + t + ln + 1 : Nat) : Int)) = (m : Int) + (t : Int) + (ln : Int) + 1 from by omega] at h
          exact h
        · have h := HON2.out
          rw [show (((m + t + ln : Nat) : Int)) = (m : Int) + (t : Int) + (ln : Int) from by omega, show (((m + t + ln + 1 : Nat) : Int)) = (m : Int) + (t : Int) + (ln : Int) + 1 from by omega] at h
          exact h
      case measure => simp [intOf]; omega
    · obtain rfl : k = xs.length := by omega
      have HF : Hid (OwnSl cField 98 wr (mkF m xs) (.slice a xs.length cap) bs) := hid (by
        have h := HO.out
        unfold mixF at h
        rwa [List.take_of_length_le (by rw [mkF_len]; exact Nat.le_refl _), List.drop_length, List.append_nil] at h)
      have HT : Hid (fT (xs.take xs.length) = fT xs) := hid (by rw [List.take_length])
      rw [HT.out]
      go_wp2
      go_ret
      exact ⟨rfl, HF.out, HON.out⟩
set_option maxHeartbeats 2000000 in
theorem heldFieldS_any (a : Option Addr) (cap : Nat) (xs : List PF) (m : Nat) (w : World) (hr : RdSl cField w (mkF m xs) (.slice a xs.length cap)) (hn : xs.length ≤ 1048576) (ht : fT xs ≤ 4194304) (hm : m ≤ 1073741824) :
    Calls Tryz.prog 71 #[.slice a xs.length cap, .int .i64 m] w fun e w' => e = .returned (.int .i64 ((m + fT xs : Nat) : Int)) ∧ Below w.heap.size w w' := by
  have HR := hid hr
  clear hr
  go_enter Tryz.func71, Tryz.ntmps71
  go_wp2
  go_loopw [1, 5] (fun q i wr => ∃ k : Nat, k ≤ xs.length ∧ i = .int .i64 k ∧ q = .int .i64 ((m + fT (xs.take k) : Nat) : Int) ∧ Below w.heap.size w wr) (fun _ i _ => xs.length - (intOf i).toNat)
  case atStart => exact ⟨0, Nat.zero_le _, rfl, by simp [fT], Below.refl _ _⟩
  case round =>
    obtain ⟨k, hk, rfl, rfl, hbe⟩ := hrel
    have HB := hid hbe
    clear hbe
    have hki0 := fT_take xs k
    by_cases hlt : k < xs.length
    · obtain ⟨b, off, x0, x1, x2, rfl, hes, d0, d1, d2⟩ := (HR.out.later HB.out).at3 rfl (k := k) (by rw [mkF_len]; exact hlt)
      rw [mkF_at m xs k hlt] at hes
      obtain ⟨vn, en, hnm, -, -⟩ := cField_rd hes
      simp only [List.cons.injEq, and_true] at en
      obtain ⟨rfl, rfl, rfl⟩ := en
      obtain ⟨an, cn, rfl, -, -, -, hrd, -⟩ := hnm.bytes
      have e1 : (mkF1 (m + fT (xs.take k)) xs[k].name.length).name = mkByte (m + fT (xs.take k)) xs[k].name.length := rfl
      have e2 : (mkF1 (m + fT (xs.take k)) xs[k].name.length).kind = ((m + fT (xs.take k) + xs[k].name.length : Nat) : Int) := rfl
      have e3 : (mkF1 (m + fT (xs.take k)) xs[k].name.length).width = ((m + fT (xs.take k) + xs[k].name.length + 1 : Nat) : Int) := rfl
      rw [e1, mkByte_length] at d0
      rw [e1] at hrd
      rw [e2] at d1
      rw [e3] at d2
      have HRD := hid hrd
      have hki : (k : Int) < (xs.length : Int) := by omega
      have HTS := hid (fT_snoc xs k hlt)
      have hts2 := fT_take xs (k + 1)
      have hln : xs[k].name.length ≤ 4194304 := by have := HTS.out; omega
      clear hes hnm hrd e1 e2 e3
      generalize fT (xs.take k) = t at *
      generalize xs[k].name.length = ln at *
      go_wp2_with fail
      refine (heldByteS_any an _ cn (m + t) wr HRD.out (by omega) (by omega)).mono ?_
      rintro e w2 ⟨rfl, b2⟩
      have HB2 := hid (HB.out.trans (b2.mono HB.out.size))
      have d1' := (b2.cell (World.block_lt_of_cell? _ _ d1)).trans d1
      have d2' := (b2.cell (World.block_lt_of_cell? _ _ d2)).trans d2
      have g1 : (((m : Int) + (t : Int) + (ln : Int)) != ((m : Int) + (t : Int) + (ln : Int))) = false := by simp
      have g2 : (((m : Int) + (t : Int) + (ln : Int) + 1) != ((m : Int) + (t : Int) + (ln : Int) + 1)) = false := by simp
      rw [show (((m + t + ln : Nat) : Int)) = (m : Int) + (t : Int) + (ln : Int) from by omega] at d1'
      rw [show (((m + t + ln + 1 : Nat) : Int)) = (m : Int) + (t : Int) + (ln : Int) + 1 from by omega] at d2'
      clear b2 d0 d1 d2
      go_wp2
      go_roundw
      case rel => exact ⟨k + 1, by omega, by go_num, by rw [HTS.out]; go_num, HB2.out⟩
      case measure => simp [intOf]; omega
    · obtain rfl : k = xs.length := by omega
      have HT : Hid (fT (xs.take xs.length) = fT xs) := hid (by rw [List.take_length])
      rw [HT.out]
      go_wp2
      go_ret
      exact ⟨rfl, HB.out⟩
end Go.Proofs.YtfaehioeepolhaaGreat
