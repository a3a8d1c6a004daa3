import Derived.Test.YtfaehioeepolhabGreatJCrashSender6
import Derived.Test.YtfaehioeepolhabGreatJCrashSender2
import Derived.Test.YtfaehioeepolhabGreatJCrashSender7
import Derived.Test.YtfaehioeepolhabGreatJCrashSender24
import Derived.Test.YtfaehioeepolhabGreatJCrashSender19
import Derived.Test.YtfaehioeepolhabGreatJCrashSender11
import Derived.Test.YtfaehioeepolhabGreatJCrashSender15
import Derived.Test.YtfaehioeepolhabGreatJCrashSender16
import Derived.Test.YtfaehioeepolhabGreatJCrashSender17
import Derived.Test.YtfaehioeepolhabGreatJCrashSender21
namespace Go.Proofs.YtfaehioeepolhabGreat
open Go.RowKit
def fT (xs : List PF) : Nat := (xs.map fun f : PF => f.name.length + 2).sum
theorem fT_snoc (xs : List PF) (k : Nat) (h : k < xs.length) : fT (xs.take (k + 1)) = fT (xs.take k) + (xs[k].name.length + 2) := sum_snoc (fun f : PF => f.name.length + 2) xs k h
theorem fT_take (xs : List PF) (k : Nat) : fT (xs.take k) ≤ fT xs := sum_take (fun f : PF => f.name.length + 2) xs k
theorem fT_le (xs : List PF) : fT xs = (xs.map fun f : PF => f.name.length).sum + 2 * xs.length := by
 unfold fT
 induction xs with
 | nil => rfl
 | cons x l ih => simp at ih ⊢; omega
def mkF1 (q n : Nat) : PF := ⟨mkByte q n, ((q + n : Nat) : Int), ((q + n + 1 : Nat) : Int)⟩
def mkF (m : Nat) (xs : List PF) : List PF := (List.range xs.length).map fun i => mkF1 (m + fT (xs.take i)) (xs[i]?.getD ⟨[], 0, 0⟩).name.length
theorem mkF_len (m : Nat) (xs : List PF) : (mkF m xs).length = xs.length := by simp [mkF]
theorem mkF_at (m : Nat) (xs : List PF) (k : Nat) (h : k < xs.length) : (mkF m xs)[k]'(by rw [mkF_len]; exact h) = mkF1 (m + fT (xs.take k)) xs[k].name.length := by simp [mkF, h]
def mixF (m : Nat) (xs : List PF) (k : Nat) : List PF := (mkF m xs).take k ++ xs.drop k
theorem mixF_len (m : Nat) (xs : List PF) (k : Nat) (hk : k ≤ xs.length) : (mixF m xs k).length = xs.length := by simp [mixF, mkF_len]; omega
theorem mixF_at (m : Nat) (xs : List PF) (k : Nat) (hk : k < xs.length) : (mixF m xs k)[k]'(by rw [mixF_len m xs k (by omega)]; exact hk) = xs[k] := by
 have h : ((mkF m xs).take k).length = k := by rw [List.length_take, mkF_len]; omega
 simp only [mixF]
 rw [List.getElem_append_right (by omega)]
 simp [h]
theorem mixF_succ (m : Nat) (xs : List PF) (k : Nat) (hk : k < xs.length) : (mixF m xs k).set k (mkF1 (m + fT (xs.take k)) xs[k].name.length) = mixF m xs (k + 1) := by
 have h : ((mkF m xs).take k).length = k := by rw [List.length_take, mkF_len]; omega
 have hd : xs.drop k = xs[k] :: xs.drop (k + 1) := List.drop_eq_getElem_cons hk
 unfold mixF
 rw [List.set_append_right _ _ (by omega), h, Nat.sub_self, hd, List.set_cons_zero, List.take_succ_eq_append_getElem (by rw [mkF_len]; exact hk), mkF_at m xs k hk, List.append_assoc]
 rfl
theorem OwnSl.setNums {w : World} {xs : List PF} {g n cap : Nat} {bs : List Nat} (h : OwnSl cField 101 w xs (.slice (some ⟨g, 0, none⟩) n cap) bs) (hnd : bs.Nodup) {k : Nat} (hk : k < xs.length) (p q : Int) (hp : IntIn p) (hq : IntIn q) :
  OwnSl cField 101 ((w.setCell ⟨g, k * 3 + 1, none⟩ (.int .i64 p)).setCell ⟨g, k * 3 + 2, none⟩ (.int .i64 q)) (xs.set k ⟨xs[k].name, p, q⟩) (.slice (some ⟨g, 0, none⟩) n cap) bs ∧ Only bs w ((w.setCell ⟨g, k * 3 + 1, none⟩ (.int .i64 p)).setCell ⟨g, k * 3 + 2, none⟩ (.int .i64 q)) := by
 rcases h with ⟨h0, _⟩ | ⟨g', cap', vs, bss, e, ho, hb, hbl, hi⟩
 ·cases h0
 simp only [Value.slice.injEq, Option.some.injEq, Addr.mk.injEq, and_true] at e
 obtain ⟨rfl, rfl, rfl⟩ := e
 rw [show cField.n = 3 from rfl] at ho
 have hvl : vs.length = xs.length * 3 := ho.1
 have s1 := World.ownsRow.stored ho (k * 3 + 1) (.int .i64 p)
 have s2 := World.ownsRow.stored s1.1 (k * 3 + 2) (.int .i64 q)
 subst hb
 have hng := (List.nodup_cons.1 hnd).1
 have keep : ∀ j, j ≠ g → ((w.setCell ⟨g, k * 3 + 1, none⟩ (.int .i64 p)).setCell ⟨g, k * 3 + 2, none⟩ (.int .i64 q)).heap[j]? = w.heap[j]? := fun j hj => by
  rw [Below.heap_setCell _ _ _ _ hj, Below.heap_setCell _ _ _ _ hj]
 refine ⟨.inr ⟨g, cap, _, bss, by simp, by rw [show cField.n = 3 from rfl, List.length_set]; exact s2.1, rfl, by simpa using hbl, fun i h1 h2 => ?_⟩, ((Only.of_grown s1.2).trans (Only.of_grown s2.2)).mono (by simp)⟩
 have h1' : i < xs.length := by simpa using h1
 have hmem : ∀ b ∈ bss[i], b ≠ g := fun b hb e => hng (e ▸ List.mem_flatten.2 ⟨_, List.getElem_mem h2, hb⟩)
 have hown := cField.kept (hi i h1' h2) (w' := ((w.setCell ⟨g, k * 3 + 1, none⟩ (.int .i64 p)).setCell ⟨g, k * 3 + 2, none⟩ (.int .i64 q))) (fun b hb => keep b (hmem b hb))
 by_cases e : i = k
 ·subst e
  rw [List.getElem_set_self]
  obtain ⟨u, hu, h3, _, _⟩ := cField_owned hown
  have hp0 : vs[i * 3]? = some u := by
   have := part_at (vs := vs) (n := 3) (i := i) (j := 0) (by omega)
   rw [show part vs 3 i = _ from hu] at this
   simpa using this.symm
  have hpart : part ((vs.set (i * 3 + 1) (.int .i64 p)).set (i * 3 + 2) (.int .i64 q)) cField.n i = [u, .int .i64 p, .int .i64 q] := by
   rw [show cField.n = 3 from rfl]
   apply List.ext_getElem?
   intro t
   by_cases ht : t < 3
   ·rw [part_at ht]
    rcases (by omega : t = 0 ∨ t = 1 ∨ t = 2) with rfl | rfl | rfl
    ·rw [List.getElem?_set_ne (by omega), List.getElem?_set_ne (by omega), Nat.add_zero, hp0]; rfl
    ·rw [List.getElem?_set_ne (by omega), List.getElem?_set_self (by omega)]; rfl
    ·rw [List.getElem?_set_self (by simp; omega)]; rfl
   ·rw [List.getElem?_eq_none (by simp [part]; omega), List.getElem?_eq_none (by simp; omega)]
  rw [hpart]
  exact cField_own h3 hp hq
 ·rw [List.getElem_set_ne (fun h => e h.symm)]
  have e1 := part_other (vs := vs) (n := 3) (i := i) (k := k) (j := 1) (u := .int .i64 p) (by omega) e
  have e2 := part_other (vs := vs.set (k * 3 + 1) (.int .i64 p)) (n := 3) (i := i) (k := k) (j := 2) (u := .int .i64 q) (by omega) e
  rw [show cField.n = 3 from rfl, e2, e1]
  exact hown
set_option maxHeartbeats 4000000 in
theorem markFieldS_any (v : Value) (xs : List PF) (bs : List Nat) (m : Nat) (w : World) (ho : OwnSl cField 101 w xs v bs) (hnd : bs.Nodup) (hn : xs.length ≤ 1048576) (ht : fT xs ≤ 4194304) (hm : m ≤ 1073741824) :
  Calls Tryz.prog 42 #[v, .int .i64 m] w fun e w' => e = .returned (.int .i64 ((m + fT xs : Nat) : Int)) ∧ OwnSl cField 101 w' (mkF m xs) v bs ∧ Only bs w w' := by
 obtain ⟨a, cap, rfl, -⟩ := id ho.rd
 have H0 : Hid (OwnSl cField 101 w (mixF m xs 0) (.slice a xs.length cap) bs) := hid (by simpa [mixF] using ho)
 have HND := hid hnd
 clear ho hnd
 go_enter Tryz.func42, Tryz.ntmps42
 go_wp2
 go_loopw [1, 5] (fun q i wr => ∃ k : Nat, k ≤ xs.length ∧ i = .int .i64 k ∧ q = .int .i64 ((m + fT (xs.take k) : Nat) : Int) ∧ OwnSl cField 101 wr (mixF m xs k) (.slice a xs.length cap) bs ∧ Only bs w wr) (fun _ i _ => xs.length - (intOf i).toNat)
 case atStart => exact ⟨0, Nat.zero_le _, rfl, by simp [fT], H0.out, Only.refl _ _⟩
 case round =>
  obtain ⟨k, hk, rfl, rfl, how, hon⟩ := hrel
  have HO := hid how
  have HON := hid hon
  clear how hon
  have hki0 := fT_take xs k
  by_cases hlt : k < xs.length
  ·have hlt2 : k < (mixF m xs k).length := by rw [mixF_len m xs k hk]; exact hlt
   obtain ⟨g, cap2, cs, bk, hv, hc, hbn, hbm, hcell, hset⟩ := HO.out.focus HND.out hlt2
   simp only [Value.slice.injEq] at hv
   obtain ⟨rfl, -, rfl⟩ := hv
   rw [mixF_at m xs k hlt] at hc
   obtain ⟨u, rfl, hu, hik, hiw⟩ := cField_owned hc
   have hub := hu.bytes
   obtain ⟨au, cu, rfl, -⟩ := id hu.rd
   have q0 := hcell 0 (by decide)
   rw [show k * cField.n + 0 = k * 3 from by rw [show cField.n = 3 from rfl]; omega] at q0
   have HUB := hid hub
   have hki : (k : Int) < (xs.length : Int) := by omega
   have HTS := hid (fT_snoc xs k hlt)
   have hts2 := fT_take xs (k + 1)
   have HSU := hid (mixF_succ m xs k hlt)
   have HML := hid (mixF_len m xs k hk)
   have HLT2 := hid hlt2
   have HNX : Hid (∀ w2 (q : Nat), q = m + fT (xs.take k) → w2.ownsRow 0 5 1 (.slice au xs[k].name.length cu) xs[k].name.length (byt (mkByte q xs[k].name.length)) → wr.grownBy w2 (Value.slice au xs[k].name.length cu).ownBlock →
     (∃ y1 y2, w2.cell? ⟨g, k * 3 + 1, none⟩ = some y1 ∧ w2.cell? ⟨g, k * 3 + 2, none⟩ = some y2 ∧ w2.frozen? ⟨g, k * 3 + 1, none⟩ = false ∧ w2.frozen? ⟨g, k * 3 + 2, none⟩ = false) ∧
     OwnSl cField 101 ((w2.setCell ⟨g, k * 3 + 1, none⟩ (.int .i64 ((q + xs[k].name.length : Nat) : Int))).setCell ⟨g, k * 3 + 2, none⟩ (.int .i64 ((q + xs[k].name.length + 1 : Nat) : Int))) (mixF m xs (k + 1)) (.slice (some ⟨g, 0, none⟩) xs.length cap) bs ∧ Only bs wr ((w2.setCell ⟨g, k * 3 + 1, none⟩ (.int .i64 ((q + xs[k].name.length : Nat) : Int))).setCell ⟨g, k * 3 + 2, none⟩ (.int .i64 ((q + xs[k].name.length + 1 : Nat) : Int)))) := hid (fun w2 q hq o2 g2 => by
    have hbk : bk = (Value.slice au xs[k].name.length cu).ownBlock.toList := HUB.out.2.1
    have hon2 : Only bk wr w2 := by rw [hbk]; exact only_of_grown g2
    have hy : cField.own w2 ⟨mkByte q xs[k].name.length, xs[k].kind, xs[k].width⟩ [.slice au xs[k].name.length cu, .int .i64 xs[k].kind, .int .i64 xs[k].width] bk := cField_own (by rw [hbk]; exact ownSl_bytes o2 (mkByte_ok _ _)) hik hiw
    have h1 := hset w2 _ hy hon2
    have hkl : k < ((mixF m xs k).set k ⟨mkByte q xs[k].name.length, xs[k].kind, xs[k].width⟩).length := by rw [List.length_set]; exact HLT2.out
    have hqb : fT (xs.take k) ≤ 4194304 := by omega
    have hnb : xs[k].name.length ≤ 4194304 := by have := HTS.out; omega
    have h2 := h1.setNums HND.out hkl ((q + xs[k].name.length : Nat) : Int) ((q + xs[k].name.length + 1 : Nat) : Int) (by unfold IntIn; omega) (by unfold IntIn; omega)
    rw [List.set_set, List.getElem_set_self] at h2
    subst hq
    rw [← HSU.out]
    refine ⟨?_, h2.1, (hon2.mono hbm).trans h2.2⟩
    rcases h1 with ⟨h0, _⟩ | ⟨g', cap', vs, bss, e, hrow, _⟩
    ·cases h0
    ·simp only [Value.slice.injEq, Option.some.injEq, Addr.mk.injEq, and_true] at e
     obtain ⟨rfl, -, rfl⟩ := e
     rw [show cField.n = 3 from rfl, List.length_set, HML.out] at hrow
     have hvl : vs.length = xs.length * 3 := hrow.1
     have z1 := hrow.cellAt (k * 3 + 1) (by omega)
     have z2 := hrow.cellAt (k * 3 + 2) (by omega)
     rw [List.getElem?_eq_getElem (by omega)] at z1 z2
     exact ⟨_, _, z1, z2, hrow.frozenAt _, hrow.frozenAt _⟩)
   simp only [gZ] at q0
   clear hset hcell hu hub hik hiw hc
   generalize hq : fT (xs.take k) = t at *
   go_wp2_with fail
   refine (markByteS_any 0 _ (m + t) _ _ wr HUB.out.1 (by have := HTS.out; omega) (by omega)).mono ?_
   rintro e w2 ⟨rfl, o2, g2⟩
   obtain ⟨⟨y1, y2, z1, z2, f1, f2⟩, hN, hO⟩ := HNX.out w2 (m + t) rfl o2 g2
   have HN := hid hN
   have HON2 := hid (HON.out.trans hO)
   clear hN hO o2 g2 HNX q0
   have hln : xs[k].name.length ≤ 4194304 := by have := HTS.out; omega
   generalize hL : xs[k].name.length = ln at *
   go_wp2
   go_roundw
   case rel =>
    refine ⟨k + 1, by omega, by go_num, by rw [HTS.out]; go_num, ?_, ?_⟩
    ·have h := HN.out
     rw [show (((m + t + ln : Nat) : Int)) = (m : Int) + (t : Int) + (ln : Int) from by omega, show (((m + t + ln + 1 : Nat) : Int)) = (m : Int) + (t : Int) + (ln : Int) + 1 from by omega] at h
     exact h
    ·have h := HON2.out
     rw [show (((m + t + ln : Nat) : Int)) = (m : Int) + (t : Int) + (ln : Int) from by omega, show (((m + t + ln + 1 : Nat) : Int)) = (m : Int) + (t : Int) + (ln : Int) + 1 from by omega] at h
     exact h
   case measure => simp [intOf]; omega
  ·obtain rfl : k = xs.length := by omega
   have HF : Hid (OwnSl cField 101 wr (mkF m xs) (.slice a xs.length cap) bs) := hid (by
    have h := HO.out
    unfold mixF at h
    rwa [List.take_of_length_le (by rw [mkF_len]; exact Nat.le_refl _), List.drop_length, List.append_nil] at h)
   have HT : Hid (fT (xs.take xs.length) = fT xs) := hid (by rw [List.take_length])
   rw [HT.out]
   go_wp2
   go_ret
   exact ⟨rfl, HF.out, HON.out⟩
set_option maxHeartbeats 2000000 in
theorem heldFieldS_any (a : Option Addr) (cap : Nat) (xs : List PF) (m : Nat) (w : World) (hr : RdSl cField w (mkF m xs) (.slice a xs.length cap)) (hn : xs.length ≤ 1048576) (ht : fT xs ≤ 4194304) (hm : m ≤ 1073741824) :
  Calls Tryz.prog 47 #[.slice a xs.length cap, .int .i64 m] w fun e w' => e = .returned (.int .i64 ((m + fT xs : Nat) : Int)) ∧ Below w.heap.size w w' := by
 have HR := hid hr
 clear hr
 go_enter Tryz.func47, Tryz.ntmps47
 go_wp2
 go_loopw [1, 5] (fun q i wr => ∃ k : Nat, k ≤ xs.length ∧ i = .int .i64 k ∧ q = .int .i64 ((m + fT (xs.take k) : Nat) : Int) ∧ Below w.heap.size w wr) (fun _ i _ => xs.length - (intOf i).toNat)
 case atStart => exact ⟨0, Nat.zero_le _, rfl, by simp [fT], Below.refl _ _⟩
 case round =>
  obtain ⟨k, hk, rfl, rfl, hbe⟩ := hrel
  have HB := hid hbe
  clear hbe
  have hki0 := fT_take xs k
  by_cases hlt : k < xs.length
  ·obtain ⟨b, off, x0, x1, x2, rfl, hes, d0, d1, d2⟩ := (HR.out.later HB.out).at3 rfl (k := k) (by rw [mkF_len]; exact hlt)
   rw [mkF_at m xs k hlt] at hes
   obtain ⟨vn, en, hnm, -, -⟩ := cField_rd hes
   simp only [List.cons.injEq, and_true] at en
   obtain ⟨rfl, rfl, rfl⟩ := en
   obtain ⟨an, cn, rfl, -, -, -, hrd, -⟩ := hnm.bytes
   have e1 : (mkF1 (m + fT (xs.take k)) xs[k].name.length).name = mkByte (m + fT (xs.take k)) xs[k].name.length := rfl
   have e2 : (mkF1 (m + fT (xs.take k)) xs[k].name.length).kind = ((m + fT (xs.take k) + xs[k].name.length : Nat) : Int) := rfl
   have e3 : (mkF1 (m + fT (xs.take k)) xs[k].name.length).width = ((m + fT (xs.take k) + xs[k].name.length + 1 : Nat) : Int) := rfl
   rw [e1, mkByte_length] at d0
   rw [e1] at hrd
   rw [e2] at d1
   rw [e3] at d2
   have HRD := hid hrd
   have hki : (k : Int) < (xs.length : Int) := by omega
   have HTS := hid (fT_snoc xs k hlt)
   have hts2 := fT_take xs (k + 1)
   have hln : xs[k].name.length ≤ 4194304 := by have := HTS.out; omega
   clear hes hnm hrd e1 e2 e3
   generalize fT (xs.take k) = t at *
   generalize xs[k].name.length = ln at *
   go_wp2_with fail
   refine (heldByteS_any an _ cn (m + t) wr HRD.out (by omega) (by omega)).mono ?_
   rintro e w2 ⟨rfl, b2⟩
   have HB2 := hid (HB.out.trans (b2.mono HB.out.size))
   have d1' := (b2.cell (World.block_lt_of_cell? _ _ d1)).trans d1
   have d2' := (b2.cell (World.block_lt_of_cell? _ _ d2)).trans d2
   have g1 : (((m : Int) + (t : Int) + (ln : Int)) != ((m : Int) + (t : Int) + (ln : Int))) = false := by simp
   have g2 : (((m : Int) + (t : Int) + (ln : Int) + 1) != ((m : Int) + (t : Int) + (ln : Int) + 1)) = false := by simp
   rw [show (((m + t + ln : Nat) : Int)) = (m : Int) + (t : Int) + (ln : Int) from by omega] at d1'
   rw [show (((m + t + ln + 1 : Nat) : Int)) = (m : Int) + (t : Int) + (ln : Int) + 1 from by omega] at d2'
   clear b2 d0 d1 d2
   go_wp2
   go_roundw
   case rel => exact ⟨k + 1, by omega, by go_num, by rw [HTS.out]; go_num, HB2.out⟩
   case measure => simp [intOf]; omega
  ·obtain rfl : k = xs.length := by omega
   have HT : Hid (fT (xs.take xs.length) = fT xs) := hid (by rw [List.take_length])
   rw [HT.out]
   go_wp2
   go_ret
   exact ⟨rfl, HB.out⟩
def bgR (fs : List PF) (epoch base : Int) (ts : List PT) : PSnd := ⟨fs, epoch, base, ts, 0, pushO ⟨epoch, 0, 0, []⟩ (startB fs base), startS fs base⟩
def zSnd : PSnd := ⟨[], 0, 0, [], 0, noOut, ⟨false, [], 0, []⟩⟩
theorem startB_len (fs : List PF) (next : Int) : (startB fs next).length ≤ 20000 := by
 cases h : startOK fs next with
 | false => unfold startB; rw [h]; simp
 | true =>
  have hf : fieldsOK fs = true := by unfold startOK at h; simp at h; exact h.1
  unfold startB
  rw [h]
  exact hdr_fits _ hf
theorem startB_lt (fs : List PF) (next : Int) (hb : ∀ f ∈ fs, ∀ x ∈ f.name, x < 256) : ∀ x ∈ startB fs next, x < 256 := by
 cases h : startOK fs next with
 | false => unfold startB; rw [h]; simp
 | true =>
  have hf : fieldsOK fs = true := by unfold startOK at h; simp at h; exact h.1
  obtain ⟨hl, hk⟩ := fieldsOK_bounds hf
  unfold startB
  rw [h]
  refine encM_lt (by omega) (by omega) (by rw [hdrB_len]; omega) ?_
  intro t ht
  rcases List.mem_cons.1 ht with rfl | ht
  ·exact digs_lt _ _
  ·obtain ⟨f, hf', rfl⟩ := List.mem_map.1 ht
   obtain ⟨k, hk', rfl⟩ := List.getElem_of_mem hf'
   have h2 := hk k hk'
   intro x hx
   rcases List.mem_cons.1 hx with rfl | hx
   ·omega
   ·rcases List.mem_cons.1 hx with rfl | hx
    ·omega
    ·exact hb _ hf' x hx
theorem fld_small {fs : List PF} (h : fieldsOK fs = true) : totL fN fs ≤ 252 := by
 obtain ⟨hl, hb⟩ := fieldsOK_bounds h
 have h1 := sum_le_mul fN 20 fs (fun f hf => by
  obtain ⟨k, hk, rfl⟩ := List.getElem_of_mem hf
  exact (hb k hk).2.1)
 unfold totL
 omega
theorem startS_tot {fs : List PF} (next : Int) (h : fieldsOK fs = true) : tStr (startS fs next) ≤ 264 := by
 obtain ⟨hl, -⟩ := fieldsOK_bounds h
 have h1 := fld_small h
 unfold startS
 split
 ·have hd : totL tS (List.replicate fs.length ([] : List (List Nat))) = fs.length := by simp [totL, tS]
  show totL fN fs + totL tS (List.replicate fs.length []) ≤ 264
  rw [hd]
  omega
 ·simp [tStr, totL]
theorem push0_tot (e : Int) (H : List Nat) (hl : H.length ≤ 20000) : totL wN (pushO ⟨e, 0, 0, []⟩ H).wait ≤ 20200 := by
 unfold pushO
 split
 ·split
  ·simp [totL]
  ·split
   ·simp [totL]
   ·have h1 := sum_le_mul wN 100 (pushK ⟨e, 0, 0, []⟩ H (nPc H)) (fun s hs => by
     rcases List.mem_append.1 hs with hs | hs
     ·simp at hs
     ·obtain ⟨i, _, rfl⟩ := List.mem_map.1 hs
      have := pcs_len H i
      show (pcs H i).length ≤ 100
      omega)
    have h2 := pushK_len ⟨e, 0, 0, []⟩ H (nPc H)
    have h3 : nPc H ≤ 200 := by unfold nPc; omega
    simp only [List.length_nil] at h2
    unfold totL
    show (pushK ⟨e, 0, 0, []⟩ H (nPc H)).length + ((pushK ⟨e, 0, 0, []⟩ H (nPc H)).map wN).sum ≤ 20200
    omega
 ·simp [noOut, totL]
def fcTsB (lo : Nat) (ts : List PT) : Fct := ⟨fun v w => RowT tkTable 51 lo w v ts, fun _ _ _ h hb => h.later hb⟩
abbrev cellsB (fs : List PF) (ts : List PT) (ep bs : Int) (ov sv : List Value) (a0 : Option Addr) (c0 : Nat) (a3 : Option Addr) (c3 : Nat) : Array Value := (([.slice a0 fs.length c0, .int .i64 ep, .int .i64 bs, .slice a3 ts.length c3, .int .i64 0] : List Value) ++ ov ++ sv).toArray
def fcAgB (lo : Nat) (fs : List PF) (ts : List PT) (ep bs : Int) (ov sv : List Value) : Fct := ⟨fun v w => ∃ a0 c0 a3 c3, v = .agg (cellsB fs ts ep bs ov sv a0 c0 a3 c3) ∧ FRow lo w (.slice a0 fs.length c0) fs ∧ RowT tkTable 51 lo w (.slice a3 ts.length c3) ts, fun _ _ _ ⟨a0, c0, a3, c3, e, h1, h2⟩ hb => ⟨a0, c0, a3, c3, e, h1.later hb, h2.later hb⟩⟩
def fcBxB (W : World) (lo gR : Nat) (fs : List PF) (ts : List PT) (ep bs : Int) (ov sv : List Value) : Fct := ⟨fun _ w => W.heap.size ≤ w.heap.size ∧ (∀ k, k ≠ gR → k < W.heap.size → w.heap[k]? = W.heap[k]?) ∧ ∃ a0 c0 a3 c3, w.heap[gR]? = some (.cells (cellsB fs ts ep bs ov sv a0 c0 a3 c3) 45 (0, 0)) ∧ FRow lo w (.slice a0 fs.length c0) fs ∧ RowT tkTable 51 lo w (.slice a3 ts.length c3) ts, fun _ _ _ ⟨h0, hk, a0, c0, a3, c3, e, h1, h2⟩ hb => ⟨Nat.le_trans h0 hb.size, fun k h1 h2 => (hb.block k (Nat.lt_of_lt_of_le h2 h0)).trans (hk k h1 h2), a0, c0, a3, c3, (hb.block _ (Array.getElem?_eq_some_iff.1 e).1).trans e, h1.later hb, h2.later hb⟩⟩
set_option linter.unusedVariables false in
def lbgT (W : World) (lo gR : Nat) (fs : List PF) (ts : List PT) (ep bs : Int) (a : Option Addr) (c : Nat) (a3 : Option Addr) (c3 : Nat) (ov sv : List Value) : Nat → FX
 | 0 => FX.eq (.slice a fs.length c)
 | 1 => FX.pre [9] (fcRow lo fs)
 | 2 => FX.eq (.int .i64 ep)
 | 3 => FX.eq (.int .i64 bs)
 | 4 => FX.eq (.slice a3 ts.length c3)
 | 5 => FX.pre [9] (fcTsB lo ts)
 | 6 => FX.eq (.agg ov.toArray)
 | 7 => FX.eq (.agg sv.toArray)
 | 8 => FX.pre [9] (fcAgB lo fs ts ep bs ov sv)
 | 9 => FX.is (fcBxB W lo gR fs ts ep bs ov sv)
 | _ => FX.eq undef
set_option maxRecDepth 100000 in
set_option maxHeartbeats 8000000 in
theorem l6begin2_any (a : Option Addr) (c : Nat) (fs : List PF) (ep bs : Int) (a3 : Option Addr) (c3 : Nat) (ts : List PT) (w : World) (hr : RdSl cField w fs (.slice a fs.length c)) (ht : totL (fun f : PF => f.name.length) fs ≤ 1048576) (hrt : RdSl cTable w ts (.slice a3 ts.length c3)) (htt : totL totT ts ≤ 1048576) (hbs : IntIn bs) :
  Calls Tryz.prog 51 #[.slice a fs.length c, .int .i64 ep, .int .i64 bs, .slice a3 ts.length c3] w fun e w' => ∃ a0x c0x a3x c3x a1x c1x a2x c2x b2x d2x, e = .returned (.agg #[.slice a0x (bgR fs ep bs ts).fields.length c0x, .int .i64 (bgR fs ep bs ts).epoch, .int .i64 (bgR fs ep bs ts).base, .slice a3x (bgR fs ep bs ts).tables.length c3x, .int .i64 (bgR fs ep bs ts).pushed, .int .i64 (bgR fs ep bs ts).out.epoch, .int .i64 (bgR fs ep bs ts).out.next, .int .i64 (bgR fs ep bs ts).out.now, .slice a1x (bgR fs ep bs ts).out.wait.length c1x, .bool (bgR fs ep bs ts).str.opened, .slice a2x (bgR fs ep bs ts).str.fields.length c2x, .int .i64 (bgR fs ep bs ts).str.next, .slice b2x (bgR fs ep bs ts).str.dicts.length d2x]) ∧ (∀ W : World, (∀ x, w.heap.size ≤ x → x < w'.heap.size → W.heap[x]? = w'.heap[x]?) → RdSnd W (bgR fs ep bs ts) a0x c0x a3x c3x a1x c1x a2x c2x b2x d2x) ∧ Below w.heap.size w w' := by
 have HRF := hid hr
 have HRT := hid hrt
 clear hr hrt
 obtain ⟨S, hS⟩ : ∃ S : PStr, S = startS fs bs := ⟨_, rfl⟩
 obtain ⟨H, hH⟩ : ∃ H : List Nat, H = startB fs bs := ⟨_, rfl⟩
 obtain ⟨C, hC⟩ : ∃ C : Int, C = startC fs bs := ⟨_, rfl⟩
 obtain ⟨O, hO⟩ : ∃ O : PO, O = pushO ⟨ep, 0, 0, []⟩ H := ⟨_, rfl⟩
 obtain ⟨K, hK⟩ : ∃ K : Int, K = pushC ⟨ep, 0, 0, []⟩ H := ⟨_, rfl⟩
 have hHl : H.length ≤ 1048576 := by rw [hH]; exact Nat.le_trans (startB_len fs bs) (by decide)
 have HSS := hid (fun (w' : World) h => specStart2_any a c fs bs w' h ht hbs)
 have HPS := hid (fun (am : Option Addr) (cm : Nat) (w' : World) h => specPush2_any ⟨ep, 0, 0, []⟩ none 0 H am cm w' (RdSl.empty none) h hHl (by simp [totL]))
 have HPE : Hid (bgR fs ep bs ts = ⟨fs, ep, bs, ts, 0, O, S⟩) := hid (by rw [hO, hS, hH]; rfl)
 rw [← hS, ← hH, ← hC] at HSS
 rw [← hO, ← hK] at HPS
 clear hS hH hC hO hK
 have HL0 : Hid ((w.alloc (.cells #[.slice none 0 0, .int .i64 0, .int .i64 0, .slice none 0 0, .int .i64 0, .int .i64 0, .int .i64 0, .int .i64 0, .slice none 0 0, .bool false, .slice none 0 0, .int .i64 0, .slice none 0 0] 45)).heap[w.heap.size]? = some (.cells #[.slice none 0 0, .int .i64 0, .int .i64 0, .slice none 0 0, .int .i64 0, .int .i64 0, .int .i64 0, .int .i64 0, .slice none 0 0, .bool false, .slice none 0 0, .int .i64 0, .slice none 0 0] 45 (0, 0))) := hid (heap_alloc_new w _)
 have HB0 := hid (bN w (.cells #[.slice none 0 0, .int .i64 0, .int .i64 0, .slice none 0 0, .int .i64 0, .int .i64 0, .int .i64 0, .int .i64 0, .slice none 0 0, .bool false, .slice none 0 0, .int .i64 0, .slice none 0 0] 45))
 have HSZ : Hid ((w.alloc (.cells #[.slice none 0 0, .int .i64 0, .int .i64 0, .slice none 0 0, .int .i64 0, .int .i64 0, .int .i64 0, .int .i64 0, .slice none 0 0, .bool false, .slice none 0 0, .int .i64 0, .slice none 0 0] 45)).heap.size = w.heap.size + 1) := hid (by simp)
 go_enter Tryz.func51, Tryz.ntmps51
 go_upto_region 1 with fail
 generalize (w.alloc (.cells #[.slice none 0 0, .int .i64 0, .int .i64 0, .slice none 0 0, .int .i64 0, .int .i64 0, .int .i64 0, .int .i64 0, .slice none 0 0, .bool false, .slice none 0 0, .int .i64 0, .slice none 0 0] 45)) = W0 at *
 go_wp2_with fail
 refine (HSS.out W0 (HRF.out.later HB0.out)).mono ?_
 rintro e w1 ⟨a2x, c2x, b2x, d2x, ar, cr, rfl, rob1, bl1⟩
 have hb2 := bN w1 (.cells #[.bool S.opened, .slice a2x S.fields.length c2x, .int .i64 S.next, .slice b2x S.dicts.length d2x] 43)
 have HGS2 : Hid ((w1.alloc (.cells #[.bool S.opened, .slice a2x S.fields.length c2x, .int .i64 S.next, .slice b2x S.dicts.length d2x] 43)).heap[w1.heap.size]? = some (.cells #[.bool S.opened, .slice a2x S.fields.length c2x, .int .i64 S.next, .slice b2x S.dicts.length d2x] 43 (0, 0))) := hid (heap_alloc_new w1 _)
 have F02 := bC bl1 hb2
 have HRH := hid (rob1 (w1.alloc (.cells #[.bool S.opened, .slice a2x S.fields.length c2x, .int .i64 S.next, .slice b2x S.dicts.length d2x] 43)) (fun x _ h2 => hb2.block x h2)).2
 have HROB := hid rob1
 have hs1 := bl1.size
 have HB12 := hid hb2
 clear rob1 bl1 hb2
 go_upto_region 2 with fail
 generalize (w1.alloc (.cells #[.bool S.opened, .slice a2x S.fields.length c2x, .int .i64 S.next, .slice b2x S.dicts.length d2x] 43)) = W2 at *
 go_wp2_with fail
 refine (HPS.out ar cr W2 HRH.out).mono ?_
 rintro e w4 ⟨a1x, c1x, rfl, rob4, bl4⟩
 have hb5 := bN w4 (.cells #[.int .i64 O.epoch, .int .i64 O.next, .int .i64 O.now, .slice a1x O.wait.length c1x] 41)
 have HGO : Hid ((w4.alloc (.cells #[.int .i64 O.epoch, .int .i64 O.next, .int .i64 O.now, .slice a1x O.wait.length c1x] 41)).heap[w4.heap.size]? = some (.cells #[.int .i64 O.epoch, .int .i64 O.next, .int .i64 O.now, .slice a1x O.wait.length c1x] 41 (0, 0))) := hid (heap_alloc_new w4 _)
 have F25 := bC bl4 hb5
 have HGS := hid (boxSd HGS2.out F25)
 have HL5 := hid (boxSd HL0.out (bC F02 F25))
 have HB5 := hid (bC HB0.out (bC F02 F25))
 have HRS : Hid (∀ wx : World, (∀ b, W0.heap.size ≤ b → b < (w4.alloc (.cells #[.int .i64 O.epoch, .int .i64 O.next, .int .i64 O.now, .slice a1x O.wait.length c1x] 41)).heap.size → wx.heap[b]? = (w4.alloc (.cells #[.int .i64 O.epoch, .int .i64 O.next, .int .i64 O.now, .slice a1x O.wait.length c1x] 41)).heap[b]?) → RdSl cSnt wx O.wait (.slice a1x O.wait.length c1x) ∧ RdStr wx S a2x c2x b2x d2x) := hid (fun wx hk => by
  have h5 := hb5.size
  have h4 := bl4.size
  have h2 := HB12.out.size
  refine ⟨rob4 wx (fun x h1 h2 => (hk x (by omega) (by omega)).trans (hb5.block x h2)), (HROB.out wx (fun x h1 h2 => ?_)).1⟩
  exact (hk x h1 (by omega)).trans ((F25.block x (by omega)).trans (HB12.out.block x h2)))
 have hsz := HSZ.out
 clear rob4 bl4 hb5 F25 F02 HGS2
 go_upto_region 3 with fail
 generalize (w4.alloc (.cells #[.int .i64 O.epoch, .int .i64 O.next, .int .i64 O.now, .slice a1x O.wait.length c1x] 41)) = W5 at *
 have HG1 : Hid (w.heap.size < W5.heap.size) := hid (Array.getElem?_eq_some_iff.1 HL5.out).1
 refine region_turns (n := 10) (by kernel_rfl) (by kernel_rfl) ?_ (fun t => { tmps := #[.slice a fs.length c, .int .i64 ep, .int .i64 bs, .slice a3 ts.length c3, undef, undef, undef, undef, .pointer (some ⟨w.heap.size, 0, none⟩), .pointer (some ⟨w1.heap.size, 0, none⟩), .slice ar H.length cr, .int .i64 C, .pointer (some ⟨w4.heap.size, 0, none⟩), .int .i64 K, .tuple #[.agg #[.bool S.opened, .slice a2x S.fields.length c2x, .int .i64 S.next, .slice b2x S.dicts.length d2x], .slice ar H.length cr, .int .i64 C], .slice a fs.length c, .int .i64 bs, .tuple #[.agg #[.bool S.opened, .slice a2x S.fields.length c2x, .int .i64 S.next, .slice b2x S.dicts.length d2x], .slice ar H.length cr, .int .i64 C], .agg #[.bool S.opened, .slice a2x S.fields.length c2x, .int .i64 S.next, .slice b2x S.dicts.length d2x], .slice ar H.length cr, .int .i64 C, .tuple #[.agg #[.int .i64 O.epoch, .int .i64 O.next, .int .i64 O.now, .slice a1x O.wait.length c1x], .int .i64 K], .int .i64 ep, .agg #[.int .i64 ep, .int .i64 0, .int .i64 0, .slice none 0 0], .slice ar H.length cr, .tuple #[.agg #[.int .i64 O.epoch, .int .i64 O.next, .int .i64 O.now, .slice a1x O.wait.length c1x], .int .i64 K], .agg #[.int .i64 O.epoch, .int .i64 O.next, .int .i64 O.now, .slice a1x O.wait.length c1x], .int .i64 K, t 0, t 1, t 2, t 3, t 4, t 5, t 6, t 7, t 8], defers := [] }) (lbgT W5 W5.heap.size w.heap.size fs ts ep bs a c a3 c3 [.int .i64 O.epoch, .int .i64 O.next, .int .i64 O.now, .slice a1x O.wait.length c1x] [.bool S.opened, .slice a2x S.fields.length c2x, .int .i64 S.next, .slice b2x S.dicts.length d2x]) [9] (fcSame4 W5) w W5 (fun k => if k = 1 then [9] else if k = 5 then [9] else if k = 8 then [9] else []) (fun k => !(k == 1 || k == 5 || k == 8 || k == 9)) (by kernel_rfl) (fun j hj => by rcases (by omega : j = 0 ∨ j = 1 ∨ j = 2 ∨ j = 3 ∨ j = 4 ∨ j = 5 ∨ j = 6 ∨ j = 7 ∨ j = 8 ∨ j = 9) with rfl | rfl | rfl | rfl | rfl | rfl | rfl | rfl | rfl | rfl <;> rfl) (fun j hj hp => by rcases (by omega : j = 0 ∨ j = 1 ∨ j = 2 ∨ j = 3 ∨ j = 4 ∨ j = 5 ∨ j = 6 ∨ j = 7 ∨ j = 8 ∨ j = 9) with rfl | rfl | rfl | rfl | rfl | rfl | rfl | rfl | rfl | rfl <;> first | rfl | (exact absurd hp (by decide))) (fun j => ([undef, undef, undef, undef, undef, undef, undef, undef, undef, undef] : List Value).getD j undef) HB5.out (Below.refl _ _) ?_ ?_
 ·rfl
 ·intro i hi x t wx hxi hsh h0 hbx hgx hdp hall
  rcases (by omega : i = 0 ∨ i = 1 ∨ i = 2 ∨ i = 3 ∨ i = 4 ∨ i = 5 ∨ i = 6 ∨ i = 7 ∨ i = 8 ∨ i = 9) with rfl | rfl | rfl | rfl | rfl | rfl | rfl | rfl | rfl | rfl
  ·
   try dsimp only
   clear h0
   refine wpOp_step rfl (fun K' hK => ?_)
   go_simp
   exact hK _ _ ⟨.slice a fs.length c, (by simp [upd]), FX.eq_mk rfl, fun _ => Below.refl _ _, hbx⟩
  ·
   try dsimp only
   have x0 := depX hdp 0 (by kernel_rfl)
   have d0 := hall 0 (by omega) x0
   have e0 : t 0 = .slice a fs.length c := d0.1
   rw [e0]
   have y9 := notYet hsh hxi 9 (by kernel_rfl)
   have hz : Below W5.heap.size W5 wx := hgx (by simp [y9])
   have hsz := hz.size
   clear h0
   refine wpOp_step rfl (fun K' hK => ?_)
   go_simp
   refine (l4fields_any a c fs wx ((HRF.out.later HB5.out).later hz) ht).mono ?_
   rintro e w2 ⟨v2, rfl, o2, b2⟩
   exact hK _ _ ⟨v2, (by simp [upd, e0]), FX.pre_mk (frow_mono o2 hsz), fun _ => b2, bC hbx b2⟩
  ·
   try dsimp only
   clear h0
   refine wpOp_step rfl (fun K' hK => ?_)
   go_simp
   exact hK _ _ ⟨.int .i64 ep, (by simp [upd]), FX.eq_mk rfl, fun _ => Below.refl _ _, hbx⟩
  ·
   try dsimp only
   clear h0
   refine wpOp_step rfl (fun K' hK => ?_)
   go_simp
   exact hK _ _ ⟨.int .i64 bs, (by simp [upd]), FX.eq_mk rfl, fun _ => Below.refl _ _, hbx⟩
  ·
   try dsimp only
   clear h0
   refine wpOp_step rfl (fun K' hK => ?_)
   go_simp
   exact hK _ _ ⟨.slice a3 ts.length c3, (by simp [upd]), FX.eq_mk rfl, fun _ => Below.refl _ _, hbx⟩
  ·
   try dsimp only
   have x4 := depX hdp 4 (by kernel_rfl)
   have d4 := hall 4 (by omega) x4
   have e4 : t 4 = .slice a3 ts.length c3 := d4.1
   rw [e4]
   have y9 := notYet hsh hxi 9 (by kernel_rfl)
   have hz : Below W5.heap.size W5 wx := hgx (by simp [y9])
   have hsz := hz.size
   clear h0
   refine wpOp_step rfl (fun K' hK => ?_)
   go_simp
   refine (l6tables_any a3 c3 ts wx ((HRT.out.later HB5.out).later hz) htt).mono ?_
   rintro e w2 ⟨v2, rfl, o2, b2⟩
   exact hK _ _ ⟨v2, (by simp [upd, e4]), FX.pre_mk (o2.mono hsz), fun _ => b2, bC hbx b2⟩
  ·
   try dsimp only
   have y9 := notYet hsh hxi 9 (by kernel_rfl)
   have hz : Below W5.heap.size W5 wx := hgx (by simp [y9])
   have hbo := (hz.block _ (Array.getElem?_eq_some_iff.1 HGO.out).1).trans HGO.out
   have k0 := cR wx _ 0 _ _ _ hbo
   have k1 := cR wx _ 1 _ _ _ hbo
   have k2 := cR wx _ 2 _ _ _ hbo
   have k3 := cR wx _ 3 _ _ _ hbo
   simp only [gA, gZ, gU] at k0 k1 k2 k3
   clear hbo y9 hz
   clear h0
   refine wpOp_step rfl (fun K' hK => ?_)
   go_simp
   exact hK _ _ ⟨.agg #[.int .i64 O.epoch, .int .i64 O.next, .int .i64 O.now, .slice a1x O.wait.length c1x], (by simp [upd]), FX.eq_mk rfl, fun _ => Below.refl _ _, hbx⟩
  ·
   try dsimp only
   have y9 := notYet hsh hxi 9 (by kernel_rfl)
   have hz : Below W5.heap.size W5 wx := hgx (by simp [y9])
   have hbo := (hz.block _ (Array.getElem?_eq_some_iff.1 HGS.out).1).trans HGS.out
   have k0 := cR wx _ 0 _ _ _ hbo
   have k1 := cR wx _ 1 _ _ _ hbo
   have k2 := cR wx _ 2 _ _ _ hbo
   have k3 := cR wx _ 3 _ _ _ hbo
   simp only [gA, gZ, gU] at k0 k1 k2 k3
   clear hbo y9 hz
   clear h0
   refine wpOp_step rfl (fun K' hK => ?_)
   go_simp
   exact hK _ _ ⟨.agg #[.bool S.opened, .slice a2x S.fields.length c2x, .int .i64 S.next, .slice b2x S.dicts.length d2x], (by simp [upd]), FX.eq_mk rfl, fun _ => Below.refl _ _, hbx⟩
  ·
   try dsimp only
   have x1 := depX hdp 1 (by kernel_rfl)
   have d1 := hall 1 (by omega) x1
   have x2 := depX hdp 2 (by kernel_rfl)
   have d2 := hall 2 (by omega) x2
   have e2 : t 2 = .int .i64 ep := d2.1
   have x3 := depX hdp 3 (by kernel_rfl)
   have d3 := hall 3 (by omega) x3
   have e3 : t 3 = .int .i64 bs := d3.1
   have x5 := depX hdp 5 (by kernel_rfl)
   have d5 := hall 5 (by omega) x5
   have x6 := depX hdp 6 (by kernel_rfl)
   have d6 := hall 6 (by omega) x6
   have e6 : t 6 = .agg #[.int .i64 O.epoch, .int .i64 O.next, .int .i64 O.now, .slice a1x O.wait.length c1x] := d6.1
   have x7 := depX hdp 7 (by kernel_rfl)
   have d7 := hall 7 (by omega) x7
   have e7 : t 7 = .agg #[.bool S.opened, .slice a2x S.fields.length c2x, .int .i64 S.next, .slice b2x S.dicts.length d2x] := d7.1
   rw [e2, e3, e6, e7]
   have y9 := notYet hsh hxi 9 (by kernel_rfl)
   have o1 : FRow W5.heap.size wx (t 1) fs := FX.pre_of d1 y9
   obtain ⟨a0x, c0x, f1⟩ := o1.slice
   have o5 : RowT tkTable 51 W5.heap.size wx (t 5) ts := FX.pre_of d5 y9
   obtain ⟨a3x, c3x, f5⟩ := o5.slice
   rw [f1] at o1
   rw [f5] at o5
   rw [f1, f5]
   clear y9
   clear h0
   refine wpOp_step rfl (fun K' hK => ?_)
   go_simp
   exact hK _ _ ⟨.agg #[.slice a0x fs.length c0x, .int .i64 ep, .int .i64 bs, .slice a3x ts.length c3x, .int .i64 0, .int .i64 O.epoch, .int .i64 O.next, .int .i64 O.now, .slice a1x O.wait.length c1x, .bool S.opened, .slice a2x S.fields.length c2x, .int .i64 S.next, .slice b2x S.dicts.length d2x], (by simp [upd, f1, f5, e2, e3, e6, e7]), FX.pre_mk ⟨a0x, c0x, a3x, c3x, rfl, o1, o5⟩, fun _ => Below.refl _ _, hbx⟩
  ·
   try dsimp only
   have x8 := depX hdp 8 (by kernel_rfl)
   have d8 := hall 8 (by omega) x8
   obtain ⟨a0x, c0x, a3x, c3x, eb, o1, o5⟩ : (fcAgB W5.heap.size fs ts ep bs [.int .i64 O.epoch, .int .i64 O.next, .int .i64 O.now, .slice a1x O.wait.length c1x] [.bool S.opened, .slice a2x S.fields.length c2x, .int .i64 S.next, .slice b2x S.dicts.length d2x]).p (t 8) wx := FX.pre_of d8 hxi
   have hz : Below W5.heap.size W5 wx := hgx (by simp [hxi])
   have eb' : t 8 = .agg #[.slice a0x fs.length c0x, .int .i64 ep, .int .i64 bs, .slice a3x ts.length c3x, .int .i64 0, .int .i64 O.epoch, .int .i64 O.next, .int .i64 O.now, .slice a1x O.wait.length c1x, .bool S.opened, .slice a2x S.fields.length c2x, .int .i64 S.next, .slice b2x S.dicts.length d2x] := eb
   rw [eb']
   have hb1 := (hz.block _ HG1.out).trans HL5.out
   have g0 := cR wx _ 0 _ _ _ hb1
   have g1 := cR wx _ 1 _ _ _ hb1
   have g2 := cR wx _ 2 _ _ _ hb1
   have g3 := cR wx _ 3 _ _ _ hb1
   have g4 := cR wx _ 4 _ _ _ hb1
   have g5 := cR wx _ 5 _ _ _ hb1
   have g6 := cR wx _ 6 _ _ _ hb1
   have g7 := cR wx _ 7 _ _ _ hb1
   have g8 := cR wx _ 8 _ _ _ hb1
   have g9 := cR wx _ 9 _ _ _ hb1
   have g10 := cR wx _ 10 _ _ _ hb1
   have g11 := cR wx _ 11 _ _ _ hb1
   have g12 := cR wx _ 12 _ _ _ hb1
   have z0 := fR wx _ 0 _ _ hb1
   have z1 := fR wx _ 1 _ _ hb1
   have z2 := fR wx _ 2 _ _ hb1
   have z3 := fR wx _ 3 _ _ hb1
   have z4 := fR wx _ 4 _ _ hb1
   have z5 := fR wx _ 5 _ _ hb1
   have z6 := fR wx _ 6 _ _ hb1
   have z7 := fR wx _ 7 _ _ hb1
   have z8 := fR wx _ 8 _ _ hb1
   have z9 := fR wx _ 9 _ _ hb1
   have z10 := fR wx _ 10 _ _ hb1
   have z11 := fR wx _ 11 _ _ hb1
   have z12 := fR wx _ 12 _ _ hb1
   simp only [gA, gZ, gU] at g0 g1 g2 g3 g4 g5 g6 g7 g8 g9 g10 g11 g12
   have HB1X := hid hb1
   have HO1 := hid o1
   have HO5 := hid o5
   have HZ := hid hz
   clear hb1 o1 o5 hz eb
   clear h0
   refine wpOp_step rfl (fun K' hK => ?_)
   go_simp
   exact hK _ _ ⟨undef, (by simp [upd, eb']), FX.is_mk ⟨by simp; exact HZ.out.size, fun k h1 h2 => (set13o h1).trans (HZ.out.block k h2), a0x, c0x, a3x, c3x, set13 HB1X.out, RowT.keptB (tk := tkField) HO1.out (fun b hb _ => set13o (by have := HG1.out; omega)), HO5.out.keptB (fun b hb _ => set13o (by have := HG1.out; omega))⟩, fun h => absurd (by simp) h, set13b hbx (by omega)⟩
 ·intro x t wx hx hbx hall
  obtain ⟨h9s, h9k, a0x, c0x, a3x, c3x, h9b, h9f, h9t⟩ : (fcBxB W5 W5.heap.size w.heap.size fs ts ep bs [.int .i64 O.epoch, .int .i64 O.next, .int .i64 O.now, .slice a1x O.wait.length c1x] [.bool S.opened, .slice a2x S.fields.length c2x, .int .i64 S.next, .slice b2x S.dicts.length d2x]).p (t 9) wx := FX.is_of (hall 9 (by omega))
  have HB9 : Hid (wx.heap[w.heap.size]? = some (.cells #[.slice a0x fs.length c0x, .int .i64 ep, .int .i64 bs, .slice a3x ts.length c3x, .int .i64 0, .int .i64 O.epoch, .int .i64 O.next, .int .i64 O.now, .slice a1x O.wait.length c1x, .bool S.opened, .slice a2x S.fields.length c2x, .int .i64 S.next, .slice b2x S.dicts.length d2x] 45 (0, 0))) := hid h9b
  have HF9 := hid h9f
  have HT9 := hid h9t
  have H9K := hid h9k
  have h9z := h9s
  have HBX := hid hbx
  clear hall hbx h9b h9f h9t h9k hx
  try dsimp only
  repeat go_step
  refine bodyPost_ret (results_cell_row rfl _ _ w.heap.size 45 #[.slice a0x fs.length c0x, .int .i64 ep, .int .i64 bs, .slice a3x ts.length c3x, .int .i64 0, .int .i64 O.epoch, .int .i64 O.next, .int .i64 O.now, .slice a1x O.wait.length c1x, .bool S.opened, .slice a2x S.fields.length c2x, .int .i64 S.next, .slice b2x S.dicts.length d2x] (0, 0) _ rfl HB9.out Tryz.underlying45 rfl (by kernel_rfl)) rfl ?_
  rw [HPE.out]
  have hg1 := HG1.out
  refine ⟨a0x, c0x, a3x, c3x, a1x, c1x, a2x, c2x, b2x, d2x, rfl, fun W hW => ?_, HBX.out⟩
  have hS := HRS.out W (fun b h1 h2 => (hW b (by omega) (by omega)).trans (H9K.out b (by omega) h2))
  exact ⟨FRow.rd (RowT.keptB (tk := tkField) HF9.out (fun b h1 h2 => hW b (by omega) h2)), (HT9.out.keptB (fun b h1 h2 => hW b (by omega) h2)).rd, hS.1, hS.2⟩
end Go.Proofs.YtfaehioeepolhabGreat
