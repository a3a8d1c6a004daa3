import Derived.Test.YtfaehioeepolhabGreatJCrashSender0
import Derived.Test.YtfaehioeepolhabGreatJCrashSender4
import Derived.Test.YtfaehioeepolhabGreatJCrashSender5
import Derived.Test.YtfaehioeepolhabGreatJCrashSender2
import Derived.Test.YtfaehioeepolhabGreatJCrashSender3
import Derived.Handy
import Derived.Deep.RegionHeld
namespace Go.Proofs.YtfaehioeepolhabGreat
open Go.RowKit
def mkByte (k n : Nat) : List Nat := (List.range n).map fun i => (fun j : Nat => j % 256) (k + i)
theorem mkByte_len (k n : Nat) : (byt (mkByte k n)).length = n := by simp [byt, mkByte]
theorem mkByte_at (k n i : Nat) (h : i < n) : (byt (mkByte k n))[i]? = some (.int .u8 (((fun j : Nat => j % 256) (k + i) : Nat) : Int)) := by simp [byt, mkByte, h]
set_option maxHeartbeats 400000 in
theorem markByteS_zero (a : Option Addr) (cap m : Nat) (w : World) (_hm : m ≤ 1099511627776) :
  Calls Tryz.prog 94 #[.slice a 0 cap, .int .i64 m] w fun e w' => e = .returned (.int .i64 m) ∧ w' = w := by
 go_enter Tryz.func94, Tryz.ntmps94
 go_wp2
 refine wp_loop_rounds 1 ?_; rw [rounds_succ]
 go_wp2
 go_ret
 exact ⟨rfl, rfl⟩
set_option maxHeartbeats 400000 in
theorem markByteS_some (B g n cap m : Nat) (vs : List Value) (w : World) (ho : w.ownsRow B 5 1 (.slice (some ⟨g, 0, none⟩) n cap) n vs) (hn : n ≤ 1099511627776) (hm : m ≤ 1099511627776) :
  Calls Tryz.prog 94 #[.slice (some ⟨g, 0, none⟩) n cap, .int .i64 m] w fun e w' => e = .returned (.int .i64 ((m + n : Nat) : Int)) ∧ w'.ownsRow B 5 1 (.slice (some ⟨g, 0, none⟩) n cap) n (byt (mkByte m n)) ∧ w.grownBy w' (some g) := by
 have hvl : vs.length = n := by have := ho.1; omega
 have HV : Hid (vs.length = n) := hvl
 clear hvl
 go_enter Tryz.func94, Tryz.ntmps94
 go_wp2
 go_loopw [1, 5] (fun q i wr => ∃ k : Nat, k ≤ n ∧ i = .int .i64 k ∧ q = .int .i64 ((m + k : Nat) : Int) ∧ wr.ownsRow B 5 1 (.slice (some ⟨g, 0, none⟩) n cap) n ((byt (mkByte m n)).take k ++ vs.drop k) ∧ w.grownBy wr (some g)) (fun _ i _ => n - (intOf i).toNat)
 case atStart => exact ⟨0, Nat.zero_le _, rfl, rfl, by simpa using ho, World.grownBy.refl _ _⟩
 case round =>
  obtain ⟨k, hk, rfl, rfl, how, hgr⟩ := hrel
  by_cases hlt : k < n
  ·have hfz := how.frozenAt k
   obtain ⟨o, hco⟩ := own_cell how hlt
   have hR := (World.ownsRow.stored how k (.int .u8 (((fun j : Nat => j % 256) (m + k) : Nat) : Int)))
   rw [set_take _ _ k _ (mkByte_at m n k hlt) (by rw [mkByte_len, HV.out]; exact Nat.le_refl _)] at hR
   have hG := grown_two hgr hR.2
   clear how hgr ho
   go_wp2
   go_roundw
   case rel => exact ⟨k + 1, by omega, by go_num, by go_num, hR.1, hG⟩
   case measure => simp [intOf]; omega
  ·obtain rfl : k = n := by omega
   rw [fill_done (mkByte_len m k) HV.out] at how
   go_wp2
   go_ret
   exact ⟨rfl, how, hgr⟩
theorem markByteS_any (B n m : Nat) (v : Value) (vs : List Value) (w : World) (ho : w.ownsRow B 5 1 v n vs) (hn : n ≤ 1099511627776) (hm : m ≤ 1099511627776) :
  Calls Tryz.prog 94 #[v, .int .i64 m] w fun e w' => e = .returned (.int .i64 ((m + n : Nat) : Int)) ∧ w'.ownsRow B 5 1 v n (byt (mkByte m n)) ∧ w.grownBy w' v.ownBlock := by
 rcases ho.2 with ⟨rfl, rfl⟩ | ⟨g, cap, cur, rfl, _⟩
 ·refine (markByteS_zero none 0 m w hm).mono ?_
  rintro e w' ⟨rfl, rfl⟩
  exact ⟨rfl, by simpa [mkByte, byt] using World.ownsRow_nil _ _ _ _, World.grownBy.refl _ _⟩
 ·exact markByteS_some B g n cap m vs w ho hn hm
set_option maxHeartbeats 400000 in
theorem heldByteS_zero (a : Option Addr) (cap m : Nat) (w : World) (_hm : m ≤ 1099511627776) :
  Calls Tryz.prog 97 #[.slice a 0 cap, .int .i64 m] w fun e w' => e = .returned (.int .i64 m) ∧ Below w.heap.size w w' := by
 go_enter Tryz.func97, Tryz.ntmps97
 go_wp2
 refine wp_loop_rounds 1 ?_; rw [rounds_succ]
 go_wp2
 go_ret
 exact ⟨rfl, Below.refl _ _⟩
set_option maxHeartbeats 400000 in
theorem heldByteS_some (b off n cap m : Nat) (w : World) (hx : ∀ i, i < n → w.cell? ⟨b, off + i, none⟩ = some (.int .u8 (((fun j : Nat => j % 256) (m + i) : Nat) : Int))) (hn : n ≤ 1099511627776) (hm : m ≤ 1099511627776) :
  Calls Tryz.prog 97 #[.slice (some ⟨b, off, none⟩) n cap, .int .i64 m] w fun e w' => e = .returned (.int .i64 ((m + n : Nat) : Int)) ∧ Below w.heap.size w w' := by
 go_enter Tryz.func97, Tryz.ntmps97
 go_wp2
 go_loop [1, 5] (fun q i => ∃ k : Nat, k ≤ n ∧ i = .int .i64 k ∧ q = .int .i64 ((m + k : Nat) : Int)) (fun _ i => n - (intOf i).toNat)
 case atStart => exact ⟨0, Nat.zero_le _, rfl, rfl⟩
 case round =>
  obtain ⟨k, hk, rfl, rfl⟩ := hrel
  by_cases hlt : k < n
  ·have g1 := hx k hlt
   have hki : (k : Int) < (n : Int) := by omega
   clear hx
   go_wp2
   go_round
   case rel => exact ⟨k + 1, by omega, by go_num, by go_num⟩
   case measure => simp [intOf]; omega
  ·obtain rfl : k = n := by omega
   go_wp2
   go_ret
   exact ⟨rfl, Below.refl _ _⟩
theorem heldByteS_any (a : Option Addr) (n cap m : Nat) (w : World) (hr : Rd w a (byt (mkByte m n))) (hn : n ≤ 1099511627776) (hm : m ≤ 1099511627776) :
  Calls Tryz.prog 97 #[.slice a n cap, .int .i64 m] w fun e w' => e = .returned (.int .i64 ((m + n : Nat) : Int)) ∧ Below w.heap.size w w' := by
 rcases hr with h0 | ⟨b, off, rfl, hc⟩
 ·obtain rfl : n = 0 := by have := mkByte_len m n; rw [h0] at this; simpa using this.symm
  exact heldByteS_zero a cap m w hm
 ·refine heldByteS_some b off n cap m w (fun i hi => ?_) hn hm
  have h1 := mkByte_at m n i hi
  have h2 := hc i (by rw [mkByte_len]; exact hi)
  rw [h2, ← h1, List.getElem?_eq_getElem]
theorem only_of_grown {o : Option Nat} {a b : World} (h : a.grownBy b o) : Only o.toList a b :=
 ⟨h.os, h.tape, h.output, h.size, fun i hi hn => h.block i hi (fun e => hn (by rw [← e]; simp))⟩
theorem flat_one : ∀ {bss : List (List Nat)}, (List.flatten bss).Nodup → ∀ k, (h : k < bss.length) → bss[k].Nodup
 | [], _, k, h => by simp at h
 | l :: r, hn, k, h => by
  rw [List.flatten_cons, List.nodup_append] at hn
  cases k with
  | zero => exact hn.1
  | succ k => exact flat_one hn.2.1 k (by simpa using h)
theorem flatN_lt : ∀ {bss : List (List Nat)}, (List.flatten bss).Nodup → ∀ i k, (hi : i < bss.length) → (hk : k < bss.length) → i < k → ∀ b ∈ bss[i], b ∉ bss[k]
 | [], _, i, _, hi, _, _ => by simp at hi
 | l :: r, hn, i, k, hi, hk, hlt => by
  rw [List.flatten_cons, List.nodup_append] at hn
  cases k with
  | zero => omega
  | succ k =>
   cases i with
   | zero =>
    intro b hb hb2
    exact hn.2.2 b hb b (List.mem_flatten.2 ⟨_, List.getElem_mem (by simpa using hk), hb2⟩) rfl
   | succ i => exact flatN_lt hn.2.1 i k (by simpa using hi) (by simpa using hk) (by omega)
theorem flat_other {bss : List (List Nat)} (h : (List.flatten bss).Nodup) {i k : Nat} (hi : i < bss.length) (hk : k < bss.length) (hne : i ≠ k) : ∀ b ∈ bss[i], b ∉ bss[k] := by
 intro b hb hb2
 rcases Nat.lt_or_gt_of_ne hne with h1 | h1
 ·exact flatN_lt h i k hi hk h1 b hb hb2
 ·exact flatN_lt h k i hk hi h1 b hb2 hb
theorem OwnSl.focus {α : Type} {c : Cod α} {e : TypeId} {w : World} {xs : List α} {v : Value} {bs : List Nat} (h : OwnSl c e w xs v bs) (hnd : bs.Nodup) {k : Nat} (hk : k < xs.length) :
  ∃ g cap cs bk, v = .slice (some ⟨g, 0, none⟩) xs.length cap ∧ c.own w xs[k] cs bk ∧ bk.Nodup ∧ (∀ b ∈ bk, b ∈ bs) ∧ (∀ j, j < c.n → w.cell? ⟨g, k * c.n + j, none⟩ = cs[j]?) ∧
   ∀ w' y, c.own w' y cs bk → Only bk w w' → OwnSl c e w' (xs.set k y) v bs := by
 rcases h with ⟨_, rfl, _⟩ | ⟨g, cap, vs, bss, rfl, ho, rfl, hbl, hi⟩
 ·simp at hk
 ·have hkb : k < bss.length := by omega
  have hnf := (List.nodup_cons.1 hnd).2
  have hng := (List.nodup_cons.1 hnd).1
  have hmem : ∀ i, (h : i < bss.length) → ∀ b ∈ bss[i], b ∈ List.flatten bss := fun i h b hb => List.mem_flatten.2 ⟨_, List.getElem_mem h, hb⟩
  refine ⟨g, cap, part vs c.n k, bss[k], rfl, hi k hk hkb, ?_, fun b hb => List.mem_cons_of_mem _ (hmem k hkb b hb), fun j hj => ?_, fun w' y hy hon => ?_⟩
  ·exact flat_one hnf k hkb
  ·have hlt : k * c.n + j < xs.length * c.n := by
    have : (k + 1) * c.n ≤ xs.length * c.n := Nat.mul_le_mul_right _ hk
    rw [Nat.add_mul, Nat.one_mul] at this; omega
   rw [ho.cellAt _ hlt, part_at hj]
  ·have hgl := (World.ownsRow.lt ho g rfl).2
   refine .inr ⟨g, cap, vs, bss, by simp, ?_, rfl, by simp [hbl], fun i h1 h2 => ?_⟩
   ·have := ownsRow_kept ho (w' := w') (fun b hb => by
     simp [Value.ownBlock] at hb; subst hb
     exact hon.block _ hgl (fun hm => hng (hmem k hkb _ hm)))
    simpa using this
   ·have h1' : i < xs.length := by simpa using h1
    by_cases e : i = k
    ·subst e
     simpa using hy
    ·rw [List.getElem_set_ne (fun h => e h.symm)]
     exact c.only (hi i h1' h2) hon (flat_other hnf h2 hkb e)
def mkSS (m : Nat) (xs : List (List Nat)) : List (List Nat) := (List.range xs.length).map fun i => mkByte (m + tot (xs.take i)) (xs[i]?.getD []).length
theorem mkSS_len (m : Nat) (xs : List (List Nat)) : (mkSS m xs).length = xs.length := by simp [mkSS]
theorem mkSS_at (m : Nat) (xs : List (List Nat)) (k : Nat) (h : k < xs.length) : (mkSS m xs)[k]'(by rw [mkSS_len]; exact h) = mkByte (m + tot (xs.take k)) xs[k].length := by simp [mkSS, h]
theorem mkByte_ok (m n : Nat) : ∀ x ∈ mkByte m n, x < 256 := by
 intro x hx
 simp only [mkByte, List.mem_map] at hx
 obtain ⟨i, _, rfl⟩ := hx
 omega
theorem mkByte_length (m n : Nat) : (mkByte m n).length = n := by simp [mkByte]
def mixSS (m : Nat) (xs : List (List Nat)) (k : Nat) : List (List Nat) := (mkSS m xs).take k ++ xs.drop k
theorem mixSS_len (m : Nat) (xs : List (List Nat)) (k : Nat) (hk : k ≤ xs.length) : (mixSS m xs k).length = xs.length := by simp [mixSS, mkSS_len]; omega
theorem mixSS_at (m : Nat) (xs : List (List Nat)) (k : Nat) (hk : k < xs.length) : (mixSS m xs k)[k]'(by rw [mixSS_len m xs k (by omega)]; exact hk) = xs[k] := by
 have h : ((mkSS m xs).take k).length = k := by rw [List.length_take, mkSS_len]; omega
 simp only [mixSS]
 rw [List.getElem_append_right (by omega)]
 simp [h]
theorem mixSS_succ (m : Nat) (xs : List (List Nat)) (k : Nat) (hk : k < xs.length) : (mixSS m xs k).set k (mkByte (m + tot (xs.take k)) xs[k].length) = mixSS m xs (k + 1) := by
 have h : ((mkSS m xs).take k).length = k := by rw [List.length_take, mkSS_len]; omega
 have hd : xs.drop k = xs[k] :: xs.drop (k + 1) := List.drop_eq_getElem_cons hk
 unfold mixSS
 rw [List.set_append_right _ _ (by omega), h, Nat.sub_self, hd, List.set_cons_zero, List.take_succ_eq_append_getElem (by rw [mkSS_len]; exact hk), mkSS_at m xs k hk, List.append_assoc]
 rfl
set_option maxHeartbeats 2000000 in
theorem markSS_any (v : Value) (xs : List (List Nat)) (bs : List Nat) (m : Nat) (w : World) (ho : OwnSl cSS 87 w xs v bs) (hnd : bs.Nodup) (hn : xs.length ≤ 1048576) (ht : tot xs ≤ 1048576) (hm : m ≤ 1073741824) :
  Calls Tryz.prog 132 #[v, .int .i64 m] w fun e w' => e = .returned (.int .i64 ((m + tot xs : Nat) : Int)) ∧ OwnSl cSS 87 w' (mkSS m xs) v bs ∧ Only bs w w' := by
 obtain ⟨a, cap, rfl, -⟩ := id ho.rd
 have H0 : Hid (OwnSl cSS 87 w (mixSS m xs 0) (.slice a xs.length cap) bs) := hid (by simpa [mixSS] using ho)
 have HND := hid hnd
 clear ho hnd
 go_enter Tryz.func132, Tryz.ntmps132
 go_wp2
 go_loopw [1, 5] (fun q i wr => ∃ k : Nat, k ≤ xs.length ∧ i = .int .i64 k ∧ q = .int .i64 ((m + tot (xs.take k) : Nat) : Int) ∧ OwnSl cSS 87 wr (mixSS m xs k) (.slice a xs.length cap) bs ∧ Only bs w wr) (fun _ i _ => xs.length - (intOf i).toNat)
 case atStart => exact ⟨0, Nat.zero_le _, rfl, by simp [tot], H0.out, Only.refl _ _⟩
 case round =>
  obtain ⟨k, hk, rfl, rfl, how, hon⟩ := hrel
  have HO := hid how
  have HON := hid hon
  clear how hon
  have hki0 := tot_take xs k
  by_cases hlt : k < xs.length
  ·have hlt2 : k < (mixSS m xs k).length := by rw [mixSS_len m xs k hk]; exact hlt
   obtain ⟨g, cap2, cs, bk, hv, hc, hbn, hbm, hcell, hset⟩ := HO.out.focus HND.out hlt2
   simp only [Value.slice.injEq] at hv
   obtain ⟨rfl, -, rfl⟩ := hv
   rw [mixSS_at m xs k hlt] at hc
   obtain ⟨u, rfl, hu⟩ := hc
   have hub := hu.bytes
   obtain ⟨au, cu, rfl, -⟩ := id hu.rd
   have hcb := hcell 0 (by decide)
   rw [show k * cSS.n + 0 = k from by simp [cSl]] at hcb
   have HUB := hid hub
   have HSET : Hid (∀ w' y, OwnSl cByte 5 w' y (.slice au xs[k].length cu) bk → Only bk wr w' → OwnSl cSS 87 w' ((mixSS m xs k).set k y) (.slice (some ⟨g, 0, none⟩) xs.length cap) bs) := hid (fun w' y h1 h2 => hset w' y ⟨_, rfl, h1⟩ h2)
   have HBM := hid hbm
   have hki : (k : Int) < (xs.length : Int) := by omega
   have HTS := hid (tot_snoc xs k hlt)
   have HSU := hid (mixSS_succ m xs k hlt)
   have hlk := len_le_tot xs k hlt
   simp at hcb
   clear hset hcell hu hub
   generalize tot (xs.take k) = t at *
   go_wp2_with fail
   refine (markByteS_any 0 _ (m + t) _ _ wr HUB.out.1 (by omega) (by omega)).mono ?_
   rintro e w2 ⟨rfl, o2, g2⟩
   have hbk : bk = (Value.slice au xs[k].length cu).ownBlock.toList := HUB.out.2.1
   have hon2 : Only bk wr w2 := by rw [hbk]; exact only_of_grown g2
   have HN : Hid (OwnSl cSS 87 w2 (mixSS m xs (k + 1)) (.slice (some ⟨g, 0, none⟩) xs.length cap) bs) := hid (by
    rw [← HSU.out]
    refine HSET.out w2 _ ?_ hon2
    have h := ownSl_bytes o2 (mkByte_ok _ _)
    rw [hbk]; exact h)
   have HON2 := hid (HON.out.trans (hon2.mono HBM.out))
   clear o2 g2 hon2 hbk
   go_wp2
   go_roundw
   case rel => exact ⟨k + 1, by omega, by go_num, by rw [HTS.out]; go_num, HN.out, HON2.out⟩
   case measure => simp [intOf]; omega
  ·obtain rfl : k = xs.length := by omega
   have HF : Hid (OwnSl cSS 87 wr (mkSS m xs) (.slice a xs.length cap) bs) := hid (by
    have h := HO.out
    unfold mixSS at h
    rwa [List.take_of_length_le (by rw [mkSS_len]; exact Nat.le_refl _), List.drop_length, List.append_nil] at h)
   have HT : Hid (tot (xs.take xs.length) = tot xs) := hid (by rw [List.take_length])
   rw [HT.out]
   go_wp2
   go_ret
   exact ⟨rfl, HF.out, HON.out⟩
set_option maxHeartbeats 2000000 in
theorem heldSS_any (a : Option Addr) (cap : Nat) (xs : List (List Nat)) (m : Nat) (w : World) (hr : RdSl cSS w (mkSS m xs) (.slice a xs.length cap)) (hn : xs.length ≤ 1048576) (ht : tot xs ≤ 1048576) (hm : m ≤ 1073741824) :
  Calls Tryz.prog 133 #[.slice a xs.length cap, .int .i64 m] w fun e w' => e = .returned (.int .i64 ((m + tot xs : Nat) : Int)) ∧ Below w.heap.size w w' := by
 have HR := hid hr
 clear hr
 go_enter Tryz.func133, Tryz.ntmps133
 go_wp2
 go_loopw [1, 5] (fun q i wr => ∃ k : Nat, k ≤ xs.length ∧ i = .int .i64 k ∧ q = .int .i64 ((m + tot (xs.take k) : Nat) : Int) ∧ Below w.heap.size w wr) (fun _ i _ => xs.length - (intOf i).toNat)
 case atStart => exact ⟨0, Nat.zero_le _, rfl, by simp [tot], Below.refl _ _⟩
 case round =>
  obtain ⟨k, hk, rfl, rfl, hbe⟩ := hrel
  have HB := hid hbe
  clear hbe
  have hki0 := tot_take xs k
  by_cases hlt : k < xs.length
  ·obtain ⟨b, off, a', c', rfl, hcb, hrr⟩ := (HR.out.later HB.out).row (k := k) (by rw [mkSS_len]; exact hlt)
   rw [mkSS_at m xs k hlt, mkByte_length] at hcb
   rw [mkSS_at m xs k hlt] at hrr
   obtain ⟨a3, c3, e', -, -, -, hrd, -⟩ := hrr.bytes
   simp only [Value.slice.injEq] at e'
   obtain ⟨rfl, -, rfl⟩ := e'
   have HRD := hid hrd
   have hki : (k : Int) < (xs.length : Int) := by omega
   have HTS := hid (tot_snoc xs k hlt)
   have hlk := len_le_tot xs k hlt
   clear hrr hrd
   generalize tot (xs.take k) = t at *
   go_wp2_with fail
   refine (heldByteS_any a' _ c' (m + t) wr HRD.out (by omega) (by omega)).mono ?_
   rintro e w2 ⟨rfl, b2⟩
   have HB2 := hid (HB.out.trans (b2.mono HB.out.size))
   clear b2
   go_wp2
   go_roundw
   case rel => exact ⟨k + 1, by omega, by go_num, by rw [HTS.out]; go_num, HB2.out⟩
   case measure => simp [intOf]; omega
  ·obtain rfl : k = xs.length := by omega
   have HT : Hid (tot (xs.take xs.length) = tot xs) := hid (by rw [List.take_length])
   rw [HT.out]
   go_wp2
   go_ret
   exact ⟨rfl, HB.out⟩
theorem set4 {w : World} {g : Nat} {e : TypeId} {a b c d x y z u : Value} (h : w.heap[g]? = some (.cells #[a, b, c, d] e (0, 0))) :
  ((((w.setCell ⟨g, 0, none⟩ x).setCell ⟨g, 1, none⟩ y).setCell ⟨g, 2, none⟩ z).setCell ⟨g, 3, none⟩ u).heap[g]? = some (.cells #[x, y, z, u] e (0, 0)) := by
 have h1 := heap_setCell_same w g 0 _ e x h
 have h2 := heap_setCell_same _ g 1 _ e y h1
 have h3 := heap_setCell_same _ g 2 _ e z h2
 have h4 := heap_setCell_same _ g 3 _ e u h3
 rw [h4]; rfl
theorem set4o {w : World} {g k : Nat} {x y z u : Value} (h : k ≠ g) : ((((w.setCell ⟨g, 0, none⟩ x).setCell ⟨g, 1, none⟩ y).setCell ⟨g, 2, none⟩ z).setCell ⟨g, 3, none⟩ u).heap[k]? = w.heap[k]? := by
 rw [Below.heap_setCell _ _ _ _ h, Below.heap_setCell _ _ _ _ h, Below.heap_setCell _ _ _ _ h, Below.heap_setCell _ _ _ _ h]
theorem set4b {B : Nat} {a w : World} {g : Nat} {x y z u : Value} (h : Below B a w) (hg : B ≤ g) : Below B a ((((w.setCell ⟨g, 0, none⟩ x).setCell ⟨g, 1, none⟩ y).setCell ⟨g, 2, none⟩ z).setCell ⟨g, 3, none⟩ u) :=
 (((h.setCell (p := ⟨g, 0, none⟩) hg _).setCell (p := ⟨g, 1, none⟩) hg _).setCell (p := ⟨g, 2, none⟩) hg _).setCell (p := ⟨g, 3, none⟩) hg _
set_option maxHeartbeats 400000 in
theorem toField_any (f : PF) (v0 : Value) (w : World) (hv : RdSl cByte w f.name v0) (hn : f.name.length ≤ 1048576) :
  Calls Tryz.prog 70 #[.agg #[v0, .int .i64 f.kind, .int .i64 f.width]] w fun e w' => ∃ v bs, e = .returned (.agg #[v, .int .i64 f.kind, .int .i64 f.width]) ∧ OwnSl cByte 5 w' f.name v bs ∧ (∀ b ∈ bs, w.heap.size ≤ b) ∧ bs.Nodup ∧ Below w.heap.size w w' := by
 obtain ⟨a, cap, rfl, hcap, hml, hnone, hrd, hby⟩ := hv.bytes
 go_enter Tryz.func70, Tryz.ntmps70
 go_wp2_with fail
 refine (toByteS_any a cap f.name _ (hrd.later (below_new3 _ _ _ _)) (by omega)).mono ?_
 rintro e w2 ⟨g2, rfl, o2, b2⟩
 have hg := own_in o2 (g := g2) rfl
 rw [size3] at hg b2
 obtain ⟨k0, k1, k2⟩ := heap3 _ _ _ b2
 have c01 := cR w2 _ 1 _ _ _ k0
 have c02 := cR w2 _ 2 _ _ _ k0
 have c10 := cR w2 _ 0 _ _ _ k1
 have c11 := cR w2 _ 1 _ _ _ k1
 have c12 := cR w2 _ 2 _ _ _ k1
 have f10 := fR w2 _ 0 _ _ k1
 have f11 := fR w2 _ 1 _ _ k1
 have f12 := fR w2 _ 2 _ _ k1
 have c20 := cR w2 _ 0 _ _ _ k2
 have c21 := cR w2 _ 1 _ _ _ k2
 have c22 := cR w2 _ 2 _ _ _ k2
 have f20 := fR w2 _ 0 _ _ k2
 have f21 := fR w2 _ 1 _ _ k2
 have f22 := fR w2 _ 2 _ _ k2
 simp at c01 c02 c10 c11 c12 c20 c21 c22
 have K1 := hid k1
 clear k0 k1 k2
 go_wp2
 have hb : Below w.heap.size w w2 := (below_new3 w _ _ _).trans (b2.mono (by omega))
 have hby2 := hby
 refine bodyPost_ret (results_cell_row rfl _ _ (w.heap.size + 1) 101 #[.slice (some ⟨g2, 0, none⟩) f.name.length f.name.length, .int .i64 f.kind, .int .i64 f.width] (0, 0) _ rfl (set3 ((set3o (by omega)).trans K1.out)) Tryz.underlying101 rfl (by kernel_rfl)) rfl ?_
 refine ⟨_, [g2], rfl, ?_, by simp; omega, by simp, ?_⟩
 ·refine OwnSl.kept (ownSl_bytes o2 hby2) (fun b hb => ?_)
  simp at hb
  subst hb
  exact (set3o (by omega)).trans (set3o (by omega))
 ·exact set3b (set3b hb (by omega)) (by omega)
theorem toField_law : ToLaw Tryz.prog 70 cField (fun f => f.name.length) := by
 intro w f cs h ht
 obtain ⟨v, rfl, hv, h1, h2⟩ := cField_rd h
 refine (toField_any f v w hv ht).mono ?_
 rintro e w' ⟨v', bs, rfl, ho, hb, hn, hbe⟩
 exact ⟨_, bs, rfl, cField_own ho h1 h2, hb, hn, hbe⟩
theorem infoImField : (Tryz.prog.info? 101).map (fun i => (i.zero, i.size, i.bytes)) = some (some (.agg #[.slice none 0 0, .int .i64 0, .int .i64 0]), 3, 40) := by kernel_rfl
set_option maxHeartbeats 1000000 in
theorem toFieldS_any (a : Option Addr) (cap : Nat) (xs : List PF) (w : World) (hr : RdSl cField w xs (.slice a xs.length cap)) (ht : totL (fun f : PF => f.name.length) xs ≤ 1048576) :
  Calls Tryz.prog 27 #[.slice a xs.length cap] w fun e w' => ∃ v bs, e = .returned v ∧ OwnSl cField 101 w' xs v bs ∧ (∀ b ∈ bs, w.heap.size ≤ b) ∧ bs.Nodup ∧ Below w.heap.size w w' := by
 obtain ⟨i0, hi, hz0, hz1, hz2⟩ := info_parts infoImField
 have HR := hid hr
 clear hr
 have hlen : xs.length ≤ 1048576 := by unfold totL at ht; omega
 go_enter Tryz.func27, Tryz.ntmps27
 go_wp2_with (first | (at_make; refine wpList_make_full _ rfl (.tmp 6) (.tmp 6) 37 rfl w.heap.size 101 i0 (.agg #[.slice none 0 0, .int .i64 0, .int .i64 0]) 3 Tryz.underlying37 hi hz0 hz1 .i64 .i64 _ _ xs.length rfl rfl rfl rfl (by rw [hz2]; omega) (by unfold maxLen; omega) (by simp) ?_))
 intro w1 ho hg1
 have HB1 : Hid (Below w.heap.size w w1) := hid ((Below.refl _ w).grown hg1 (Nat.le_refl _) (by intro k h; cases h))
 have HM : Hid (Made3 cField 101 w w1 xs 0) := hid ⟨_, [], ho, rfl, fun i h h2 => by simp at h2, by simp, by simp⟩
 clear hg1 hi hz0 hz1 hz2 ho
 go_wp2
 go_loopw [4] (fun i wr => ∃ k : Nat, k ≤ xs.length ∧ i = .int .i64 k ∧ Made3 cField 101 w wr xs k ∧ Below w.heap.size w wr) (fun i _ => xs.length - (intOf i).toNat)
 case atStart => exact ⟨0, Nat.zero_le _, rfl, HM.out, HB1.out⟩
 case round =>
  obtain ⟨k, hk, rfl, hm, hbe⟩ := hrel
  have HV := hid hm
  have HB := hid hbe
  clear hm hbe
  by_cases hlt : k < xs.length
  ·obtain ⟨b, off, v0, v1, v2, rfl, hes, d0, d1, d2⟩ := (HR.out.later HB.out).at3 rfl hlt
   have HE := hid hes
   have hki : (k : Int) < (xs.length : Int) := by omega
   clear hes
   go_wp2_with fail
   refine (toField_law wr xs[k] _ HE.out (by have := tot_at (fun f : PF => f.name.length) xs k hlt; unfold totL at ht; simp only [] at this ⊢; omega)).mono ?_
   rintro e w2 ⟨cs', bs, rfl, o2, hbs, hnd, b2⟩
   obtain ⟨ax, cx, rfl⟩ := cField_shape (cField.ownRd o2)
   simp only [val]
   have HN : Hid (Made3 cField 101 w (((w2.setCell ⟨w.heap.size, k * 3, none⟩ (.slice ax xs[k].name.length cx)).setCell ⟨w.heap.size, k * 3 + 1, none⟩ (.int .i64 xs[k].kind)).setCell ⟨w.heap.size, k * 3 + 2, none⟩ (.int .i64 xs[k].width)) xs (k + 1)) := hid (HV.out.step hlt b2 o2 hbs hnd)
   have HBB : Hid (Below w.heap.size w (((w2.setCell ⟨w.heap.size, k * 3, none⟩ (.slice ax xs[k].name.length cx)).setCell ⟨w.heap.size, k * 3 + 1, none⟩ (.int .i64 xs[k].kind)).setCell ⟨w.heap.size, k * 3 + 2, none⟩ (.int .i64 xs[k].width))) := hid ((((HB.out.trans (b2.mono HB.out.size)).setCell (p := ⟨w.heap.size, k * 3, none⟩) (Nat.le_refl _) _).setCell (p := ⟨w.heap.size, k * 3 + 1, none⟩) (Nat.le_refl _) _).setCell (p := ⟨w.heap.size, k * 3 + 2, none⟩) (Nat.le_refl _) _)
   obtain ⟨vs, hvl, how2⟩ := HV.out.row b2
   have f0 := how2.frozenAt (k * 3)
   have f1 := how2.frozenAt (k * 3 + 1)
   have f2 := how2.frozenAt (k * 3 + 2)
   have q0 := how2.cellAt (k * 3) (by omega)
   have q1 := how2.cellAt (k * 3 + 1) (by omega)
   have q2 := how2.cellAt (k * 3 + 2) (by omega)
   rw [List.getElem?_eq_getElem (by omega)] at q0 q1 q2
   generalize vs[k * 3] = y0 at q0
   generalize vs[k * 3 + 1] = y1 at q1
   generalize vs[k * 3 + 2] = y2 at q2
   clear o2 hbs hnd b2 how2 hvl
   go_wp2
   go_roundw
   case rel => exact ⟨k + 1, by omega, by go_num, HN.out, HBB.out⟩
   case measure => simp [intOf]; omega
  ·obtain rfl : k = xs.length := by omega
   obtain ⟨bs, h1, h2, h3⟩ := HV.out.done rfl
   have HF := hid h1
   clear h1
   go_wp2
   go_ret
   exact ⟨_, bs, rfl, HF.out, h2, h3, HB.out⟩
set_option maxHeartbeats 400000 in
theorem szField_law : SzLaw Tryz.prog 53 cField (fun f : PF => f.name.length) := by
 intro w x cs l hrd h0 h1
 obtain ⟨a, cap, rfl⟩ := cField_shape hrd
 have hm : x.name.length ≤ maxLen := by
  obtain ⟨v, e, ⟨a', cap', rfl, h2, h3, _⟩, _⟩ := cField_rd hrd
  omega
 simp only [val]
 by_cases hneg : rest l x.name.length < 0
 ·have hm1 := rest_neg1 hneg
  go_enter Tryz.func53, Tryz.ntmps53
  go_wp2_with fail
  refine (szBytes_any a _ cap l _ hm h0 h1).mono ?_
  rintro e w2 ⟨rfl, rfl⟩
  have HM := hid hm1
  clear hm1
  generalize hr : rest l x.name.length = r at *
  go_wp2
  go_ret
  exact ⟨by show _ = Ending.returned (.int .i64 (rest l x.name.length)); rw [hr, HM.out]; rfl, bN _ _⟩
 ·go_enter Tryz.func53, Tryz.ntmps53
  go_wp2_with fail
  refine (szBytes_any a _ cap l _ hm h0 h1).mono ?_
  rintro e w2 ⟨rfl, rfl⟩
  generalize hr : rest l x.name.length = r at *
  go_wp2
  go_ret
  exact ⟨by show _ = Ending.returned (.int .i64 (rest l x.name.length)); rw [hr]; rfl, bN _ _⟩
set_option maxHeartbeats 1000000 in
theorem szFieldS_any (a : Option Addr) (cap : Nat) (xs : List PF) (l : Int) (w : World) (hr : RdSl cField w xs (.slice a xs.length cap)) (h0 : 0 ≤ l) (h1 : l ≤ 1048576) :
  Calls Tryz.prog 18 #[.slice a xs.length cap, .int .i64 l] w fun e w' => e = .returned (.int .i64 (rest l (totL (fun f : PF => f.name.length) xs))) ∧ Below w.heap.size w w' := by
 have hml : xs.length ≤ maxLen := by
  obtain ⟨a', cap', e', g1, g2, _⟩ := hr
  omega
 unfold maxLen at hml
 have HR := hid hr
 clear hr
 by_cases hbig : l - (xs.length : Int) < 0
 ·have HM : Hid (rest l (totL (fun f : PF => f.name.length) xs) = -1) := hid (by unfold rest totL; rw [if_pos (by omega)])
  go_enter Tryz.func18, Tryz.ntmps18
  go_wp2
  go_ret
  exact ⟨by rw [HM.out]; rfl, Below.refl _ _⟩
 ·go_enter Tryz.func18, Tryz.ntmps18
  go_wp2
  go_loopw [1, 5] (fun q i wr => ∃ k : Nat, k ≤ xs.length ∧ i = .int .i64 k ∧ q = .int .i64 (rest l (xs.length + ((xs.take k).map (fun f : PF => f.name.length)).sum)) ∧ 0 ≤ rest l (xs.length + ((xs.take k).map (fun f : PF => f.name.length)).sum) ∧ Below w.heap.size w wr) (fun _ i _ => xs.length - (intOf i).toNat)
  case atStart => exact ⟨0, Nat.zero_le _, rfl, by simp [rest]; omega, by simp [rest]; omega, Below.refl _ _⟩
  case round =>
   obtain ⟨k, hk, rfl, rfl, hle, hbe⟩ := hrel
   have HB := hid hbe
   clear hbe
   by_cases hlt : k < xs.length
   ·obtain ⟨b, off, v0, v1, v2, rfl, hes, d0, d1, d2⟩ := (HR.out.later HB.out).at3 rfl hlt
    have HE := hid hes
    have hki : (k : Int) < (xs.length : Int) := by omega
    have HS := hid (sum_snoc (fun f : PF => f.name.length) xs k hlt)
    have HT := hid (rest_two (m := (fun f : PF => f.name.length) xs[k]) hle)
    have HNG : Hid (rest l (xs.length + ((xs.take (k + 1)).map (fun f : PF => f.name.length)).sum) < 0 → rest l (totL (fun f : PF => f.name.length) xs) = -1) := hid (fun h => by
     have h2 := sum_take (fun f : PF => f.name.length) xs (k + 1)
     have h3 := rest_neg (m := totL (fun f : PF => f.name.length) xs - (xs.length + ((xs.take (k + 1)).map (fun f : PF => f.name.length)).sum)) h
     unfold totL at *
     rw [show xs.length + ((xs.take (k + 1)).map (fun f : PF => f.name.length)).sum + (xs.length + (xs.map (fun f : PF => f.name.length)).sum - (xs.length + ((xs.take (k + 1)).map (fun f : PF => f.name.length)).sum)) = xs.length + (xs.map (fun f : PF => f.name.length)).sum from by omega] at h3
     exact h3)
    have hup := rest_le (n := xs.length + ((xs.take k).map (fun f : PF => f.name.length)).sum) h1
    clear hes
    generalize hq : rest l (xs.length + ((xs.take k).map (fun f : PF => f.name.length)).sum) = q at *
    go_wp2_with fail
    refine (szField_law wr xs[k] _ q HE.out hle hup).mono ?_
    rintro e w2 ⟨rfl, b2⟩
    have HB2 := hid (HB.out.trans (b2.mono HB.out.size))
    clear b2
    have HQ : Hid (rest q ((fun f : PF => f.name.length) xs[k]) = rest l (xs.length + ((xs.take (k + 1)).map (fun f : PF => f.name.length)).sum)) := hid (by rw [HT.out, HS.out, Nat.add_assoc])
    generalize rest q ((fun f : PF => f.name.length) xs[k]) = r at *
    by_cases hneg : r < 0
    ·have hz := HNG.out (by rw [← HQ.out]; exact hneg)
     have HZ := hid hz
     clear hz
     go_wp2
     go_ret
     exact ⟨by rw [HZ.out]; rfl, HB2.out⟩
    ·go_wp2
     go_roundw
     case rel => exact ⟨k + 1, by omega, by go_num, by rw [HQ.out], by rw [← HQ.out]; omega, HB2.out⟩
     case measure => simp [intOf]; omega
   ·obtain rfl : k = xs.length := by omega
    have HF : Hid (rest l (xs.length + ((xs.take xs.length).map (fun f : PF => f.name.length)).sum) = rest l (totL (fun f : PF => f.name.length) xs)) := hid (by rw [List.take_length]; rfl)
    rw [HF.out]
    go_wp2
    go_ret
    exact ⟨rfl, HB.out⟩
set_option maxHeartbeats 1000000 in
theorem eqField_law : EqLaw Tryz.prog 90 cField (fun f : PF => f.name.length) := by
 intro w x cs cs' h1 h2 ht
 obtain ⟨a1, c1, rfl⟩ := cField_shape h1
 obtain ⟨a2, c2, rfl⟩ := cField_shape h2
 have r1 : Rd w a1 (byt x.name) := by
  obtain ⟨v, e, hv, _⟩ := cField_rd h1
  obtain ⟨a', cap', rfl, _, _, _, hr, _⟩ := hv.bytes
  simp at e; rw [e.1]; exact hr
 have r2 : Rd w a2 (byt x.name) := by
  obtain ⟨v, e, hv, _⟩ := cField_rd h2
  obtain ⟨a', cap', rfl, _, _, _, hr, _⟩ := hv.bytes
  simp at e; rw [e.1]; exact hr
 simp only [val]
 clear h1 h2
 go_enter Tryz.func90, Tryz.ntmps90
 go_wp2_with fail
 refine (eqByteS_any a1 a2 c1 c2 _ x.name _ (r1.later (below_new2 _ _ _)) (r2.later (below_new2 _ _ _)) rfl (by have h : x.name.length ≤ 1048576 := ht; omega)).mono ?_
 rintro e w2 ⟨rfl, b2⟩
 rw [size2] at b2
 obtain ⟨k0, k1⟩ := heap2 _ _ b2
 have p0 := cR w2 _ 1 _ _ _ k0
 have p1 := cR w2 _ 2 _ _ _ k0
 have q0 := cR w2 _ 1 _ _ _ k1
 have q1 := cR w2 _ 2 _ _ _ k1
 simp at p0 p1 q0 q1
 have HB : Hid (Below w.heap.size w w2) := hid ((below_new2 w _ _).trans (b2.mono (by omega)))
 clear k0 k1 b2 r1 r2
 go_wp2
 go_ret
 exact ⟨rfl, HB.out⟩
set_option maxHeartbeats 2000000 in
theorem eqFieldS_any (a1 a2 : Option Addr) (c1 c2 : Nat) (xs : List PF) (w : World) (h1 : RdSl cField w xs (.slice a1 xs.length c1)) (h2 : RdSl cField w xs (.slice a2 xs.length c2)) (ht : totL (fun f : PF => f.name.length) xs ≤ 1048576) :
  Calls Tryz.prog 37 #[.slice a1 xs.length c1, .slice a2 xs.length c2] w fun e w' => e = .returned (.bool true) ∧ Below w.heap.size w w' := by
 have H1 := hid h1
 have H2 := hid h2
 clear h1 h2
 have hlen : xs.length ≤ 1048576 := by unfold totL at ht; omega
 go_enter Tryz.func37, Tryz.ntmps37
 go_wp2
 go_loopw [5] (fun i wr => ∃ k : Nat, k ≤ xs.length ∧ i = .int .i64 k ∧ Below w.heap.size w wr) (fun i _ => xs.length - (intOf i).toNat)
 case atStart => exact ⟨0, Nat.zero_le _, rfl, Below.refl _ _⟩
 case round =>
  obtain ⟨k, hk, rfl, hbe⟩ := hrel
  have HB := hid hbe
  clear hbe
  by_cases hlt : k < xs.length
  ·obtain ⟨b1, o1, x0, x1, x2, rfl, hes1, d0, d1, d2⟩ := (H1.out.later HB.out).at3 rfl hlt
   obtain ⟨b2, o2, y0, y1, y2, rfl, hes2, g0, g1, g2⟩ := (H2.out.later HB.out).at3 rfl hlt
   have HQ : Hid (Calls Tryz.prog 90 #[.agg #[x0, x1, x2], .agg #[y0, y1, y2]] wr.drew fun e w' => e = .returned (.bool true) ∧ Hid (Below w.heap.size w w') ∧ w'.cell? ⟨b1, o1 + k * 3, none⟩ = some x0 ∧ w'.cell? ⟨b1, o1 + k * 3 + 1, none⟩ = some x1 ∧ w'.cell? ⟨b1, o1 + k * 3 + 2, none⟩ = some x2 ∧ w'.cell? ⟨b2, o2 + k * 3, none⟩ = some y0 ∧ w'.cell? ⟨b2, o2 + k * 3 + 1, none⟩ = some y1 ∧ w'.cell? ⟨b2, o2 + k * 3 + 2, none⟩ = some y2) := hid (by
    refine (eqField_law wr.drew xs[k] _ _ (cField.later hes1 (Below.refl _ _).drew) (cField.later hes2 (Below.refl _ _).drew) (by have := tot_at (fun f : PF => f.name.length) xs k hlt; unfold totL at ht; simp only [] at this ⊢; omega)).mono ?_
    rintro e w' ⟨rfl, b⟩
    have kp : ∀ p v, wr.cell? p = some v → w'.cell? p = some v := fun p v h => (b.cell (World.block_lt_of_cell? _ _ h)).trans h
    exact ⟨rfl, hid (HB.out.drew.trans (b.mono HB.out.size)), kp _ _ d0, kp _ _ d1, kp _ _ d2, kp _ _ g0, kp _ _ g1, kp _ _ g2⟩)
   have hki : (k : Int) < (xs.length : Int) := by omega
   clear hes1 hes2
   go_wp2
   go_region_held (fun w' => w'.cell? ⟨b1, o1 + k * 3, none⟩ = some x0 ∧ w'.cell? ⟨b1, o1 + k * 3 + 1, none⟩ = some x1 ∧ w'.cell? ⟨b1, o1 + k * 3 + 2, none⟩ = some x2 ∧ w'.cell? ⟨b2, o2 + k * 3, none⟩ = some y0 ∧ w'.cell? ⟨b2, o2 + k * 3 + 1, none⟩ = some y1 ∧ w'.cell? ⟨b2, o2 + k * 3 + 2, none⟩ = some y2) (go_keep) (first | (go_at_call 90; refine HQ.out.mono ?_; rintro e w' ⟨rfl, hw', hd0, hd1, hd2, hg0, hg1, hg2⟩))
   go_wp2
   go_roundw
   case rel => exact ⟨k + 1, by omega, by go_num, hw'.out⟩
   case measure => simp [intOf]; omega
  ·obtain rfl : k = xs.length := by omega
   go_wp2
   go_ret
   exact ⟨rfl, HB.out⟩
end Go.Proofs.YtfaehioeepolhabGreat
