import Derived.Test.YtfaehioeepolhaaGreatJCrashReceiver0
import Derived.Test.YtfaehioeepolhaaGreatJCrashReceiver6
namespace Go.Proofs.YtfaehioeepolhaaGreat
open Go.RowKit
def mkByte (k n : Nat) : List Nat := (List.range n).map fun i => (fun j : Nat => j % 256) (k + i)
theorem mkByte_len (k n : Nat) : (byt (mkByte k n)).length = n := by simp [byt, mkByte]
theorem mkByte_at (k n i : Nat) (h : i < n) : (byt (mkByte k n))[i]? = some (.int .u8 (((fun j : Nat => j % 256) (k + i) : Nat) : Int)) := by simp [byt, mkByte, h]
set_option maxHeartbeats 400000 in
theorem markByteS_zero (a : Option Addr) (cap m : Nat) (w : World) (_hm : m ≤ 1099511627776) :
    Calls Tryz.prog 68 #[.slice a 0 cap, .int .i64 m] w fun e w' => e = .returned (.int .i64 m) ∧ w' = w := by
  go_enter Tryz.func68, Tryz.ntmps68
  go_wp2
  refine wp_loop_rounds 1 ?_; rw [rounds_succ]
  go_wp2
  go_ret
  exact ⟨rfl, rfl⟩
set_option maxHeartbeats 400000 in
theorem markByteS_some (B g n cap m : Nat) (vs : List Value) (w : World) (ho : w.ownsRow B 5 1 (.slice (some ⟨g, 0, none⟩) n cap) n vs) (hn : n ≤ 1099511627776) (hm : m ≤ 1099511627776) :
    Calls Tryz.prog 68 #[.slice (some ⟨g, 0, none⟩) n cap, .int .i64 m] w fun e w' => e = .returned (.int .i64 ((m + n : Nat) : Int)) ∧ w'.ownsRow B 5 1 (.slice (some ⟨g, 0, none⟩) n cap) n (byt (mkByte m n)) ∧ w.grownBy w' (some g) := by
  have hvl : vs.length = n := by have := ho.1; omega
  have HV : Hid (vs.length = n) := hvl
  clear hvl
  go_enter Tryz.func68, Tryz.ntmps68
  go_wp2
  go_loopw [1, 5] (fun q i wr => ∃ k : Nat, k ≤ n ∧ i = .int .i64 k ∧ q = .int .i64 ((m + k : Nat) : Int) ∧ wr.ownsRow B 5 1 (.slice (some ⟨g, 0, none⟩) n cap) n ((byt (mkByte m n)).take k ++ vs.drop k) ∧ w.grownBy wr (some g)) (fun _ i _ => n - (intOf i).toNat)
  case atStart => exact ⟨0, Nat.zero_le _, rfl, rfl, by simpa using ho, World.grownBy.refl _ _⟩
  case round =>
    obtain ⟨k, hk, rfl, rfl, how, hgr⟩ := hrel
    by_cases hlt : k < n
    · have hfz := how.frozenAt k
      obtain ⟨o, hco⟩ := own_cell how hlt
      have hR := (World.ownsRow.stored how k (.int .u8 (((fun j : Nat => j % 256) (m + k) : Nat) : Int)))
      rw [set_take _ _ k _ (mkByte_at m n k hlt) (by rw [mkByte_len, HV.out]; exact Nat.le_refl _)] at hR
      have hG := grown_two hgr hR.2
      clear how hgr ho
      go_wp2
      go_roundw
      case rel => exact ⟨k + 1, by omega, by go_num, by go_num, hR.1, hG⟩
      case measure => simp [intOf]; omega
    · obtain rfl : k = n := by omega
      rw [fill_done (mkByte_len m k) HV.out] at how
      go_wp2
      go_ret
      exact ⟨rfl, how, hgr⟩
theorem markByteS_any (B n m : Nat) (v : Value) (vs : List Value) (w : World) (ho : w.ownsRow B 5 1 v n vs) (hn : n ≤ 1099511627776) (hm : m ≤ 1099511627776) :
    Calls Tryz.prog 68 #[v, .int .i64 m] w fun e w' => e = .returned (.int .i64 ((m + n : Nat) : Int)) ∧ w'.ownsRow B 5 1 v n (byt (mkByte m n)) ∧ w.grownBy w' v.ownBlock := by
  rcases ho.2 with ⟨rfl, rfl⟩ | ⟨g, cap, cur, rfl, _⟩
  · refine (markByteS_zero none 0 m w hm).mono ?_
    rintro e w' ⟨rfl, rfl⟩
    exact ⟨rfl, by simpa [mkByte, byt] using World.ownsRow_nil _ _ _ _, World.grownBy.refl _ _⟩
  · exact markByteS_some B g n cap m vs w ho hn hm
end Go.Proofs.YtfaehioeepolhaaGreat
namespace Go.Proofs.YtfaehioeepolhaaGreat
open Go.RowKit
set_option maxHeartbeats 400000 in
theorem heldByteS_zero (a : Option Addr) (cap m : Nat) (w : World) (_hm : m ≤ 1099511627776) :
    Calls Tryz.prog 120 #[.slice a 0 cap, .int .i64 m] w fun e w' => e = .returned (.int .i64 m) ∧ Below w.heap.size w w' := by
  go_enter Tryz.func120, Tryz.ntmps120
  go_wp2
  refine wp_loop_rounds 1 ?_; rw [rounds_succ]
  go_wp2
  go_ret
  exact ⟨rfl, Below.refl _ _⟩
set_option maxHeartbeats 400000 in
theorem heldByteS_some (b off n cap m : Nat) (w : World) (hx : ∀ i, i < n → w.cell? ⟨b, off + i, none⟩ = some (.int .u8 (((fun j : Nat => j % 256) (m + i) : Nat) : Int))) (hn : n ≤ 1099511627776) (hm : m ≤ 1099511627776) :
    Calls Tryz.prog 120 #[.slice (some ⟨b, off, none⟩) n cap, .int .i64 m] w fun e w' => e = .returned (.int .i64 ((m + n : Nat) : Int)) ∧ Below w.heap.size w w' := by
  go_enter Tryz.func120, Tryz.ntmps120
  go_wp2
  go_loop [1, 5] (fun q i => ∃ k : Nat, k ≤ n ∧ i = .int .i64 k ∧ q = .int .i64 ((m + k : Nat) : Int)) (fun _ i => n - (intOf i).toNat)
  case atStart => exact ⟨0, Nat.zero_le _, rfl, rfl⟩
  case round =>
    obtain ⟨k, hk, rfl, rfl⟩ := hrel
    by_cases hlt : k < n
    · have g1 := hx k hlt
      have hki : (k : Int) < (n : Int) := by omega
      clear hx
      go_wp2
      go_round
      case rel => exact ⟨k + 1, by omega, by go_num, by go_num⟩
      case measure => simp [intOf]; omega
    · obtain rfl : k = n := by omega
      go_wp2
      go_ret
      exact ⟨rfl, Below.refl _ _⟩
theorem heldByteS_any (a : Option Addr) (n cap m : Nat) (w : World) (hr : Rd w a (byt (mkByte m n))) (hn : n ≤ 1099511627776) (hm : m ≤ 1099511627776) :
    Calls Tryz.prog 120 #[.slice a n cap, .int .i64 m] w fun e w' => e = .returned (.int .i64 ((m + n : Nat) : Int)) ∧ Below w.heap.size w w' := by
  rcases hr with h0 | ⟨b, off, rfl, hc⟩
  · obtain rfl : n = 0 := by have := mkByte_len m n; rw [h0] at this; simpa using this.symm
    exact heldByteS_zero a cap m w hm
  · refine heldByteS_some b off n cap m w (fun i hi => ?_) hn hm
    have h1 := mkByte_at m n i hi
    have h2 := hc i (by rw [mkByte_len]; exact hi)
    rw [h2, ← h1, List.getElem?_eq_getElem]
end Go.Proofs.YtfaehioeepolhaaGreat
namespace Go.Proofs.YtfaehioeepolhaaGreat
open Go.RowKit
theorem only_of_grown {o : Option Nat} {a b : World} (h : a.grownBy b o) : Only o.toList a b :=
  ⟨h.os, h.tape, h.output, h.size, fun i hi hn => h.block i hi (fun e => hn (by rw [← e]; simp))⟩
theorem flat_one : ∀ {bss : List (List Nat)}, (List.flatten bss).Nodup → ∀ k, (h : k < bss.length) → bss[k].Nodup
  | [], _, k, h => by simp at h
  | l :: r, hn, k, h => by
    rw [List.flatten_cons, List.nodup_append] at hn
    cases k with
    | zero => exact hn.1
    | succ k => exact flat_one hn.2.1 k (by simpa using h)
theorem flatN_lt : ∀ {bss : List (List Nat)}, (List.flatten bss).Nodup → ∀ i k, (hi : i < bss.length) → (hk : k < bss.length) → i < k → ∀ b ∈ bss[i], b ∉ bss[k]
  | [], _, i, _, hi, _, _ => by simp at hi
  | l :: r, hn, i, k, hi, hk, hlt => by
    rw [List.flatten_cons, List.nodup_append] at hn
    cases k with
    | zero => omega
    | succ k =>
      cases i with
      | zero =>
        intro b hb hb2
        exact hn.2.2 b hb b (List.mem_flatten.2 ⟨_, List.getElem_mem (by simpa using hk), hb2⟩) rfl
      | succ i => exact flatN_lt hn.2.1 i k (by simpa using hi) (by simpa using hk) (by omega)
theorem flat_other {bss : List (List Nat)} (h : (List.flatten bss).Nodup) {i k : Nat} (hi : i < bss.length) (hk : k < bss.length) (hne : i ≠ k) : ∀ b ∈ bss[i], b ∉ bss[k] := by
  intro b hb hb2
  rcases Nat.lt_or_gt_of_ne hne with h1 | h1
  · exact flatN_lt h i k hi hk h1 b hb hb2
  · exact flatN_lt h k i hk hi h1 b hb2 hb
theorem OwnSl.focus {α : Type} {c : Cod α} {e : TypeId} {w : World} {xs : List α} {v : Value} {bs : List Nat} (h : OwnSl c e w xs v bs) (hnd : bs.Nodup) {k : Nat} (hk : k < xs.length) :
    ∃ g cap cs bk, v = .slice (some ⟨g, 0, none⟩) xs.length cap ∧ c.own w xs[k] cs bk ∧ bk.Nodup ∧ (∀ b ∈ bk, b ∈ bs) ∧ (∀ j, j < c.n → w.cell? ⟨g, k * c.n + j, none⟩ = cs[j]?) ∧
      ∀ w' y, c.own w' y cs bk → Only bk w w' → OwnSl c e w' (xs.set k y) v bs := by
  rcases h with ⟨_, rfl, _⟩ | ⟨g, cap, vs, bss, rfl, ho, rfl, hbl, hi⟩
  · simp at hk
  · have hkb : k < bss.length := by omega
    have hnf := (List.nodup_cons.1 hnd).2
    have hng := (List.nodup_cons.1 hnd).1
    have hmem : ∀ i, (h : i < bss.length) → ∀ b ∈ bss[i], b ∈ List.flatten bss := fun i h b hb => List.mem_flatten.2 ⟨_, List.getElem_mem h, hb⟩
    refine ⟨g, cap, part vs c.n k, bss[k], rfl, hi k hk hkb, ?_, fun b hb => List.mem_cons_of_mem _ (hmem k hkb b hb), fun j hj => ?_, fun w' y hy hon => ?_⟩
    · exact flat_one hnf k hkb
    · have hlt : k * c.n + j < xs.length * c.n := by
        have : (k + 1) * c.n ≤ xs.length * c.n := Nat.mul_le_mul_right _ hk
        rw [Nat.add_mul, Nat.one_mul] at this; omega
      rw [ho.cellAt _ hlt, part_at hj]
    · have hgl := (World.ownsRow.lt ho g rfl).2
      refine .inr ⟨g, cap, vs, bss, by simp, ?_, rfl, by simp [hbl], fun i h1 h2 => ?_⟩
      · have := ownsRow_kept ho (w' := w') (fun b hb => by
          simp [Value.ownBlock] at hb; subst hb
          exact hon.block _ hgl (fun hm => hng (hmem k hkb _ hm)))
        simpa using this
      · have h1' : i < xs.length := by simpa using h1
        by_cases e : i = k
        · subst e
          simpa using hy
        · rw [List.getElem_set_ne (fun h => e h.symm)]
          exact c.only (hi i h1' h2) hon (flat_other hnf h2 hkb e)
def mkSS (m : Nat) (xs : List (List Nat)) : List (List Nat) := (List.range xs.length).map fun i => mkByte (m + tot (xs.take i)) (xs[i]?.getD []).length
theorem mkSS_len (m : Nat) (xs : List (List Nat)) : (mkSS m xs).length = xs.length := by simp [mkSS]
theorem mkSS_at (m : Nat) (xs : List (List Nat)) (k : Nat) (h : k < xs.length) : (mkSS m xs)[k]'(by rw [mkSS_len]; exact h) = mkByte (m + tot (xs.take k)) xs[k].length := by simp [mkSS, h]
theorem mkByte_ok (m n : Nat) : ∀ x ∈ mkByte m n, x < 256 := by
  intro x hx
  simp only [mkByte, List.mem_map] at hx
  obtain ⟨i, _, rfl⟩ := hx
  omega
theorem mkByte_length (m n : Nat) : (mkByte m n).length = n := by simp [mkByte]
def mixSS (m : Nat) (xs : List (List Nat)) (k : Nat) : List (List Nat) := (mkSS m xs).take k ++ xs.drop k
theorem mixSS_len (m : Nat) (xs : List (List Nat)) (k : Nat) (hk : k ≤ xs.length) : (mixSS m xs k).length = xs.length := by simp [mixSS, mkSS_len]; omega
theorem mixSS_at (m : Nat) (xs : List (List Nat)) (k : Nat) (hk : k < xs.length) : (mixSS m xs k)[k]'(by rw [mixSS_len m xs k (by omega)]; exact hk) = xs[k] := by
  have h : ((mkSS m xs).take k).length = k := by rw [List.length_take, mkSS_len]; omega
  simp only [mixSS]
  rw [List.getElem_append_right (by omega)]
  simp [h]
theorem mixSS_succ (m : Nat) (xs : List (List Nat)) (k : Nat) (hk : k < xs.length) : (mixSS m xs k).set k (mkByte (m + tot (xs.take k)) xs[k].length) = mixSS m xs (k + 1) := by
  have h : ((mkSS m xs).take k).length = k := by rw [List.length_take, mkSS_len]; omega
  have hd : xs.drop k = xs[k] :: xs.drop (k + 1) := List.drop_eq_getElem_cons hk
  unfold mixSS
  rw [List.set_append_right _ _ (by omega), h, Nat.sub_self, hd, List.set_cons_zero, List.take_succ_eq_append_getElem (by rw [mkSS_len]; exact hk), mkSS_at m xs k hk, List.append_assoc]
  rfl
set_option maxHeartbeats 2000000 in
theorem markSS_any (v : Value) (xs : List (List Nat)) (bs : List Nat) (m : Nat) (w : World) (ho : OwnSl cSS 23 w xs v bs) (hnd : bs.Nodup) (hn : xs.length ≤ 1048576) (ht : tot xs ≤ 1048576) (hm : m ≤ 1073741824) :
    Calls Tryz.prog 170 #[v, .int .i64 m] w fun e w' => e = .returned (.int .i64 ((m + tot xs : Nat) : Int)) ∧ OwnSl cSS 23 w' (mkSS m xs) v bs ∧ Only bs w w' := by
  obtain ⟨a, cap, rfl, -⟩ := id ho.rd
  have H0 : Hid (OwnSl cSS 23 w (mixSS m xs 0) (.slice a xs.length cap) bs) := hid (by simpa [mixSS] using ho)
  have HND := hid hnd
  clear ho hnd
  go_enter Tryz.func170, Tryz.ntmps170
  go_wp2
  go_loopw [1, 5] (fun q i wr => ∃ k : Nat, k ≤ xs.length ∧ i = .int .i64 k ∧ q = .int .i64 ((m + tot (xs.take k) : Nat) : Int) ∧ OwnSl cSS 23 wr (mixSS m xs k) (.slice a xs.length cap) bs ∧ Only bs w wr) (fun _ i _ => xs.length - (intOf i).toNat)
  case atStart => exact ⟨0, Nat.zero_le _, rfl, by simp [tot], H0.out, Only.refl _ _⟩
  case round =>
    obtain ⟨k, hk, rfl, rfl, how, hon⟩ := hrel
    have HO := hid how
    have HON := hid hon
    clear how hon
    have hki0 := tot_take xs k
    by_cases hlt : k < xs.length
    · have hlt2 : k < (mixSS m xs k).length := by rw [mixSS_len m xs k hk]; exact hlt
      obtain ⟨g, cap2, cs, bk, hv, hc, hbn, hbm, hcell, hset⟩ := HO.out.focus HND.out hlt2
      simp only [Value.slice.injEq] at hv
      obtain ⟨rfl, -, rfl⟩ := hv
      rw [mixSS_at m xs k hlt] at hc
      obtain ⟨u, rfl, hu⟩ := hc
      have hub := hu.bytes
      obtain ⟨au, cu, rfl, -⟩ := id hu.rd
      have hcb := hcell 0 (by decide)
      rw [show k * cSS.n + 0 = k from by simp [cSl]] at hcb
      have HUB := hid hub
      have HSET : Hid (∀ w' y, OwnSl cByte 5 w' y (.slice au xs[k].length cu) bk → Only bk wr w' → OwnSl cSS 23 w' ((mixSS m xs k).set k y) (.slice (some ⟨g, 0, none⟩) xs.length cap) bs) := hid (fun w' y h1 h2 => hset w' y ⟨_, rfl, h1⟩ h2)
      have HBM := hid hbm
      have hki : (k : Int) < (xs.length : Int) := by omega
      have HTS := hid (tot_snoc xs k hlt)
      have HSU := hid (mixSS_succ m xs k hlt)
      have hlk := len_le_tot xs k hlt
      simp at hcb
      clear hset hcell hu hub
      generalize tot (xs.take k) = t at *
      go_wp2_with fail
      refine (markByteS_any 0 _ (m + t) _ _ wr HUB.out.1 (by omega) (by omega)).mono ?_
      rintro e w2 ⟨rfl, o2, g2⟩
      have hbk : bk = (Value.slice au xs[k].length cu).ownBlock.toList := HUB.out.2.1
      have hon2 : Only bk wr w2 := by rw [hbk]; exact only_of_grown g2
      have HN : Hid (OwnSl cSS 23 w2 (mixSS m xs (k + 1)) (.slice (some ⟨g, 0, none⟩) xs.length cap) bs) := hid (by
        rw [← HSU.out]
        refine HSET.out w2 _ ?_ hon2
        have h := ownSl_bytes o2 (mkByte_ok _ _)
        rw [hbk]; exact h)
      have HON2 := hid (HON.out.trans (hon2.mono HBM.out))
      clear o2 g2 hon2 hbk
      go_wp2
      go_roundw
      case rel => exact ⟨k + 1, by omega, by go_num, by rw [HTS.out]; go_num, HN.out, HON2.out⟩
      case measure => simp [intOf]; omega
    · obtain rfl : k = xs.length := by omega
      have HF : Hid (OwnSl cSS 23 wr (mkSS m xs) (.slice a xs.length cap) bs) := hid (by
        have h := HO.out
        unfold mixSS at h
        rwa [List.take_of_length_le (by rw [mkSS_len]; exact Nat.le_refl _), List.drop_length, List.append_nil] at h)
      have HT : Hid (tot (xs.take xs.length) = tot xs) := hid (by rw [List.take_length])
      rw [HT.out]
      go_wp2
      go_ret
      exact ⟨rfl, HF.out, HON.out⟩
end Go.Proofs.YtfaehioeepolhaaGreat
