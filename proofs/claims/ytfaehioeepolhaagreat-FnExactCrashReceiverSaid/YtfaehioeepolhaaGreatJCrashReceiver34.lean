import Derived.Test.YtfaehioeepolhaaGreatJCrashReceiver14
import Derived.Test.YtfaehioeepolhaaGreatJCrashReceiver17
import Derived.Test.YtfaehioeepolhaaGreatJCrashReceiver25
import Derived.Test.YtfaehioeepolhaaGreatJCrashReceiver28
namespace Go.Proofs.YtfaehioeepolhaaGreat
def dataB (p : PP) (e : Int) : Bool := pktOK p && (decide (p.kind = 1) && decide (p.epoch = e))
end Go.Proofs.YtfaehioeepolhaaGreat
namespace Go.Proofs.YtfaehioeepolhaaGreat
open Go.RowKit
def prevSeq (s : PI) (k : Nat) : Int := if k = 0 then s.expect else (s.held[k - 1]?.map PP.seq).getD 0
def inW (s : PI) (k : Nat) (p : PP) : Bool := dataB p s.epoch && decide (s.expect < p.seq ∧ prevSeq s k < p.seq ∧ p.seq < s.expect + 8)
abbrev InH (s : PI) : Prop := 0 ≤ s.epoch ∧ s.epoch ≤ 1000000000 ∧ 0 ≤ s.expect ∧ s.expect ≤ 1000000000000 ∧ s.part.length ≤ 20000
def inOK (s : PI) : Bool := decide (InH s) && (List.range s.held.length).all fun i => match s.held[i]? with | some p => inW s i p | none => true
theorem inOK_head {s : PI} (h : ¬ InH s) : inOK s = false := by unfold inOK; rw [decide_eq_false h]; rfl
theorem inOK_at {s : PI} {k : Nat} (hk : k < s.held.length) (h : inW s k s.held[k] = false) : inOK s = false := by
  unfold inOK
  rw [Bool.and_eq_false_iff]
  refine .inr ?_
  rw [List.all_eq_false]
  refine ⟨k, List.mem_range.2 hk, ?_⟩
  simp [hk, h]
theorem inOK_all {s : PI} (h : InH s) (ha : ∀ k, (hk : k < s.held.length) → inW s k s.held[k] = true) : inOK s = true := by
  unfold inOK
  rw [decide_eq_true h, Bool.true_and, List.all_eq_true]
  intro i hi
  have hi' := List.mem_range.1 hi
  simp [hi', ha i hi']
theorem prevSeq_succ (s : PI) (k : Nat) (h : k < s.held.length) : prevSeq s (k + 1) = s.held[k].seq := by
  unfold prevSeq
  rw [if_neg (by omega), Nat.add_sub_cancel, List.getElem?_eq_getElem h]; rfl
theorem prevSeq_ge {s : PI} {k : Nat} (hk : k ≤ s.held.length) (h : ∀ j, (hj : j < s.held.length) → j < k → inW s j s.held[j] = true) : s.expect ≤ prevSeq s k := by
  cases k with
  | zero => exact Int.le_refl _
  | succ k =>
    have h1 := h k (by omega) (by omega)
    rw [prevSeq_succ s k (by omega)]
    unfold inW at h1
    rw [Bool.and_eq_true] at h1
    have h2 := of_decide_eq_true h1.2
    omega
end Go.Proofs.YtfaehioeepolhaaGreat
namespace Go.Proofs.YtfaehioeepolhaaGreat
open Go.RowKit Go.Maps
set_option maxHeartbeats 2000000 in
theorem specDict_any (a : Option Addr) (cap : Nat) (vs : List (List Nat)) (w : World) (hr : RdSl cSS w vs (.slice a vs.length cap)) (ht : totL List.length vs ≤ 1048576) :
    Calls Tryz.prog 87 #[.slice a vs.length cap] w fun e w' => e = .returned (.bool (dictOK vs)) ∧ Below w.heap.size w w' := by
  have HR := hid hr
  clear hr
  rw [totL_tot] at ht
  by_cases h1 : 40 < vs.length
  · have HD := hid (dictOK_len (vs := vs) (by omega))
    go_enter Tryz.func87, Tryz.ntmps87
    go_wp2
    go_ret
    exact ⟨by rw [HD.out]; rfl, Below.refl _ _⟩
  go_enter Tryz.func87, Tryz.ntmps87
  go_wp2
  go_loopw [3, 4] (fun s i wr => ∃ k : Nat, k ≤ vs.length ∧ i = .int .i64 k ∧ s = .int .i64 ((tot (vs.take k) : Nat) : Int) ∧ dictTo vs k = true ∧ Below w.heap.size w wr) (fun _ i _ => vs.length - (intOf i).toNat)
  case atStart => exact ⟨0, Nat.zero_le _, rfl, by simp [tot], by simp [dictTo, tot], Below.refl _ _⟩
  case round =>
    obtain ⟨k, hk, rfl, rfl, hok, hbe⟩ := hrel
    have HB := hid hbe
    have HO := hid hok
    clear hbe hok
    by_cases hlt : k < vs.length
    · obtain ⟨b, off, a', c', rfl, hcb, hrr⟩ := (HR.out.later HB.out).row hlt
      obtain ⟨_, _, e', -, -, -, hrd, hby⟩ := hrr.bytes
      simp only [Value.slice.injEq] at e'
      obtain ⟨rfl, -, rfl⟩ := e'
      have hki : (k : Int) < (vs.length : Int) := by omega
      have hkc : (k : Int) ≤ (cap : Int) := by
        obtain ⟨_, cap', e', hc, _⟩ := HR.out
        simp at e'
        omega
      have HTS := hid (tot_snoc vs k hlt)
      have h3 := tot_take vs k
      have h4 := len_le_tot vs k hlt
      have HQ : Hid (∀ n, Calls Tryz.prog 135 #[.slice (some ⟨b, off, none⟩) k cap, .slice a' vs[k].length c'] (wr.drewN n) fun e w' => e = .returned (.int .i64 (place (vs.take k) vs[k])) ∧ ∃ m, w' = (wr.drewN n).drewN m) := hid (fun n => by
        have hlen : (vs.take k).length = k := by simp; omega
        have h := l2place_any (some ⟨b, off, none⟩) a' cap c' (vs.take k) vs[k] (wr.drewN n) (by rw [hlen]; exact ((HR.out.later HB.out).later (below_drewN (Below.refl _ _) n)).take (by omega)) (hrd.later (below_drewN (Below.refl _ _) n)) hby (by omega)
        rw [hlen] at h
        refine h.mono ?_
        rintro e w' ⟨rfl, rfl⟩
        exact ⟨rfl, 0, rfl⟩)
      have HP := hid (place_neg (vs := vs.take k) (t := vs[k]))
      clear hrr hrd hby
      generalize tot (vs.take k) = t at *
      generalize place (vs.take k) vs[k] = p at *
      by_cases hbig : 4000 < t + vs[k].length
      · have HX := hid (dictTo_bad hlt (.inl (by rw [HTS.out]; exact hbig)))
        have hd : decide ((4000 : Int) < (t : Int) + (vs[k].length : Int)) = true := decide_eq_true (by omega)
        go_wp2
        go_quiet (fail)
        go_wp2
        go_ret
        exact ⟨by rw [HX.out]; rfl, below_drewN HB.out _⟩
      · have hd : decide ((4000 : Int) < (t : Int) + (vs[k].length : Int)) = false := decide_eq_false (by omega)
        go_wp2
        go_quiet ((go_at_call 135; exact Calls.quiet_of (HQ.out _)))
        by_cases hp : p < 0
        · have HX := hid (dictTo_succ hlt HO.out (by rw [HTS.out]; omega) (HP.out.1 hp))
          go_wp2
          go_roundw
          case rel => exact ⟨k + 1, by omega, by go_num, by rw [HTS.out]; go_num, HX.out, below_drewN HB.out _⟩
          case measure => simp [intOf]; omega
        · have HX := hid (dictTo_bad hlt (.inr (Classical.not_not.1 (fun h => hp (HP.out.2 h)))))
          go_wp2
          go_ret
          exact ⟨by rw [HX.out]; rfl, below_drewN HB.out _⟩
    · obtain rfl : k = vs.length := by omega
      have HX : Hid (dictOK vs = true) := hid (by unfold dictOK; rw [decide_eq_true (show vs.length ≤ 40 by omega), HO.out]; rfl)
      go_wp2
      go_ret
      exact ⟨by rw [HX.out]; rfl, HB.out⟩
end Go.Proofs.YtfaehioeepolhaaGreat
namespace Go.Proofs.YtfaehioeepolhaaGreat
open Go.RowKit Go.Maps Go.WideMaps
set_option maxHeartbeats 1000000 in
theorem implDict_any (a : Option Addr) (cap : Nat) (vs : List (List Nat)) (w : World) (hr : RdSl cSS w vs (.slice a vs.length cap)) (ht : totL List.length vs ≤ 1048576) :
    Calls Tryz.prog 139 #[.slice a vs.length cap] w fun e w' => e = .returned (.bool (dictOK vs)) ∧ Below w.heap.size w w' := by
  have hlen : vs.length ≤ 1048576 := by unfold totL at ht; omega
  by_cases h1 : 40 < vs.length
  · have HD := hid (dictOK_len (vs := vs) (by omega))
    go_enter Tryz.func139, Tryz.ntmps139
    go_wp2
    go_ret
    exact ⟨by rw [HD.out]; rfl, Below.refl _ _⟩
  have HQ := hid (bytesOfTexts_any a cap vs w hr ht)
  have HN := hid (newDict_any a cap vs w hr ht)
  have HOK := hid hr.allOK
  have HT : Hid (¬ tot vs ≤ 4000 → dictOK vs = false) := hid dictOK_tot
  have HC : Hid (tot vs ≤ 4000 → dictOK vs = decide (cnt vs vs.length = vs.length)) := hid (dictOK_cnt vs (by omega))
  have htot : tot vs ≤ 1048576 := by rw [totL_tot] at ht; omega
  clear hr ht
  generalize tot vs = t at *
  by_cases h2 : 4000 < t
  · have HX := hid (HT.out (by omega))
    go_enter Tryz.func139, Tryz.ntmps139
    go_wp2_with fail
    refine HQ.out.mono ?_
    rintro e w ⟨rfl, rfl⟩
    go_wp2
    go_ret
    exact ⟨by rw [HX.out]; rfl, Below.refl _ _⟩
  · have HX := hid (HC.out (by omega))
    go_enter Tryz.func139, Tryz.ntmps139
    go_wp2_with fail
    refine HQ.out.mono ?_
    rintro e w ⟨rfl, rfl⟩
    go_wp2_with fail
    refine HN.out.mono ?_
    rintro e w2 ⟨m, rfl, hm, ho, b2⟩
    have HS : Hid (Maps.size (dmap vs vs.length) = cnt vs vs.length) := hid (dmap_size HOK.out vs.length (Nat.le_refl _))
    have HO := hid ho
    have HB := hid b2
    clear ho b2
    have hfd := dictField1 (.slice a vs.length cap) (.map (some m)) w2
    have hln := HO.out.len Tryz.underlying198 3
    rw [HS.out] at hln
    have hcn := cnt_le vs vs.length
    generalize hc : cnt vs vs.length = c at *
    go_wp2
    go_ret
    exact ⟨by rw [HX.out]; simp; exact natBeq _ _, HB.out⟩
end Go.Proofs.YtfaehioeepolhaaGreat
