import Derived.Test.YtcljakdcejhfiabJValidFields5
import Derived.Handy
namespace Go.Proofs.Ytcljakdcejhfiab
open Go.RowKit
set_option maxHeartbeats 400000 in
theorem szField_law : SzLaw Try.prog 51 cField (fun f : PF => f.name.length) := by
  intro w x cs l hrd h0 h1
  obtain ⟨a, cap, rfl⟩ := cField_shape hrd
  have hm : x.name.length ≤ maxLen := by
    obtain ⟨v, e, ⟨a', cap', rfl, h2, h3, _⟩, _⟩ := cField_rd hrd
    omega
  simp only [val]
  by_cases hneg : rest l x.name.length < 0
  · have hm1 := rest_neg1 hneg
    go_enter Try.func51, Try.ntmps51
    go_wp2_with fail
    refine (szBytes_any a _ cap l _ hm h0 h1).mono ?_
    rintro e w2 ⟨rfl, rfl⟩
    have HM := hid hm1
    clear hm1
    generalize hr : rest l x.name.length = r at *
    go_wp2
    go_ret
    exact ⟨by show _ = Ending.returned (.int .i64 (rest l x.name.length)); rw [hr, HM.out]; rfl, below_new1 _ _⟩
  · go_enter Try.func51, Try.ntmps51
    go_wp2_with fail
    refine (szBytes_any a _ cap l _ hm h0 h1).mono ?_
    rintro e w2 ⟨rfl, rfl⟩
    generalize hr : rest l x.name.length = r at *
    go_wp2
    go_ret
    exact ⟨by show _ = Ending.returned (.int .i64 (rest l x.name.length)); rw [hr]; rfl, below_new1 _ _⟩
set_option maxHeartbeats 1000000 in
theorem szFieldS_any (a : Option Addr) (cap : Nat) (xs : List PF) (l : Int) (w : World) (hr : RdSl cField w xs (.slice a xs.length cap)) (h0 : 0 ≤ l) (h1 : l ≤ 1048576) :
    Calls Try.prog 24 #[.slice a xs.length cap, .int .i64 l] w fun e w' => e = .returned (.int .i64 (rest l (totL (fun f : PF => f.name.length) xs))) ∧ Below w.heap.size w w' := by
  have hml : xs.length ≤ maxLen := by
    obtain ⟨a', cap', e', g1, g2, _⟩ := hr
    omega
  unfold maxLen at hml
  have HR := hid hr
  clear hr
  by_cases hbig : l - (xs.length : Int) < 0
  · have HM : Hid (rest l (totL (fun f : PF => f.name.length) xs) = -1) := hid (by unfold rest totL; rw [if_pos (by omega)])
    go_enter Try.func24, Try.ntmps24
    go_wp2
    go_ret
    exact ⟨by rw [HM.out]; rfl, Below.refl _ _⟩
  · go_enter Try.func24, Try.ntmps24
    go_wp2
    go_loopw [1, 5] (fun q i wr => ∃ k : Nat, k ≤ xs.length ∧ i = .int .i64 k ∧ q = .int .i64 (rest l (xs.length + ((xs.take k).map (fun f : PF => f.name.length)).sum)) ∧ 0 ≤ rest l (xs.length + ((xs.take k).map (fun f : PF => f.name.length)).sum) ∧ Below w.heap.size w wr) (fun _ i _ => xs.length - (intOf i).toNat)
    case atStart => exact ⟨0, Nat.zero_le _, rfl, by simp [rest]; omega, by simp [rest]; omega, Below.refl _ _⟩
    case round =>
      obtain ⟨k, hk, rfl, rfl, hle, hbe⟩ := hrel
      have HB := hid hbe
      clear hbe
      by_cases hlt : k < xs.length
      · obtain ⟨b, off, v0, v1, v2, rfl, hes, d0, d1, d2⟩ := (HR.out.later HB.out).at3 rfl hlt
        have HE := hid hes
        have hki : (k : Int) < (xs.length : Int) := by omega
        have HS := hid (sum_snoc (fun f : PF => f.name.length) xs k hlt)
        have HT := hid (rest_two (m := (fun f : PF => f.name.length) xs[k]) hle)
        have HNG : Hid (rest l (xs.length + ((xs.take (k + 1)).map (fun f : PF => f.name.length)).sum) < 0 → rest l (totL (fun f : PF => f.name.length) xs) = -1) := hid (fun h => by
          have h2 := sum_take (fun f : PF => f.name.length) xs (k + 1)
          have h3 := rest_neg (m := totL (fun f : PF => f.name.length) xs - (xs.length + ((xs.take (k + 1)).map (fun f : PF => f.name.length)).sum)) h
          unfold totL at *
          rw [show xs.length + ((xs.take (k + 1)).map (fun f : PF => f.name.length)).sum + (xs.length + (xs.map (fun f : PF => f.name.length)).sum - (xs.length + ((xs.take (k + 1)).map (fun f : PF => f.name.length)).sum)) = xs.length + (xs.map (fun f : PF => f.name.length)).sum from by omega] at h3
          exact h3)
        have hup := rest_le (n := xs.length + ((xs.take k).map (fun f : PF => f.name.length)).sum) h1
        clear hes
        generalize hq : rest l (xs.length + ((xs.take k).map (fun f : PF => f.name.length)).sum) = q at *
        go_wp2_with fail
        refine (szField_law wr xs[k] _ q HE.out hle hup).mono ?_
        rintro e w2 ⟨rfl, b2⟩
        have HB2 := hid (HB.out.trans (b2.mono HB.out.size))
        clear b2
        have HQ : Hid (rest q ((fun f : PF => f.name.length) xs[k]) = rest l (xs.length + ((xs.take (k + 1)).map (fun f : PF => f.name.length)).sum)) := hid (by rw [HT.out, HS.out, Nat.add_assoc])
        generalize rest q ((fun f : PF => f.name.length) xs[k]) = r at *
        by_cases hneg : r < 0
        · have hz := HNG.out (by rw [← HQ.out]; exact hneg)
          have HZ := hid hz
          clear hz
          go_wp2
          go_ret
          exact ⟨by rw [HZ.out]; rfl, HB2.out⟩
        · go_wp2
          go_roundw
          case rel => exact ⟨k + 1, by omega, by go_num, by rw [HQ.out], by rw [← HQ.out]; omega, HB2.out⟩
          case measure => simp [intOf]; omega
      · obtain rfl : k = xs.length := by omega
        have HF : Hid (rest l (xs.length + ((xs.take xs.length).map (fun f : PF => f.name.length)).sum) = rest l (totL (fun f : PF => f.name.length) xs)) := hid (by rw [List.take_length]; rfl)
        rw [HF.out]
        go_wp2
        go_ret
        exact ⟨rfl, HB.out⟩
end Go.Proofs.Ytcljakdcejhfiab
