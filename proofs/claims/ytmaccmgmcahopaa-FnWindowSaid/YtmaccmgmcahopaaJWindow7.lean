import Derived.Test.YtmaccmgmcahopaaJWindow0
import Derived.Test.YtmaccmgmcahopaaJWindow5
import Derived.Test.YtmaccmgmcahopaaJWindow4
import Derived.Test.YtmaccmgmcahopaaJWindow6
namespace Go.Proofs.Ytmaccmgmcahopaa
open Go.RowKit
set_option maxHeartbeats 800000 in
theorem specCrc_some (b off cap : Nat) (xs : List Nat) (w : World) (hx : ∀ i, (h : i < xs.length) → w.cell? ⟨b, off + i, none⟩ = some (.int .u8 (xs[i] : Int))) (hb : ∀ x ∈ xs, x < 256) (hn : xs.length ≤ 1099511627776) :
    Calls Try.prog 96 #[.slice (some ⟨b, off, none⟩) xs.length cap] w fun e w' => e = .returned (.int .u32 ((crcFold xs ^^^ 4294967295 : Nat) : Int)) ∧ w' = w := by
  go_enter Try.func96, Try.ntmps96
  go_wp2
  go_loop [3, 4] (fun h i => ∃ k : Nat, k ≤ xs.length ∧ i = .int .i64 k ∧ h = .int .u32 ((crcFold (xs.take k) : Nat) : Int)) (fun _ i => xs.length - (intOf i).toNat)
  case atStart => exact ⟨0, Nat.zero_le _, rfl, rfl⟩
  case round =>
    obtain ⟨k, hk, rfl, rfl⟩ := hrel
    have hfl := crcTake_lt xs hb k
    by_cases hlt : k < xs.length
    · have g1 := hx k hlt
      have hxk : xs[k] < 256 := hb _ (List.getElem_mem _)
      have hki : (k : Int) < (xs.length : Int) := by omega
      have HS : Hid (crcFold (xs.take (k + 1)) = crcIn (crcFold (xs.take k)) xs[k]) := foldl_snoc xs k hlt
      clear hx
      generalize crcFold (xs.take k) = h0 at *
      have hX := bits_xor_u32 h0 xs[k] hfl (by omega)
      have hs0 : h0 ^^^ xs[k] < 4294967296 := Nat.xor_lt_two_pow (n := 32) (by omega) (by omega)
      have HC : Hid (crcIn h0 xs[k] = csteps 8 (h0 ^^^ xs[k])) := rfl
      generalize h0 ^^^ xs[k] = s0 at *
      go_wp2
      go_loop [3, 5] (fun h i => ∃ j : Nat, j ≤ 8 ∧ i = .int .i64 j ∧ h = .int .u32 ((csteps j s0 : Nat) : Int)) (fun _ i => 8 - (intOf i).toNat)
      case atStart => exact ⟨0, Nat.zero_le _, rfl, rfl⟩
      case round =>
        obtain ⟨j, hj, rfl, rfl⟩ := hrel
        have hsl := csteps_lt j hs0
        have HJ : Hid (csteps (j + 1) s0 = cstep (csteps j s0)) := rfl
        by_cases hj8 : j < 8
        · clear hX
          generalize csteps j s0 = s at *
          by_cases hod : s % 2 = 1
          · have ht : ((s : Int) % 2 == 1) = true := by simp; omega
            have HX : Hid (bits .xor .u32 ((s : Int) / 2) 3988292384 = ((cstep s : Nat) : Int)) := xor_odd hsl hod
            have hod' : Hid (s % 2 = 1) := hod
            clear hod
            go_wp2
            go_round
            case rel => exact ⟨j + 1, by omega, by go_num, by rw [HJ.out, ← HX.out]⟩
            case measure => simp [intOf]; omega
          · have ht : ((s : Int) % 2 == 1) = false := by simp; omega
            have HX : Hid (((s : Int) / 2) = ((cstep s : Nat) : Int)) := hid (by rw [cstep_not hod]; simp)
            clear hod
            go_wp2
            go_round
            case rel => exact ⟨j + 1, by omega, by go_num, by rw [HJ.out, ← HX.out]⟩
            case measure => simp [intOf]; omega
        · obtain rfl : j = 8 := by omega
          have HE : Hid (csteps 8 s0 = crcFold (xs.take (k + 1))) := hid (by rw [HS.out, HC.out])
          generalize csteps 8 s0 = s8 at *
          clear hX
          go_wp2
          go_round
          case rel => exact ⟨k + 1, by omega, by go_num, by rw [HE.out]⟩
          case measure => simp [intOf]; omega
    · obtain rfl : k = xs.length := by omega
      rw [List.take_length] at *
      have HX := hid (bits_xor_full (crcFold xs) hfl)
      go_wp2
      go_ret
      exact ⟨ret_int HX.out, rfl⟩
set_option maxHeartbeats 400000 in
theorem specCrc_zero (a : Option Addr) (cap : Nat) (w : World) :
    Calls Try.prog 96 #[.slice a 0 cap] w fun e w' => e = .returned (.int .u32 ((crcFold [] ^^^ 4294967295 : Nat) : Int)) ∧ w' = w := by
  have hX := bits_xor_full 4294967295 (by decide)
  go_enter Try.func96, Try.ntmps96
  go_wp2
  refine wp_loop_rounds 1 ?_; rw [rounds_succ]
  go_wp2
  go_ret
  exact ⟨by simpa [crcFold] using hX, rfl⟩
theorem specCrc_any (a : Option Addr) (cap : Nat) (xs : List Nat) (w : World) (hr : Rd w a (byt xs)) (hb : ∀ x ∈ xs, x < 256) (hn : xs.length ≤ 1099511627776) :
    Calls Try.prog 96 #[.slice a xs.length cap] w fun e w' => e = .returned (.int .u32 ((crcFold xs ^^^ 4294967295 : Nat) : Int)) ∧ w' = w := by
  rcases hr with h0 | ⟨b, off, rfl, hc⟩
  · obtain rfl : xs = [] := by simpa [byt] using h0
    exact specCrc_zero a cap w
  · exact specCrc_some b off cap xs w (rdByte hc) hb hn
end Go.Proofs.Ytmaccmgmcahopaa
namespace Go.Proofs.Ytmaccmgmcahopaa
open Go.RowKit
theorem RdSl.vals1 {w : World} {xss : List (List Nat)} {a : Option Addr} {n cap : Nat} (h : RdSl cSS w xss (.slice a n cap)) :
    ∃ vals : List Value, vals.length = xss.length ∧ Rd w a vals ∧ (∀ u ∈ vals, u.oneCell' = true) ∧ ∀ i, (h : i < xss.length) → ∃ a' c', vals[i]? = some (.slice a' xss[i].length c') ∧ RdSl cByte w xss[i] (.slice a' xss[i].length c') := by
  obtain ⟨a', cap', e', _, _, _, h4⟩ := id h
  simp only [Value.slice.injEq] at e'
  obtain ⟨rfl, rfl, rfl⟩ := e'
  rcases h4 with rfl | ⟨b, off, rfl, hat⟩
  · exact ⟨[], rfl, .inl rfl, by simp, fun i h => by simp at h⟩
  · have hx : ∀ i : Fin xss.length, ∃ u : Value, w.cell? ⟨b, off + i.1, none⟩ = some u ∧ ∃ a' c', u = .slice a' xss[i.1].length c' ∧ RdSl cByte w xss[i.1] (.slice a' xss[i.1].length c') := fun i => by
      obtain ⟨b', off', a', c', e, hc, hr⟩ := h.row i.2
      simp at e
      obtain ⟨rfl, rfl⟩ := e
      exact ⟨_, hc, a', c', rfl, hr⟩
    refine ⟨(List.finRange xss.length).map fun i => Classical.choose (hx i), by simp, .inr ⟨b, off, rfl, fun i hi => ?_⟩, fun u hu => ?_, fun i hi => ?_⟩
    · have hi' : i < xss.length := by simpa using hi
      have := (Classical.choose_spec (hx ⟨i, hi'⟩)).1
      rw [this]; simp
    · simp only [List.mem_map] at hu
      obtain ⟨i, _, rfl⟩ := hu
      obtain ⟨_, _, e, _⟩ := (Classical.choose_spec (hx i)).2
      rw [e]; rfl
    · obtain ⟨a', c', e, hr⟩ := (Classical.choose_spec (hx ⟨i, hi⟩)).2
      exact ⟨a', c', by rw [List.getElem?_map]; simp [hi]; exact e, hr⟩
theorem own_built {w : World} {B : Nat} {e : TypeId} {cs : Array Value} (hB : B ≤ w.heap.size) (hm : cs.size ≤ maxLen) : (w.alloc (.cells cs e)).ownsRow B e 1 (.slice (some ⟨w.heap.size, 0, none⟩) cs.size cs.size) cs.size cs.toList :=
  ⟨by simp, .inr ⟨w.heap.size, cs.size, cs, rfl, hB, heap_alloc_new w _, Nat.le_refl _, hm, by simp, by rw [Nat.mul_one]; exact List.take_of_length_le (by simp)⟩⟩
theorem U_nat (n : Nat) (h : n < 18446744073709551616) : U (n : Int) = n := by
  unfold U
  have : IntKind.u64.wrap (n : Int) = n := by
    rw [U_eq, U]
    simp [IntKind.wrap, IntKind.bits, IntKind.signed]
    omega
  rw [this]; simp
theorem wrap_u8 (n : Nat) (h : n < 256) : IntKind.u8.wrap (n : Int) = n := by
  simp [IntKind.wrap, IntKind.bits, IntKind.signed]; omega
theorem crcM_lt (xs : List Nat) (h : ∀ x ∈ xs, x < 256) : crcM xs < 4294967296 := by
  have h1 := crcTake_lt xs h xs.length
  rw [List.take_length] at h1
  unfold crcM
  have : crcFold xs ^^^ 4294967295 < 2 ^ 32 := Nat.xor_lt_two_pow (by omega) (by omega)
  omega
theorem infoByteM : (Try.prog.info? 5).map (fun i => (i.zero, i.size, i.bytes)) = some (some (.int .u8 0), 1, 1) := by kernel_rfl
def EncPost (w : World) (R : List Nat) (e : Ending) (w' : World) : Prop :=
  ∃ a c, e = .returned (.slice a R.length c) ∧ w'.ownsRow w.heap.size 5 1 (.slice a R.length c) R.length (byt R) ∧ Below w.heap.size w w'
theorem encPost_nil {w w' : World} {R : List Nat} (hb : Below w.heap.size w w') (hR : R = []) : EncPost w R (.returned (.slice none 0 0)) w' := by
  subst hR
  exact ⟨none, 0, rfl, World.ownsRow_nil _ _ _ _, hb⟩
end Go.Proofs.Ytmaccmgmcahopaa
