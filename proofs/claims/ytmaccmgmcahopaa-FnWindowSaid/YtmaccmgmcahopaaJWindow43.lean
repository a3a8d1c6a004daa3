/- EqSameB, BitsMath, Flip, RdRow, FctB. -/
import Derived.Test.YtmaccmgmcahopaaJWindow0
import Derived.WalkKit
import Derived.Test.YtmaccmgmcahopaaJWindow35
import Derived.Test.YtmaccmgmcahopaaJWindow4
import Derived.Test.YtmaccmgmcahopaaJWindow6
import Derived.Deep.DeepCutAuto
import Derived.Test.YtmaccmgmcahopaaJWindow7
import Derived.Test.YtmaccmgmcahopaaJWindow8
/- laws.eq..S: two slices that read alike -/
namespace Go.Proofs.Ytmaccmgmcahopaa
open Go.RowKit

set_option maxHeartbeats 400000 in
theorem sameB_zero (a1 a2 : Option Addr) (c1 c2 : Nat) (w : World) :
    Calls Try.prog 55 #[.slice a1 0 c1, .slice a2 0 c2] w fun e w' => e = .returned (.bool true) ∧ ∃ m, w' = w.drewN m := by
  go_enter Try.func55, Try.ntmps55
  go_wp2
  refine wp_loop_rounds 1 ?_; rw [rounds_succ]
  go_wp2
  go_ret
  exact ⟨rfl, 0, rfl⟩

set_option maxHeartbeats 400000 in
theorem sameB_some (b1 o1 b2 o2 c1 c2 : Nat) (xs : List Nat) (w : World) (hx : ∀ i, (h : i < xs.length) → w.cell? ⟨b1, o1 + i, none⟩ = some (.int .u8 ((xs[i] : Nat) : Int))) (hy : ∀ i, (h : i < xs.length) → w.cell? ⟨b2, o2 + i, none⟩ = some (.int .u8 ((xs[i] : Nat) : Int))) (hn : xs.length ≤ 1099511627776) :
    Calls Try.prog 55 #[.slice (some ⟨b1, o1, none⟩) xs.length c1, .slice (some ⟨b2, o2, none⟩) xs.length c2] w fun e w' => e = .returned (.bool true) ∧ ∃ m, w' = w.drewN m := by
  go_enter Try.func55, Try.ntmps55
  go_wp2
  go_loopw [5] (fun i wr => ∃ k : Nat, k ≤ xs.length ∧ i = .int .i64 k ∧ ∃ m, wr = w.drewN m) (fun i _ => xs.length - (intOf i).toNat)
  case atStart => exact ⟨0, Nat.zero_le _, rfl, 0, rfl⟩
  case round =>
    obtain ⟨k, hk, rfl, m, rfl⟩ := hrel
    by_cases hlt : k < xs.length
    · have g1 := hx k hlt
      have g2 := hy k hlt
      have hki : (k : Int) < (xs.length : Int) := by omega
      clear hx hy
      go_wp2
      go_quiet (fail)
      go_wp2
      go_roundw
      case rel => exact ⟨k + 1, by omega, by go_num, _, rfl⟩
      case measure => simp [intOf]; omega
    · obtain rfl : k = xs.length := by omega
      go_wp2
      go_ret
      exact ⟨rfl, m, rfl⟩

theorem sameB_quiet (a1 a2 : Option Addr) (c1 c2 n : Nat) (xs : List Nat) (w : World) (h1 : Rd w a1 (byt xs)) (h2 : Rd w a2 (byt xs)) (hl : xs.length = n) (hn : n ≤ 1099511627776) :
    Calls Try.prog 55 #[.slice a1 n c1, .slice a2 n c2] w fun e w' => e = .returned (.bool true) ∧ ∃ m, w' = w.drewN m := by
  subst hl
  by_cases h0 : xs = []
  · subst h0
    exact sameB_zero a1 a2 c1 c2 w
  · have hne : byt xs ≠ [] := by simpa [byt] using h0
    rcases h1 with h | ⟨b1, o1, rfl, e1⟩
    · exact absurd h hne
    rcases h2 with h | ⟨b2, o2, rfl, e2⟩
    · exact absurd h hne
    exact sameB_some b1 o1 b2 o2 c1 c2 xs w (rdByte e1) (rdByte e2) hn

/-- Two slices that read alike: true. -/
theorem sameB_any (a1 a2 : Option Addr) (c1 c2 n : Nat) (xs : List Nat) (w : World) (h1 : Rd w a1 (byt xs)) (h2 : Rd w a2 (byt xs)) (hl : xs.length = n) (hn : n ≤ 1099511627776) :
    Calls Try.prog 55 #[.slice a1 n c1, .slice a2 n c2] w fun e w' => e = .returned (.bool true) ∧ Below w.heap.size w w' := by
  refine (sameB_quiet a1 a2 c1 c2 n xs w h1 h2 hl hn).mono ?_
  rintro e w' ⟨rfl, m, rfl⟩
  exact ⟨rfl, below_drewN (Below.refl _ _) m⟩

end Go.Proofs.Ytmaccmgmcahopaa

/- Bits in bytes, plain. No program. -/
namespace Go.Proofs.Ytmaccmgmcahopaa

def bitN (bs : List Bool) (i : Nat) : Nat := if bs[i]?.getD false then 1 else 0
/-- The value of byte j's first m bits. -/
def low (bs : List Bool) (j : Nat) : Nat → Nat
  | 0 => 0
  | m + 1 => low bs j m + bitN bs (8 * j + m) * 2 ^ m
/-- The value of byte j's last n bits, from the top. -/
def hor (bs : List Bool) (j : Nat) : Nat → Nat
  | 0 => 0
  | n + 1 => hor bs j n * 2 + bitN bs (8 * j + 7 - n)
def nb (n : Nat) : Nat := if n % 8 = 0 then n / 8 else n / 8 + 1
def packed (bs : List Bool) : List Nat := (List.range (nb bs.length)).map fun j => low bs j 8
def packedTo (bs : List Bool) (i : Nat) : List Nat := (List.range (nb bs.length)).map fun j => low bs j (min 8 (i - 8 * j))

theorem bitN_le (bs : List Bool) (i : Nat) : bitN bs i ≤ 1 := by unfold bitN; split <;> omega
theorem low_lt (bs : List Bool) (j m : Nat) : low bs j m < 2 ^ m := by
  induction m with
  | zero => simp [low]
  | succ m ih =>
    have := bitN_le bs (8 * j + m)
    have h2 : bitN bs (8 * j + m) * 2 ^ m ≤ 1 * 2 ^ m := Nat.mul_le_mul_right _ this
    simp only [low, Nat.pow_succ]
    omega
theorem low_lt256 (bs : List Bool) (j m : Nat) (h : m ≤ 8) : low bs j m < 256 :=
  Nat.lt_of_lt_of_le (low_lt bs j m) (by have := Nat.pow_le_pow_right (n := 2) (by decide) h; simpa using this)
theorem hor_lt (bs : List Bool) (j n : Nat) : hor bs j n < 2 ^ n := by
  induction n with
  | zero => simp [hor]
  | succ n ih =>
    have := bitN_le bs (8 * j + 7 - n)
    simp only [hor, Nat.pow_succ]
    omega
theorem hor_lt256 (bs : List Bool) (j n : Nat) (h : n ≤ 8) : hor bs j n < 256 :=
  Nat.lt_of_lt_of_le (hor_lt bs j n) (by have := Nat.pow_le_pow_right (n := 2) (by decide) h; simpa using this)
theorem hor_low (bs : List Bool) (j : Nat) : hor bs j 8 = low bs j 8 := by
  simp only [hor, low, Nat.add_sub_cancel]
  simp only [show 8 * j + 7 - 0 = 8 * j + 7 from by omega, show 8 * j + 7 - 1 = 8 * j + 6 from by omega, show 8 * j + 7 - 2 = 8 * j + 5 from by omega, show 8 * j + 7 - 3 = 8 * j + 4 from by omega, show 8 * j + 7 - 4 = 8 * j + 3 from by omega, show 8 * j + 7 - 5 = 8 * j + 2 from by omega, show 8 * j + 7 - 6 = 8 * j + 1 from by omega, Nat.add_zero]
  omega

theorem nb_eq (n : Nat) : nb n = (n + 7) / 8 := by unfold nb; split <;> omega
theorem nb_le (n : Nat) : nb n ≤ n := by unfold nb; split <;> omega
theorem packed_len (bs : List Bool) : (packed bs).length = nb bs.length := by simp [packed]
theorem packedTo_len (bs : List Bool) (i : Nat) : (packedTo bs i).length = nb bs.length := by simp [packedTo]
theorem packed_lt (bs : List Bool) : ∀ x ∈ packed bs, x < 256 := by
  intro x hx
  obtain ⟨j, _, rfl⟩ := List.mem_map.1 hx
  exact low_lt256 bs j 8 (by omega)
theorem packedTo_zero (bs : List Bool) : packedTo bs 0 = List.replicate (nb bs.length) 0 := by
  apply List.ext_getElem (by simp [packedTo])
  intro i h1 h2
  simp [packedTo, low]
theorem packedTo_all (bs : List Bool) : packedTo bs bs.length = packed bs := by
  unfold packedTo packed
  refine List.map_congr_left fun j hj => ?_
  have hj := List.mem_range.1 hj
  by_cases h : 8 ≤ bs.length - 8 * j
  · rw [show min 8 (bs.length - 8 * j) = 8 from by omega]
  · have hd : ∀ d, low bs j (min 8 (bs.length - 8 * j) + d) = low bs j (min 8 (bs.length - 8 * j)) := by
      intro d
      induction d with
      | zero => rfl
      | succ d ih =>
        rw [show min 8 (bs.length - 8 * j) + (d + 1) = (min 8 (bs.length - 8 * j) + d) + 1 from rfl, low, ih]
        have : bitN bs (8 * j + (min 8 (bs.length - 8 * j) + d)) = 0 := by
          unfold bitN
          rw [List.getElem?_eq_none (by omega)]
          rfl
        rw [this]; simp
    have := hd (8 - min 8 (bs.length - 8 * j))
    rw [show min 8 (bs.length - 8 * j) + (8 - min 8 (bs.length - 8 * j)) = 8 from by omega] at this
    exact this.symm

theorem packedTo_at (bs : List Bool) (i j : Nat) (h : j < nb bs.length) : (packedTo bs i)[j]? = some (low bs j (min 8 (i - 8 * j))) := by simp [packedTo, h]
theorem packedTo_succ (bs : List Bool) (i : Nat) (h : i < bs.length) : packedTo bs (i + 1) = (packedTo bs i).set (i / 8) (low bs (i / 8) (i % 8 + 1)) := by
  apply List.ext_getElem?
  intro j
  rw [List.getElem?_set, packedTo_len]
  by_cases hj : j < nb bs.length
  · rw [packedTo_at bs _ j hj, packedTo_at bs _ j hj]
    by_cases e : i / 8 = j
    · subst e
      rw [if_pos rfl, if_pos hj, show min 8 (i + 1 - 8 * (i / 8)) = i % 8 + 1 from by omega]
    · rw [if_neg e, show min 8 (i + 1 - 8 * j) = min 8 (i - 8 * j) from by omega]
  · have hn : i / 8 < nb bs.length := by unfold nb; split <;> omega
    rw [if_neg (by omega), List.getElem?_eq_none (by rw [packedTo_len]; omega), List.getElem?_eq_none (by rw [packedTo_len]; omega)]
theorem low_same (bs : List Bool) (i : Nat) (h : bs[i]?.getD false = false) : low bs (i / 8) (i % 8 + 1) = low bs (i / 8) (i % 8) := by
  have e : bitN bs (8 * (i / 8) + i % 8) = 0 := by
    rw [show 8 * (i / 8) + i % 8 = i from by omega]; simp [bitN, h]
  simp [low, e]
theorem low_up (bs : List Bool) (i : Nat) (h : bs[i]?.getD false = true) : low bs (i / 8) (i % 8 + 1) = low bs (i / 8) (i % 8) ||| 2 ^ (i % 8) := by
  have e : bitN bs (8 * (i / 8) + i % 8) = 1 := by
    rw [show 8 * (i / 8) + i % 8 = i from by omega]; simp [bitN, h]
  have := Nat.two_pow_add_eq_or_of_lt (low_lt bs (i / 8) (i % 8)) 1
  rw [Nat.mul_one] at this
  show low bs (i / 8) (i % 8) + bitN bs (8 * (i / 8) + i % 8) * 2 ^ (i % 8) = _
  rw [e, Nat.one_mul, Nat.or_comm, ← this]; omega
theorem packedTo_skip (bs : List Bool) (i : Nat) (h : i < bs.length) (hb : bs[i]?.getD false = false) : packedTo bs (i + 1) = packedTo bs i := by
  rw [packedTo_succ bs i h, low_same bs i hb]
  have hn : i / 8 < nb bs.length := by unfold nb; split <;> omega
  have := packedTo_at bs i (i / 8) hn
  rw [show min 8 (i - 8 * (i / 8)) = i % 8 from by omega] at this
  obtain ⟨h1, h2⟩ := List.getElem?_eq_some_iff.1 this
  rw [← h2, List.set_getElem_self]

theorem bits_or_u8 (a b : Nat) (ha : a < 256) (hb : b < 256) : bits .or .u8 (a : Int) (b : Int) = ((a ||| b : Nat) : Int) := by
  have hx : a ||| b < 2 ^ 8 := Nat.or_lt_two_pow (by omega) (by omega)
  have h1 : (BitVec.ofInt 8 (a : Int)).toNat = a := by
    rw [BitVec.ofInt_natCast, BitVec.toNat_ofNat]; exact Nat.mod_eq_of_lt (by omega)
  have h2 : (BitVec.ofInt 8 (b : Int)).toNat = b := by
    rw [BitVec.ofInt_natCast, BitVec.toNat_ofNat]; exact Nat.mod_eq_of_lt (by omega)
  show IntKind.u8.wrap ((BitVec.ofInt 8 (a : Int) ||| BitVec.ofInt 8 (b : Int)).toNat : Int) = _
  rw [BitVec.toNat_or, h1, h2]
  simp [IntKind.wrap, IntKind.bits, IntKind.signed]
  omega

/-- The walk's own spelling of a bit that is set. -/
theorem or_up (bs : List Bool) (i : Nat) (h : bs[i]?.getD false = true) : bits .or .u8 ((low bs (i / 8) (i % 8) : Nat) : Int) ((2 : Int) ^ (i % 8) % 256) = ((low bs (i / 8) (i % 8 + 1) : Nat) : Int) := by
  have h8 : 2 ^ (i % 8) < 256 := by have := Nat.pow_lt_pow_right (a := 2) (n := 8) (m := i % 8) (by decide) (by omega); simpa using this
  have e : ((2 : Int) ^ (i % 8) % 256) = ((2 ^ (i % 8) : Nat) : Int) := by
    rw [Int.natCast_pow]
    have : ((2 ^ (i % 8) : Nat) : Int) < 256 := by omega
    rw [Int.natCast_pow] at this
    have h0 : (0 : Int) ≤ (2 : Int) ^ (i % 8) := Int.pow_nonneg (by decide)
    exact Int.emod_eq_of_lt h0 this
  rw [e, bits_or_u8 _ _ (low_lt256 bs _ _ (by omega)) h8, low_up bs i h]

theorem hor_step (bs : List Bool) (j p : Nat) (hp : p < 8) : hor bs j (8 - p) = hor bs j (8 - (p + 1)) * 2 + bitN bs (8 * j + p) := by
  rw [show 8 - p = (8 - (p + 1)) + 1 from by omega, hor, show 8 * j + 7 - (8 - (p + 1)) = 8 * j + p from by omega]
theorem bitN_on {bs : List Bool} {i : Nat} (h : i < bs.length) (hb : bs[i] = true) : bitN bs i = 1 := by simp [bitN, h, hb]
theorem bitN_off {bs : List Bool} {i : Nat} (h : i < bs.length) (hb : bs[i] = false) : bitN bs i = 0 := by simp [bitN, h, hb]
theorem bitN_out {bs : List Bool} {i : Nat} (h : bs.length ≤ i) : bitN bs i = 0 := by simp [bitN, h]
theorem packed_take_succ (bs : List Bool) (j : Nat) (h : j < nb bs.length) : (packed bs).take (j + 1) = (packed bs).take j ++ [low bs j 8] := by
  rw [List.take_succ_eq_append_getElem (by rw [packed_len]; exact h)]
  simp [packed]
theorem nb_lt {n j : Nat} : 8 * j < n ↔ j < nb n := by unfold nb; split <;> omega

end Go.Proofs.Ytmaccmgmcahopaa

/- laws.take at any place, laws.flip, laws.sameL of what is alike. -/
namespace Go.Proofs.Ytmaccmgmcahopaa
open Go.RowKit

set_option maxHeartbeats 1000000 in
theorem take_any (a : Option Addr) (cap : Nat) (xs : List Nat) (i : Nat) (w : World) (hr : Rd w a (byt xs)) (hb : ∀ x ∈ xs, x < 256) (hn : xs.length ≤ 1048576) :
    Calls Try.prog 6 #[.slice a xs.length cap, .int .i64 (i : Int)] w fun e w' => (∃ q : Nat, q < 256 ∧ e = .returned (.int .i64 (q : Int))) ∧ Below w.heap.size w w' := by
  by_cases h0 : xs.length = 0
  · obtain rfl := List.length_eq_zero_iff.1 h0
    go_enter Try.func6, Try.ntmps6
    go_wp2
    go_ret
    exact ⟨⟨0, by omega, rfl⟩, Below.refl _ _⟩
  · obtain ⟨r, hr2⟩ : ∃ r : Nat, r = i % xs.length := ⟨_, rfl⟩
    have hrl : r < xs.length := by rw [hr2]; exact Nat.mod_lt _ (by omega)
    have hx := hb _ (List.getElem_mem hrl)
    obtain ⟨b, o, rfl, hc⟩ : ∃ b o, a = some ⟨b, o, none⟩ ∧ w.cell? ⟨b, o + r, none⟩ = some (.int .u8 ((xs[r] : Nat) : Int)) := by
      rcases hr with h | ⟨b, o, rfl, h⟩
      · have : (byt xs).length = 0 := by rw [h]; rfl
        rw [byt_len] at this
        omega
      · exact ⟨b, o, rfl, by have := h r (by rw [byt_len]; exact hrl); rw [this]; simp [byt]⟩
    have h1 : ((xs.length : Int) == 0) = false := beq_eq_false_iff_ne.2 (by omega)
    have h2 : (i : Int).tmod (xs.length : Int) = (r : Int) := by rw [hr2]; rfl
    have h3 : (i : Int) % (xs.length : Int) = (r : Int) := by rw [hr2]; rfl
    have hlt : (r : Int) < (xs.length : Int) := by omega
    generalize xs[r] = x at *
    clear hr hb hr2
    generalize xs.length = n at *
    go_enter Try.func6, Try.ntmps6
    go_wp2
    go_ret
    exact ⟨⟨x, hx, rfl⟩, Below.refl _ _⟩

theorem infoByteF : (Try.prog.info? 5).map (fun i => (i.zero, i.size, i.bytes)) = some (some (.int .u8 0), 1, 1) := by kernel_rfl

set_option maxHeartbeats 1000000 in
theorem sameL_any (a1 a2 : Option Addr) (c1 c2 : Nat) (xs : List (List Nat)) (w : World) (h1 : RdSl cSS w xs (.slice a1 xs.length c1)) (h2 : RdSl cSS w xs (.slice a2 xs.length c2)) (ht : totL List.length xs ≤ 1048576) :
    Calls Try.prog 16 #[.slice a1 xs.length c1, .slice a2 xs.length c2] w fun e w' => e = .returned (.bool true) ∧ Below w.heap.size w w' := by
  have H1 := hid h1
  have H2 := hid h2
  clear h1 h2
  have hlen : xs.length ≤ 1048576 := by unfold totL at ht; omega
  go_enter Try.func16, Try.ntmps16
  go_wp2
  go_loopw [5] (fun i wr => ∃ k : Nat, k ≤ xs.length ∧ i = .int .i64 k ∧ Below w.heap.size w wr) (fun i _ => xs.length - (intOf i).toNat)
  case atStart => exact ⟨0, Nat.zero_le _, rfl, Below.refl _ _⟩
  case round =>
    obtain ⟨k, hk, rfl, hbe⟩ := hrel
    have HB := hid hbe
    clear hbe
    by_cases hlt : k < xs.length
    · obtain ⟨b1, o1, a1', c1', rfl, g1, r1⟩ := (H1.out.later HB.out).row hlt
      obtain ⟨b2, o2, a2', c2', rfl, g2, r2⟩ := (H2.out.later HB.out).row hlt
      obtain ⟨_, _, e', -, -, -, q1, -⟩ := r1.bytes
      simp only [Value.slice.injEq] at e'
      obtain ⟨rfl, -, rfl⟩ := e'
      obtain ⟨_, _, e', -, -, -, q2, -⟩ := r2.bytes
      simp only [Value.slice.injEq] at e'
      obtain ⟨rfl, -, rfl⟩ := e'
      have HQ : Hid (∀ n, Calls Try.prog 55 #[.slice a1' xs[k].length c1', .slice a2' xs[k].length c2'] (wr.drewN n) fun e w' => e = .returned (.bool true) ∧ ∃ m, w' = (wr.drewN n).drewN m) := hid (fun n => by
        have hlk := tot_at List.length xs k hlt
        unfold totL at ht
        exact sameB_quiet _ _ _ _ _ xs[k] _ (q1.later (below_drewN (Below.refl _ _) n)) (q2.later (below_drewN (Below.refl _ _) n)) rfl (by omega))
      have hki : (k : Int) < (xs.length : Int) := by omega
      clear r1 r2 q1 q2
      go_wp2
      go_quiet ((go_at_call 55; exact Calls.quiet_of (HQ.out _)))
      go_wp2
      go_roundw
      case rel => exact ⟨k + 1, by omega, by go_num, below_drewN HB.out _⟩
      case measure => simp [intOf]; omega
    · obtain rfl : k = xs.length := by omega
      go_wp2
      go_ret
      exact ⟨rfl, HB.out⟩

end Go.Proofs.Ytmaccmgmcahopaa

/- A row of texts reads as these. -/
namespace Go.Proofs.Ytmaccmgmcahopaa
open Go.RowKit

theorem rdSS_of_row {B : Nat} {w : World} {v : Value} {xss : List (List Nat)} {vals : List Value} (ho : w.ownsRow B 22 1 v xss.length vals) (hi : ∀ i, (h : i < xss.length) → ∃ u, vals[i]? = some u ∧ RdSl cByte w xss[i] u) : RdSl cSS w xss v := by
  have hvl : vals.length = xss.length := by have := ho.1; omega
  rcases ho.2 with ⟨rfl, h0⟩ | ⟨g, cap, cur, rfl, hg, hh, hn, hm, r⟩
  · obtain rfl := List.length_eq_zero_iff.1 h0
    exact RdSl.empty none
  · refine ⟨_, cap, rfl, hn, hm, (fun h => by cases h), .inr ⟨g, 0, rfl, fun i h => ?_⟩⟩
    obtain ⟨u, hu, hr⟩ := hi i h
    refine ⟨[u], ⟨u, rfl, hr⟩, fun j hj => ?_⟩
    have hj0 : j = 0 := by simpa using hj
    subst hj0
    have := World.ownsRow.cellAt ho i (by omega)
    rw [show 0 + (i * cSS.n + 0) = i from by simp [cSl], this, hu]; rfl


end Go.Proofs.Ytmaccmgmcahopaa

/- Facts of drawn regions: bytes, texts, rows. -/
namespace Go.Proofs.Ytmaccmgmcahopaa
open Go.RowKit

def Fct.bytes (xs : List Nat) : Fct := ⟨fun v w => RdSl cByte w xs v, fun _ _ _ h hb => h.later hb⟩
def Fct.texts (xss : List (List Nat)) : Fct := ⟨fun v w => RdSl cSS w xss v, fun _ _ _ h hb => h.later hb⟩
def Fct.row (B : Nat) (xs : List Nat) : Fct := ⟨fun v w => w.ownsRow B 5 1 v xs.length (byt xs), fun _ _ _ h hb => own_later h hb⟩
theorem bytes_new {w : World} {cs : Array Value} (xs : List Nat) (hc : cs.toList = byt xs) (hb : ∀ x ∈ xs, x < 256) (hl : xs.length ≤ 100) {n c : Nat} (hn : n = cs.size := by rfl) (hcn : c = cs.size := by rfl) : (Fct.bytes xs).p (.slice (some ⟨w.heap.size, 0, none⟩) n c) (w.alloc (.cells cs 5)) := by
  subst hn hcn
  have hs : cs.size = xs.length := by rw [← byt_len xs, ← hc]; simp
  have h := own_built (w := w) (B := w.heap.size) (e := 5) (cs := cs) (Nat.le_refl _) (by unfold maxLen; omega)
  rw [hc] at h
  exact own_rdSl h hb
theorem texts_new {w : World} {cs : Array Value} (vals : List Value) (xss : List (List Nat)) (hc : cs.toList = vals) (hl : vals.length = xss.length) (hi : ∀ i, (h : i < xss.length) → ∃ u, vals[i]? = some u ∧ RdSl cByte w xss[i] u) (hm : xss.length ≤ 100) {n c : Nat} (hn : n = cs.size := by rfl) (hcn : c = cs.size := by rfl) : (Fct.texts xss).p (.slice (some ⟨w.heap.size, 0, none⟩) n c) (w.alloc (.cells cs 22)) := by
  subst hn hcn
  have hs : cs.size = xss.length := by rw [← hl, ← hc]; simp
  have h := own_built (w := w) (B := w.heap.size) (e := 22) (cs := cs) (Nat.le_refl _) (by unfold maxLen; omega)
  rw [hs] at h ⊢
  refine rdSS_of_row h (fun i hh => ?_)
  obtain ⟨u, h1, h2⟩ := hi i hh
  exact ⟨u, by rw [hc]; exact h1, h2.later (below_new1 _ _)⟩
theorem RdSl.slice {α : Type} {c : Cod α} {w : World} {xs : List α} {v : Value} (h : RdSl c w xs v) : ∃ a k, v = .slice a xs.length k ∧ RdSl c w xs (.slice a xs.length k) := by
  obtain ⟨a, k, e, r⟩ := id h
  exact ⟨a, k, e, e ▸ h⟩

end Go.Proofs.Ytmaccmgmcahopaa
