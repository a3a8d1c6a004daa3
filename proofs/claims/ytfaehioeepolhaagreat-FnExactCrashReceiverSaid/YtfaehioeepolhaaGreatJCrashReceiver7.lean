/- BSSS, JoinMath, NumMath. -/
import Derived.Test.YtfaehioeepolhaaGreatJCrashReceiver6
import Derived.Deep.RegionHeld3
import Derived.WalkKit
import Derived.Laws.Bits64
/- laws.szByteSSS, toByteSSS, eqByteSSS. -/
namespace Go.Proofs.YtfaehioeepolhaaGreat
open Go.RowKit

abbrev cSSS : Cod (List (List Nat)) := cSl cSS 23
/-- How much a list of texts holds. -/
def tS (x : List (List Nat)) : Nat := totL List.length x
/-- Row k, for a walk. -/
theorem RdSl.row3 {w : World} {xss : List (List (List Nat))} {a : Option Addr} {n cap k : Nat} (h : RdSl cSSS w xss (.slice a n cap)) (hk : k < xss.length) :
    ∃ b off a' c', a = some ⟨b, off, none⟩ ∧ w.cell? ⟨b, off + k, none⟩ = some (.slice a' xss[k].length c') ∧ RdSl cSS w xss[k] (.slice a' xss[k].length c') := by
  obtain ⟨b, off, v, rfl, ⟨v', e, hv⟩, hc⟩ := h.at1 rfl hk
  simp only [List.cons.injEq, and_true] at e
  subst e
  obtain ⟨a', c', rfl, r⟩ := id hv
  exact ⟨b, off, a', c', rfl, hc, hv⟩

set_option maxHeartbeats 1000000 in
theorem szSSS_any (a : Option Addr) (cap : Nat) (xs : List (List (List Nat))) (l : Int) (w : World) (hr : RdSl cSSS w xs (.slice a xs.length cap)) (h0 : 0 ≤ l) (h1 : l ≤ 1048576) :
    Calls Tryz.prog 84 #[.slice a xs.length cap, .int .i64 l] w fun e w' => e = .returned (.int .i64 (rest l (totL tS xs))) ∧ w' = w := by
  have hml : xs.length ≤ maxLen := by
    obtain ⟨a', cap', e', g1, g2, _⟩ := hr
    omega
  unfold maxLen at hml
  have HR := hid hr
  clear hr
  by_cases hbig : l - (xs.length : Int) < 0
  · have HM : Hid (rest l (totL tS xs) = -1) := hid (by unfold rest totL; rw [if_pos (by omega)])
    go_enter Tryz.func84, Tryz.ntmps84
    go_wp2
    go_ret
    exact ⟨by rw [HM.out]; rfl, rfl⟩
  · go_enter Tryz.func84, Tryz.ntmps84
    go_wp2
    go_loop [1, 5] (fun q i => ∃ k : Nat, k ≤ xs.length ∧ i = .int .i64 k ∧ q = .int .i64 (rest l (xs.length + ((xs.take k).map tS).sum)) ∧ 0 ≤ rest l (xs.length + ((xs.take k).map tS).sum)) (fun _ i => xs.length - (intOf i).toNat)
    case atStart => exact ⟨0, Nat.zero_le _, rfl, by simp [rest]; omega, by simp [rest]; omega⟩
    case round =>
      obtain ⟨k, hk, rfl, rfl, hle⟩ := hrel
      by_cases hlt : k < xs.length
      · obtain ⟨b, off, a', c', rfl, hcb, hrr⟩ := HR.out.row3 hlt
        have HRR := hid hrr
        have hki : (k : Int) < (xs.length : Int) := by omega
        have HS := hid (sum_snoc tS xs k hlt)
        have HT := hid (rest_two (m := tS xs[k]) hle)
        have HNG : Hid (rest l (xs.length + ((xs.take (k + 1)).map tS).sum) < 0 → rest l (totL tS xs) = -1) := hid (fun h => by
          have h2 := sum_take tS xs (k + 1)
          have h3 := rest_neg (m := totL tS xs - (xs.length + ((xs.take (k + 1)).map tS).sum)) h
          unfold totL at *
          rw [show xs.length + ((xs.take (k + 1)).map tS).sum + (xs.length + (xs.map tS).sum - (xs.length + ((xs.take (k + 1)).map tS).sum)) = xs.length + (xs.map tS).sum from by omega] at h3
          exact h3)
        have hup := rest_le (n := xs.length + ((xs.take k).map tS).sum) h1
        clear hrr
        generalize hq : rest l (xs.length + ((xs.take k).map tS).sum) = q at *
        go_wp2_with fail
        refine (szSS_any a' c' xs[k] q w HRR.out hle hup).mono ?_
        rintro e w ⟨rfl, rfl⟩
        rw [show totL List.length xs[k] = tS xs[k] from rfl]
        have HQ : Hid (rest q (tS xs[k]) = rest l (xs.length + ((xs.take (k + 1)).map tS).sum)) := hid (by rw [HT.out, HS.out, Nat.add_assoc])
        generalize rest q (tS xs[k]) = r at *
        by_cases hneg : r < 0
        · have HZ := hid (HNG.out (by rw [← HQ.out]; exact hneg))
          go_wp2
          go_ret
          exact ⟨by rw [HZ.out]; rfl, rfl⟩
        · go_wp2
          go_round
          case rel => exact ⟨k + 1, by omega, by go_num, by rw [HQ.out], by rw [← HQ.out]; omega⟩
          case measure => simp [intOf]; omega
      · obtain rfl : k = xs.length := by omega
        have HF : Hid (rest l (xs.length + ((xs.take xs.length).map tS).sum) = rest l (totL tS xs)) := hid (by rw [List.take_length]; rfl)
        rw [HF.out]
        go_wp2
        go_ret
        exact ⟨rfl, rfl⟩

theorem infoSl3 : (Tryz.prog.info? 123).map (fun i => (i.zero, i.size, i.bytes)) = some (some (.slice none 0 0), 1, 24) := by kernel_rfl

set_option maxHeartbeats 1000000 in
theorem toSSS_any (a : Option Addr) (cap : Nat) (xs : List (List (List Nat))) (w : World) (hr : RdSl cSSS w xs (.slice a xs.length cap)) (ht : totL tS xs ≤ 1048576) :
    Calls Tryz.prog 90 #[.slice a xs.length cap] w fun e w' => ∃ v bs, e = .returned v ∧ OwnSl cSSS 123 w' xs v bs ∧ (∀ b ∈ bs, w.heap.size ≤ b) ∧ bs.Nodup ∧ Below w.heap.size w w' := by
  obtain ⟨i0, hi, hz0, hz1, hz2⟩ := info_parts infoSl3
  have HR := hid hr
  clear hr
  have hlen : xs.length ≤ 1048576 := by unfold totL at ht; omega
  go_enter Tryz.func90, Tryz.ntmps90
  go_wp2_with (first | (at_make; refine wpList_make_full _ rfl (.tmp 6) (.tmp 6) 27 rfl w.heap.size 123 i0 (.slice none 0 0) 1 Tryz.underlying27 hi hz0 hz1 .i64 .i64 _ _ xs.length rfl rfl rfl rfl (by rw [hz2]; omega) (by unfold maxLen; omega) (by simp) ?_))
  intro w1 ho hg1
  have HB1 : Hid (Below w.heap.size w w1) := hid ((Below.refl _ w).grown hg1 (Nat.le_refl _) (by intro k h; cases h))
  have HM : Hid (Made1 cSSS 123 w w1 xs 0) := hid ⟨_, [], ho, rfl, fun i h h2 => by simp at h2, by simp, by simp⟩
  clear hg1 hi hz0 hz1 hz2 ho
  go_wp2
  go_loopw [4] (fun i wr => ∃ k : Nat, k ≤ xs.length ∧ i = .int .i64 k ∧ Made1 cSSS 123 w wr xs k ∧ Below w.heap.size w wr) (fun i _ => xs.length - (intOf i).toNat)
  case atStart => exact ⟨0, Nat.zero_le _, rfl, HM.out, HB1.out⟩
  case round =>
    obtain ⟨k, hk, rfl, hm, hbe⟩ := hrel
    have HV := hid hm
    have HB := hid hbe
    clear hm hbe
    by_cases hlt : k < xs.length
    · obtain ⟨b, off, a', c', rfl, hcb, hrr⟩ := (HR.out.later HB.out).row3 hlt
      have HRR := hid hrr
      have hki : (k : Int) < (xs.length : Int) := by omega
      have htk : totL List.length xs[k] ≤ 1048576 := by have h := tot_at tS xs k hlt; unfold totL at ht; exact Nat.le_trans h (by omega)
      have HTK := hid htk
      clear hrr htk
      go_wp2_with fail
      refine (toSS_any a' c' xs[k] wr HRR.out HTK.out).mono ?_
      rintro e w2 ⟨v2, bs2, rfl, o2, l2, n2, b2⟩
      obtain ⟨a2, c2, rfl, -⟩ := id o2.rd
      have HN : Hid (Made1 cSSS 123 w (w2.setCell ⟨w.heap.size, k, none⟩ (.slice a2 xs[k].length c2)) xs (k + 1)) := hid (HV.out.step hlt b2 ⟨_, rfl, o2⟩ l2 n2)
      have HBB : Hid (Below w.heap.size w (w2.setCell ⟨w.heap.size, k, none⟩ (.slice a2 xs[k].length c2))) := hid ((HB.out.trans (b2.mono HB.out.size)).setCell (p := ⟨w.heap.size, k, none⟩) (Nat.le_refl _) _)
      obtain ⟨vs, hvl, how2⟩ := HV.out.row b2
      have f0 := how2.frozenAt k
      have q0 := how2.cellAt k (by omega)
      rw [List.getElem?_eq_getElem (by omega)] at q0
      generalize vs[k] = y0 at q0
      clear o2 b2 how2 hvl l2 n2
      go_wp2
      go_roundw
      case rel => exact ⟨k + 1, by omega, by go_num, HN.out, HBB.out⟩
      case measure => simp [intOf]; omega
    · obtain rfl : k = xs.length := by omega
      obtain ⟨bs, h1, h2, h3⟩ := HV.out.done rfl
      have HF := hid h1
      clear h1
      go_wp2
      go_ret
      exact ⟨_, bs, rfl, HF.out, h2, h3, HB.out⟩

set_option maxHeartbeats 1000000 in
theorem eqSSS_any (a1 a2 : Option Addr) (c1 c2 : Nat) (xs : List (List (List Nat))) (w : World) (h1 : RdSl cSSS w xs (.slice a1 xs.length c1)) (h2 : RdSl cSSS w xs (.slice a2 xs.length c2)) (ht : totL tS xs ≤ 1048576) :
    Calls Tryz.prog 98 #[.slice a1 xs.length c1, .slice a2 xs.length c2] w fun e w' => e = .returned (.bool true) ∧ Below w.heap.size w w' := by
  have H1 := hid h1
  have H2 := hid h2
  clear h1 h2
  have hlen : xs.length ≤ 1048576 := by unfold totL at ht; omega
  go_enter Tryz.func98, Tryz.ntmps98
  go_wp2
  go_loopw [5] (fun i wr => ∃ k : Nat, k ≤ xs.length ∧ i = .int .i64 k ∧ Below w.heap.size w wr) (fun i _ => xs.length - (intOf i).toNat)
  case atStart => exact ⟨0, Nat.zero_le _, rfl, Below.refl _ _⟩
  case round =>
    obtain ⟨k, hk, rfl, hbe⟩ := hrel
    have HB := hid hbe
    clear hbe
    by_cases hlt : k < xs.length
    · obtain ⟨b1, o1, a1', c1', rfl, g1, r1⟩ := (H1.out.later HB.out).row3 hlt
      obtain ⟨b2, o2, a2', c2', rfl, g2, r2⟩ := (H2.out.later HB.out).row3 hlt
      have htk : totL List.length xs[k] ≤ 1048576 := by have h := tot_at tS xs k hlt; unfold totL at ht; exact Nat.le_trans h (by omega)
      have HQ : Hid (Calls Tryz.prog 142 #[.slice a1' xs[k].length c1', .slice a2' xs[k].length c2'] wr.drew fun e w' => e = .returned (.bool true) ∧ Hid (Below wr.heap.size wr w') ∧ w'.cell? ⟨b1, o1 + k, none⟩ = some (.slice a1' xs[k].length c1') ∧ w'.cell? ⟨b2, o2 + k, none⟩ = some (.slice a2' xs[k].length c2')) := hid (by
        refine (eqSS_any a1' a2' c1' c2' xs[k] wr.drew (r1.later (Below.refl _ _).drew) (r2.later (Below.refl _ _).drew) htk).mono ?_
        rintro e w' ⟨rfl, b⟩
        have b' : Below wr.heap.size wr w' := (Below.refl _ _).drew.trans b
        exact ⟨rfl, hid b', (b'.cell (World.block_lt_of_cell? _ _ g1)).trans g1, (b'.cell (World.block_lt_of_cell? _ _ g2)).trans g2⟩)
      have hki : (k : Int) < (xs.length : Int) := by omega
      clear r1 r2 htk
      go_wp2
      (go_region_held3 (fun w' => w'.cell? ⟨b1, o1 + k, none⟩ = some (.slice a1' xs[k].length c1') ∧ w'.cell? ⟨b2, o2 + k, none⟩ = some (.slice a2' xs[k].length c2')) (go_keep) (first
        | (go_at_call 142; refine HQ.out.mono ?_; rintro e w2 ⟨rfl, hb2, x0, x1⟩)))
      have HB2 := hid (below_chain HB.out hb2.out)
      go_wp2
      go_roundw
      case rel => exact ⟨k + 1, by omega, by go_num, HB2.out⟩
      case measure => simp [intOf]; omega
    · obtain rfl : k = xs.length := by omega
      go_wp2
      go_ret
      exact ⟨rfl, HB.out⟩

end Go.Proofs.YtfaehioeepolhaaGreat

/- Parts at multiples of 8, plain. No program. -/
namespace Go.Proofs.YtfaehioeepolhaaGreat

def padn (n : Nat) : Nat := (8 - n % 8) % 8
def joinStep (acc ys : List Nat) : List Nat := (acc ++ ys) ++ List.replicate (padn (acc ++ ys).length) 0
def join (xss : List (List Nat)) : List Nat := xss.foldl joinStep []
theorem join_snoc (xss : List (List Nat)) (k : Nat) (h : k < xss.length) : join (xss.take (k + 1)) = joinStep (join (xss.take k)) xss[k] := by
  unfold join
  rw [List.take_succ_eq_append_getElem h, List.foldl_append]; rfl
theorem padn_le (n : Nat) : padn n ≤ 7 := by unfold padn; omega
theorem padn_done {n p : Nat} (h : p ≤ padn n) : (n + p) % 8 = 0 ↔ p = padn n := by unfold padn at *; omega
theorem joinStep_len (acc ys : List Nat) : (joinStep acc ys).length = acc.length + ys.length + padn (acc.length + ys.length) := by simp [joinStep]; omega
theorem joinStep_lt {acc ys : List Nat} (h1 : ∀ x ∈ acc, x < 256) (h2 : ∀ x ∈ ys, x < 256) : ∀ x ∈ joinStep acc ys, x < 256 := by
  intro x hx
  unfold joinStep at hx
  rcases List.mem_append.1 hx with h | h
  · rcases List.mem_append.1 h with h | h
    · exact h1 x h
    · exact h2 x h
  · have := List.eq_of_mem_replicate h; omega

end Go.Proofs.YtfaehioeepolhaaGreat

/- Numbers in bytes, plain. No program. -/
namespace Go.Proofs.YtfaehioeepolhaaGreat
open Go.RowKit

/-- The number of some bytes, lowest first, without a sign. -/
def num : List Nat → Nat
  | [] => 0
  | y :: ys => y + 256 * num ys
theorem num_append (xs ys : List Nat) : num (xs ++ ys) = num xs + 256 ^ xs.length * num ys := by
  induction xs with
  | nil => simp [num]
  | cons x xs ih =>
    simp only [List.cons_append, num, ih, List.length_cons, Nat.pow_succ, Nat.mul_add]
    rw [Nat.mul_assoc (256 ^ xs.length), Nat.mul_left_comm (256 ^ xs.length)]
    omega
theorem num_lt (xs : List Nat) (h : ∀ x ∈ xs, x < 256) : num xs < 256 ^ xs.length := by
  induction xs with
  | nil => simp [num]
  | cons x xs ih =>
    have h1 := ih (fun y hy => h y (List.mem_cons_of_mem _ hy))
    have h2 := h x List.mem_cons_self
    simp only [num, List.length_cons, Nat.pow_succ]
    omega
theorem num_snoc (xs : List Nat) (k : Nat) (h : k < xs.length) : num (xs.take (k + 1)) = num (xs.take k) + xs[k] * 256 ^ k := by
  rw [List.take_succ_eq_append_getElem h, num_append]
  simp only [num, List.length_take, Nat.mul_zero, Nat.add_zero]
  rw [Nat.min_eq_left (by omega), Nat.mul_comm]
theorem num_drop (xs : List Nat) (k : Nat) (h : k < xs.length) : num (xs.drop k) = xs[k] + 256 * num (xs.drop (k + 1)) := by
  rw [List.drop_eq_getElem_cons h]; rfl

theorem bits_or_u64 (a b : Nat) (ha : a < 18446744073709551616) (hb : b < 18446744073709551616) : bits .or .u64 (a : Int) (b : Int) = ((a ||| b : Nat) : Int) := by
  have hx : a ||| b < 2 ^ 64 := Nat.or_lt_two_pow (by omega) (by omega)
  have h1 : (BitVec.ofInt 64 (a : Int)).toNat = a := by
    rw [BitVec.ofInt_natCast, BitVec.toNat_ofNat]; exact Nat.mod_eq_of_lt (by omega)
  have h2 : (BitVec.ofInt 64 (b : Int)).toNat = b := by
    rw [BitVec.ofInt_natCast, BitVec.toNat_ofNat]; exact Nat.mod_eq_of_lt (by omega)
  show IntKind.u64.wrap ((BitVec.ofInt 64 (a : Int) ||| BitVec.ofInt 64 (b : Int)).toNat : Int) = _
  rw [BitVec.toNat_or, h1, h2, IntKind.wrap_u64]
  omega
theorem pow_256 (k : Nat) : 2 ^ (8 * k) = 256 ^ k := by rw [Nat.pow_mul]
theorem or_step (xs : List Nat) (k : Nat) (h : k < xs.length) (hx : ∀ x ∈ xs, x < 256) (h8 : xs.length ≤ 8) :
    bits .or .u64 ((num (xs.take k) : Nat) : Int) (IntKind.u64.wrap ((xs[k] : Int) * 2 ^ (8 * k))) = ((num (xs.take (k + 1)) : Nat) : Int) := by
  have hN := num_lt (xs.take k) (fun x hm => hx x (List.mem_of_mem_take hm))
  rw [List.length_take, Nat.min_eq_left (by omega)] at hN
  have hb : xs[k] < 256 := hx _ (List.getElem_mem _)
  have hp : 256 ^ k ≤ 256 ^ 7 := Nat.pow_le_pow_right (by decide) (by omega)
  have hP : xs[k] * 256 ^ k < 18446744073709551616 := by
    have h1 : xs[k] * 256 ^ k ≤ 255 * 256 ^ k := Nat.mul_le_mul_right _ (by omega)
    have h2 : 255 * 256 ^ k ≤ 255 * 256 ^ 7 := Nat.mul_le_mul_left _ hp
    have h3 : 255 * 256 ^ 7 < 18446744073709551616 := by decide
    omega
  have e : IntKind.u64.wrap ((xs[k] : Int) * 2 ^ (8 * k)) = ((xs[k] * 256 ^ k : Nat) : Int) := by
    have e1 : ((xs[k] : Int) * 2 ^ (8 * k)) = ((xs[k] * 256 ^ k : Nat) : Int) := by
      rw [← pow_256, Int.natCast_mul, Int.natCast_pow]; rfl
    rw [e1, IntKind.wrap_u64]
    omega
  have hlt : num (xs.take k) < 18446744073709551616 := by
    have h3 : 256 ^ 7 < 18446744073709551616 := by decide
    omega
  rw [e, bits_or_u64 _ _ hlt hP, num_snoc xs k h]
  have hor := Nat.two_pow_add_eq_or_of_lt (i := 8 * k) (b := num (xs.take k)) (by rw [pow_256]; exact hN) xs[k]
  rw [pow_256, Nat.mul_comm] at hor
  rw [Nat.or_comm, ← hor, Nat.add_comm]

theorem wr32 (n : Int) : wrap32 n = IntKind.i32.wrap n := by
  unfold wrap32; simp [IntKind.wrap, IntKind.bits, IntKind.signed]; split <;> omega
theorem wr64 (n : Int) : wrap64 n = IntKind.i64.wrap n := by
  unfold wrap64; simp [IntKind.wrap, IntKind.bits, IntKind.signed]; split <;> omega

/-- The numbers of the chunks, each by its sign. -/
def chunk (xs : List Nat) (W j : Nat) : List Nat := (xs.drop (W * j)).take W
def uniR (W : Nat) (k : IntKind) (xs : List Nat) : List Int × Int :=
  if xs.length % W = 0 then ((List.range (xs.length / W)).map fun j => k.wrap ((num (chunk xs W j) : Nat) : Int), 0) else ([], 3)
def uniL (W : Nat) (k : IntKind) (xs : List Nat) : List Int := (List.range (xs.length / W)).map fun j => k.wrap ((num (chunk xs W j) : Nat) : Int)
def uni (xs : List Nat) (n : Int) : List Int × Int :=
  if n = 1 then uniR 1 .i8 xs else if n = 2 then uniR 2 .i16 xs else if n = 4 then uniR 4 .i32 xs else if n = 8 then uniR 8 .i64 xs else ([], 1)

theorem uniL_len (W : Nat) (k : IntKind) (xs : List Nat) : (uniL W k xs).length = xs.length / W := by simp [uniL]
theorem uniL_at (W : Nat) (k : IntKind) (xs : List Nat) (j : Nat) (h : j < xs.length / W) : (uniL W k xs)[j]? = some (k.wrap ((num (chunk xs W j) : Nat) : Int)) := by simp [uniL, h]
theorem uniL_snoc (W : Nat) (k : IntKind) (xs : List Nat) (j : Nat) (h : j < xs.length / W) : (uniL W k xs).take (j + 1) = (uniL W k xs).take j ++ [k.wrap ((num (chunk xs W j) : Nat) : Int)] := by
  rw [List.take_succ_eq_append_getElem (by rw [uniL_len]; exact h)]
  simp [uniL]
theorem uniR_ok {W : Nat} {k : IntKind} {xs : List Nat} (h : xs.length % W = 0) : uniR W k xs = (uniL W k xs, 0) := by unfold uniR; rw [if_pos h]; rfl
theorem uniR_bad {W : Nat} {k : IntKind} {xs : List Nat} (h : xs.length % W ≠ 0) : uniR W k xs = ([], 3) := by unfold uniR; rw [if_neg h]
theorem chunk_len {xs : List Nat} {W j : Nat} (h : W * j + W ≤ xs.length) : (chunk xs W j).length = W := by simp [chunk]; omega
theorem chunk_lt {xs : List Nat} {W j : Nat} (hx : ∀ x ∈ xs, x < 256) : ∀ x ∈ chunk xs W j, x < 256 := fun x h => hx x (List.mem_of_mem_drop (List.mem_of_mem_take h))
theorem chunk_at {xs : List Nat} {W j i : Nat} (h : i < (chunk xs W j).length) (h2 : W * j + i < xs.length) : (chunk xs W j)[i] = xs[W * j + i] := by simp [chunk]
theorem uniR_short (W : Nat) (k : IntKind) (xs : List Nat) : (uniR W k xs).1.length ≤ 8 * xs.length := by
  unfold uniR
  split
  · simp; have := Nat.div_le_self xs.length W; omega
  · simp
theorem uni_short (xs : List Nat) (n : Int) : (uni xs n).1.length ≤ 8 * xs.length := by
  unfold uni
  repeat' split
  · exact uniR_short 1 _ _
  · exact uniR_short 2 _ _
  · exact uniR_short 4 _ _
  · exact uniR_short 8 _ _
  · simp

theorem chunk_num {xs : List Nat} {W j : Nat} (hx : ∀ x ∈ xs, x < 256) (hW : 1 ≤ W) (hin : W * j + W ≤ xs.length) :
    ∃ lo, num (chunk xs W j) = lo + xs[W * j + W - 1] * 256 ^ (W - 1) ∧ lo < 256 ^ (W - 1) := by
  have hl := chunk_len hin
  have hs := num_snoc (chunk xs W j) (W - 1) (by omega)
  rw [show W - 1 + 1 = W from by omega, List.take_of_length_le (by omega)] at hs
  refine ⟨num ((chunk xs W j).take (W - 1)), ?_, ?_⟩
  · rw [hs, chunk_at (by omega) (by omega)]
    have e : xs[W * j + (W - 1)]'(by omega) = xs[W * j + W - 1]'(by omega) := by congr 1; omega
    rw [e]
  · have := num_lt ((chunk xs W j).take (W - 1)) (fun x h => chunk_lt hx x (List.mem_of_mem_take h))
    rwa [List.length_take, Nat.min_eq_left (by omega)] at this
theorem sign_i8 (N : Nat) (h : N < 256) : IntKind.i8.wrap (N : Int) = if 128 ≤ N then (N : Int) - 256 else N := by
  simp only [IntKind.wrap, IntKind.bits, IntKind.signed]; simp; split <;> split <;> omega
theorem sign_i16 (N : Nat) (h : N < 65536) : IntKind.i16.wrap (N : Int) = if 32768 ≤ N then (N : Int) - 65536 else N := by
  simp only [IntKind.wrap, IntKind.bits, IntKind.signed]; simp; split <;> split <;> omega
theorem sign_i32 (N : Nat) (h : N < 4294967296) : IntKind.i32.wrap (N : Int) = if 2147483648 ≤ N then (N : Int) - 4294967296 else N := by
  simp only [IntKind.wrap, IntKind.bits, IntKind.signed]; simp; split <;> split <;> omega
theorem wrap64_small (N : Nat) (h : N < 4294967296) : wrap64 (N : Int) = N := by unfold wrap64; omega

end Go.Proofs.YtfaehioeepolhaaGreat
