import Derived.Test.YtfppfjklakdlfaaDoorJForms4
import Derived.Lib.AppendZeros
import Derived.WalkKit
namespace Go.Proofs.YtfppfjklakdlfaaDoor
open Go.RowKit
theorem rdSS_of_row {B : Nat} {w : World} {v : Value} {xss : List (List Nat)} {vals : List Value} (ho : w.ownsRow B 22 1 v xss.length vals) (hi : ∀ i, (h : i < xss.length) → ∃ u, vals[i]? = some u ∧ RdSl cByte w xss[i] u) : RdSl cSS w xss v := by
  have hvl : vals.length = xss.length := by have := ho.1; omega
  rcases ho.2 with ⟨rfl, h0⟩ | ⟨g, cap, cur, rfl, hg, hh, hn, hm, r⟩
  · obtain rfl := List.length_eq_zero_iff.1 h0
    exact RdSl.empty none
  · refine ⟨_, cap, rfl, hn, hm, (fun h => by cases h), .inr ⟨g, 0, rfl, fun i h => ?_⟩⟩
    obtain ⟨u, hu, hr⟩ := hi i h
    refine ⟨[u], ⟨u, rfl, hr⟩, fun j hj => ?_⟩
    have hj0 : j = 0 := by simpa using hj
    subst hj0
    have := World.ownsRow.cellAt ho i (by omega)
    rw [show 0 + (i * cSS.n + 0) = i from by simp [cSl], this, hu]; rfl
end Go.Proofs.YtfppfjklakdlfaaDoor
namespace Go.Proofs.YtfppfjklakdlfaaDoor
open Go.RowKit
theorem own_cut {w : World} {B n k : Nat} {e : TypeId} {g cap : Nat} {vs : List Value} (h : w.ownsRow B e 1 (.slice (some ⟨g, 0, none⟩) n cap) n vs) (hk : k ≤ n) : w.ownsRow B e 1 (.slice (some ⟨g, 0, none⟩) k cap) k (vs.take k) := by
  rcases h.2 with ⟨h1, _⟩ | ⟨g', cap', cur, h1, hg, hh, hn, hm, hs, ht⟩
  · simp at h1
  · simp at h1
    obtain ⟨rfl, rfl⟩ := h1
    refine ⟨by have := h.1; simp; omega, .inr ⟨g, cap, cur, rfl, hg, hh, by omega, hm, hs, ?_⟩⟩
    rw [← ht, List.take_take]
    congr 1; omega
theorem RdSl.vals {w : World} {xss : List (List Nat)} {a : Option Addr} {n cap : Nat} (h : RdSl cSS w xss (.slice a n cap)) :
    ∃ vals : List Value, vals.length = xss.length ∧ Rd w a vals ∧ (∀ u ∈ vals, u.oneCell' = true) ∧ ∀ i, (h : i < xss.length) → ∃ u, vals[i]? = some u ∧ RdSl cByte w xss[i] u := by
  obtain ⟨a', cap', e', _, _, _, h4⟩ := id h
  simp only [Value.slice.injEq] at e'
  obtain ⟨rfl, rfl, rfl⟩ := e'
  rcases h4 with rfl | ⟨b, off, rfl, hat⟩
  · exact ⟨[], rfl, .inl rfl, by simp, fun i h => by simp at h⟩
  · have hx : ∀ i : Fin xss.length, ∃ u : Value, w.cell? ⟨b, off + i.1, none⟩ = some u ∧ RdSl cByte w xss[i.1] u := fun i => by
      obtain ⟨b', off', a', c', e, hc, hr⟩ := h.row i.2
      simp at e
      obtain ⟨rfl, rfl⟩ := e
      exact ⟨_, hc, hr⟩
    refine ⟨(List.finRange xss.length).map fun i => Classical.choose (hx i), by simp, .inr ⟨b, off, rfl, fun i hi => ?_⟩, fun u hu => ?_, fun i hi => ?_⟩
    · have hi' : i < xss.length := by simpa using hi
      have := (Classical.choose_spec (hx ⟨i, hi'⟩)).1
      rw [this]; simp
    · simp only [List.mem_map] at hu
      obtain ⟨i, _, rfl⟩ := hu
      obtain ⟨_, _, e, _⟩ := (Classical.choose_spec (hx i)).2
      rw [e]; rfl
    · exact ⟨_, by simp [hi], (Classical.choose_spec (hx ⟨i, hi⟩)).2⟩
set_option maxRecDepth 100000 in
set_option maxHeartbeats 2000000 in
theorem growNil_any (n : Nat) (w : World) (hn : n ≤ 4194304) :
    Calls Tryd.prog 70 #[.slice none 0 0, .int .i64 n] w fun e w' => ∃ v, e = .returned v ∧ w'.ownsRow w.heap.size 22 1 v 0 [] ∧ Below w.heap.size w w' := by
  obtain ⟨i0, hi, hz0, hz1, hz2⟩ := info_parts infoSlT
  by_cases h0 : n = 0
  · subst h0
    go_enter Tryd.func70, Tryd.ntmps70
    go_wp2
    go_ret
    exact ⟨_, rfl, World.ownsRow_nil _ _ _ _, Below.refl _ _⟩
  · have hnn : ¬ ((n : Int) < 0) := by omega
    have hrun := fun ty => Lib.run_append_nil_zeros w 23 3 ty 22 i0 (.slice none 0 0) .i64 .i64 Tryd.underlying23 Tryd.underlying3 hi hz0 n (by omega) (by omega) (by omega) (by rw [hz2]; omega)
    have hG := grownCap_ge w n 0 22
    have hG2 := grownCap_le_maxLen w n 0 22 (by unfold maxLen; omega)
    have HO : Hid ((w.drew.alloc (.cells (Builtin.zeroCells (Value.slice none 0 0).cells n ++ Builtin.zeroCells (Value.slice none 0 0).cells (grownCap w n 0 22 - n)) 22)).ownsRow w.heap.size 22 1 (.slice (some ⟨w.heap.size, 0, none⟩) 0 (grownCap w n 0 22)) 0 []) := hid (by
      refine ⟨rfl, .inr ⟨w.heap.size, _, _, rfl, Nat.le_refl _, heap_alloc_new w.drew _, Nat.zero_le _, hG2, ?_, by simp⟩⟩
      simp [Builtin.zeroCells, Value.cells]; omega)
    have HB : Hid (Below w.heap.size w (w.drew.alloc (.cells (Builtin.zeroCells (Value.slice none 0 0).cells n ++ Builtin.zeroCells (Value.slice none 0 0).cells (grownCap w n 0 22 - n)) 22))) := hid ((Below.refl _ w).drew.alloc (Nat.le_refl _) _)
    generalize hW : (w.drew.alloc (.cells (Builtin.zeroCells (Value.slice none 0 0).cells n ++ Builtin.zeroCells (Value.slice none 0 0).cells (grownCap w n 0 22 - n)) 22)) = W at *
    generalize grownCap w n 0 22 = G at *
    clear hW
    have hGi : (0 : Int) ≤ (G : Int) := by omega
    go_enter Tryd.func70, Tryd.ntmps70
    go_wp2_with (first | (at_builtin; refine Lib.wpList_append_run _ rfl _ _ 23 3 rfl (.slice none 0 0) (.int .i64 n) rfl rfl _ _ (hrun _) ?_))
    go_wp2
    go_ret
    exact ⟨_, rfl, HO.out, HB.out⟩
set_option maxRecDepth 100000 in
set_option maxHeartbeats 4000000 in
theorem concat_any (g : Nat) (a1 a2 : Option Addr) (n1 n2 c1 c2 : Nat) (vs us : List Value) (w : World) (h1 : w.cell? ⟨g, 0, none⟩ = some (.slice a1 n1 c1)) (h2 : w.cell? ⟨g, 1, none⟩ = some (.slice a2 n2 c2))
    (l1 : vs.length = n1) (l2 : us.length = n2) (r1 : Rd w a1 vs) (r2 : Rd w a2 us) (e1 : a1 = none → n1 = 0 ∧ c1 = 0) (e2 : a2 = none → n2 = 0 ∧ c2 = 0) (o1 : ∀ u ∈ vs, u.oneCell' = true) (o2 : ∀ u ∈ us, u.oneCell' = true) (m1 : n1 ≤ 1048576) (m2 : n2 ≤ 1048576) :
    Calls Tryd.prog 46 #[.slice (some ⟨g, 0, none⟩) 2 2] w fun e w' => ∃ v, e = .returned v ∧ w'.ownsRow w.heap.size 22 1 v (n1 + n2) (vs ++ us) ∧ Below w.heap.size w w' := by
  obtain ⟨i0, hi, hz0, hz1, hz2⟩ := info_parts infoSlT
  have hg : g < w.heap.size := World.block_lt_of_cell? w ⟨g, 0, none⟩ h1
  have HL1 := hid l1
  have HL2 := hid l2
  have HR1 := hid r1
  have HR2 := hid r2
  have HE1 := hid e1
  have HE2 := hid e2
  have HO1 := hid o1
  have HO2 := hid o2
  have HC1 := hid h1
  have HC2 := hid h2
  clear l1 l2 r1 r2 e1 e2 o1 o2
  go_enter Tryd.func46, Tryd.ntmps46
  go_wp2
  go_loop [3, 5, 11] (fun s _ i => (i = .int .i64 0 ∧ s = .int .i64 0) ∨ (i = .int .i64 1 ∧ s = .int .i64 (n1 : Int)) ∨ (i = .int .i64 2 ∧ s = .int .i64 ((n1 : Int) + (n2 : Int)))) (fun _ _ i => 2 - (intOf i).toNat)
  case atStart => exact .inl ⟨rfl, rfl⟩
  case round =>
    rcases hrel with ⟨rfl, rfl⟩ | ⟨rfl, rfl⟩ | ⟨rfl, rfl⟩
    · go_wp2
      go_round
      case rel => exact .inr (.inl ⟨by go_num, by go_num⟩)
      case measure => simp [intOf]
    · go_wp2
      go_round
      case rel => exact .inr (.inr ⟨by go_num, by go_num⟩)
      case measure => simp [intOf]
    · go_wp2_with fail
      have hsum : (n1 : Int) + (n2 : Int) = ((n1 + n2 : Nat) : Int) := by omega
      first | rw [hsum] | skip
      clear hsum
      refine (growNil_any (n1 + n2) w (by omega)).mono ?_
      rintro e w1 ⟨v1, rfl, how, b1⟩
      have HW := hid how
      have HB1 := hid b1
      clear how b1 h1 h2
      go_wp2
      go_loopw [6, 8, 27] (fun v _ i wr => ((i = .int .i64 0 ∧ wr.ownsRow w.heap.size 22 1 v 0 []) ∨ (i = .int .i64 1 ∧ wr.ownsRow w.heap.size 22 1 v n1 vs) ∨ (i = .int .i64 2 ∧ wr.ownsRow w.heap.size 22 1 v (n1 + n2) (vs ++ us))) ∧ Below w.heap.size w wr) (fun _ _ i _ => 2 - (intOf i).toNat)
      case atStart => exact ⟨.inl ⟨rfl, HW.out⟩, HB1.out⟩
      case round =>
        obtain ⟨hrel, hbe⟩ := hrel
        have HB := hid hbe
        have hs := hbe.size
        have h1 : wr.cell? ⟨g, 0, none⟩ = some (.slice a1 n1 c1) := (hbe.cell (p := ⟨g, 0, none⟩) hg).trans HC1.out
        have h2 : wr.cell? ⟨g, 1, none⟩ = some (.slice a2 n2 c2) := (hbe.cell (p := ⟨g, 1, none⟩) hg).trans HC2.out
        have R1 := hid (HR1.out.later hbe)
        have R2 := hid (HR2.out.later hbe)
        clear hbe
        rcases hrel with ⟨rfl, how⟩ | ⟨rfl, how⟩ | ⟨rfl, how⟩
        · have HW2 := hid how
          clear how
          go_wp2_with (first | (at_builtin; refine append_any rfl _ _ 23 rfl w.heap.size 22 i0 (.slice none 0 0) 24 Tryd.underlying23 hi hz0 hz1 hz2 rfl _ 0 _ rfl HW2.out a1 n1 c1 vs rfl HL1.out HE1.out R1.out HO1.out (by unfold maxLen; omega) (by omega) hs ?_))
          intro v' w9 hown' hgrow
          have HN : Hid (w9.ownsRow w.heap.size 22 1 v' n1 vs) := hid (by simpa using hown')
          have HB9 : Hid (Below w.heap.size w w9) := hid (HB.out.grown hgrow hs (fun p hp => (own_in HW2.out hp).1))
          clear hown' hgrow
          go_wp2
          go_roundw
          case rel => exact ⟨.inr (.inl ⟨by go_num, HN.out⟩), HB9.out⟩
          case measure => simp [intOf]
        · have HW2 := hid how
          clear how
          go_wp2_with (first | (at_builtin; refine append_any rfl _ _ 23 rfl w.heap.size 22 i0 (.slice none 0 0) 24 Tryd.underlying23 hi hz0 hz1 hz2 rfl _ n1 _ rfl HW2.out a2 n2 c2 us rfl HL2.out HE2.out R2.out HO2.out (by unfold maxLen; omega) (by omega) hs ?_))
          intro v' w9 hown' hgrow
          have HN := hid hown'
          have HB9 : Hid (Below w.heap.size w w9) := hid (HB.out.grown hgrow hs (fun p hp => (own_in HW2.out hp).1))
          clear hown' hgrow
          go_wp2
          go_roundw
          case rel => exact ⟨.inr (.inr ⟨by go_num, HN.out⟩), HB9.out⟩
          case measure => simp [intOf]
        · have HW2 := hid how
          clear how
          go_wp2
          go_ret
          exact ⟨_, rfl, HW2.out, HB.out⟩
end Go.Proofs.YtfppfjklakdlfaaDoor
namespace Go.Proofs.YtfppfjklakdlfaaDoor
def bitN (bs : List Bool) (i : Nat) : Nat := if bs[i]?.getD false then 1 else 0
def low (bs : List Bool) (j : Nat) : Nat → Nat
  | 0 => 0
  | m + 1 => low bs j m + bitN bs (8 * j + m) * 2 ^ m
def hor (bs : List Bool) (j : Nat) : Nat → Nat
  | 0 => 0
  | n + 1 => hor bs j n * 2 + bitN bs (8 * j + 7 - n)
def nb (n : Nat) : Nat := if n % 8 = 0 then n / 8 else n / 8 + 1
def packed (bs : List Bool) : List Nat := (List.range (nb bs.length)).map fun j => low bs j 8
def packedTo (bs : List Bool) (i : Nat) : List Nat := (List.range (nb bs.length)).map fun j => low bs j (min 8 (i - 8 * j))
theorem bitN_le (bs : List Bool) (i : Nat) : bitN bs i ≤ 1 := by unfold bitN; split <;> omega
theorem low_lt (bs : List Bool) (j m : Nat) : low bs j m < 2 ^ m := by
  induction m with
  | zero => simp [low]
  | succ m ih =>
    have := bitN_le bs (8 * j + m)
    have h2 : bitN bs (8 * j + m) * 2 ^ m ≤ 1 * 2 ^ m := Nat.mul_le_mul_right _ this
    simp only [low, Nat.pow_succ]
    omega
theorem low_lt256 (bs : List Bool) (j m : Nat) (h : m ≤ 8) : low bs j m < 256 :=
  Nat.lt_of_lt_of_le (low_lt bs j m) (by have := Nat.pow_le_pow_right (n := 2) (by decide) h; simpa using this)
theorem nb_le (n : Nat) : nb n ≤ n := by unfold nb; split <;> omega
theorem packedTo_len (bs : List Bool) (i : Nat) : (packedTo bs i).length = nb bs.length := by simp [packedTo]
theorem packedTo_zero (bs : List Bool) : packedTo bs 0 = List.replicate (nb bs.length) 0 := by
  apply List.ext_getElem (by simp [packedTo])
  intro i h1 h2
  simp [packedTo, low]
theorem packedTo_all (bs : List Bool) : packedTo bs bs.length = packed bs := by
  unfold packedTo packed
  refine List.map_congr_left fun j hj => ?_
  have hj := List.mem_range.1 hj
  by_cases h : 8 ≤ bs.length - 8 * j
  · rw [show min 8 (bs.length - 8 * j) = 8 from by omega]
  · have hd : ∀ d, low bs j (min 8 (bs.length - 8 * j) + d) = low bs j (min 8 (bs.length - 8 * j)) := by
      intro d
      induction d with
      | zero => rfl
      | succ d ih =>
        rw [show min 8 (bs.length - 8 * j) + (d + 1) = (min 8 (bs.length - 8 * j) + d) + 1 from rfl, low, ih]
        have : bitN bs (8 * j + (min 8 (bs.length - 8 * j) + d)) = 0 := by
          unfold bitN
          rw [List.getElem?_eq_none (by omega)]
          rfl
        rw [this]; simp
    have := hd (8 - min 8 (bs.length - 8 * j))
    rw [show min 8 (bs.length - 8 * j) + (8 - min 8 (bs.length - 8 * j)) = 8 from by omega] at this
    exact this.symm
theorem packedTo_at (bs : List Bool) (i j : Nat) (h : j < nb bs.length) : (packedTo bs i)[j]? = some (low bs j (min 8 (i - 8 * j))) := by simp [packedTo, h]
theorem packedTo_succ (bs : List Bool) (i : Nat) (h : i < bs.length) : packedTo bs (i + 1) = (packedTo bs i).set (i / 8) (low bs (i / 8) (i % 8 + 1)) := by
  apply List.ext_getElem?
  intro j
  rw [List.getElem?_set, packedTo_len]
  by_cases hj : j < nb bs.length
  · rw [packedTo_at bs _ j hj, packedTo_at bs _ j hj]
    by_cases e : i / 8 = j
    · subst e
      rw [if_pos rfl, if_pos hj, show min 8 (i + 1 - 8 * (i / 8)) = i % 8 + 1 from by omega]
    · rw [if_neg e, show min 8 (i + 1 - 8 * j) = min 8 (i - 8 * j) from by omega]
  · have hn : i / 8 < nb bs.length := by unfold nb; split <;> omega
    rw [if_neg (by omega), List.getElem?_eq_none (by rw [packedTo_len]; omega), List.getElem?_eq_none (by rw [packedTo_len]; omega)]
theorem low_same (bs : List Bool) (i : Nat) (h : bs[i]?.getD false = false) : low bs (i / 8) (i % 8 + 1) = low bs (i / 8) (i % 8) := by
  have e : bitN bs (8 * (i / 8) + i % 8) = 0 := by
    rw [show 8 * (i / 8) + i % 8 = i from by omega]; simp [bitN, h]
  simp [low, e]
theorem low_up (bs : List Bool) (i : Nat) (h : bs[i]?.getD false = true) : low bs (i / 8) (i % 8 + 1) = low bs (i / 8) (i % 8) ||| 2 ^ (i % 8) := by
  have e : bitN bs (8 * (i / 8) + i % 8) = 1 := by
    rw [show 8 * (i / 8) + i % 8 = i from by omega]; simp [bitN, h]
  have := Nat.two_pow_add_eq_or_of_lt (low_lt bs (i / 8) (i % 8)) 1
  rw [Nat.mul_one] at this
  show low bs (i / 8) (i % 8) + bitN bs (8 * (i / 8) + i % 8) * 2 ^ (i % 8) = _
  rw [e, Nat.one_mul, Nat.or_comm, ← this]; omega
theorem packedTo_skip (bs : List Bool) (i : Nat) (h : i < bs.length) (hb : bs[i]?.getD false = false) : packedTo bs (i + 1) = packedTo bs i := by
  rw [packedTo_succ bs i h, low_same bs i hb]
  have hn : i / 8 < nb bs.length := by unfold nb; split <;> omega
  have := packedTo_at bs i (i / 8) hn
  rw [show min 8 (i - 8 * (i / 8)) = i % 8 from by omega] at this
  obtain ⟨h1, h2⟩ := List.getElem?_eq_some_iff.1 this
  rw [← h2, List.set_getElem_self]
theorem bits_or_u8 (a b : Nat) (ha : a < 256) (hb : b < 256) : bits .or .u8 (a : Int) (b : Int) = ((a ||| b : Nat) : Int) := by
  have hx : a ||| b < 2 ^ 8 := Nat.or_lt_two_pow (by omega) (by omega)
  have h1 : (BitVec.ofInt 8 (a : Int)).toNat = a := by
    rw [BitVec.ofInt_natCast, BitVec.toNat_ofNat]; exact Nat.mod_eq_of_lt (by omega)
  have h2 : (BitVec.ofInt 8 (b : Int)).toNat = b := by
    rw [BitVec.ofInt_natCast, BitVec.toNat_ofNat]; exact Nat.mod_eq_of_lt (by omega)
  show IntKind.u8.wrap ((BitVec.ofInt 8 (a : Int) ||| BitVec.ofInt 8 (b : Int)).toNat : Int) = _
  rw [BitVec.toNat_or, h1, h2]
  simp [IntKind.wrap, IntKind.bits, IntKind.signed]
  omega
theorem or_up (bs : List Bool) (i : Nat) (h : bs[i]?.getD false = true) : bits .or .u8 ((low bs (i / 8) (i % 8) : Nat) : Int) ((2 : Int) ^ (i % 8) % 256) = ((low bs (i / 8) (i % 8 + 1) : Nat) : Int) := by
  have h8 : 2 ^ (i % 8) < 256 := by have := Nat.pow_lt_pow_right (a := 2) (n := 8) (m := i % 8) (by decide) (by omega); simpa using this
  have e : ((2 : Int) ^ (i % 8) % 256) = ((2 ^ (i % 8) : Nat) : Int) := by
    rw [Int.natCast_pow]
    have : ((2 ^ (i % 8) : Nat) : Int) < 256 := by omega
    rw [Int.natCast_pow] at this
    have h0 : (0 : Int) ≤ (2 : Int) ^ (i % 8) := Int.pow_nonneg (by decide)
    exact Int.emod_eq_of_lt h0 this
  rw [e, bits_or_u8 _ _ (low_lt256 bs _ _ (by omega)) h8, low_up bs i h]
end Go.Proofs.YtfppfjklakdlfaaDoor
