import Derived.Test.YtfppfjklakdlfaaDoorJForms18
import Derived.Test.YtfppfjklakdlfaaDoorJForms14
import Derived.Test.YtfppfjklakdlfaaDoorJForms9
import Derived.Test.YtfppfjklakdlfaaDoorJForms28
import Derived.Deep.DeepCutAuto
import Derived.Test.YtfppfjklakdlfaaDoorJForms7
import Derived.Test.YtfppfjklakdlfaaDoorJForms2
import Derived.Handy
namespace Go.Proofs.YtfppfjklakdlfaaDoor
open Go.RowKit
theorem infoByteD' : (Tryd.prog.info? 5).map (fun i => (i.zero, i.size, i.bytes)) = some (some (.int .u8 0), 1, 1) := by kernel_rfl
def SomeB (Bd n : Nat) (w : World) (e : Ending) (w' : World) : Prop :=
  ∃ ys v c, e = .returned (.slice v ys.length c) ∧ RdSl cByte w' ys (.slice v ys.length c) ∧ ys.length ≤ n ∧ Below Bd w w'
theorem someB_own {Bd n B m : Nat} {w w' : World} {ys : List Nat} {v : Option Addr} {c : Nat} (h : w'.ownsRow B 5 1 (.slice v m c) m (byt ys)) (hy : ∀ x ∈ ys, x < 256) (hn : m ≤ n) (hb : Below Bd w w') : SomeB Bd n w (.returned (.slice v m c)) w' := by
  have hm : ys.length = m := by have := h.1; simp [byt] at this; exact this
  subst hm
  exact ⟨ys, v, c, rfl, own_rdSl h hy, hn, hb⟩
set_option maxRecDepth 100000 in
set_option maxHeartbeats 8000000 in
theorem spoil_any (Bd B : Nat) (a : Option Addr) (cap : Nat) (xs : List Nat) (gR c j : Nat) (ar : Option Addr) (zs : List Nat) (w : World) (ho : w.ownsRow B 5 1 (.slice a xs.length cap) xs.length (byt xs)) (hB : Bd ≤ B) (hBw : B ≤ w.heap.size) (hxb : ∀ x ∈ xs, x < 256) (hl : xs.length ≤ 30000) (hr : Rdr w gR ar c zs j) (hgR : Bd ≤ gR) (hzl : zs.length ≤ 1048576) (hzb : ∀ x ∈ zs, x < 256) :
    Calls Tryd.prog 48 #[.slice a xs.length cap, .pointer (some ⟨gR, 0, none⟩)] w (SomeB Bd (xs.length + 4) w) := by
  obtain ⟨i0, hi, hz0, hz1, hz2⟩ := info_parts infoByteD'
  have HO := hid ho
  have HR := hid hr
  have HXB := hid hxb
  have HZB := hid hzb
  clear ho hr hxb hzb
  go_enter Tryd.func48, Tryd.ntmps48
  go_wp2_with fail
  refine (next_any gR c j ar zs w HR.out hzl HZB.out).mono ?_
  rintro e w1 ⟨rfl, r1, g1⟩
  have hk : nxt zs j < 256 := nxt_lt HZB.out j
  generalize nxt zs j = k at *
  have HR1 := hid r1
  have HO1 := hid (own_marked HO.out g1 (fun q p hq hp e => by simp at hp; exact boxY_far HR.out.cells HO.out (by decide) (by rw [hq, e, ← hp])))
  have B1 : Below Bd w w1 := (Below.refl _ w).grown g1 (Nat.le_trans hB hBw) (fun p hp => by simp at hp; omega)
  have hs1 := g1.size
  clear r1 g1
  go_wp2_with fail
  refine (next_any gR c (j + 1) ar zs w1 HR1.out hzl HZB.out).mono ?_
  rintro e w2 ⟨rfl, r2, g2⟩
  have hq : nxt zs (j + 1) < 256 := nxt_lt HZB.out _
  generalize nxt zs (j + 1) = q at *
  have HR2 := hid r2
  have HO2 := hid (own_marked HO1.out g2 (fun q p hq hp e => by simp at hp; exact boxY_far HR1.out.cells HO1.out (by decide) (by rw [hq, e, ← hp])))
  have B2 : Below Bd w w2 := B1.grown g2 (by omega) (fun p hp => by simp at hp; omega)
  have hs2 := g2.size
  clear r2 g2
  go_wp2_with fail
  refine (next_any gR c (j + 1 + 1) ar zs w2 HR2.out hzl HZB.out).mono ?_
  rintro e w3 ⟨rfl, r3, g3⟩
  have hp : nxt zs (j + 1 + 1) < 256 := nxt_lt HZB.out _
  generalize nxt zs (j + 1 + 1) = p at *
  have HO3 := hid (own_marked HO2.out g3 (fun q p hq hp e => by simp at hp; exact boxY_far HR2.out.cells HO2.out (by decide) (by rw [hq, e, ← hp])))
  have HB3 : Hid (Below Bd w w3) := hid (B2.grown g3 (by omega) (fun p hp => by simp at hp; omega))
  have HS3 : Hid (B ≤ w3.heap.size) := hid (by have := g3.size; omega)
  clear r3 g3 B1 B2 hs1 hs2 HO HO1 HO2 HR HR1 HR2
  obtain ⟨v, hv⟩ : ∃ v : Nat, v = q * 256 + 1 + p := ⟨_, rfl⟩
  have hvi : (q : Int) * 256 + 1 + (p : Int) = (v : Int) := by rw [hv]; simp
  have hvb : v ≤ 70000 := by omega
  clear hv
  by_cases h0 : xs.length = 0
  · have hx0 : ((xs.length : Int) == 0) = true := by rw [h0]; rfl
    clear h0
    go_wp2
    go_ret
    exact someB_own HO3.out HXB.out (by omega) HB3.out
  have hx0 : ((xs.length : Int) == 0) = false := beq_eq_false_iff_ne.2 (by omega)
  obtain ⟨g, hg⟩ : ∃ g, a = some ⟨g, 0, none⟩ := by
    rcases HO3.out.2 with ⟨h, _⟩ | ⟨g, cap, cur, h, _⟩
    · simp only [Value.slice.injEq] at h
      omega
    · simp only [Value.slice.injEq] at h
      exact ⟨g, h.1⟩
  subst hg
  have hcap : xs.length ≤ cap ∧ cap ≤ 9223372036854775807 := by
    rcases HO3.out.2 with ⟨h, _⟩ | ⟨g, cap', cur, h, _, _, h1, h2, _⟩
    · simp only [Value.slice.injEq] at h
      omega
    · simp only [Value.slice.injEq] at h
      unfold maxLen at h2
      omega
  obtain ⟨m, hm⟩ : ∃ m : Nat, m = v % xs.length := ⟨_, rfl⟩
  have hml : m < xs.length := by rw [hm]; exact Nat.mod_lt _ (by omega)
  have hm1 : (v : Int).tmod (xs.length : Int) = (m : Int) := by rw [hm]; rfl
  have hm2 : (v : Int) % (xs.length : Int) = (m : Int) := by rw [hm]; rfl
  clear hm
  obtain ⟨r, hr4⟩ : ∃ r : Nat, r = k % 4 := ⟨_, rfl⟩
  have hri : (k : Int) % 4 = (r : Int) := by rw [hr4]; simp
  have hrb : r < 4 := by omega
  clear hr4
  by_cases c0 : r = 0
  · have e0 : ((r : Int) == 0) = true := by rw [c0]; rfl
    have hmi : (m : Int) ≤ (cap : Int) := by omega
    clear c0
    go_wp2
    go_ret
    refine someB_own (B := B) (ys := xs.take m) ?_ (fun x hx => HXB.out x (List.mem_of_mem_take hx)) (by omega) HB3.out
    have h := own_cut HO3.out (Nat.le_of_lt hml)
    rwa [show (byt xs).take m = byt (xs.take m) from by simp [byt, List.map_take]] at h
  have e0 : ((r : Int) == 0) = false := beq_eq_false_iff_ne.2 (by omega)
  by_cases c1 : r = 1
  · have e1 : ((r : Int) == 1) = true := by rw [c1]; rfl
    clear c1 c0
    go_wp2_with (first | (at_builtin; refine wpList_append_own _ rfl _ _ 22 rfl B 5 i0 (.int .u8 0) 1 1 Tryd.underlying22 hi hz0 hz1 hz2 rfl (by decide) _ xs.length _ rfl (HO3.out.alloc _) ⟨w3.heap.size, 0, none⟩ 1 1 [.int .u8 ((v : Int) % 256)] rfl rfl (cell_one_new _ _ _) (one_cell rfl) (by unfold maxLen; omega) (by omega) (by have := HS3.out; simp; omega) ?_) | fail)
    intro v' w4 hown' hgrow _
    obtain ⟨a4, c4, rfl, -⟩ := rd_own hown'
    have HB4 : Hid (Below Bd w w4) := hid ((HB3.out.alloc (by have := HS3.out; omega) _).grown hgrow (by have := HS3.out; simp; omega) (fun p hp => by have := (own_in HO3.out hp).1; omega))
    have HO4 : Hid (w4.ownsRow B 5 1 (.slice a4 (xs.length + 1) c4) (xs.length + 1) (byt (xs ++ [v % 256]))) := hid (by
      rw [byt_append]
      exact hown')
    clear hown' hgrow
    go_wp2
    go_ret
    refine someB_own HO4.out (fun x hx => ?_) (by omega) HB4.out
    rcases List.mem_append.1 hx with h | h
    · exact HXB.out x h
    · simp at h; omega
  have e1 : ((r : Int) == 1) = false := beq_eq_false_iff_ne.2 (by omega)
  have hmi : (m : Int) < (xs.length : Int) := by omega
  obtain ⟨s, hs⟩ : ∃ s : Nat, s = k / 4 % 8 := ⟨_, rfl⟩
  have hsi : (k : Int) / 4 % 8 = (s : Int) := by rw [hs]; simp
  have hsb : s < 8 := by omega
  clear hs c0 c1
  have hfz := HO3.out.frozenAt m
  have hx : xs[m] < 256 := HXB.out _ (List.getElem_mem _)
  have hcell : w3.cell? ⟨g, m, none⟩ = some (.int .u8 ((xs[m] : Nat) : Int)) := by
    rw [HO3.out.cellAt m (by omega)]
    simp [byt, hml]
  obtain ⟨y, hy⟩ : ∃ y : Nat, y = xs[m] ^^^ 2 ^ s := ⟨_, rfl⟩
  have hp2 : 2 ^ s < 256 := by have := two_pow_lt8 s; rwa [Nat.mod_eq_of_lt hsb] at this
  have hyb : y < 256 := by rw [hy]; exact Nat.xor_lt_two_pow (n := 8) hx hp2
  have HXR : Hid (bits .xor .u8 ((xs[m] : Nat) : Int) ((2 : Int) ^ s % 256) = (y : Int)) := hid (by
    rw [show ((2 : Int) ^ s % 256) = ((2 ^ s : Nat) : Int) from by
      rw [show ((2 ^ s : Nat) : Int) = (2 : Int) ^ s from by simp]
      exact Int.emod_eq_of_lt (by exact Int.pow_nonneg (by decide)) (by exact_mod_cast hp2), hy]
    exact bits_xor_u8 _ _ hx hp2)
  have HST : Hid ((w3.setCell ⟨g, m, none⟩ (.int .u8 (bits .xor .u8 ((xs[m] : Nat) : Int) ((2 : Int) ^ s % 256)))).ownsRow B 5 1 (.slice (some ⟨g, 0, none⟩) xs.length cap) xs.length (byt (xs.set m y))) := hid (by
    have h := (World.ownsRow.stored HO3.out m (.int .u8 (bits .xor .u8 ((xs[m] : Nat) : Int) ((2 : Int) ^ s % 256)))).1
    have e : (byt xs).set m (.int .u8 (bits .xor .u8 ((xs[m] : Nat) : Int) ((2 : Int) ^ s % 256))) = byt (xs.set m y) := by
      rw [HXR.out]
      simp [byt, List.map_set]
    rwa [e] at h)
  have HGB : Hid (B ≤ g) := hid (own_in (g := g) HO3.out rfl).1
  have HYB : Hid (∀ x ∈ xs.set m y, x < 256) := hid (fun x hx => by
    rcases List.mem_or_eq_of_mem_set hx with h | h
    · exact HXB.out x h
    · omega)
  have HB4 : Hid (Below Bd w (w3.setCell ⟨g, m, none⟩ (.int .u8 (bits .xor .u8 ((xs[m] : Nat) : Int) ((2 : Int) ^ s % 256))))) := hid (HB3.out.setCell (p := ⟨g, m, none⟩) (Nat.le_trans hB HGB.out) _)
  clear hy hp2
  generalize xs[m] = x at *
  by_cases c3 : r = 3 ∧ 4 < xs.length
  · have e3 : ((r : Int) == 3) = true := by rw [c3.1]; rfl
    have e4 : decide ((4 : Int) < (xs.length : Int)) = true := decide_eq_true (by omega)
    have h4 := c3.2
    clear c3
    have HS4 : Hid (B ≤ (w3.setCell ⟨g, m, none⟩ (.int .u8 (bits .xor .u8 (x : Int) ((2 : Int) ^ s % 256)))).heap.size) := hid (by have := HS3.out; simp; omega)
    go_wp2_with fail
    generalize (w3.setCell ⟨g, m, none⟩ (.int .u8 (bits .xor .u8 (x : Int) ((2 : Int) ^ s % 256)))) = w4 at *
    obtain ⟨us, hus⟩ : ∃ us : List Nat, us = (xs.set m y).take (xs.length - 4) := ⟨_, rfl⟩
    have hul : us.length = xs.length - 4 := by rw [hus]; simp
    have HUB : Hid (∀ x ∈ us, x < 256) := hid (fun x hx => by rw [hus] at hx; exact HYB.out x (List.mem_of_mem_take hx))
    have HOC : Hid (w4.ownsRow B 5 1 (.slice (some ⟨g, 0, none⟩) (xs.length - 4) cap) (xs.length - 4) (byt us)) := hid (by
      have h := own_cut HST.out (show xs.length - 4 ≤ xs.length by omega)
      rwa [show (byt (xs.set m y)).take (xs.length - 4) = byt us from by rw [hus]; simp [byt, List.map_take]] at h)
    have HCR : Hid (Calls Tryd.prog 52 #[.slice (some ⟨g, 0, none⟩) (xs.length - 4) cap] w4 fun e w' => e = .returned (.int .u32 ((crcFold us ^^^ 4294967295 : Nat) : Int)) ∧ w' = w4) := hid (by
      have h := specCrc_any (some ⟨g, 0, none⟩) cap us w4 (rd_at HOC.out) HUB.out (by omega)
      rwa [hul] at h)
    have hX : crcFold us ^^^ 4294967295 < 4294967296 := crcM_ltF HUB.out
    generalize crcFold us ^^^ 4294967295 = X at *
    clear hus hul
    refine HCR.out.mono ?_
    rintro e w5 ⟨rfl, hw5⟩
    subst hw5
    go_wp2_with fail
    refine (little_row (X : Int) 4 w5 (by omega) (by omega) ⟨by omega, by omega⟩).mono ?_
    rintro e w6 ⟨g6, c6, rfl, o6, b6⟩
    have HO6 := hid (own_later HOC.out b6)
    have HR6 := hid (rd_at o6)
    have HS6 : Hid (B ≤ w6.heap.size) := hid (by have := b6.size; have := HS4.out; omega)
    have HB6 : Hid (Below Bd w w6) := hid (HB4.out.trans (b6.mono (by have := HS4.out; omega)))
    have HDL : Hid ((byt (digs (U (X : Int)) 4)).length = 4) := hid (by rw [byt_len, digs_len])
    clear o6 b6 HCR
    go_wp2_with (first | (at_builtin; refine append_any rfl _ _ 22 rfl B 5 i0 (.int .u8 0) 1 Tryd.underlying22 hi hz0 hz1 hz2 rfl _ (xs.length - 4) (byt us) rfl HO6.out (some ⟨g6, 0, none⟩) 4 c6 (byt (digs (U (X : Int)) 4)) rfl HDL.out (by simp) HR6.out (byt_one _) (by unfold maxLen; omega) (by omega) HS6.out ?_) | fail)
    intro v' w7 hown hgrow
    obtain ⟨a7, c7, rfl, -⟩ := rd_own hown
    have HO7 : Hid (w7.ownsRow B 5 1 (.slice a7 (xs.length - 4 + 4) c7) (xs.length - 4 + 4) (byt (us ++ digs (U (X : Int)) 4))) := hid (by rw [byt_append]; exact hown)
    have HB7 : Hid (Below Bd w w7) := hid (HB6.out.grown hgrow (by have := HS6.out; omega) (fun p hp => by have := (own_in HO6.out hp).1; omega))
    clear hown hgrow
    go_wp2
    go_ret
    refine someB_own HO7.out (fun x hx => ?_) (by omega) HB7.out
    rcases List.mem_append.1 hx with h | h
    · exact HUB.out x h
    · exact digs_lt _ _ x h
  · by_cases c4 : r = 3
    · have e3 : ((r : Int) == 3) = true := by rw [c4]; rfl
      have e4 : decide ((4 : Int) < (xs.length : Int)) = false := decide_eq_false (by omega)
      clear c3 c4
      go_wp2
      go_ret
      exact someB_own HST.out HYB.out (by omega) HB4.out
    · have e3 : ((r : Int) == 3) = false := beq_eq_false_iff_ne.2 (by omega)
      clear c3 c4
      go_wp2
      go_ret
      exact someB_own HST.out HYB.out (by omega) HB4.out
end Go.Proofs.YtfppfjklakdlfaaDoor
namespace Go.Proofs.YtfppfjklakdlfaaDoor
open Go.RowKit
set_option maxHeartbeats 4000000 in
theorem l5valid_raw (kind epoch seq count : Int) (last : Bool) (a : Option Addr) (n cap : Nat) (w : World) (B : Bool) (hT : (1 ≤ epoch ∧ epoch ≤ 1000000000 ∧ 0 ≤ seq ∧ seq ≤ 1000000000000 ∧ 0 ≤ count ∧ count ≤ 1000000000 ∧ ((kind = 1 ∧ seq < 1000000000000 ∧ count = 0 ∧ 1 ≤ n ∧ n ≤ 100) ∨ (lastN last = 0 ∧ n = 0 ∧ (kind = 2 ∨ (kind = 3 ∧ seq = 0) ∨ (kind = 4 ∧ seq = 0 ∧ count = 0))))) → B = true) (hF : ¬ (1 ≤ epoch ∧ epoch ≤ 1000000000 ∧ 0 ≤ seq ∧ seq ≤ 1000000000000 ∧ 0 ≤ count ∧ count ≤ 1000000000 ∧ ((kind = 1 ∧ seq < 1000000000000 ∧ count = 0 ∧ 1 ≤ n ∧ n ≤ 100) ∨ (lastN last = 0 ∧ n = 0 ∧ (kind = 2 ∨ (kind = 3 ∧ seq = 0) ∨ (kind = 4 ∧ seq = 0 ∧ count = 0))))) → B = false) (hn : n ≤ maxLen) :
    Calls Tryd.prog 50 #[.agg #[.int .i64 kind, .int .i64 epoch, .int .i64 seq, .int .i64 count, .bool last, .slice a n cap]] w fun e w' => e = .returned (.bool B) ∧ Below w.heap.size w w' := by
  have HT := hid hT
  have HF := hid hF
  unfold maxLen at hn
  clear hT hF
  by_cases c0 : kind < 1
  · have HB := hid (HF.out (by omega))
    go_enter Tryd.func50, Tryd.ntmps50
    go_wp2
    go_ret
    exact ⟨(by rw [HB.out]; first | done | rfl), below_new1 _ _⟩
  by_cases c1 : 4 < kind
  · have HB := hid (HF.out (by omega))
    go_enter Tryd.func50, Tryd.ntmps50
    go_wp2
    go_ret
    exact ⟨(by rw [HB.out]; first | done | rfl), below_new1 _ _⟩
  by_cases c2 : epoch < 1
  · have HB := hid (HF.out (by omega))
    go_enter Tryd.func50, Tryd.ntmps50
    go_wp2
    go_ret
    exact ⟨(by rw [HB.out]; first | done | rfl), below_new1 _ _⟩
  by_cases c3 : 1000000000 < epoch
  · have HB := hid (HF.out (by omega))
    go_enter Tryd.func50, Tryd.ntmps50
    go_wp2
    go_ret
    exact ⟨(by rw [HB.out]; first | done | rfl), below_new1 _ _⟩
  by_cases c4 : seq < 0
  · have HB := hid (HF.out (by omega))
    go_enter Tryd.func50, Tryd.ntmps50
    go_wp2
    go_ret
    exact ⟨(by rw [HB.out]; first | done | rfl), below_new1 _ _⟩
  by_cases c5 : 1000000000000 < seq
  · have HB := hid (HF.out (by omega))
    go_enter Tryd.func50, Tryd.ntmps50
    go_wp2
    go_ret
    exact ⟨(by rw [HB.out]; first | done | rfl), below_new1 _ _⟩
  by_cases c6 : count < 0
  · have HB := hid (HF.out (by omega))
    go_enter Tryd.func50, Tryd.ntmps50
    go_wp2
    go_ret
    exact ⟨(by rw [HB.out]; first | done | rfl), below_new1 _ _⟩
  by_cases c7 : 1000000000 < count
  · have HB := hid (HF.out (by omega))
    go_enter Tryd.func50, Tryd.ntmps50
    go_wp2
    go_ret
    exact ⟨(by rw [HB.out]; first | done | rfl), below_new1 _ _⟩
  by_cases k1 : kind = 1
  · subst k1
    by_cases d0 : count = 0
    · subst d0
      by_cases d1 : seq < 1000000000000
      · by_cases d2 : 1 ≤ n
        · have d2' : (1 : Int) ≤ (n : Int) := by omega
          by_cases d3 : n ≤ 100
          · have d3' : (n : Int) ≤ 100 := by omega
            have HB := hid (HT.out (by omega))
            go_enter Tryd.func50, Tryd.ntmps50
            go_wp2
            go_ret
            exact ⟨(by rw [HB.out]; first | done | rfl), below_new1 _ _⟩
          have d3' : decide ((n : Int) ≤ 100) = false := decide_eq_false (by omega)
          have HB := hid (HF.out (by omega))
          go_enter Tryd.func50, Tryd.ntmps50
          go_wp2
          go_ret
          exact ⟨(by rw [HB.out]; first | done | rfl), below_new1 _ _⟩
        have d2' : (n : Int) < 1 := by omega
        have HB := hid (HF.out (by omega))
        go_enter Tryd.func50, Tryd.ntmps50
        go_wp2
        go_ret
        exact ⟨(by rw [HB.out]; first | done | rfl), below_new1 _ _⟩
      have HB := hid (HF.out (by omega))
      go_enter Tryd.func50, Tryd.ntmps50
      go_wp2
      go_ret
      exact ⟨(by rw [HB.out]; first | done | rfl), below_new1 _ _⟩
    have d0' : (count == 0) = false := by simpa using d0
    have HB := hid (HF.out (by omega))
    go_enter Tryd.func50, Tryd.ntmps50
    go_wp2
    go_ret
    exact ⟨(by rw [HB.out]; first | done | rfl), below_new1 _ _⟩
  have k1' : (kind == 1) = false := by simpa using k1
  cases last with
  | true =>
    have hl : lastN true = 1 := rfl
    have HB := hid (HF.out (by omega))
    go_enter Tryd.func50, Tryd.ntmps50
    go_wp2
    go_ret
    exact ⟨(by rw [HB.out]; first | done | rfl), below_new1 _ _⟩
  | false =>
    have hl : lastN false = 0 := rfl
    by_cases n0 : n = 0
    · subst n0
      by_cases k2 : kind = 2
      · subst k2
        have HB := hid (HT.out (by omega))
        go_enter Tryd.func50, Tryd.ntmps50
        go_wp2
        go_ret
        exact ⟨(by rw [HB.out]; first | done | rfl), below_new1 _ _⟩
      have k2' : (kind == 2) = false := by simpa using k2
      by_cases s0 : seq = 0
      · subst s0
        by_cases k3 : kind = 3
        · subst k3
          have HB := hid (HT.out (by omega))
          go_enter Tryd.func50, Tryd.ntmps50
          go_wp2
          go_ret
          exact ⟨(by rw [HB.out]; first | done | rfl), below_new1 _ _⟩
        have k3' : (kind == 3) = false := by simpa using k3
        by_cases x0 : count = 0
        · subst x0
          have HB := hid (HT.out (by omega))
          go_enter Tryd.func50, Tryd.ntmps50
          go_wp2
          go_ret
          exact ⟨(by rw [HB.out]; first | done | rfl), below_new1 _ _⟩
        have x0' : (count == 0) = false := by simpa using x0
        have HB := hid (HF.out (by omega))
        go_enter Tryd.func50, Tryd.ntmps50
        go_wp2
        go_ret
        exact ⟨(by rw [HB.out]; first | done | rfl), below_new1 _ _⟩
      have s0' : (seq == 0) = false := by simpa using s0
      have HB := hid (HF.out (by omega))
      go_enter Tryd.func50, Tryd.ntmps50
      go_wp2
      go_ret
      exact ⟨(by rw [HB.out]; first | done | rfl), below_new1 _ _⟩
    have n0' : ((n : Int) != 0) = true := by simp; omega
    have HB := hid (HF.out (by omega))
    go_enter Tryd.func50, Tryd.ntmps50
    go_wp2
    go_ret
    exact ⟨(by rw [HB.out]; first | done | rfl), below_new1 _ _⟩
theorem l5valid_any (p : PP) (a : Option Addr) (cap : Nat) (w : World) (hn : p.data.length ≤ maxLen) :
    Calls Tryd.prog 50 #[.agg #[.int .i64 p.kind, .int .i64 p.epoch, .int .i64 p.seq, .int .i64 p.count, .bool p.last, .slice a p.data.length cap]] w fun e w' => e = .returned (.bool (pktOK p)) ∧ Below w.heap.size w w' :=
  l5valid_raw p.kind p.epoch p.seq p.count p.last a p.data.length cap w (pktOK p) (fun h => decide_eq_true h) (fun h => decide_eq_false h) hn
end Go.Proofs.YtfppfjklakdlfaaDoor
