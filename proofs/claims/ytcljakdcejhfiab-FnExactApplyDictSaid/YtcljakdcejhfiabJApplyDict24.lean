import Derived.Test.YtcljakdcejhfiabJApplyDict23
import Derived.Lib.AppendZeros
namespace Go.Proofs.Ytcljakdcejhfiab
open Go.RowKit
theorem RdSl.vals {w : World} {xss : List (List Nat)} {a : Option Addr} {n cap : Nat} (h : RdSl cSS w xss (.slice a n cap)) :
    ∃ vals : List Value, vals.length = xss.length ∧ Rd w a vals ∧ (∀ u ∈ vals, u.oneCell' = true) ∧ ∀ i, (h : i < xss.length) → ∃ u, vals[i]? = some u ∧ RdSl cByte w xss[i] u := by
  obtain ⟨a', cap', e', _, _, _, h4⟩ := id h
  simp only [Value.slice.injEq] at e'
  obtain ⟨rfl, rfl, rfl⟩ := e'
  rcases h4 with rfl | ⟨b, off, rfl, hat⟩
  · exact ⟨[], rfl, .inl rfl, by simp, fun i h => by simp at h⟩
  · have hx : ∀ i : Fin xss.length, ∃ u : Value, w.cell? ⟨b, off + i.1, none⟩ = some u ∧ RdSl cByte w xss[i.1] u := fun i => by
      obtain ⟨b', off', a', c', e, hc, hr⟩ := h.row i.2
      simp at e
      obtain ⟨rfl, rfl⟩ := e
      exact ⟨_, hc, hr⟩
    refine ⟨(List.finRange xss.length).map fun i => Classical.choose (hx i), by simp, .inr ⟨b, off, rfl, fun i hi => ?_⟩, fun u hu => ?_, fun i hi => ?_⟩
    · have hi' : i < xss.length := by simpa using hi
      have := (Classical.choose_spec (hx ⟨i, hi'⟩)).1
      rw [this]; simp
    · simp only [List.mem_map] at hu
      obtain ⟨i, _, rfl⟩ := hu
      obtain ⟨_, _, e, _⟩ := (Classical.choose_spec (hx i)).2
      rw [e]; rfl
    · exact ⟨_, by simp [hi], (Classical.choose_spec (hx ⟨i, hi⟩)).2⟩
set_option maxRecDepth 100000 in
set_option maxHeartbeats 2000000 in
theorem growNil_any (n : Nat) (w : World) (hn : n ≤ 4194304) :
    Calls Try.prog 90 #[.slice none 0 0, .int .i64 n] w fun e w' => ∃ v, e = .returned v ∧ w'.ownsRow w.heap.size 24 1 v 0 [] ∧ Below w.heap.size w w' := by
  obtain ⟨i0, hi, hz0, hz1, hz2⟩ := info_parts infoSlT
  by_cases h0 : n = 0
  · subst h0
    go_enter Try.func90, Try.ntmps90
    go_wp2
    go_ret
    exact ⟨_, rfl, World.ownsRow_nil _ _ _ _, Below.refl _ _⟩
  · have hnn : ¬ ((n : Int) < 0) := by omega
    have hrun := fun ty => Lib.run_append_nil_zeros w 22 3 ty 24 i0 (.slice none 0 0) .i64 .i64 Try.underlying22 Try.underlying3 hi hz0 n (by omega) (by omega) (by omega) (by rw [hz2]; omega)
    have hG := grownCap_ge w n 0 24
    have hG2 := grownCap_le_maxLen w n 0 24 (by unfold maxLen; omega)
    have HO : Hid ((w.drew.alloc (.cells (Builtin.zeroCells (Value.slice none 0 0).cells n ++ Builtin.zeroCells (Value.slice none 0 0).cells (grownCap w n 0 24 - n)) 24)).ownsRow w.heap.size 24 1 (.slice (some ⟨w.heap.size, 0, none⟩) 0 (grownCap w n 0 24)) 0 []) := hid (by
      refine ⟨rfl, .inr ⟨w.heap.size, _, _, rfl, Nat.le_refl _, heap_alloc_new w.drew _, Nat.zero_le _, hG2, ?_, by simp⟩⟩
      simp [Builtin.zeroCells, Value.cells]; omega)
    have HB : Hid (Below w.heap.size w (w.drew.alloc (.cells (Builtin.zeroCells (Value.slice none 0 0).cells n ++ Builtin.zeroCells (Value.slice none 0 0).cells (grownCap w n 0 24 - n)) 24))) := hid ((Below.refl _ w).drew.alloc (Nat.le_refl _) _)
    generalize hW : (w.drew.alloc (.cells (Builtin.zeroCells (Value.slice none 0 0).cells n ++ Builtin.zeroCells (Value.slice none 0 0).cells (grownCap w n 0 24 - n)) 24)) = W at *
    generalize grownCap w n 0 24 = G at *
    clear hW
    have hGi : (0 : Int) ≤ (G : Int) := by omega
    go_enter Try.func90, Try.ntmps90
    go_wp2_with (first | (at_builtin; refine Lib.wpList_append_run _ rfl _ _ 22 3 rfl (.slice none 0 0) (.int .i64 n) rfl rfl _ _ (hrun _) ?_))
    go_wp2
    go_ret
    exact ⟨_, rfl, HO.out, HB.out⟩
set_option maxRecDepth 100000 in
set_option maxHeartbeats 4000000 in
theorem concat_any (g : Nat) (a1 a2 : Option Addr) (n1 n2 c1 c2 : Nat) (vs us : List Value) (w : World) (h1 : w.cell? ⟨g, 0, none⟩ = some (.slice a1 n1 c1)) (h2 : w.cell? ⟨g, 1, none⟩ = some (.slice a2 n2 c2))
    (l1 : vs.length = n1) (l2 : us.length = n2) (r1 : Rd w a1 vs) (r2 : Rd w a2 us) (e1 : a1 = none → n1 = 0 ∧ c1 = 0) (e2 : a2 = none → n2 = 0 ∧ c2 = 0) (o1 : ∀ u ∈ vs, u.oneCell' = true) (o2 : ∀ u ∈ us, u.oneCell' = true) (m1 : n1 ≤ 1048576) (m2 : n2 ≤ 1048576) :
    Calls Try.prog 86 #[.slice (some ⟨g, 0, none⟩) 2 2] w fun e w' => ∃ v, e = .returned v ∧ w'.ownsRow w.heap.size 24 1 v (n1 + n2) (vs ++ us) ∧ Below w.heap.size w w' := by
  obtain ⟨i0, hi, hz0, hz1, hz2⟩ := info_parts infoSlT
  have hg : g < w.heap.size := World.block_lt_of_cell? w ⟨g, 0, none⟩ h1
  have HL1 := hid l1
  have HL2 := hid l2
  have HR1 := hid r1
  have HR2 := hid r2
  have HE1 := hid e1
  have HE2 := hid e2
  have HO1 := hid o1
  have HO2 := hid o2
  have HC1 := hid h1
  have HC2 := hid h2
  clear l1 l2 r1 r2 e1 e2 o1 o2
  go_enter Try.func86, Try.ntmps86
  go_wp2
  go_loop [3, 5, 11] (fun s _ i => (i = .int .i64 0 ∧ s = .int .i64 0) ∨ (i = .int .i64 1 ∧ s = .int .i64 (n1 : Int)) ∨ (i = .int .i64 2 ∧ s = .int .i64 ((n1 : Int) + (n2 : Int)))) (fun _ _ i => 2 - (intOf i).toNat)
  case atStart => exact .inl ⟨rfl, rfl⟩
  case round =>
    rcases hrel with ⟨rfl, rfl⟩ | ⟨rfl, rfl⟩ | ⟨rfl, rfl⟩
    · go_wp2
      go_round
      case rel => exact .inr (.inl ⟨by go_num, by go_num⟩)
      case measure => simp [intOf]
    · go_wp2
      go_round
      case rel => exact .inr (.inr ⟨by go_num, by go_num⟩)
      case measure => simp [intOf]
    · go_wp2_with fail
      have hsum : (n1 : Int) + (n2 : Int) = ((n1 + n2 : Nat) : Int) := by omega
      first | rw [hsum] | skip
      clear hsum
      refine (growNil_any (n1 + n2) w (by omega)).mono ?_
      rintro e w1 ⟨v1, rfl, how, b1⟩
      have HW := hid how
      have HB1 := hid b1
      clear how b1 h1 h2
      go_wp2
      go_loopw [6, 8, 27] (fun v _ i wr => ((i = .int .i64 0 ∧ wr.ownsRow w.heap.size 24 1 v 0 []) ∨ (i = .int .i64 1 ∧ wr.ownsRow w.heap.size 24 1 v n1 vs) ∨ (i = .int .i64 2 ∧ wr.ownsRow w.heap.size 24 1 v (n1 + n2) (vs ++ us))) ∧ Below w.heap.size w wr) (fun _ _ i _ => 2 - (intOf i).toNat)
      case atStart => exact ⟨.inl ⟨rfl, HW.out⟩, HB1.out⟩
      case round =>
        obtain ⟨hrel, hbe⟩ := hrel
        have HB := hid hbe
        have hs := hbe.size
        have h1 : wr.cell? ⟨g, 0, none⟩ = some (.slice a1 n1 c1) := (hbe.cell (p := ⟨g, 0, none⟩) hg).trans HC1.out
        have h2 : wr.cell? ⟨g, 1, none⟩ = some (.slice a2 n2 c2) := (hbe.cell (p := ⟨g, 1, none⟩) hg).trans HC2.out
        have R1 := hid (HR1.out.later hbe)
        have R2 := hid (HR2.out.later hbe)
        clear hbe
        rcases hrel with ⟨rfl, how⟩ | ⟨rfl, how⟩ | ⟨rfl, how⟩
        · have HW2 := hid how
          clear how
          go_wp2_with (first | (at_builtin; refine append_any rfl _ _ 22 rfl w.heap.size 24 i0 (.slice none 0 0) 24 Try.underlying22 hi hz0 hz1 hz2 rfl _ 0 _ rfl HW2.out a1 n1 c1 vs rfl HL1.out HE1.out R1.out HO1.out (by unfold maxLen; omega) (by omega) hs ?_))
          intro v' w9 hown' hgrow
          have HN : Hid (w9.ownsRow w.heap.size 24 1 v' n1 vs) := hid (by simpa using hown')
          have HB9 : Hid (Below w.heap.size w w9) := hid (HB.out.grown hgrow hs (fun p hp => (own_in HW2.out hp).1))
          clear hown' hgrow
          go_wp2
          go_roundw
          case rel => exact ⟨.inr (.inl ⟨by go_num, HN.out⟩), HB9.out⟩
          case measure => simp [intOf]
        · have HW2 := hid how
          clear how
          go_wp2_with (first | (at_builtin; refine append_any rfl _ _ 22 rfl w.heap.size 24 i0 (.slice none 0 0) 24 Try.underlying22 hi hz0 hz1 hz2 rfl _ n1 _ rfl HW2.out a2 n2 c2 us rfl HL2.out HE2.out R2.out HO2.out (by unfold maxLen; omega) (by omega) hs ?_))
          intro v' w9 hown' hgrow
          have HN := hid hown'
          have HB9 : Hid (Below w.heap.size w w9) := hid (HB.out.grown hgrow hs (fun p hp => (own_in HW2.out hp).1))
          clear hown' hgrow
          go_wp2
          go_roundw
          case rel => exact ⟨.inr (.inr ⟨by go_num, HN.out⟩), HB9.out⟩
          case measure => simp [intOf]
        · have HW2 := hid how
          clear how
          go_wp2
          go_ret
          exact ⟨_, rfl, HW2.out, HB.out⟩
end Go.Proofs.Ytcljakdcejhfiab
