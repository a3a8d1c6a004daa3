import Derived.Test.YtcljakdcejhfiadJPlanDict14
import Derived.Test.YtcljakdcejhfiadJPlanDict7
import Derived.Deep.Slices
namespace Go.Proofs.Ytcljakdcejhfiad
open Go.RowKit
def AnyCells (w : World) (e : TypeId) (g n cap : Nat) (T : List Value) (L : List Nat) : Prop :=
  ∃ vs, w.ownsRow 0 e 3 (.slice (some ⟨g, 0, none⟩) n cap) n vs ∧ ∀ i, (h : i < T.length) → (h2 : i < L.length) → vs[i * 3 + 2]? = some T[i] ∧ ∃ us, w.ownsRow 0 5 1 T[i] L[i] us
structure Apart (g : Nat) (T : List Value) (bs : List Nat) : Prop where
  self : g ∈ bs
  mem : ∀ i, (h : i < T.length) → ∀ b, T[i].ownBlock = some b → b ∈ bs ∧ b ≠ g
  ne : ∀ i k, (h : i < T.length) → (h2 : k < T.length) → i ≠ k → ∀ b, T[i].ownBlock = some b → T[k].ownBlock ≠ some b
theorem anyCells_of {w : World} {e : TypeId} {xs : List PC} {v : Value} {bs : List Nat} (h : OwnSl cCell e w xs v bs) (hnd : bs.Nodup) (hne : xs ≠ []) :
    ∃ g cap T L, v = .slice (some ⟨g, 0, none⟩) xs.length cap ∧ T.length = xs.length ∧ L = xs.map (fun c : PC => c.text.length) ∧ AnyCells w e g xs.length cap T L ∧ Apart g T bs := by
  rcases h with ⟨_, rfl, _⟩ | ⟨g, cap, vs, bss, rfl, ho, rfl, hbl, hi⟩
  · exact absurd rfl hne
  have hnf := (List.nodup_cons.1 hnd).2
  have hng := (List.nodup_cons.1 hnd).1
  have hmem : ∀ i, (h : i < bss.length) → ∀ b ∈ bss[i], b ∈ List.flatten bss := fun i h b hb => List.mem_flatten.2 ⟨_, List.getElem_mem h, hb⟩
  have each : ∀ i, i < xs.length → ∃ u : Value, vs[i * 3 + 2]? = some u ∧ ∀ (h : i < xs.length) (h2 : i < bss.length), (∃ us, w.ownsRow 0 5 1 u xs[i].text.length us) ∧ bss[i] = u.ownBlock.toList := by
    intro i h
    have h2 : i < bss.length := by omega
    obtain ⟨u, e1, hu, _⟩ := cCell_owned (hi i h h2)
    have hb := hu.bytes
    have hat := part_at (vs := vs) (n := cCell.n) (i := i) (j := 2) (by decide)
    rw [e1] at hat
    refine ⟨u, by simpa [cCell, cMap, cPair, cInt, cBool, cSl] using hat.symm, fun _ _ => ⟨⟨_, hb.1⟩, hb.2.1⟩⟩
  have : Inhabited Value := ⟨.bool false⟩
  obtain ⟨U, hU⟩ := Go.Deep.choose_lt each
  refine ⟨g, cap, (List.range xs.length).map U, _, rfl, by simp, rfl, ⟨vs, ho, fun i h h2 => ?_⟩, ⟨by simp, fun i h b hb => ?_, fun i k h h2 hik b hb hb2 => ?_⟩⟩
  · have h3 : i < xs.length := by simpa using h
    obtain ⟨e1, e2⟩ := hU i h3
    exact ⟨by simpa using e1, by simpa using (e2 h3 (by omega)).1⟩
  · have h3 : i < xs.length := by simpa using h
    have e2 := ((hU i h3).2 h3 (by omega)).2
    have hm : b ∈ bss[i]'(by omega) := by rw [e2]; simp at hb; simp [hb]
    exact ⟨List.mem_cons_of_mem _ (hmem i (by omega) b hm), fun e => hng (by rw [← e]; exact hmem i (by omega) b hm)⟩
  · have h3 : i < xs.length := by simpa using h
    have h4 : k < xs.length := by simpa using h2
    have e2 := ((hU i h3).2 h3 (by omega)).2
    have e3 := ((hU k h4).2 h4 (by omega)).2
    have hm : b ∈ bss[i]'(by omega) := by rw [e2]; simp at hb; simp [hb]
    have hm2 : b ∈ bss[k]'(by omega) := by rw [e3]; simp at hb2; simp [hb2]
    exact flat_other hnf (by omega) (by omega) hik b hm hm2
theorem AnyCells.set2 {w : World} {e : TypeId} {g n cap k : Nat} {T : List Value} {L : List Nat} {bs : List Nat} (h : AnyCells w e g n cap T L) (ha : Apart g T bs) (u1 u2 : Value) :
    AnyCells ((w.setCell ⟨g, k * 3, none⟩ u1).setCell ⟨g, k * 3 + 1, none⟩ u2) e g n cap T L := by
  obtain ⟨vs, ho, hi⟩ := h
  have s1 := (World.ownsRow.stored ho (k * 3) u1).1
  have s2 := (World.ownsRow.stored s1 (k * 3 + 1) u2).1
  refine ⟨_, s2, fun i h h2 => ?_⟩
  obtain ⟨e1, us, e2⟩ := hi i h h2
  refine ⟨by rw [List.getElem?_set_ne (by omega), List.getElem?_set_ne (by omega)]; exact e1, us, ownsRow_kept e2 (fun b hb => ?_)⟩
  have hne := (ha.mem i h b hb).2
  rw [Below.heap_setCell _ _ _ _ hne, Below.heap_setCell _ _ _ _ hne]
theorem AnyCells.marked {w w' : World} {e : TypeId} {g n cap k : Nat} {T : List Value} {L : List Nat} {bs us : List Nat} {vs' : List Value} (h : AnyCells w e g n cap T L) (ha : Apart g T bs) (hk : k < T.length) (hk2 : k < L.length)
    (ho : w'.ownsRow 0 5 1 T[k] L[k] vs') (hg : w.grownBy w' T[k].ownBlock) (_ : us = []) : AnyCells w' e g n cap T L := by
  obtain ⟨vs, hr, hi⟩ := h
  have hlt := fun b hb => (World.ownsRow.lt hr b hb).2
  refine ⟨vs, ownsRow_kept hr (fun b hb => hg.block b (hlt b hb) (fun e => ?_)), fun i h h2 => ?_⟩
  · simp [Value.ownBlock] at hb
    subst hb
    exact (ha.mem k hk _ e.symm).2 rfl
  · obtain ⟨e1, us, e2⟩ := hi i h h2
    refine ⟨e1, ?_⟩
    by_cases e : i = k
    · subst e; exact ⟨_, ho⟩
    · exact ⟨us, ownsRow_kept e2 (fun b hb => hg.block b (World.ownsRow.lt e2 b hb).2 (fun e3 => ha.ne i k h hk e b hb e3.symm))⟩
set_option maxHeartbeats 2000000 in
theorem markCellS_none (a : Option Addr) (cap m : Nat) (w : World) (_hm : m ≤ 1073741824) :
    Calls Try.prog 33 #[.slice a 0 cap, .int .i64 m] w fun e w' => e = .returned (.int .i64 m) ∧ w' = w := by
  go_enter Try.func33, Try.ntmps33
  go_wp2
  refine wp_loop_rounds 1 ?_; rw [rounds_succ]
  go_wp2
  go_ret
  exact ⟨rfl, rfl⟩
set_option maxHeartbeats 4000000 in
theorem markCellS_some (e : TypeId) (g n cap m : Nat) (T : List Value) (L bs : List Nat) (w : World) (h : AnyCells w e g n cap T L) (ha : Apart g T bs) (hT : T.length = n) (hL : L.length = n) (hn : n ≤ 1048576) (ht : L.sum ≤ 1048576) (hm : m ≤ 1073741824) :
    Calls Try.prog 33 #[.slice (some ⟨g, 0, none⟩) n cap, .int .i64 m] w fun e w' => ∃ q : Nat, e = .returned (.int .i64 (q : Int)) ∧ q ≤ m + 2 * n + L.sum ∧ Only bs w w' := by
  have H0 := hid h
  have HA := hid ha
  have HSN : Hid (∀ k, (h : k < L.length) → (L.take (k + 1)).sum = (L.take k).sum + L[k]) := hid (fun k h => by rw [List.take_succ_eq_append_getElem h, List.sum_append]; simp)
  have HSL : Hid (∀ k, (L.take k).sum ≤ L.sum) := hid (fun k => by
    have h2 : L.sum = (L.take k).sum + (L.drop k).sum := by rw [← List.sum_append, List.take_append_drop]
    omega)
  clear h ha
  go_enter Try.func33, Try.ntmps33
  go_wp2
  go_loopw [1, 5] (fun q i wr => ∃ k : Nat, k ≤ n ∧ i = .int .i64 k ∧ q = .int .i64 ((m + 2 * k + (L.take k).sum : Nat) : Int) ∧ AnyCells wr e g n cap T L ∧ Only bs w wr) (fun _ i _ => n - (intOf i).toNat)
  case atStart => exact ⟨0, Nat.zero_le _, rfl, by simp, H0.out, Only.refl _ _⟩
  case round =>
    obtain ⟨k, hk, rfl, rfl, hac, hon⟩ := hrel
    have HC := hid hac
    have HON := hid hon
    clear hac hon
    have hsl := HSL.out k
    by_cases hlt : k < n
    · obtain ⟨vs, hrow, hel⟩ := HC.out
      have hkT : k < T.length := by omega
      have hkL : k < L.length := by omega
      obtain ⟨e1, us, e2⟩ := hel k hkT hkL
      obtain ⟨au, cu, hTk, -⟩ := rd_own e2
      have f0 := hrow.frozenAt (k * 3)
      have f1 := hrow.frozenAt (k * 3 + 1)
      have hvl : vs.length = n * 3 := hrow.1
      have q0 := hrow.cellAt (k * 3) (by omega)
      have q1 := hrow.cellAt (k * 3 + 1) (by omega)
      have q2 := hrow.cellAt (k * 3 + 2) (by omega)
      rw [List.getElem?_eq_getElem (by omega)] at q0 q1
      rw [e1, hTk] at q2
      generalize vs[k * 3] = y0 at q0
      generalize vs[k * 3 + 1] = y1 at q1
      have HS2 : Hid (∀ u1 u2, AnyCells ((wr.setCell ⟨g, k * 3, none⟩ u1).setCell ⟨g, k * 3 + 1, none⟩ u2) e g n cap T L) := hid (fun u1 u2 => HC.out.set2 HA.out u1 u2)
      have HO2 : Hid (∀ u1 u2, Only bs wr ((wr.setCell ⟨g, k * 3, none⟩ u1).setCell ⟨g, k * 3 + 1, none⟩ u2)) := hid (fun u1 u2 => by
        have s1 := (World.ownsRow.stored hrow (k * 3) u1)
        have s2 := (World.ownsRow.stored s1.1 (k * 3 + 1) u2)
        exact ((Only.of_grown s1.2).trans (Only.of_grown s2.2)).mono (by simp; exact HA.out.self))
      have HSK := hid (HSN.out k hkL)
      have hsl2 := HSL.out (k + 1)
      have hki : (k : Int) < (n : Int) := by omega
      have HTK := hid hTk
      have hLk : L[k] ≤ 1048576 := by have := HSK.out; omega
      have HMK : Hid (∀ u1 u2 (mm : Nat), mm ≤ 1099511627776 → Calls Try.prog 42 #[.slice au L[k] cu, .int .i64 (mm : Int)] ((wr.setCell ⟨g, k * 3, none⟩ u1).setCell ⟨g, k * 3 + 1, none⟩ u2) fun ee w' => ee = .returned (.int .i64 ((mm + L[k] : Nat) : Int)) ∧ AnyCells w' e g n cap T L ∧ Only bs wr w') := hid (fun u1 u2 mm hmm => by
        obtain ⟨vs2, hr2, hel2⟩ := HS2.out u1 u2
        obtain ⟨_, us2, e3⟩ := hel2 k hkT hkL
        rw [HTK.out] at e3
        refine (markByteS_any 0 _ mm _ _ _ e3 (by omega) (by omega)).mono ?_
        rintro ee w' ⟨rfl, o3, g3⟩
        refine ⟨rfl, (HS2.out u1 u2).marked (us := []) HA.out hkT hkL (vs' := _) (by rw [HTK.out]; exact o3) (by rw [HTK.out]; exact g3) rfl, (HO2.out u1 u2).trans ((only_of_grown g3).mono ?_)⟩
        intro b hb
        have hb' : (Value.slice au L[k] cu).ownBlock = some b := by
          cases hv : (Value.slice au L[k] cu).ownBlock <;> rw [hv] at hb <;> simp at hb
          rw [hb]
        exact (HA.out.mem k hkT b (by rw [HTK.out]; exact hb')).1)
      clear hrow hel e1 e2 hTk
      generalize hS : (L.take k).sum = S at *
      go_wp2_with fail
      rw [show ((m : Int) + 2 * (k : Int) + (S : Int) + 1 + 1) = ((m + 2 * k + S + 2 : Nat) : Int) from by omega]
      refine (HMK.out _ _ (m + 2 * k + S + 2) (by omega)).mono ?_
      rintro ee w2 ⟨rfl, hac2, hon2⟩
      have HC2 := hid hac2
      have HON2 := hid (HON.out.trans hon2)
      have HNX : Hid (m + 2 * k + S + 2 + L[k] = m + 2 * (k + 1) + (L.take (k + 1)).sum) := hid (by rw [HSK.out]; omega)
      clear hac2 hon2
      rw [HNX.out]
      generalize m + 2 * (k + 1) + (L.take (k + 1)).sum = q at *
      go_wp2
      go_roundw
      case rel => exact ⟨k + 1, by omega, by go_num, by rw [← HNX.out, HSK.out]; go_num, HC2.out, HON2.out⟩
      case measure => simp [intOf]; omega
    · obtain rfl : k = n := by omega
      generalize (L.take k).sum = S at *
      go_wp2
      go_ret
      exact ⟨m + 2 * k + S, rfl, by omega, HON.out⟩
theorem markCells_any (e : TypeId) (v : Value) (xs : List PC) (bs : List Nat) (m : Nat) (w : World) (ho : OwnSl cCell e w xs v bs) (hnd : bs.Nodup) (hn : xs.length ≤ 1048576) (ht : (xs.map fun c : PC => c.text.length).sum ≤ 1048576) (hm : m ≤ 1073741824) :
    Calls Try.prog 33 #[v, .int .i64 m] w fun e w' => ∃ q : Nat, e = .returned (.int .i64 (q : Int)) ∧ q ≤ m + 4194304 ∧ Only bs w w' := by
  by_cases h0 : xs = []
  · subst h0
    obtain ⟨a, cap, rfl, -⟩ := id ho.rd
    refine (markCellS_none a cap m w hm).mono ?_
    rintro e w' ⟨rfl, rfl⟩
    exact ⟨m, rfl, by omega, Only.refl _ _⟩
  · obtain ⟨g, cap, T, L, rfl, hT, hL, hA, hP⟩ := anyCells_of ho hnd h0
    refine (markCellS_some e g xs.length cap m T L bs w hA hP hT (by rw [hL]; simp) hn (by rw [hL]; exact ht) hm).mono ?_
    rintro e w' ⟨q, rfl, hq, hon⟩
    exact ⟨q, rfl, by rw [hL] at hq; omega, hon⟩
end Go.Proofs.Ytcljakdcejhfiad
