import Derived.Test.YtfppfjklakdlfaaDoorJForms25
import Derived.Test.YtfppfjklakdlfaaDoorJForms27
import Derived.Test.YtfppfjklakdlfaaDoorJForms29
import Derived.Test.YtfppfjklakdlfaaDoorJForms30
import Derived.Deep.DeepCutAuto
import Derived.Deep.RegionHeld3
namespace Go.Proofs.YtfppfjklakdlfaaDoor
open Go.RowKit
theorem drawnB_tot (xs : List Nat) (j n : Nat) : tot (drawnB xs j n).1 ≤ 20 * n := by
  induction n with
  | zero => simp [drawnB, tot]
  | succ n ih =>
    have h := drawn_len xs (drawnB xs j n).2 20
    have h2 : nxt xs (drawnB xs j n).2 % 20 < 20 := Nat.mod_lt _ (by omega)
    simp only [drawnB, tot, List.map_append, List.sum_append, List.map_cons, List.map_nil, List.sum_cons, List.sum_nil] at ih ⊢
    omega
theorem dmB_fits (xs : List Nat) : (dmB xs).length ≤ 5 ∧ tot (dmB xs) ≤ 100 := by
  have h1 := drawnB_len xs (dmJ xs + 1) (dmN xs)
  have h2 := drawnB_tot xs (dmJ xs + 1) (dmN xs)
  have h3 : dmN xs < 6 := Nat.mod_lt _ (by omega)
  unfold dmB
  omega
theorem dmsg_fits (xs : List Nat) : (dmsg xs).bufs.length ≤ 41 ∧ tot (dmsg xs).bufs ≤ 20000 := by
  have h := dmB_fits xs
  have h2 : nxt xs (dmE xs + (40 - dmN xs)) % 2 < 2 := Nat.mod_lt _ (by omega)
  have h3 : nxt xs (dmE xs) % 16 < 16 := Nat.mod_lt _ (by omega)
  have h4 := drawnB_len xs (dmJ xs + 1) (dmN xs)
  have h5 : (dmB xs).length = dmN xs := h4
  unfold dmsg
  repeat' split
  all_goals (try dsimp only)
  all_goals (first | exact ⟨by omega, by omega⟩ | skip)
  · refine ⟨by rw [List.length_append, List.length_replicate]; omega, ?_⟩
    have e : tot (dmB xs ++ List.replicate (40 + nxt xs (dmE xs + (40 - dmN xs)) % 2 - dmN xs) []) = tot (dmB xs) := by simp [tot]
    rw [e]; omega
  · refine ⟨by simp, ?_⟩
    simp [tot]; omega
theorem open_zero2 (a : Option Addr) (cap : Nat) (w : World) (hnil : a = none → cap = 0) :
    Calls Tryd.prog 37 #[.slice a 0 cap] w fun e w' => e = .returned (.pointer (some ⟨w.heap.size, 0, none⟩)) ∧ w' = w.alloc (.cells #[.slice a 0 cap, .int .i64 0] 66) := by
  cases a with
  | none =>
    obtain rfl := hnil rfl
    go_enter Tryd.func37, Tryd.ntmps37
    go_wp2
    go_ret
    exact ⟨rfl, rfl⟩
  | some x =>
    clear hnil
    go_enter Tryd.func37, Tryd.ntmps37
    go_wp2
    go_ret
    exact ⟨rfl, rfl⟩
theorem open2_any (a : Option Addr) (cap : Nat) (xs : List Nat) (w : World) (hr : RdSl cByte w xs (.slice a xs.length cap)) (hl : xs.length ≤ 1048576) :
    Calls Tryd.prog 37 #[.slice a xs.length cap] w fun e w' => ∃ a' c', e = .returned (.pointer (some ⟨w.heap.size, 0, none⟩)) ∧ Rdr w' w.heap.size a' c' (xs.take 600) 0 ∧ RdSl cByte w' (xs.take 600) (.slice a' (xs.take 600).length c') ∧ (∀ x, a' = some x → xs.take 600 ≠ [] → x.block < w.heap.size) ∧ Below w.heap.size w w' ∧ w'.heap.size = w.heap.size + 1 := by
  have hb := fun o => below_new1 w o
  by_cases h0 : xs = []
  · subst h0
    refine (open_zero2 a cap w (fun h => (hr.nil0 h).2)).mono ?_
    rintro e w' ⟨rfl, rfl⟩
    exact ⟨a, cap, rfl, ⟨heap_alloc_new w _, .inl rfl, fun x _ h => absurd rfl h⟩, hr.later (hb _), fun x _ h => absurd rfl h, hb _, by simp⟩
  · have hrd := hr.rdB.1
    have hcap : xs.length ≤ cap := by obtain ⟨a', c', e', g1, g2, _⟩ := hr; simp only [Value.slice.injEq] at e'; omega
    have hne : byt xs ≠ [] := by simpa [byt] using h0
    have hlt := hrd.lt
    rcases hrd with h | ⟨b, off, rfl, hc⟩
    · exact absurd h hne
    have hb0 : b < w.heap.size := hlt _ rfl hne
    refine (open_some b off cap xs w hcap hl).mono ?_
    rintro e w' ⟨rfl, rfl⟩
    have hR2 : RdSl cByte (w.alloc (.cells #[.slice (some ⟨b, off, none⟩) (min xs.length 600) cap, .int .i64 0] 66)) (xs.take 600) (.slice (some ⟨b, off, none⟩) (xs.take 600).length cap) := by
      have h := (hr.later (hb (.cells #[.slice (some ⟨b, off, none⟩) (min xs.length 600) cap, .int .i64 0] 66))).take (k := min xs.length 600) (by omega)
      rw [show xs.take (min xs.length 600) = xs.take 600 from by rw [List.take_eq_take_iff]; omega] at h
      rw [show (xs.take 600).length = min xs.length 600 from by rw [List.length_take, Nat.min_comm]]
      exact h
    refine ⟨_, cap, rfl, ⟨?_, hR2.rdB.1, fun x h _ => by simp at h; subst h; exact Nat.ne_of_lt hb0⟩, hR2, fun x h _ => by simp at h; subst h; exact hb0, hb _, by simp⟩
    have := heap_alloc_new w (.cells #[.slice (some ⟨b, off, none⟩) (min xs.length 600) cap, .int .i64 0] 66)
    rw [List.length_take, Nat.min_comm 600]
    simpa using this
end Go.Proofs.YtfppfjklakdlfaaDoor
