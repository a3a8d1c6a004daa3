import Derived.Test.YtmaccmgmcahopaaJLink24
import Derived.Test.YtmaccmgmcahopaaJLink14
import Derived.Test.YtmaccmgmcahopaaJLink34
import Derived.Test.YtmaccmgmcahopaaJLink23
import Derived.Deep.DeepCutAuto
import Derived.Test.YtmaccmgmcahopaaJLink16
import Derived.Test.YtmaccmgmcahopaaJLink11
namespace Go.Proofs.Ytmaccmgmcahopaa
open Go.RowKit
set_option maxHeartbeats 1000000 in
theorem take_any (a : Option Addr) (cap : Nat) (xs : List Nat) (i : Nat) (w : World) (hr : Rd w a (byt xs)) (hb : ∀ x ∈ xs, x < 256) (hn : xs.length ≤ 1048576) :
    Calls Try.prog 6 #[.slice a xs.length cap, .int .i64 (i : Int)] w fun e w' => (∃ q : Nat, q < 256 ∧ e = .returned (.int .i64 (q : Int))) ∧ Below w.heap.size w w' := by
  by_cases h0 : xs.length = 0
  · obtain rfl := List.length_eq_zero_iff.1 h0
    go_enter Try.func6, Try.ntmps6
    go_wp2
    go_ret
    exact ⟨⟨0, by omega, rfl⟩, Below.refl _ _⟩
  · obtain ⟨r, hr2⟩ : ∃ r : Nat, r = i % xs.length := ⟨_, rfl⟩
    have hrl : r < xs.length := by rw [hr2]; exact Nat.mod_lt _ (by omega)
    have hx := hb _ (List.getElem_mem hrl)
    obtain ⟨b, o, rfl, hc⟩ : ∃ b o, a = some ⟨b, o, none⟩ ∧ w.cell? ⟨b, o + r, none⟩ = some (.int .u8 ((xs[r] : Nat) : Int)) := by
      rcases hr with h | ⟨b, o, rfl, h⟩
      · have : (byt xs).length = 0 := by rw [h]; rfl
        rw [byt_len] at this
        omega
      · exact ⟨b, o, rfl, by have := h r (by rw [byt_len]; exact hrl); rw [this]; simp [byt]⟩
    have h1 : ((xs.length : Int) == 0) = false := beq_eq_false_iff_ne.2 (by omega)
    have h2 : (i : Int).tmod (xs.length : Int) = (r : Int) := by rw [hr2]; rfl
    have h3 : (i : Int) % (xs.length : Int) = (r : Int) := by rw [hr2]; rfl
    have hlt : (r : Int) < (xs.length : Int) := by omega
    generalize xs[r] = x at *
    clear hr hb hr2
    generalize xs.length = n at *
    go_enter Try.func6, Try.ntmps6
    go_wp2
    go_ret
    exact ⟨⟨x, hx, rfl⟩, Below.refl _ _⟩
set_option maxHeartbeats 1000000 in
theorem sameL_any (a1 a2 : Option Addr) (c1 c2 : Nat) (xs : List (List Nat)) (w : World) (h1 : RdSl cSS w xs (.slice a1 xs.length c1)) (h2 : RdSl cSS w xs (.slice a2 xs.length c2)) (ht : totL List.length xs ≤ 1048576) :
    Calls Try.prog 16 #[.slice a1 xs.length c1, .slice a2 xs.length c2] w fun e w' => e = .returned (.bool true) ∧ Below w.heap.size w w' := by
  have H1 := hid h1
  have H2 := hid h2
  clear h1 h2
  have hlen : xs.length ≤ 1048576 := by unfold totL at ht; omega
  go_enter Try.func16, Try.ntmps16
  go_wp2
  go_loopw [5] (fun i wr => ∃ k : Nat, k ≤ xs.length ∧ i = .int .i64 k ∧ Below w.heap.size w wr) (fun i _ => xs.length - (intOf i).toNat)
  case atStart => exact ⟨0, Nat.zero_le _, rfl, Below.refl _ _⟩
  case round =>
    obtain ⟨k, hk, rfl, hbe⟩ := hrel
    have HB := hid hbe
    clear hbe
    by_cases hlt : k < xs.length
    · obtain ⟨b1, o1, a1', c1', rfl, g1, r1⟩ := (H1.out.later HB.out).row hlt
      obtain ⟨b2, o2, a2', c2', rfl, g2, r2⟩ := (H2.out.later HB.out).row hlt
      obtain ⟨_, _, e', -, -, -, q1, -⟩ := r1.bytes
      simp only [Value.slice.injEq] at e'
      obtain ⟨rfl, -, rfl⟩ := e'
      obtain ⟨_, _, e', -, -, -, q2, -⟩ := r2.bytes
      simp only [Value.slice.injEq] at e'
      obtain ⟨rfl, -, rfl⟩ := e'
      have HQ : Hid (∀ n, Calls Try.prog 55 #[.slice a1' xs[k].length c1', .slice a2' xs[k].length c2'] (wr.drewN n) fun e w' => e = .returned (.bool true) ∧ ∃ m, w' = (wr.drewN n).drewN m) := hid (fun n => by
        have hlk := tot_at List.length xs k hlt
        unfold totL at ht
        exact sameB_quiet _ _ _ _ _ xs[k] _ (q1.later (below_drewN (Below.refl _ _) n)) (q2.later (below_drewN (Below.refl _ _) n)) rfl (by omega))
      have hki : (k : Int) < (xs.length : Int) := by omega
      clear r1 r2 q1 q2
      go_wp2
      go_quiet ((go_at_call 55; exact Calls.quiet_of (HQ.out _)))
      go_wp2
      go_roundw
      case rel => exact ⟨k + 1, by omega, by go_num, below_drewN HB.out _⟩
      case measure => simp [intOf]; omega
    · obtain rfl : k = xs.length := by omega
      go_wp2
      go_ret
      exact ⟨rfl, HB.out⟩
end Go.Proofs.Ytmaccmgmcahopaa
namespace Go.Proofs.Ytmaccmgmcahopaa
open Go.RowKit
theorem rdSS_of_row {B : Nat} {w : World} {v : Value} {xss : List (List Nat)} {vals : List Value} (ho : w.ownsRow B 22 1 v xss.length vals) (hi : ∀ i, (h : i < xss.length) → ∃ u, vals[i]? = some u ∧ RdSl cByte w xss[i] u) : RdSl cSS w xss v := by
  have hvl : vals.length = xss.length := by have := ho.1; omega
  rcases ho.2 with ⟨rfl, h0⟩ | ⟨g, cap, cur, rfl, hg, hh, hn, hm, r⟩
  · obtain rfl := List.length_eq_zero_iff.1 h0
    exact RdSl.empty none
  · refine ⟨_, cap, rfl, hn, hm, (fun h => by cases h), .inr ⟨g, 0, rfl, fun i h => ?_⟩⟩
    obtain ⟨u, hu, hr⟩ := hi i h
    refine ⟨[u], ⟨u, rfl, hr⟩, fun j hj => ?_⟩
    have hj0 : j = 0 := by simpa using hj
    subst hj0
    have := World.ownsRow.cellAt ho i (by omega)
    rw [show 0 + (i * cSS.n + 0) = i from by simp [cSl], this, hu]; rfl
end Go.Proofs.Ytmaccmgmcahopaa
namespace Go.Proofs.Ytmaccmgmcahopaa
open Go.RowKit
def Fct.bytes (xs : List Nat) : Fct := ⟨fun v w => RdSl cByte w xs v, fun _ _ _ h hb => h.later hb⟩
def Fct.texts (xss : List (List Nat)) : Fct := ⟨fun v w => RdSl cSS w xss v, fun _ _ _ h hb => h.later hb⟩
def Fct.row (B : Nat) (xs : List Nat) : Fct := ⟨fun v w => w.ownsRow B 5 1 v xs.length (byt xs), fun _ _ _ h hb => own_later h hb⟩
theorem bytes_new {w : World} {cs : Array Value} (xs : List Nat) (hc : cs.toList = byt xs) (hb : ∀ x ∈ xs, x < 256) (hl : xs.length ≤ 100) {n c : Nat} (hn : n = cs.size := by rfl) (hcn : c = cs.size := by rfl) : (Fct.bytes xs).p (.slice (some ⟨w.heap.size, 0, none⟩) n c) (w.alloc (.cells cs 5)) := by
  subst hn hcn
  have hs : cs.size = xs.length := by rw [← byt_len xs, ← hc]; simp
  have h := own_built (w := w) (B := w.heap.size) (e := 5) (cs := cs) (Nat.le_refl _) (by unfold maxLen; omega)
  rw [hc] at h
  exact own_rdSl h hb
theorem texts_new {w : World} {cs : Array Value} (vals : List Value) (xss : List (List Nat)) (hc : cs.toList = vals) (hl : vals.length = xss.length) (hi : ∀ i, (h : i < xss.length) → ∃ u, vals[i]? = some u ∧ RdSl cByte w xss[i] u) (hm : xss.length ≤ 100) {n c : Nat} (hn : n = cs.size := by rfl) (hcn : c = cs.size := by rfl) : (Fct.texts xss).p (.slice (some ⟨w.heap.size, 0, none⟩) n c) (w.alloc (.cells cs 22)) := by
  subst hn hcn
  have hs : cs.size = xss.length := by rw [← hl, ← hc]; simp
  have h := own_built (w := w) (B := w.heap.size) (e := 22) (cs := cs) (Nat.le_refl _) (by unfold maxLen; omega)
  rw [hs] at h ⊢
  refine rdSS_of_row h (fun i hh => ?_)
  obtain ⟨u, h1, h2⟩ := hi i hh
  exact ⟨u, by rw [hc]; exact h1, h2.later (below_new1 _ _)⟩
theorem RdSl.slice {α : Type} {c : Cod α} {w : World} {xs : List α} {v : Value} (h : RdSl c w xs v) : ∃ a k, v = .slice a xs.length k ∧ RdSl c w xs (.slice a xs.length k) := by
  obtain ⟨a, k, e, r⟩ := id h
  exact ⟨a, k, e, e ▸ h⟩
end Go.Proofs.Ytmaccmgmcahopaa
