import Derived.Test.YtcljakdcejhfiadJStartStream12
import Derived.Deep.RegionHeld3
import Derived.WalkKit
namespace Go.Proofs.Ytcljakdcejhfiad
open Go.RowKit
abbrev cSSS : Cod (List (List Nat)) := cSl cSS 69
def tS (x : List (List Nat)) : Nat := totL List.length x
theorem RdSl.row3 {w : World} {xss : List (List (List Nat))} {a : Option Addr} {n cap k : Nat} (h : RdSl cSSS w xss (.slice a n cap)) (hk : k < xss.length) :
    ∃ b off a' c', a = some ⟨b, off, none⟩ ∧ w.cell? ⟨b, off + k, none⟩ = some (.slice a' xss[k].length c') ∧ RdSl cSS w xss[k] (.slice a' xss[k].length c') := by
  obtain ⟨b, off, v, rfl, ⟨v', e, hv⟩, hc⟩ := h.at1 rfl hk
  simp only [List.cons.injEq, and_true] at e
  subst e
  obtain ⟨a', c', rfl, r⟩ := id hv
  exact ⟨b, off, a', c', rfl, hc, hv⟩
set_option maxRecDepth 1000000 in
set_option maxHeartbeats 1000000 in
theorem eqSSS_any (a1 a2 : Option Addr) (c1 c2 : Nat) (xs : List (List (List Nat))) (w : World) (h1 : RdSl cSSS w xs (.slice a1 xs.length c1)) (h2 : RdSl cSSS w xs (.slice a2 xs.length c2)) (ht : totL tS xs ≤ 1048576) :
    Calls Try.prog 91 #[.slice a1 xs.length c1, .slice a2 xs.length c2] w fun e w' => e = .returned (.bool true) ∧ Below w.heap.size w w' := by
  have H1 := hid h1
  have H2 := hid h2
  clear h1 h2
  have hlen : xs.length ≤ 1048576 := by unfold totL at ht; omega
  go_enter Try.func91, Try.ntmps91
  go_wp2
  go_loopw [5] (fun i wr => ∃ k : Nat, k ≤ xs.length ∧ i = .int .i64 k ∧ Below w.heap.size w wr) (fun i _ => xs.length - (intOf i).toNat)
  case atStart => exact ⟨0, Nat.zero_le _, rfl, Below.refl _ _⟩
  case round =>
    obtain ⟨k, hk, rfl, hbe⟩ := hrel
    have HB := hid hbe
    clear hbe
    by_cases hlt : k < xs.length
    · obtain ⟨b1, o1, a1', c1', rfl, g1, r1⟩ := (H1.out.later HB.out).row3 hlt
      obtain ⟨b2, o2, a2', c2', rfl, g2, r2⟩ := (H2.out.later HB.out).row3 hlt
      have htk : totL List.length xs[k] ≤ 1048576 := by have h := tot_at tS xs k hlt; unfold totL at ht; exact Nat.le_trans h (by omega)
      have HQ : Hid (Calls Try.prog 20 #[.slice a1' xs[k].length c1', .slice a2' xs[k].length c2'] wr.drew fun e w' => e = .returned (.bool true) ∧ Hid (Below wr.heap.size wr w') ∧ w'.cell? ⟨b1, o1 + k, none⟩ = some (.slice a1' xs[k].length c1') ∧ w'.cell? ⟨b2, o2 + k, none⟩ = some (.slice a2' xs[k].length c2')) := hid (by
        refine (eqSS_any a1' a2' c1' c2' xs[k] wr.drew (r1.later (Below.refl _ _).drew) (r2.later (Below.refl _ _).drew) htk).mono ?_
        rintro e w' ⟨rfl, b⟩
        have b' : Below wr.heap.size wr w' := (Below.refl _ _).drew.trans b
        exact ⟨rfl, hid b', (b'.cell (World.block_lt_of_cell? _ _ g1)).trans g1, (b'.cell (World.block_lt_of_cell? _ _ g2)).trans g2⟩)
      have hki : (k : Int) < (xs.length : Int) := by omega
      clear r1 r2 htk
      go_wp2
      (go_region_held3 (fun w' => w'.cell? ⟨b1, o1 + k, none⟩ = some (.slice a1' xs[k].length c1') ∧ w'.cell? ⟨b2, o2 + k, none⟩ = some (.slice a2' xs[k].length c2')) (go_keep) (first
        | (go_at_call 20; refine HQ.out.mono ?_; rintro e w2 ⟨rfl, hb2, x0, x1⟩)))
      have HB2 := hid (below_chain HB.out hb2.out)
      go_wp2
      go_roundw
      case rel => exact ⟨k + 1, by omega, by go_num, HB2.out⟩
      case measure => simp [intOf]; omega
    · obtain rfl : k = xs.length := by omega
      go_wp2
      go_ret
      exact ⟨rfl, HB.out⟩
end Go.Proofs.Ytcljakdcejhfiad
namespace Go.Proofs.Ytcljakdcejhfiad
def padn (n : Nat) : Nat := (8 - n % 8) % 8
def joinStep (acc ys : List Nat) : List Nat := (acc ++ ys) ++ List.replicate (padn (acc ++ ys).length) 0
def join (xss : List (List Nat)) : List Nat := xss.foldl joinStep []
theorem join_snoc (xss : List (List Nat)) (k : Nat) (h : k < xss.length) : join (xss.take (k + 1)) = joinStep (join (xss.take k)) xss[k] := by
  unfold join
  rw [List.take_succ_eq_append_getElem h, List.foldl_append]; rfl
theorem padn_le (n : Nat) : padn n ≤ 7 := by unfold padn; omega
theorem padn_done {n p : Nat} (h : p ≤ padn n) : (n + p) % 8 = 0 ↔ p = padn n := by unfold padn at *; omega
theorem joinStep_len (acc ys : List Nat) : (joinStep acc ys).length = acc.length + ys.length + padn (acc.length + ys.length) := by simp [joinStep]; omega
theorem joinStep_lt {acc ys : List Nat} (h1 : ∀ x ∈ acc, x < 256) (h2 : ∀ x ∈ ys, x < 256) : ∀ x ∈ joinStep acc ys, x < 256 := by
  intro x hx
  unfold joinStep at hx
  rcases List.mem_append.1 hx with h | h
  · rcases List.mem_append.1 h with h | h
    · exact h1 x h
    · exact h2 x h
  · have := List.eq_of_mem_replicate h; omega
end Go.Proofs.Ytcljakdcejhfiad
