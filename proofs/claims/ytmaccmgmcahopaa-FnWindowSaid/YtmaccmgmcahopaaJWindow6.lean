import Derived.Test.YtmaccmgmcahopaaJWindow0
import Derived.Test.YtmaccmgmcahopaaJWindow3
import Derived.Test.YtmaccmgmcahopaaJWindow5
namespace Go.Proofs.Ytmaccmgmcahopaa
open Go.RowKit
end Go.Proofs.Ytmaccmgmcahopaa
namespace Go.Proofs.Ytmaccmgmcahopaa
open Go.RowKit
end Go.Proofs.Ytmaccmgmcahopaa
namespace Go.Proofs.Ytmaccmgmcahopaa
open Go.RowKit
end Go.Proofs.Ytmaccmgmcahopaa
namespace Go.Proofs.Ytmaccmgmcahopaa
open Go.RowKit
end Go.Proofs.Ytmaccmgmcahopaa
namespace Go.Proofs.Ytmaccmgmcahopaa
open Go.RowKit
end Go.Proofs.Ytmaccmgmcahopaa
namespace Go.Proofs.Ytmaccmgmcahopaa
open Go.RowKit
theorem flat_one : ∀ {bss : List (List Nat)}, (List.flatten bss).Nodup → ∀ k, (h : k < bss.length) → bss[k].Nodup
  | [], _, k, h => by simp at h
  | l :: r, hn, k, h => by
    rw [List.flatten_cons, List.nodup_append] at hn
    cases k with
    | zero => exact hn.1
    | succ k => exact flat_one hn.2.1 k (by simpa using h)
theorem flatN_lt : ∀ {bss : List (List Nat)}, (List.flatten bss).Nodup → ∀ i k, (hi : i < bss.length) → (hk : k < bss.length) → i < k → ∀ b ∈ bss[i], b ∉ bss[k]
  | [], _, i, _, hi, _, _ => by simp at hi
  | l :: r, hn, i, k, hi, hk, hlt => by
    rw [List.flatten_cons, List.nodup_append] at hn
    cases k with
    | zero => omega
    | succ k =>
      cases i with
      | zero =>
        intro b hb hb2
        exact hn.2.2 b hb b (List.mem_flatten.2 ⟨_, List.getElem_mem (by simpa using hk), hb2⟩) rfl
      | succ i => exact flatN_lt hn.2.1 i k (by simpa using hi) (by simpa using hk) (by omega)
theorem flat_other {bss : List (List Nat)} (h : (List.flatten bss).Nodup) {i k : Nat} (hi : i < bss.length) (hk : k < bss.length) (hne : i ≠ k) : ∀ b ∈ bss[i], b ∉ bss[k] := by
  intro b hb hb2
  rcases Nat.lt_or_gt_of_ne hne with h1 | h1
  · exact flatN_lt h i k hi hk h1 b hb hb2
  · exact flatN_lt h k i hk hi h1 b hb2 hb
end Go.Proofs.Ytmaccmgmcahopaa
namespace Go.Proofs.Ytmaccmgmcahopaa
open Go.RowKit
theorem set4 {w : World} {g : Nat} {e : TypeId} {a b c d x y z u : Value} (h : w.heap[g]? = some (.cells #[a, b, c, d] e (0, 0))) :
    ((((w.setCell ⟨g, 0, none⟩ x).setCell ⟨g, 1, none⟩ y).setCell ⟨g, 2, none⟩ z).setCell ⟨g, 3, none⟩ u).heap[g]? = some (.cells #[x, y, z, u] e (0, 0)) := by
  have h1 := heap_setCell_same w g 0 _ e x h
  have h2 := heap_setCell_same _ g 1 _ e y h1
  have h3 := heap_setCell_same _ g 2 _ e z h2
  have h4 := heap_setCell_same _ g 3 _ e u h3
  rw [h4]; rfl
theorem set4o {w : World} {g k : Nat} {x y z u : Value} (h : k ≠ g) : ((((w.setCell ⟨g, 0, none⟩ x).setCell ⟨g, 1, none⟩ y).setCell ⟨g, 2, none⟩ z).setCell ⟨g, 3, none⟩ u).heap[k]? = w.heap[k]? := by
  rw [Below.heap_setCell _ _ _ _ h, Below.heap_setCell _ _ _ _ h, Below.heap_setCell _ _ _ _ h, Below.heap_setCell _ _ _ _ h]
theorem set4b {B : Nat} {a w : World} {g : Nat} {x y z u : Value} (h : Below B a w) (hg : B ≤ g) : Below B a ((((w.setCell ⟨g, 0, none⟩ x).setCell ⟨g, 1, none⟩ y).setCell ⟨g, 2, none⟩ z).setCell ⟨g, 3, none⟩ u) :=
  (((h.setCell (p := ⟨g, 0, none⟩) hg _).setCell (p := ⟨g, 1, none⟩) hg _).setCell (p := ⟨g, 2, none⟩) hg _).setCell (p := ⟨g, 3, none⟩) hg _
end Go.Proofs.Ytmaccmgmcahopaa
namespace Go.Proofs.Ytmaccmgmcahopaa
open Go.RowKit
structure PMIn (m : PM) : Prop where
  kind : IntIn m.kind
  field : IntIn m.field
  count : IntIn m.count
end Go.Proofs.Ytmaccmgmcahopaa
namespace Go.Proofs.Ytmaccmgmcahopaa
open Go.RowKit
theorem infoByteP : (Try.prog.info? 5).map (fun i => (i.zero, i.size, i.bytes)) = some (some (.int .u8 0), 1, 1) := by kernel_rfl
theorem byt_snoc (xs : List Nat) (d : Nat) : byt (xs ++ [d]) = byt xs ++ [.int .u8 (d : Int)] := by simp [byt]
end Go.Proofs.Ytmaccmgmcahopaa
namespace Go.Proofs.Ytmaccmgmcahopaa
open Go.RowKit
set_option maxHeartbeats 1000000 in
set_option maxRecDepth 100000 in
theorem little_any (v : Int) (W : Nat) (w : World) (hW : W ≤ 8) (hv : IntIn v) :
    Calls Try.prog 95 #[.int .i64 v, .int .i64 (W : Int)] w fun e w' => ∃ v', e = .returned v' ∧ w'.ownsRow w.heap.size 5 1 v' W (byt (digs (U v) W)) ∧ Below w.heap.size w w' := by
  obtain ⟨i0, hi, hz0, hz1, hz2⟩ := info_parts infoByteP
  have hU := U_eq v
  have HV := hid hv
  clear hv
  have HL := hid (U_lt v)
  generalize U v = u at *
  go_enter Try.func95, Try.ntmps95
  go_wp2
  go_loopw [5, 6, 7] (fun r o i wr => ∃ k : Nat, k ≤ W ∧ i = .int .i64 k ∧ r = .int .u64 ((u / 256 ^ k : Nat) : Int) ∧ wr.ownsRow w.heap.size 5 1 o k (byt ((digs u W).take k)) ∧ Below w.heap.size w wr) (fun _ _ i _ => W - (intOf i).toNat)
  case atStart => exact ⟨0, Nat.zero_le _, rfl, by simp, by simpa [byt] using World.ownsRow_nil _ _ _ _, Below.refl _ _⟩
  case round =>
    obtain ⟨k, hk, rfl, rfl, how, hbe⟩ := hrel
    have HO := hid how
    have HB := hid hbe
    clear how hbe hU
    by_cases hlt : k < W
    · have HD := hid (digs_snoc u W k hlt)
      have HN := hid (div_next u k)
      have HR := hid (div_lt u k HL.out)
      generalize u / 256 ^ k = R at *
      have hki : (k : Int) < (W : Int) := by omega
      go_wp2_with (first | (at_builtin; refine wpList_append_own _ rfl _ _ 22 rfl w.heap.size 5 i0 (.int .u8 0) 1 1 Try.underlying22 hi hz0 hz1 hz2 rfl (by decide) _ k _ rfl (HO.out.alloc _) ⟨wr.heap.size, 0, none⟩ 1 1 [.int .u8 ((R : Int) % 256)] rfl rfl (cell_one_new _ _ _) (one_cell rfl) (by unfold maxLen; omega) (by omega) (by have := HB.out.size; simp; omega) ?_))
      intro v' w1 hown' hgrow _
      have HB1 : Hid (Below w.heap.size w w1) := hid ((HB.out.alloc HB.out.size _).grown hgrow (by have := HB.out.size; simp; omega) (fun k h => (World.ownsRow.lt HO.out k h).1))
      have HO1 : Hid (w1.ownsRow w.heap.size 5 1 v' (k + 1) (byt ((digs u W).take (k + 1)))) := hid (by
        rw [HD.out, byt_snoc]
        simpa using hown')
      clear hown' hgrow
      go_wp2
      go_roundw
      case rel => exact ⟨k + 1, by omega, by go_num, by rw [← HN.out, wrapU_div R HR.out], HO1.out, HB1.out⟩
      case measure => simp [intOf]; omega
    · obtain rfl : k = W := by omega
      have hO := HO.out
      rw [List.take_of_length_le (by rw [digs_len]; exact Nat.le_refl _)] at hO
      go_wp2
      go_ret
      exact ⟨_, rfl, hO, HB.out⟩
theorem little_row (v : Int) (W : Nat) (w : World) (h1 : 1 ≤ W) (hW : W ≤ 8) (hv : IntIn v) :
    Calls Try.prog 95 #[.int .i64 v, .int .i64 (W : Int)] w fun e w' => ∃ g c, e = .returned (.slice (some ⟨g, 0, none⟩) W c) ∧ w'.ownsRow w.heap.size 5 1 (.slice (some ⟨g, 0, none⟩) W c) W (byt (digs (U v) W)) ∧ Below w.heap.size w w' := by
  refine (little_any v W w hW hv).mono ?_
  rintro e w' ⟨v', rfl, ho, hb⟩
  rcases ho.2 with ⟨_, h0⟩ | ⟨g, cap, cur, rfl, _⟩
  · omega
  · exact ⟨g, cap, rfl, ho, hb⟩
end Go.Proofs.Ytmaccmgmcahopaa
