import Derived.Test.YtcljakdcejhfiacJLinkAcked33
import Derived.Test.YtcljakdcejhfiacJLinkAcked30
namespace Go.Proofs.Ytcljakdcejhfiac
open Go.RowKit
set_option maxRecDepth 100000 in
set_option maxHeartbeats 2000000 in
theorem drop_any (g : Nat) (a : Option Addr) (len cap d : Nat) (w : World) (T : TypeId) (hk : w.heap[g]? = some (.cells #[.slice a len cap] T (0, 0))) (hd : d ≤ len) (hc : len ≤ cap) (hn : a = none → cap = 0) :
    Calls Try.prog 102 #[.pointer (some ⟨g, 0, none⟩), .int .i64 d] w fun e w' => e = .returned (.tuple #[]) ∧ ∃ a2, w' = w.setCell ⟨g, 0, none⟩ (.slice a2 (len - d) (cap - d)) ∧ (d < len → a2 = a.map (fun x => x.add (d * 7))) ∧ (a2 = none → cap - d = 0) := by
  have c0 := cell_of_row _ _ 0 _ _ _ hk
  have f0 := frozen_of_row _ _ 0 _ _ hk
  simp only [List.getElem?_toArray, List.getElem?_cons_zero] at c0
  have HN := hid hn
  clear hn
  have hdi : (d : Int) ≤ (len : Int) := by omega
  have hci : (len : Int) ≤ (cap : Int) := by omega
  go_enter Try.func102, Try.ntmps102
  by_cases h : cap = d
  · subst h
    go_wp2
    go_end0
    exact ⟨rfl, a, by rw [show len - cap = 0 from by omega, Nat.sub_self], fun hl => by omega, fun _ => by omega⟩
  · go_wp2
    go_end0
    exact ⟨rfl, _, rfl, fun _ => rfl, fun h2 => by have := HN.out (by cases a <;> simp_all); omega⟩
end Go.Proofs.Ytcljakdcejhfiac
namespace Go.Proofs.Ytcljakdcejhfiac
open Go.RowKit
theorem isNilC (w : World) : (binOp .eql 37 (.slice none 0 0) (.slice none 0 0)).run Try.prog w = .ok (.bool true) w := by kernel_rfl
theorem notNilC (w : World) (ad : Addr) (n c : Nat) : (binOp .eql 37 (.slice (some ad) n c) (.slice none 0 0)).run Try.prog w = .ok (.bool false) w := by kernel_rfl
set_option maxRecDepth 100000 in
set_option maxHeartbeats 1000000 in
theorem bclone_any (a : Option Addr) (cap : Nat) (xs : List Nat) (w : World) (hr : RdSl cByte w xs (.slice a xs.length cap)) (hl : xs.length ≤ 1048576) :
    Calls Try.prog 133 #[.slice a xs.length cap] w fun e w' => ∃ v, e = .returned v ∧ w'.ownsRow w.heap.size 5 1 v xs.length (byt xs) ∧ Below w.heap.size w w' := by
  obtain ⟨i0, hi, hz0, hz1, hz2⟩ := info_parts infoByteT
  have HR := hid hr.rdB.1
  have HN := hid hr.nil0
  clear hr
  cases a with
  | none =>
    obtain ⟨e1, e2⟩ := HN.out rfl
    obtain rfl : xs = [] := List.length_eq_zero_iff.1 e1
    subst e2
    have hnl := isNilC w
    go_enter Try.func133, Try.ntmps133
    go_wp2
    go_ret
    exact ⟨_, rfl, World.ownsRow_nil _ _ _ _, Below.refl _ _⟩
  | some ad =>
    have HB0 := hid (below_new1 w (.cells #[] 5))
    have HO0 : Hid ((w.alloc (.cells #[] 5)).ownsRow w.heap.size 5 1 (.slice (some ⟨w.heap.size, 0, none⟩) 0 0) 0 []) := hid ⟨rfl, .inr ⟨w.heap.size, 0, #[], rfl, Nat.le_refl _, heap_alloc_new w _, Nat.le_refl _, Nat.zero_le _, rfl, rfl⟩⟩
    have HR0 := hid (HR.out.later HB0.out)
    have hnl := notNilC w ad xs.length cap
    go_enter Try.func133, Try.ntmps133
    go_wp2_with (first | (at_builtin; refine append_any rfl _ _ 37 rfl w.heap.size 5 i0 (.int .u8 0) 1 Try.underlying37 hi hz0 hz1 hz2 rfl _ 0 [] rfl HO0.out (some ad) xs.length cap (byt xs) rfl (byt_len _) HN.out HR0.out (byt_one _) (by unfold maxLen; omega) (by omega) (by simp) ?_))
    intro v' w1 hown hgrow
    have HB : Hid (Below w.heap.size w w1) := hid (HB0.out.grown hgrow (by simp) (fun k h => by simp [Value.ownBlock] at h; omega))
    have HO : Hid (w1.ownsRow w.heap.size 5 1 v' xs.length (byt xs)) := hid (by simpa using hown)
    clear hown hgrow
    go_wp2
    go_ret
    exact ⟨_, rfl, HO.out, HB.out⟩
end Go.Proofs.Ytcljakdcejhfiac
