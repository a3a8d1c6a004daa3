import Derived.Test.YtcljakdcejhfiadJLinkTick26
import Derived.Test.YtcljakdcejhfiadJLinkTick28
import Derived.Test.YtcljakdcejhfiadJLinkTick22
import Derived.Test.YtcljakdcejhfiadJLinkTick27
namespace Go.Proofs.Ytcljakdcejhfiad
open Go.RowKit
theorem rdSS_of_row {B : Nat} {w : World} {v : Value} {xss : List (List Nat)} {vals : List Value} (ho : w.ownsRow B 69 1 v xss.length vals) (hi : ∀ i, (h : i < xss.length) → ∃ u, vals[i]? = some u ∧ RdSl cByte w xss[i] u) : RdSl cSS w xss v := by
  have hvl : vals.length = xss.length := by have := ho.1; omega
  rcases ho.2 with ⟨rfl, h0⟩ | ⟨g, cap, cur, rfl, hg, hh, hn, hm, r⟩
  · obtain rfl := List.length_eq_zero_iff.1 h0
    exact RdSl.empty none
  · refine ⟨_, cap, rfl, hn, hm, (fun h => by cases h), .inr ⟨g, 0, rfl, fun i h => ?_⟩⟩
    obtain ⟨u, hu, hr⟩ := hi i h
    refine ⟨[u], ⟨u, rfl, hr⟩, fun j hj => ?_⟩
    have hj0 : j = 0 := by simpa using hj
    subst hj0
    have := World.ownsRow.cellAt ho i (by omega)
    rw [show 0 + (i * cSS.n + 0) = i from by simp [cSl], this, hu]; rfl
end Go.Proofs.Ytcljakdcejhfiad
namespace Go.Proofs.Ytcljakdcejhfiad
open Go.RowKit
def Fct.bytes (xs : List Nat) : Fct := ⟨fun v w => RdSl cByte w xs v, fun _ _ _ h hb => h.later hb⟩
def Fct.texts (xss : List (List Nat)) : Fct := ⟨fun v w => RdSl cSS w xss v, fun _ _ _ h hb => h.later hb⟩
def Fct.row (B : Nat) (xs : List Nat) : Fct := ⟨fun v w => w.ownsRow B 5 1 v xs.length (byt xs), fun _ _ _ h hb => own_later h hb⟩
theorem bytes_new {w : World} {cs : Array Value} (xs : List Nat) (hc : cs.toList = byt xs) (hb : ∀ x ∈ xs, x < 256) (hl : xs.length ≤ 100) {n c : Nat} (hn : n = cs.size := by rfl) (hcn : c = cs.size := by rfl) : (Fct.bytes xs).p (.slice (some ⟨w.heap.size, 0, none⟩) n c) (w.alloc (.cells cs 5)) := by
  subst hn hcn
  have hs : cs.size = xs.length := by rw [← byt_len xs, ← hc]; simp
  have h := own_built (w := w) (B := w.heap.size) (e := 5) (cs := cs) (Nat.le_refl _) (by unfold maxLen; omega)
  rw [hc] at h
  exact own_rdSl h hb
theorem texts_new {w : World} {cs : Array Value} (vals : List Value) (xss : List (List Nat)) (hc : cs.toList = vals) (hl : vals.length = xss.length) (hi : ∀ i, (h : i < xss.length) → ∃ u, vals[i]? = some u ∧ RdSl cByte w xss[i] u) (hm : xss.length ≤ 100) {n c : Nat} (hn : n = cs.size := by rfl) (hcn : c = cs.size := by rfl) : (Fct.texts xss).p (.slice (some ⟨w.heap.size, 0, none⟩) n c) (w.alloc (.cells cs 69)) := by
  subst hn hcn
  have hs : cs.size = xss.length := by rw [← hl, ← hc]; simp
  have h := own_built (w := w) (B := w.heap.size) (e := 69) (cs := cs) (Nat.le_refl _) (by unfold maxLen; omega)
  rw [hs] at h ⊢
  refine rdSS_of_row h (fun i hh => ?_)
  obtain ⟨u, h1, h2⟩ := hi i hh
  exact ⟨u, by rw [hc]; exact h1, h2.later (below_new1 _ _)⟩
theorem RdSl.slice {α : Type} {c : Cod α} {w : World} {xs : List α} {v : Value} (h : RdSl c w xs v) : ∃ a k, v = .slice a xs.length k ∧ RdSl c w xs (.slice a xs.length k) := by
  obtain ⟨a, k, e, r⟩ := id h
  exact ⟨a, k, e, e ▸ h⟩
end Go.Proofs.Ytcljakdcejhfiad
namespace Go.Proofs.Ytcljakdcejhfiad
open Go.RowKit
set_option maxHeartbeats 1000000 in
set_option maxRecDepth 100000 in
theorem app_u32 (B : Nat) (v : Value) (n : Nat) (xs : List Nat) (N : Int) (w : World) (ho : w.ownsRow B 5 1 v n (byt xs)) (hB : B ≤ w.heap.size) (hn : n ≤ 1099511627776) (hN : IntIn N) :
    Calls Try.prog 113 #[v, .int .u32 N, .int .i64 4] w fun e w' => ∃ v', e = .returned v' ∧ w'.ownsRow B 5 1 v' (n + 4) (byt (xs ++ digs (U N) 4)) ∧ Below B w w' := by
  obtain ⟨i0, hi, hz0, hz1, hz2⟩ := info_parts infoByteP
  have hU := U_eq N
  have HL := hid (U_lt N)
  have HN' := hid hN
  have HO0 := hid ho
  clear hN ho
  generalize U N = u at *
  go_enter Try.func113, Try.ntmps113
  go_wp2
  go_loopw [0, 7, 11] (fun o r i wr => ∃ k : Nat, k ≤ 4 ∧ i = .int .i64 k ∧ r = .int .u64 ((u / 256 ^ k : Nat) : Int) ∧ wr.ownsRow B 5 1 o (n + k) (byt (xs ++ (digs u 4).take k)) ∧ Below B w wr) (fun _ _ i _ => 4 - (intOf i).toNat)
  case atStart => exact ⟨0, Nat.zero_le _, rfl, by simp, by simpa using HO0.out, Below.refl _ _⟩
  case round =>
    obtain ⟨k, hk, rfl, rfl, how, hbe⟩ := hrel
    have HO := hid how
    have HB := hid hbe
    clear how hbe hU
    by_cases hlt : k < 4
    · have HD := hid (digs_snoc u 4 k hlt)
      have HN := hid (div_next u k)
      have HR := hid (div_lt u k HL.out)
      have hBr : B ≤ wr.heap.size := Nat.le_trans hB HB.out.size
      generalize u / 256 ^ k = R at *
      have hki : decide ((k : Int) < 4) = true := by simp; omega
      go_wp2_with (first | (at_builtin; refine wpList_append_own _ rfl _ _ 69 rfl B 5 i0 (.int .u8 0) 1 1 Try.underlying69 hi hz0 hz1 hz2 rfl (by decide) _ (n + k) _ rfl (HO.out.alloc _) ⟨wr.heap.size, 0, none⟩ 1 1 [.int .u8 ((R : Int) % 256)] rfl rfl (cell_one_new _ _ _) (one_cell rfl) (by unfold maxLen; omega) (by omega) (by simp; omega) ?_))
      intro v' w1 hown' hgrow _
      have HB1 : Hid (Below B w w1) := hid ((HB.out.alloc hBr _).grown hgrow (by simp; omega) (fun k h => (World.ownsRow.lt HO.out k h).1))
      have HO1 : Hid (w1.ownsRow B 5 1 v' (n + (k + 1)) (byt (xs ++ (digs u 4).take (k + 1)))) := hid (by
        rw [HD.out, ← List.append_assoc, byt_snoc, ← Nat.add_assoc]
        simpa using hown')
      clear hown' hgrow
      go_wp2
      go_roundw
      case rel => exact ⟨k + 1, by omega, by go_num, by rw [← HN.out]; simp, HO1.out, HB1.out⟩
      case measure => simp [intOf]; omega
    · have hki : decide ((k : Int) < 4) = false := by simp; omega
      have HK : Hid (k = 4) := hid (by omega)
      have hO := HO.out
      rw [HK.out, List.take_of_length_le (by rw [digs_len]; exact Nat.le_refl _)] at hO
      have HO2 := hid hO
      clear hO HO
      go_wp2
      go_ret
      exact ⟨_, rfl, HO2.out, HB.out⟩
end Go.Proofs.Ytcljakdcejhfiad
