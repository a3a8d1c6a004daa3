import Derived.Test.YtcljakdcejhfiabJEncodePacket27
import Derived.Test.YtcljakdcejhfiabJEncodePacket30
import Derived.Test.YtcljakdcejhfiabJEncodePacket31
namespace Go.Proofs.Ytcljakdcejhfiab
open Go.RowKit
def Fct.bytes (xs : List Nat) : Fct := ⟨fun v w => RdSl cByte w xs v, fun _ _ _ h hb => h.later hb⟩
def Fct.texts (xss : List (List Nat)) : Fct := ⟨fun v w => RdSl cSS w xss v, fun _ _ _ h hb => h.later hb⟩
def Fct.row (B : Nat) (xs : List Nat) : Fct := ⟨fun v w => w.ownsRow B 5 1 v xs.length (byt xs), fun _ _ _ h hb => own_later h hb⟩
theorem bytes_new {w : World} {cs : Array Value} (xs : List Nat) (hc : cs.toList = byt xs) (hb : ∀ x ∈ xs, x < 256) (hl : xs.length ≤ 100) {n c : Nat} (hn : n = cs.size := by rfl) (hcn : c = cs.size := by rfl) : (Fct.bytes xs).p (.slice (some ⟨w.heap.size, 0, none⟩) n c) (w.alloc (.cells cs 5)) := by
  subst hn hcn
  have hs : cs.size = xs.length := by rw [← byt_len xs, ← hc]; simp
  have h := own_built (w := w) (B := w.heap.size) (e := 5) (cs := cs) (Nat.le_refl _) (by unfold maxLen; omega)
  rw [hc] at h
  exact own_rdSl h hb
theorem texts_new {w : World} {cs : Array Value} (vals : List Value) (xss : List (List Nat)) (hc : cs.toList = vals) (hl : vals.length = xss.length) (hi : ∀ i, (h : i < xss.length) → ∃ u, vals[i]? = some u ∧ RdSl cByte w xss[i] u) (hm : xss.length ≤ 100) {n c : Nat} (hn : n = cs.size := by rfl) (hcn : c = cs.size := by rfl) : (Fct.texts xss).p (.slice (some ⟨w.heap.size, 0, none⟩) n c) (w.alloc (.cells cs 24)) := by
  subst hn hcn
  have hs : cs.size = xss.length := by rw [← hl, ← hc]; simp
  have h := own_built (w := w) (B := w.heap.size) (e := 24) (cs := cs) (Nat.le_refl _) (by unfold maxLen; omega)
  rw [hs] at h ⊢
  refine rdSS_of_row h (fun i hh => ?_)
  obtain ⟨u, h1, h2⟩ := hi i hh
  exact ⟨u, by rw [hc]; exact h1, h2.later (below_new1 _ _)⟩
theorem RdSl.slice {α : Type} {c : Cod α} {w : World} {xs : List α} {v : Value} (h : RdSl c w xs v) : ∃ a k, v = .slice a xs.length k ∧ RdSl c w xs (.slice a xs.length k) := by
  obtain ⟨a, k, e, r⟩ := id h
  exact ⟨a, k, e, e ▸ h⟩
end Go.Proofs.Ytcljakdcejhfiab
