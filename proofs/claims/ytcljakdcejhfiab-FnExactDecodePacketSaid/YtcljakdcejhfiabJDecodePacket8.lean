import Derived.Test.YtcljakdcejhfiabJDecodePacket4
import Derived.Laws.ResultCell
import Derived.Test.YtcljakdcejhfiabJDecodePacket7
namespace Go.Proofs.Ytcljakdcejhfiab
open Go.RowKit
theorem rdB_cut {w : World} {xs : List Nat} {b off cap lo n : Nat} (h : RdSl cByte w xs (.slice (some ⟨b, off, none⟩) xs.length cap)) (hk : lo + n ≤ xs.length) : RdSl cByte w ((xs.drop lo).take n) (.slice (some ⟨b, off + lo, none⟩) n (cap - lo)) := by
  have := h.cut (lo := lo) (R := n) hk
  rw [show cByte.n = 1 from rfl, Nat.mul_one] at this
  simpa [addr_add0] using this
theorem byte_at {w : World} {xs : List Nat} {a : Option Addr} {n cap k : Nat} (h : RdSl cByte w xs (.slice a n cap)) (hk : k < xs.length) : ∃ b off K, a = some ⟨b, off, none⟩ ∧ xs[k]? = some K ∧ K < 256 ∧ w.cell? ⟨b, off + k, none⟩ = some (.int .u8 (K : Int)) := by
  obtain ⟨b, off, v, e, ⟨e2, h2⟩, d⟩ := h.at1 (k := k) rfl hk
  simp only [List.cons.injEq, and_true] at e2
  subst e2
  exact ⟨b, off, xs[k], e, List.getElem?_eq_getElem hk, h2, d⟩
end Go.Proofs.Ytcljakdcejhfiab
