import Derived.Test.YtmaccmgmcahopaaJWindow0
import Derived.Test.YtmaccmgmcahopaaJWindow2
namespace Go.Proofs.Ytmaccmgmcahopaa
open Go.RowKit
theorem IsRow.capC {k : IntKind} {w : World} {a : Option Addr} {len cap : Nat} {zs : List Int} (h : IsRow k w a len cap zs) : cap ≤ maxLen := by
  rcases h with ⟨_, _, rfl, _⟩ | ⟨x, _, _, hm, _⟩
  · exact Nat.zero_le _
  · exact hm
def BytesInC (w : World) (a : Option Addr) (len cap : Nat) : Prop := cap ≤ maxLen ∧ BytesIn w a len cap
theorem bytesInC {w : World} {a : Option Addr} {len cap : Nat} (h : BytesInC w a len cap) : ∃ xs : List Nat, len = xs.length ∧ RdSl cByte w xs (.slice a xs.length cap) := by
  obtain ⟨hc, hm, ⟨h1, h2⟩, xs, rfl, hb, hr⟩ := h
  exact ⟨xs, rfl, rdSl_bytes h1 hc h2 hr hb⟩
end Go.Proofs.Ytmaccmgmcahopaa
