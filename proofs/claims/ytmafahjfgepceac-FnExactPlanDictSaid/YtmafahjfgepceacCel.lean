/- Cells in memory. -/
import Derived.Test.YtmafahjfgepceacCod
namespace Go.Proofs.Ytmafahjfgepceac
open Go.RowKit

structure PC where
  null : Bool
  num : Int
  text : List Nat
deriving DecidableEq

def cCell : Cod PC := cMap (cPair cBool (cPair cInt (cSl cByte 5))) fun f => (f.null, f.num, f.text)

theorem cCell_rd {w : World} {f : PC} {cs : List Value} (h : cCell.rd w f cs) : ∃ v, cs = [.bool f.null, .int .i64 f.num, v] ∧ RdSl cByte w f.text v ∧ IntIn f.num := by
  obtain ⟨c1, c2, rfl, h0, c3, c4, rfl, ⟨rfl, h2⟩, v, rfl, h3⟩ := h
  have h0 : c1 = [.bool f.null] := h0
  subst h0
  exact ⟨v, rfl, h3, h2⟩
theorem cCell_mk {w : World} {f : PC} {v : Value} (h1 : RdSl cByte w f.text v) (h2 : IntIn f.num) : cCell.rd w f [.bool f.null, .int .i64 f.num, v] :=
  ⟨[_], _, rfl, rfl, [_], _, rfl, ⟨rfl, h2⟩, v, rfl, h1⟩
theorem cCell_own {w : World} {f : PC} {v : Value} {bs : List Nat} (h1 : OwnSl cByte 5 w f.text v bs) (h2 : IntIn f.num) : cCell.own w f [.bool f.null, .int .i64 f.num, v] bs :=
  ⟨[_], _, [], bs, rfl, rfl, ⟨rfl, rfl⟩, [_], _, [], bs, rfl, rfl, ⟨rfl, h2, rfl⟩, v, rfl, h1⟩
theorem cCell_owned {w : World} {f : PC} {cs : List Value} {bs : List Nat} (h : cCell.own w f cs bs) : ∃ v, cs = [.bool f.null, .int .i64 f.num, v] ∧ OwnSl cByte 5 w f.text v bs ∧ IntIn f.num := by
  obtain ⟨c1, c2, b1, b2, rfl, rfl, ⟨h0, rfl⟩, c3, c4, b3, b4, rfl, rfl, ⟨rfl, h2, rfl⟩, v, rfl, h3⟩ := h
  have h0 : c1 = [.bool f.null] := h0
  subst h0
  exact ⟨v, rfl, by simpa using h3, h2⟩
theorem cCell_shape {w : World} {f : PC} {cs : List Value} (h : cCell.rd w f cs) : ∃ a cap, cs = [.bool f.null, .int .i64 f.num, .slice a f.text.length cap] := by
  obtain ⟨v, rfl, ⟨a, cap, rfl, _⟩, _⟩ := cCell_rd h
  exact ⟨a, cap, rfl⟩

end Go.Proofs.Ytmafahjfgepceac
