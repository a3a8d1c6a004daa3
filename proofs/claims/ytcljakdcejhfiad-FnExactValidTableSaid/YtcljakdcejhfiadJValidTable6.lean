import Derived.Test.YtcljakdcejhfiadJValidTable3
import Derived.Test.YtcljakdcejhfiadJValidTable5
namespace Go.Proofs.Ytcljakdcejhfiad
open Go.RowKit
structure PC where
  null : Bool
  num : Int
  text : List Nat
def cCell : Cod PC := cMap (cPair cBool (cPair cInt (cSl cByte 5))) fun f => (f.null, f.num, f.text)
theorem cCell_rd {w : World} {f : PC} {cs : List Value} (h : cCell.rd w f cs) : ∃ v, cs = [.bool f.null, .int .i64 f.num, v] ∧ RdSl cByte w f.text v ∧ IntIn f.num := by
  obtain ⟨c1, c2, rfl, h0, c3, c4, rfl, ⟨rfl, h2⟩, v, rfl, h3⟩ := h
  have h0 : c1 = [.bool f.null] := h0
  subst h0
  exact ⟨v, rfl, h3, h2⟩
theorem cCell_own {w : World} {f : PC} {v : Value} {bs : List Nat} (h1 : OwnSl cByte 5 w f.text v bs) (h2 : IntIn f.num) : cCell.own w f [.bool f.null, .int .i64 f.num, v] bs :=
  ⟨[_], _, [], bs, rfl, rfl, ⟨rfl, rfl⟩, [_], _, [], bs, rfl, rfl, ⟨rfl, h2, rfl⟩, v, rfl, h1⟩
theorem cCell_shape {w : World} {f : PC} {cs : List Value} (h : cCell.rd w f cs) : ∃ a cap, cs = [.bool f.null, .int .i64 f.num, .slice a f.text.length cap] := by
  obtain ⟨v, rfl, ⟨a, cap, rfl, _⟩, _⟩ := cCell_rd h
  exact ⟨a, cap, rfl⟩
end Go.Proofs.Ytcljakdcejhfiad
namespace Go.Proofs.Ytcljakdcejhfiad
open Go.ChangeShapes Go.WideShapes Go.ChangeAt Go.RowKit
theorem opens_Cell {H : Type} (enc : TypeId × Value → H) (W : World) : Opens enc Try.prog W 110 cCell :=
  opens_struct3 Try.underlying110 rfl rfl rfl rfl (by kernel_rfl) (by kernel_rfl) (by kernel_rfl) (by kernel_rfl) (opens_bool Try.underlying4) (opens_int Try.underlying3) (opens_bytes enc W) (fun x y z => ⟨x, y, z⟩) (fun _ _ _ => rfl)
theorem opens_CellS {H : Type} (enc : TypeId × Value → H) (W : World) : Opens enc Try.prog W 23 (cSl cCell 86) :=
  opens_slice Try.underlying23 (by kernel_rfl) (by decide) (opens_Cell enc W) _
end Go.Proofs.Ytcljakdcejhfiad
