/- SoT. -/
import Derived.Test.YtcljakdcejhfiacJLinkAcked34
/- One packet more behind those that wait: what each operation leaves. -/
namespace Go.Proofs.Ytcljakdcejhfiac
open Go.RowKit

set_option linter.unusedVariables false in
def soT (B lo gm gO b off c n k : Nat) (s : PW) (an : Option Addr) (cn : Nat) (acc : Value) (e nx t : Int) (xs : List PW) : Nat → FX
  | 0 => FX.eq (.pointer (some ⟨gm, 3, none⟩))
  | 1 => FX.eq (acc)
  | 2 => FX.eq (.pointer (some ⟨gO, 3, none⟩))
  | 3 => FX.eq (.slice (some ⟨b, off, none⟩) n c)
  | 4 => FX.eq (.int .i64 (k : Int))
  | 5 => FX.eq (.pointer (some ⟨b, off + k * 7, none⟩))
  | 6 => FX.eq (.pointer (some ⟨b, off + k * 7, none⟩))
  | 7 => FX.eq (.agg #[.int .i64 s.pkt.kind, .int .i64 s.pkt.epoch, .int .i64 s.pkt.seq, .int .i64 s.pkt.count, .bool s.pkt.last, .slice an s.pkt.data.length cn])
  | 8 => FX.pre [17, 19] (fcPk lo s.pkt)
  | 9 => FX.eq (.pointer (some ⟨gO, 3, none⟩))
  | 10 => FX.eq (.slice (some ⟨b, off, none⟩) n c)
  | 11 => FX.eq (.int .i64 (k : Int))
  | 12 => FX.eq (.pointer (some ⟨b, off + k * 7, none⟩))
  | 13 => FX.eq (.pointer (some ⟨b, off + k * 7 + 6, none⟩))
  | 14 => FX.eq (.int .i64 s.at_)
  | 15 => FX.pre [17, 19] (fcSn lo s)
  | 16 => FX.pre [17, 19] (fcOneS lo s)
  | 17 => FX.pre [19] (fcGotS B gm e nx t acc (xs ++ [s]))
  | 18 => FX.eq (.pointer (some ⟨gm, 3, none⟩))
  | 19 => FX.is (fcPutS B gm e nx t (xs ++ [s]))
  | _ => FX.eq undef

end Go.Proofs.Ytcljakdcejhfiac
