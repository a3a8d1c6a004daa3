/- SameOut, OpenC. -/
import Derived.Test.YtfppfjklakdlfaaDoorJForms19
import Derived.Test.YtfppfjklakdlfaaDoorJForms33
import Derived.Test.YtfppfjklakdlfaaDoorJForms15
import Derived.Test.YtfppfjklakdlfaaDoorJForms0
import Derived.Test.YtfppfjklakdlfaaDoorJForms2
/- laws.samePacket, sameOut of what is alike. -/
namespace Go.Proofs.YtfppfjklakdlfaaDoor
open Go.RowKit

theorem rdB_of {w : World} {xs : List Nat} {a : Option Addr} {n c : Nat} (h : RdSl cByte w xs (.slice a n c)) : Rd w a (byt xs) := by
  obtain ⟨a', c', e, -, -, -, r, -⟩ := h.bytes
  cases e
  exact r
set_option maxHeartbeats 1000000 in
theorem samePacket_any (p : PP) (a b : Option Addr) (c d : Nat) (w : World) (h1 : RdSl cByte w p.data (.slice a p.data.length c)) (h2 : RdSl cByte w p.data (.slice b p.data.length d)) (ht : p.data.length ≤ 1048576) :
    Calls Tryd.prog 25 #[.agg #[.int .i64 p.kind, .int .i64 p.epoch, .int .i64 p.seq, .int .i64 p.count, .bool p.last, .slice a p.data.length c], .agg #[.int .i64 p.kind, .int .i64 p.epoch, .int .i64 p.seq, .int .i64 p.count, .bool p.last, .slice b p.data.length d]] w fun e w' => e = .returned (.bool true) ∧ Below w.heap.size w w' := by
  have H1 := hid h1
  have H2 := hid h2
  clear h1 h2
  have x1 : (p.kind == p.kind) = true := by simp
  have x2 : (p.epoch == p.epoch) = true := by simp
  have x3 : (p.seq == p.seq) = true := by simp
  have x4 : (p.count == p.count) = true := by simp
  have x5 : (p.last == p.last) = true := by simp
  go_enter Tryd.func25, Tryd.ntmps25
  go_wp2_with fail
  refine (sameB_any a b c d p.data.length p.data _ (rdB_of (H1.out.later (below_new2 _ _ _))) (rdB_of (H2.out.later (below_new2 _ _ _))) rfl (by omega)).mono ?_
  rintro e w2 ⟨rfl, b2⟩
  have HB : Hid (Below w.heap.size w w2) := hid ((below_new2 w _ _).trans (b2.mono (by simp; omega)))
  clear b2
  go_wp2
  go_ret
  exact ⟨rfl, HB.out⟩

set_option linter.unusedVariables false in
def smoT (s : PW) (N k b1 o1 b2 o2 c d gA gB : Nat) (x1 x2 : Option Addr) (y1 y2 : Nat) : Nat → Value
  | 0 => .pointer (some ⟨gA, 3, none⟩)
  | 1 => .slice (some ⟨b1, o1, none⟩) N c
  | 2 => .int .i64 (k : Int)
  | 3 => .pointer (some ⟨b1, o1 + k * 7, none⟩)
  | 4 => .pointer (some ⟨b1, o1 + k * 7 + 6, none⟩)
  | 5 => .int .i64 s.at_
  | 6 => .pointer (some ⟨gB, 3, none⟩)
  | 7 => .slice (some ⟨b2, o2, none⟩) N d
  | 8 => .int .i64 (k : Int)
  | 9 => .pointer (some ⟨b2, o2 + k * 7, none⟩)
  | 10 => .pointer (some ⟨b2, o2 + k * 7 + 6, none⟩)
  | 11 => .int .i64 s.at_
  | 12 => .bool false
  | 13 => .bool false
  | 14 => .pointer (some ⟨gA, 3, none⟩)
  | 15 => .slice (some ⟨b1, o1, none⟩) N c
  | 16 => .int .i64 (k : Int)
  | 17 => .pointer (some ⟨b1, o1 + k * 7, none⟩)
  | 18 => .pointer (some ⟨b1, o1 + k * 7, none⟩)
  | 19 => .agg #[.int .i64 s.pkt.kind, .int .i64 s.pkt.epoch, .int .i64 s.pkt.seq, .int .i64 s.pkt.count, .bool s.pkt.last, .slice x1 s.pkt.data.length y1]
  | 20 => .pointer (some ⟨gB, 3, none⟩)
  | 21 => .slice (some ⟨b2, o2, none⟩) N d
  | 22 => .int .i64 (k : Int)
  | 23 => .pointer (some ⟨b2, o2 + k * 7, none⟩)
  | 24 => .pointer (some ⟨b2, o2 + k * 7, none⟩)
  | 25 => .agg #[.int .i64 s.pkt.kind, .int .i64 s.pkt.epoch, .int .i64 s.pkt.seq, .int .i64 s.pkt.count, .bool s.pkt.last, .slice x2 s.pkt.data.length y2]
  | 26 => .bool true
  | 27 => .bool false
  | 28 => .bool false
  | _ => undef
end Go.Proofs.YtfppfjklakdlfaaDoor

/- What came in: bytes, with what is told of their room. -/
namespace Go.Proofs.YtfppfjklakdlfaaDoor
open Go.RowKit

theorem IsRow.capC {k : IntKind} {w : World} {a : Option Addr} {len cap : Nat} {zs : List Int} (h : IsRow k w a len cap zs) : cap ≤ maxLen := by
  rcases h with ⟨_, _, rfl, _⟩ | ⟨x, _, _, hm, _⟩
  · exact Nat.zero_le _
  · exact hm
def BytesInC (w : World) (a : Option Addr) (len cap : Nat) : Prop := cap ≤ maxLen ∧ BytesIn w a len cap
theorem bytesInC {w : World} {a : Option Addr} {len cap : Nat} (h : BytesInC w a len cap) : ∃ xs : List Nat, len = xs.length ∧ RdSl cByte w xs (.slice a xs.length cap) := by
  obtain ⟨hc, hm, ⟨h1, h2⟩, xs, rfl, hb, hr⟩ := h
  exact ⟨xs, rfl, rdSl_bytes h1 hc h2 hr hb⟩

end Go.Proofs.YtfppfjklakdlfaaDoor
