import Derived.Test.YtfppfjklakdlfaaDoorJForms19
import Derived.Test.YtfppfjklakdlfaaDoorJForms33
import Derived.Test.YtfppfjklakdlfaaDoorJForms15
import Derived.Test.YtfppfjklakdlfaaDoorJForms0
import Derived.Test.YtfppfjklakdlfaaDoorJForms2
namespace Go.Proofs.YtfppfjklakdlfaaDoor
open Go.RowKit
theorem rdB_of {w : World} {xs : List Nat} {a : Option Addr} {n c : Nat} (h : RdSl cByte w xs (.slice a n c)) : Rd w a (byt xs) := by
  obtain ⟨a', c', e, -, -, -, r, -⟩ := h.bytes
  cases e
  exact r
set_option maxHeartbeats 1000000 in
theorem samePacket_any (p : PP) (a b : Option Addr) (c d : Nat) (w : World) (h1 : RdSl cByte w p.data (.slice a p.data.length c)) (h2 : RdSl cByte w p.data (.slice b p.data.length d)) (ht : p.data.length ≤ 1048576) :
    Calls Tryd.prog 25 #[.agg #[.int .i64 p.kind, .int .i64 p.epoch, .int .i64 p.seq, .int .i64 p.count, .bool p.last, .slice a p.data.length c], .agg #[.int .i64 p.kind, .int .i64 p.epoch, .int .i64 p.seq, .int .i64 p.count, .bool p.last, .slice b p.data.length d]] w fun e w' => e = .returned (.bool true) ∧ Below w.heap.size w w' := by
  have H1 := hid h1
  have H2 := hid h2
  clear h1 h2
  have x1 : (p.kind == p.kind) = true := by simp
  have x2 : (p.epoch == p.epoch) = true := by simp
  have x3 : (p.seq == p.seq) = true := by simp
  have x4 : (p.count == p.count) = true := by simp
  have x5 : (p.last == p.last) = true := by simp
  go_enter Tryd.func25, Tryd.ntmps25
  go_wp2_with fail
  refine (sameB_any a b c d p.data.length p.data _ (rdB_of (H1.out.later (below_new2 _ _ _))) (rdB_of (H2.out.later (below_new2 _ _ _))) rfl (by omega)).mono ?_
  rintro e w2 ⟨rfl, b2⟩
  have HB : Hid (Below w.heap.size w w2) := hid ((below_new2 w _ _).trans (b2.mono (by simp; omega)))
  clear b2
  go_wp2
  go_ret
  exact ⟨rfl, HB.out⟩
end Go.Proofs.YtfppfjklakdlfaaDoor
namespace Go.Proofs.YtfppfjklakdlfaaDoor
open Go.RowKit
theorem IsRow.capC {k : IntKind} {w : World} {a : Option Addr} {len cap : Nat} {zs : List Int} (h : IsRow k w a len cap zs) : cap ≤ maxLen := by
  rcases h with ⟨_, _, rfl, _⟩ | ⟨x, _, _, hm, _⟩
  · exact Nat.zero_le _
  · exact hm
def BytesInC (w : World) (a : Option Addr) (len cap : Nat) : Prop := cap ≤ maxLen ∧ BytesIn w a len cap
theorem bytesInC {w : World} {a : Option Addr} {len cap : Nat} (h : BytesInC w a len cap) : ∃ xs : List Nat, len = xs.length ∧ RdSl cByte w xs (.slice a xs.length cap) := by
  obtain ⟨hc, hm, ⟨h1, h2⟩, xs, rfl, hb, hr⟩ := h
  exact ⟨xs, rfl, rdSl_bytes h1 hc h2 hr hb⟩
end Go.Proofs.YtfppfjklakdlfaaDoor
