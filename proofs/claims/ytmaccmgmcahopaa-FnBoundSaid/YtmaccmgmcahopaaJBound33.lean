import Derived.Test.YtmaccmgmcahopaaJBound6
import Derived.Laws.ResultCell
import Derived.Test.YtmaccmgmcahopaaJBound20
import Derived.Test.YtmaccmgmcahopaaJBound7
import Derived.Test.YtmaccmgmcahopaaJBound21
import Derived.Test.YtmaccmgmcahopaaJBound10
import Derived.Test.YtmaccmgmcahopaaJBound2
import Derived.Test.YtmaccmgmcahopaaJBound15
import Derived.Test.YtmaccmgmcahopaaJBound8
import Derived.Test.YtmaccmgmcahopaaJBound22
import Derived.Test.YtmaccmgmcahopaaJBound31
namespace Go.Proofs.Ytmaccmgmcahopaa
open Go.RowKit
theorem results_cell_row_tmpD {P : Program} {fn : Func} {p u : Tmp} {ty : TypeId} (h : fn.results = #[.cell p ty, .tmp u]) (tmps : Array Value) (w : World) (g : Nat) (t : TypeId) (cs : Array Value) (fr : Nat × Nat) (d : TypeDesc)
    (hp : tmps.getD p undef = .pointer (some ⟨g, 0, none⟩)) (hg : w.heap[g]? = some (.cells cs t fr))
    (hu : P.underlying ty = some d) (hd : (match d with | .struct _ | .array _ _ => true | _ => false) = true) (hi : (P.info? ty).map (·.size) = some cs.size) :
    (results fn tmps).run P w = .ok (.tuple #[.agg cs, tmps.getD u undef]) w := by
  rw [results_cell_tmp h, hp]
  simp [asAddr, run_loadVar_row w g t ty cs fr d hg hu hd hi]
end Go.Proofs.Ytmaccmgmcahopaa
namespace Go.Proofs.Ytmaccmgmcahopaa
open Go.RowKit
theorem rdB_cut {w : World} {xs : List Nat} {b off cap lo n : Nat} (h : RdSl cByte w xs (.slice (some ⟨b, off, none⟩) xs.length cap)) (hk : lo + n ≤ xs.length) : RdSl cByte w ((xs.drop lo).take n) (.slice (some ⟨b, off + lo, none⟩) n (cap - lo)) := by
  have := h.cut (lo := lo) (R := n) hk
  rw [show cByte.n = 1 from rfl, Nat.mul_one] at this
  simpa [addr_add0] using this
end Go.Proofs.Ytmaccmgmcahopaa
namespace Go.Proofs.Ytmaccmgmcahopaa
open Go.RowKit
def fcRowD (lo : Nat) (D : List Nat) : Fct := ⟨fun v w => w.ownsRow lo 5 1 v D.length (byt D), fun _ _ _ h hb => own_later h hb⟩
def fcNewD (lo : Nat) : Fct := ⟨fun v w => ∃ g, v = .pointer (some ⟨g, 0, none⟩) ∧ lo ≤ g ∧ w.heap[g]? = some (.cells #[.int .i64 0, .int .i64 0, .int .i64 0, .int .i64 0, .bool false, .slice none 0 0] 35 (0, 0)), fun _ _ _ ⟨g, e, l, h⟩ hb => ⟨g, e, l, (hb.block _ (Array.getElem?_eq_some_iff.1 h).1).trans h⟩⟩
theorem box_far {w : World} {gm : Nat} {cs : Array Value} {t : TypeId} {B n s : Nat} {e : TypeId} {u : Value} {vs : List Value} {k : Nat} (hb : w.heap[gm]? = some (.cells cs t (0, 0))) (ho : w.ownsRow B e s u n vs) (hne : e ≠ t) (hk : u.ownBlock = some k) : k ≠ gm := by
  intro he
  subst he
  rcases ho.2 with ⟨rfl, _⟩ | ⟨g, cap, cur, rfl, _, hh, _⟩
  · simp [Value.ownBlock] at hk
  · simp [Value.ownBlock] at hk
    subst hk
    rw [hb] at hh
    simp at hh
    exact hne hh.2.symm
end Go.Proofs.Ytmaccmgmcahopaa
namespace Go.Proofs.Ytmaccmgmcahopaa
open Go.RowKit
def fcAggW (lo : Nat) (e nx : Int) (k N : Nat) (D : List Nat) : Fct := ⟨fun v w => ∃ a c, v = .agg #[.int .i64 1, .int .i64 e, .int .i64 (nx + (k : Int)), .int .i64 0, .bool ((k : Int) == (N : Int) - 1), .slice a D.length c] ∧ w.ownsRow lo 5 1 (.slice a D.length c) D.length (byt D), fun _ _ _ ⟨a, c, e, h⟩ hb => ⟨a, c, e, own_later h hb⟩⟩
def npH (lo : Nat) (e nx : Int) (k N : Nat) (D : List Nat) (AL ST : Nat) (x : Nat → Bool) (t : Nat → Value) (w : World) : Prop := x ST = true → ∃ g a c, t AL = .pointer (some ⟨g, 0, none⟩) ∧ lo ≤ g ∧ w.heap[g]? = some (.cells #[.int .i64 1, .int .i64 e, .int .i64 (nx + (k : Int)), .int .i64 0, .bool ((k : Int) == (N : Int) - 1), .slice a D.length c] 35 (0, 0)) ∧ w.ownsRow lo 5 1 (.slice a D.length c) D.length (byt D) ∧ ∀ x, (Value.slice a D.length c).ownBlock = some x → x ≠ g
set_option linter.unusedVariables false in
def npIT (lo gO k N bm om cm PL : Nat) (e nx : Int) (D : List Nat) : Nat → FX
  | 0 => FX.eq (.pointer (some ⟨gO, 0, none⟩))
  | 1 => FX.eq (.int .i64 e)
  | 2 => FX.eq (.pointer (some ⟨gO, 1, none⟩))
  | 3 => FX.eq (.int .i64 nx)
  | 4 => FX.eq (.int .i64 (k : Int))
  | 5 => FX.eq (.int .i64 (nx + (k : Int)))
  | 6 => FX.eq (.int .i64 (k : Int))
  | 7 => FX.eq (.int .i64 (N : Int))
  | 8 => FX.eq (.int .i64 ((N : Int) - 1))
  | 9 => FX.eq (.bool ((k : Int) == (N : Int) - 1))
  | 10 => FX.eq (.slice (some ⟨bm, om, none⟩) PL cm)
  | 11 => FX.eq (.int .i64 (k : Int))
  | 12 => FX.pre [15] (fcRowD lo D)
  | 13 => FX.pre [15] (fcAggW lo e nx k N D)
  | 14 => FX.pre [15] (fcNewD lo)
  | 15 => FX.is Fct.any
  | _ => FX.eq undef
end Go.Proofs.Ytmaccmgmcahopaa
namespace Go.Proofs.Ytmaccmgmcahopaa
open Go.RowKit
set_option maxRecDepth 100000 in
set_option maxHeartbeats 4000000 in
theorem isDataOf_any (p : PP) (a : Option Addr) (cap : Nat) (ep : Int) (w : World) (hn : p.data.length ≤ maxLen) :
    Calls Try.prog 51 #[.agg #[.int .i64 p.kind, .int .i64 p.epoch, .int .i64 p.seq, .int .i64 p.count, .bool p.last, .slice a p.data.length cap], .int .i64 ep] w fun e w' => e = .returned (.bool (dataB p ep)) ∧ Below w.heap.size w w' := by
  have HV := hid (validPacket_any p a cap (w.alloc (.cells #[.int .i64 p.kind, .int .i64 p.epoch, .int .i64 p.seq, .int .i64 p.count, .bool p.last, .slice a p.data.length cap] 35)) hn)
  have HB0 := hid (below_new1 w (.cells #[.int .i64 p.kind, .int .i64 p.epoch, .int .i64 p.seq, .int .i64 p.count, .bool p.last, .slice a p.data.length cap] 35))
  have HK0 : Hid ((w.alloc (.cells #[.int .i64 p.kind, .int .i64 p.epoch, .int .i64 p.seq, .int .i64 p.count, .bool p.last, .slice a p.data.length cap] 35)).heap[w.heap.size]? = some (.cells #[.int .i64 p.kind, .int .i64 p.epoch, .int .i64 p.seq, .int .i64 p.count, .bool p.last, .slice a p.data.length cap] 35 (0, 0))) := hid (heap_alloc_new w _)
  have HD : Hid (dataB p ep = (pktOK p && (decide (p.kind = 1) && decide (p.epoch = ep)))) := hid rfl
  clear hn
  go_enter Try.func51, Try.ntmps51
  go_wp2_with fail
  refine HV.out.mono ?_
  rintro e w2 ⟨rfl, b2⟩
  have hx := box_laterP2 HK0.out b2
  have z0 := cell_of_row _ _ 0 _ _ _ hx
  have z1 := cell_of_row _ _ 1 _ _ _ hx
  simp only [List.getElem?_toArray, List.getElem?_cons_zero, List.getElem?_cons_succ] at z0 z1
  have HB2 := hid (below_chain HB0.out b2)
  clear b2 hx
  cases hok : pktOK p with
  | false =>
    rw [hok] at HD
    clear hok
    go_wp2
    go_ret
    exact ⟨(by rw [HD.out]; first | done | rfl), HB2.out⟩
  | true =>
    rw [hok] at HD
    clear hok
    by_cases k1 : p.kind = 1
    · have k1t : (p.kind == 1) = true := by simp; omega
      rw [decide_eq_true k1] at HD
      clear k1
      by_cases e1 : p.epoch = ep
      · have e1t : (p.epoch == ep) = true := by simp; omega
        rw [decide_eq_true e1] at HD
        clear e1
        go_wp2
        go_ret
        exact ⟨(by rw [HD.out]; first | done | rfl), HB2.out⟩
      · have e1t : (p.epoch == ep) = false := by simp; omega
        rw [decide_eq_false e1] at HD
        clear e1
        go_wp2
        go_ret
        exact ⟨(by rw [HD.out]; first | done | rfl), HB2.out⟩
    · have k1t : (p.kind == 1) = false := by simp; omega
      rw [decide_eq_false k1] at HD
      clear k1
      go_wp2
      go_ret
      exact ⟨(by rw [HD.out]; first | done | rfl), HB2.out⟩
end Go.Proofs.Ytmaccmgmcahopaa
