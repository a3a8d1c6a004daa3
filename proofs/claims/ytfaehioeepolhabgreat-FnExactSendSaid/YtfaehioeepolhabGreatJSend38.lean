/- ResD, DecLib, PkDecKit, NewPk, PktOKI. -/
import Derived.Test.YtfaehioeepolhabGreatJSend1
import Derived.Laws.ResultCell
import Derived.Test.YtfaehioeepolhabGreatJSend12
import Derived.Test.YtfaehioeepolhabGreatJSend7
import Derived.Test.YtfaehioeepolhabGreatJSend14
import Derived.Test.YtfaehioeepolhabGreatJSend4
import Derived.Test.YtfaehioeepolhabGreatJSend18
import Derived.Handy
/- A struct and a number handed back. No program. -/
namespace Go.Proofs.YtfaehioeepolhabGreat
open Go.RowKit

theorem results_cell_row_tmpD {P : Program} {fn : Func} {p u : Tmp} {ty : TypeId} (h : fn.results = #[.cell p ty, .tmp u]) (tmps : Array Value) (w : World) (g : Nat) (t : TypeId) (cs : Array Value) (fr : Nat × Nat) (d : TypeDesc)
    (hp : tmps.getD p undef = .pointer (some ⟨g, 0, none⟩)) (hg : w.heap[g]? = some (.cells cs t fr))
    (hu : P.underlying ty = some d) (hd : (match d with | .struct _ | .array _ _ => true | _ => false) = true) (hi : (P.info? ty).map (·.size) = some cs.size) :
    (results fn tmps).run P w = .ok (.tuple #[.agg cs, tmps.getD u undef]) w := by
  rw [results_cell_tmp h, hp]
  simp [asAddr, run_loadVar_row w g t ty cs fr d hg hu hd hi]

end Go.Proofs.YtfaehioeepolhabGreat

/- A struct and a code as results; pieces and single bytes of what came in. -/
namespace Go.Proofs.YtfaehioeepolhabGreat
open Go.RowKit

/-- A piece of some bytes. -/
theorem rdB_cut {w : World} {xs : List Nat} {b off cap lo n : Nat} (h : RdSl cByte w xs (.slice (some ⟨b, off, none⟩) xs.length cap)) (hk : lo + n ≤ xs.length) : RdSl cByte w ((xs.drop lo).take n) (.slice (some ⟨b, off + lo, none⟩) n (cap - lo)) := by
  have := h.cut (lo := lo) (R := n) hk
  rw [show cByte.n = 1 from rfl, Nat.mul_one] at this
  simpa [addr_add0] using this

theorem byte_at {w : World} {xs : List Nat} {a : Option Addr} {n cap k : Nat} (h : RdSl cByte w xs (.slice a n cap)) (hk : k < xs.length) : ∃ b off K, a = some ⟨b, off, none⟩ ∧ xs[k]? = some K ∧ K < 256 ∧ w.cell? ⟨b, off + k, none⟩ = some (.int .u8 (K : Int)) := by
  obtain ⟨b, off, v, e, ⟨e2, h2⟩, d⟩ := h.at1 (k := k) rfl hk
  simp only [List.cons.injEq, and_true] at e2
  subst e2
  exact ⟨b, off, xs[k], e, List.getElem?_eq_getElem hk, h2, d⟩

end Go.Proofs.YtfaehioeepolhabGreat

/- A packet and a code: what the decoders leave. -/
namespace Go.Proofs.YtfaehioeepolhabGreat
open Go.RowKit

def PdPost (w : World) (p : PP) (C : Int) (e : Ending) (w' : World) : Prop :=
  ∃ a c, e = .returned (.tuple #[.agg #[.int .i64 p.kind, .int .i64 p.epoch, .int .i64 p.seq, .int .i64 p.count, .bool p.last, .slice a p.data.length c], .int .i64 C]) ∧ w'.ownsRow w.heap.size 5 1 (.slice a p.data.length c) p.data.length (byt p.data) ∧ Below w.heap.size w w'
theorem pdPost_nil {w w' : World} {p : PP} {C C' : Int} (hb : Below w.heap.size w w') (hp : p = noPkt) (hC : C = C') : PdPost w p C (.returned (.tuple #[.agg #[.int .i64 0, .int .i64 0, .int .i64 0, .int .i64 0, .bool false, .slice none 0 0], .int .i64 C'])) w' := by
  subst hp hC
  exact ⟨none, 0, rfl, World.ownsRow_nil _ _ _ _, hb⟩
def fcRowD (lo : Nat) (D : List Nat) : Fct := ⟨fun v w => w.ownsRow lo 5 1 v D.length (byt D), fun _ _ _ h hb => own_later h hb⟩
def fcAggD (lo K E C : Nat) (SI : Int) (LB : Bool) (D : List Nat) : Fct := ⟨fun v w => ∃ a c, v = .agg #[.int .i64 (K : Int), .int .i64 (E : Int), .int .i64 SI, .int .i64 (C : Int), .bool LB, .slice a D.length c] ∧ w.ownsRow lo 5 1 (.slice a D.length c) D.length (byt D), fun _ _ _ ⟨a, c, e, h⟩ hb => ⟨a, c, e, own_later h hb⟩⟩
def fcNewD (lo : Nat) : Fct := ⟨fun v w => ∃ g, v = .pointer (some ⟨g, 0, none⟩) ∧ lo ≤ g ∧ w.heap[g]? = some (.cells #[.int .i64 0, .int .i64 0, .int .i64 0, .int .i64 0, .bool false, .slice none 0 0] 139 (0, 0)), fun _ _ _ ⟨g, e, l, h⟩ hb => ⟨g, e, l, (hb.block _ (Array.getElem?_eq_some_iff.1 h).1).trans h⟩⟩
/-- A row of another kind lies in another block than a box. -/
theorem box_far {w : World} {gm : Nat} {cs : Array Value} {t : TypeId} {B n s : Nat} {e : TypeId} {u : Value} {vs : List Value} {k : Nat} (hb : w.heap[gm]? = some (.cells cs t (0, 0))) (ho : w.ownsRow B e s u n vs) (hne : e ≠ t) (hk : u.ownBlock = some k) : k ≠ gm := by
  intro he
  subst he
  rcases ho.2 with ⟨rfl, _⟩ | ⟨g, cap, cur, rfl, _, hh, _⟩
  · simp [Value.ownBlock] at hk
  · simp [Value.ownBlock] at hk
    subst hk
    rw [hb] at hh
    simp at hh
    exact hne hh.2.symm
theorem box_laterP {w w' : World} {g : Nat} {o : Obj} (h : w.heap[g]? = some o) (hb : Below w.heap.size w w') : w'.heap[g]? = some o := (hb.block g (Array.getElem?_eq_some_iff.1 h).1).trans h
theorem pktG_in {xs : List Nat} {K E S C : Nat} {L : Bool} {D : List Nat} (hK : K < 256) (hE : E < 4294967296) (_hS : S < 18446744073709551616) (hC : C < 4294967296) (h : pktG xs = ⟨(K : Int), (E : Int), wrap64 (S : Int), (C : Int), L, D⟩) : PPIn (pktG xs) := by
  rw [h]
  refine ⟨?_, ?_, ?_, ?_⟩ <;> unfold IntIn <;> try (unfold wrap64) <;> dsimp only <;> omega

end Go.Proofs.YtfaehioeepolhabGreat

/- A packet made in a region that draws its order. No program. -/
namespace Go.Proofs.YtfaehioeepolhabGreat
open Go.RowKit

def fcAggW (lo : Nat) (e nx : Int) (k N : Nat) (D : List Nat) : Fct := ⟨fun v w => ∃ a c, v = .agg #[.int .i64 1, .int .i64 e, .int .i64 (nx + (k : Int)), .int .i64 0, .bool ((k : Int) == (N : Int) - 1), .slice a D.length c] ∧ w.ownsRow lo 5 1 (.slice a D.length c) D.length (byt D), fun _ _ _ ⟨a, c, e, h⟩ hb => ⟨a, c, e, own_later h hb⟩⟩
def npH (lo : Nat) (e nx : Int) (k N : Nat) (D : List Nat) (AL ST : Nat) (x : Nat → Bool) (t : Nat → Value) (w : World) : Prop := x ST = true → ∃ g a c, t AL = .pointer (some ⟨g, 0, none⟩) ∧ lo ≤ g ∧ w.heap[g]? = some (.cells #[.int .i64 1, .int .i64 e, .int .i64 (nx + (k : Int)), .int .i64 0, .bool ((k : Int) == (N : Int) - 1), .slice a D.length c] 139 (0, 0)) ∧ w.ownsRow lo 5 1 (.slice a D.length c) D.length (byt D) ∧ ∀ x, (Value.slice a D.length c).ownBlock = some x → x ≠ g
set_option linter.unusedVariables false in
def npST (lo gO k N bm om cm PL : Nat) (e nx : Int) (D : List Nat) : Nat → FX
  | 0 => FX.eq (.pointer (some ⟨gO, 0, none⟩))
  | 1 => FX.eq (.int .i64 e)
  | 2 => FX.eq (.pointer (some ⟨gO, 1, none⟩))
  | 3 => FX.eq (.int .i64 nx)
  | 4 => FX.eq (.int .i64 (k : Int))
  | 5 => FX.eq (.int .i64 (nx + (k : Int)))
  | 6 => FX.eq (.int .i64 (k : Int))
  | 7 => FX.eq (.int .i64 (N : Int))
  | 8 => FX.eq (.int .i64 ((N : Int) - 1))
  | 9 => FX.eq (.bool ((k : Int) == (N : Int) - 1))
  | 10 => FX.eq (.slice (some ⟨bm, om + k * 100, none⟩) PL (cm - k * 100))
  | 11 => FX.pre [14] (fcRowD lo D)
  | 12 => FX.pre [14] (fcAggW lo e nx k N D)
  | 13 => FX.pre [14] (fcNewD lo)
  | 14 => FX.is Fct.any
  | _ => FX.eq undef

set_option linter.unusedVariables false in
def npIT (lo gO k N bm om cm PL : Nat) (e nx : Int) (D : List Nat) : Nat → FX
  | 0 => FX.eq (.pointer (some ⟨gO, 0, none⟩))
  | 1 => FX.eq (.int .i64 e)
  | 2 => FX.eq (.pointer (some ⟨gO, 1, none⟩))
  | 3 => FX.eq (.int .i64 nx)
  | 4 => FX.eq (.int .i64 (k : Int))
  | 5 => FX.eq (.int .i64 (nx + (k : Int)))
  | 6 => FX.eq (.int .i64 (k : Int))
  | 7 => FX.eq (.int .i64 (N : Int))
  | 8 => FX.eq (.int .i64 ((N : Int) - 1))
  | 9 => FX.eq (.bool ((k : Int) == (N : Int) - 1))
  | 10 => FX.eq (.slice (some ⟨bm, om, none⟩) PL cm)
  | 11 => FX.eq (.int .i64 (k : Int))
  | 12 => FX.pre [15] (fcRowD lo D)
  | 13 => FX.pre [15] (fcAggW lo e nx k N D)
  | 14 => FX.pre [15] (fcNewD lo)
  | 15 => FX.is Fct.any
  | _ => FX.eq undef

end Go.Proofs.YtfaehioeepolhabGreat

/- Is a packet valid? impl.validPacket -/
namespace Go.Proofs.YtfaehioeepolhabGreat
open Go.RowKit

set_option maxHeartbeats 1000000 in
theorem within_any (n lo hi : Int) (w : World) : Calls Tryz.prog 76 #[.int .i64 n, .int .i64 lo, .int .i64 hi] w fun e w' => e = .returned (.bool (decide (lo ≤ n ∧ n ≤ hi))) ∧ w' = w := by
  by_cases h1 : lo ≤ n
  · have HD : Hid (decide (lo ≤ n ∧ n ≤ hi) = decide (n ≤ hi)) := hid (by by_cases h2 : n ≤ hi <;> simp [h1, h2])
    rw [HD.out]
    go_enter Tryz.func76, Tryz.ntmps76
    go_wp2
    go_ret
    exact ⟨rfl, rfl⟩
  · have HD : Hid (decide (lo ≤ n ∧ n ≤ hi) = false) := hid (decide_eq_false (fun h => h1 h.1))
    rw [HD.out]
    go_enter Tryz.func76, Tryz.ntmps76
    go_wp2
    go_ret
    exact ⟨rfl, rfl⟩

set_option maxHeartbeats 4000000 in
theorem validPacket_raw (kind epoch seq count : Int) (last : Bool) (a : Option Addr) (n cap : Nat) (w : World) (B : Bool) (hT : (1 ≤ epoch ∧ epoch ≤ 1000000000 ∧ 0 ≤ seq ∧ seq ≤ 1000000000000 ∧ 0 ≤ count ∧ count ≤ 1000000000 ∧ ((kind = 1 ∧ seq < 1000000000000 ∧ count = 0 ∧ 1 ≤ n ∧ n ≤ 100) ∨ (lastN last = 0 ∧ n = 0 ∧ (kind = 2 ∨ (kind = 3 ∧ seq = 0) ∨ (kind = 4 ∧ seq = 0 ∧ count = 0))))) → B = true) (hF : ¬ (1 ≤ epoch ∧ epoch ≤ 1000000000 ∧ 0 ≤ seq ∧ seq ≤ 1000000000000 ∧ 0 ≤ count ∧ count ≤ 1000000000 ∧ ((kind = 1 ∧ seq < 1000000000000 ∧ count = 0 ∧ 1 ≤ n ∧ n ≤ 100) ∨ (lastN last = 0 ∧ n = 0 ∧ (kind = 2 ∨ (kind = 3 ∧ seq = 0) ∨ (kind = 4 ∧ seq = 0 ∧ count = 0))))) → B = false) (hn : n ≤ maxLen) :
    Calls Tryz.prog 146 #[.agg #[.int .i64 kind, .int .i64 epoch, .int .i64 seq, .int .i64 count, .bool last, .slice a n cap]] w fun e w' => e = .returned (.bool B) ∧ Below w.heap.size w w' := by
  have HT := hid hT
  have HF := hid hF
  unfold maxLen at hn
  clear hT hF
  have HE := hid (within_any epoch 1 1000000000 (w.alloc (.cells #[.int .i64 kind, .int .i64 epoch, .int .i64 seq, .int .i64 count, .bool last, .slice a n cap] 139)))
  have HS := hid (within_any seq 0 1000000000000 (w.alloc (.cells #[.int .i64 kind, .int .i64 epoch, .int .i64 seq, .int .i64 count, .bool last, .slice a n cap] 139)))
  have HC := hid (within_any count 0 1000000000 (w.alloc (.cells #[.int .i64 kind, .int .i64 epoch, .int .i64 seq, .int .i64 count, .bool last, .slice a n cap] 139)))
  have HL := hid (within_any (n : Int) 1 100 (w.alloc (.cells #[.int .i64 kind, .int .i64 epoch, .int .i64 seq, .int .i64 count, .bool last, .slice a n cap] 139)))
  by_cases we : 1 ≤ epoch ∧ epoch ≤ 1000000000
  · rw [decide_eq_true we] at HE
    by_cases ws : 0 ≤ seq ∧ seq ≤ 1000000000000
    · rw [decide_eq_true ws] at HS
      by_cases wc : 0 ≤ count ∧ count ≤ 1000000000
      · rw [decide_eq_true wc] at HC
        cases last with
        | true =>
          have hl : lastN true = 1 := rfl
          by_cases k1 : kind = 1
          · subst k1
            by_cases d1 : seq < 1000000000000
            · by_cases d0 : count = 0
              · subst d0
                by_cases dl : 1 ≤ (n : Int) ∧ (n : Int) ≤ 100
                · rw [decide_eq_true dl] at HL
                  have HB := hid (HT.out (by omega))
                  try clear n0
                  go_enter Tryz.func146, Tryz.ntmps146
                  go_wp2_with fail
                  refine (HE.out).mono ?_
                  rintro e w1 ⟨rfl, rfl⟩
                  go_wp2_with fail
                  refine (HS.out).mono ?_
                  rintro e w1 ⟨rfl, rfl⟩
                  go_wp2_with fail
                  refine (HC.out).mono ?_
                  rintro e w1 ⟨rfl, rfl⟩
                  go_wp2_with fail
                  refine (HL.out).mono ?_
                  rintro e w1 ⟨rfl, rfl⟩
                  go_wp2
                  go_ret
                  exact ⟨(by rw [HB.out]; first | done | rfl), below_new1 _ _⟩
                rw [decide_eq_false dl] at HL
                have HB := hid (HF.out (by omega))
                try clear n0
                go_enter Tryz.func146, Tryz.ntmps146
                go_wp2_with fail
                refine (HE.out).mono ?_
                rintro e w1 ⟨rfl, rfl⟩
                go_wp2_with fail
                refine (HS.out).mono ?_
                rintro e w1 ⟨rfl, rfl⟩
                go_wp2_with fail
                refine (HC.out).mono ?_
                rintro e w1 ⟨rfl, rfl⟩
                go_wp2_with fail
                refine (HL.out).mono ?_
                rintro e w1 ⟨rfl, rfl⟩
                go_wp2
                go_ret
                exact ⟨(by rw [HB.out]; first | done | rfl), below_new1 _ _⟩
              have d0' : (count == 0) = false := by simpa using d0
              have HB := hid (HF.out (by omega))
              try clear n0
              go_enter Tryz.func146, Tryz.ntmps146
              go_wp2_with fail
              refine (HE.out).mono ?_
              rintro e w1 ⟨rfl, rfl⟩
              go_wp2_with fail
              refine (HS.out).mono ?_
              rintro e w1 ⟨rfl, rfl⟩
              go_wp2_with fail
              refine (HC.out).mono ?_
              rintro e w1 ⟨rfl, rfl⟩
              go_wp2
              go_ret
              exact ⟨(by rw [HB.out]; first | done | rfl), below_new1 _ _⟩
            have HB := hid (HF.out (by omega))
            try clear n0
            go_enter Tryz.func146, Tryz.ntmps146
            go_wp2_with fail
            refine (HE.out).mono ?_
            rintro e w1 ⟨rfl, rfl⟩
            go_wp2_with fail
            refine (HS.out).mono ?_
            rintro e w1 ⟨rfl, rfl⟩
            go_wp2_with fail
            refine (HC.out).mono ?_
            rintro e w1 ⟨rfl, rfl⟩
            go_wp2
            go_ret
            exact ⟨(by rw [HB.out]; first | done | rfl), below_new1 _ _⟩
          have k1' : (kind == 1) = false := by simpa using k1
          by_cases k2 : kind = 2
          · subst k2
            have HB := hid (HF.out (by omega))
            try clear n0
            go_enter Tryz.func146, Tryz.ntmps146
            go_wp2_with fail
            refine (HE.out).mono ?_
            rintro e w1 ⟨rfl, rfl⟩
            go_wp2_with fail
            refine (HS.out).mono ?_
            rintro e w1 ⟨rfl, rfl⟩
            go_wp2_with fail
            refine (HC.out).mono ?_
            rintro e w1 ⟨rfl, rfl⟩
            go_wp2
            go_ret
            exact ⟨(by rw [HB.out]; first | done | rfl), below_new1 _ _⟩
          have k2' : (kind == 2) = false := by simpa using k2
          by_cases k3 : kind = 3
          · subst k3
            have HB := hid (HF.out (by omega))
            try clear n0
            go_enter Tryz.func146, Tryz.ntmps146
            go_wp2_with fail
            refine (HE.out).mono ?_
            rintro e w1 ⟨rfl, rfl⟩
            go_wp2_with fail
            refine (HS.out).mono ?_
            rintro e w1 ⟨rfl, rfl⟩
            go_wp2_with fail
            refine (HC.out).mono ?_
            rintro e w1 ⟨rfl, rfl⟩
            go_wp2
            go_ret
            exact ⟨(by rw [HB.out]; first | done | rfl), below_new1 _ _⟩
          have k3' : (kind == 3) = false := by simpa using k3
          by_cases k4 : kind = 4
          · subst k4
            have HB := hid (HF.out (by omega))
            try clear n0
            go_enter Tryz.func146, Tryz.ntmps146
            go_wp2_with fail
            refine (HE.out).mono ?_
            rintro e w1 ⟨rfl, rfl⟩
            go_wp2_with fail
            refine (HS.out).mono ?_
            rintro e w1 ⟨rfl, rfl⟩
            go_wp2_with fail
            refine (HC.out).mono ?_
            rintro e w1 ⟨rfl, rfl⟩
            go_wp2
            go_ret
            exact ⟨(by rw [HB.out]; first | done | rfl), below_new1 _ _⟩
          have k4' : (kind == 4) = false := by simpa using k4
          have HB := hid (HF.out (by omega))
          try clear n0
          go_enter Tryz.func146, Tryz.ntmps146
          go_wp2_with fail
          refine (HE.out).mono ?_
          rintro e w1 ⟨rfl, rfl⟩
          go_wp2_with fail
          refine (HS.out).mono ?_
          rintro e w1 ⟨rfl, rfl⟩
          go_wp2_with fail
          refine (HC.out).mono ?_
          rintro e w1 ⟨rfl, rfl⟩
          go_wp2
          go_ret
          exact ⟨(by rw [HB.out]; first | done | rfl), below_new1 _ _⟩
        | false =>
          have hl : lastN false = 0 := rfl
          by_cases n0 : n = 0
          · have n0' : ((n : Int) == 0) = true := by simp; omega
            by_cases k1 : kind = 1
            · subst k1
              by_cases d1 : seq < 1000000000000
              · by_cases d0 : count = 0
                · subst d0
                  by_cases dl : 1 ≤ (n : Int) ∧ (n : Int) ≤ 100
                  · rw [decide_eq_true dl] at HL
                    have HB := hid (HT.out (by omega))
                    try clear n0
                    go_enter Tryz.func146, Tryz.ntmps146
                    go_wp2_with fail
                    refine (HE.out).mono ?_
                    rintro e w1 ⟨rfl, rfl⟩
                    go_wp2_with fail
                    refine (HS.out).mono ?_
                    rintro e w1 ⟨rfl, rfl⟩
                    go_wp2_with fail
                    refine (HC.out).mono ?_
                    rintro e w1 ⟨rfl, rfl⟩
                    go_wp2_with fail
                    refine (HL.out).mono ?_
                    rintro e w1 ⟨rfl, rfl⟩
                    go_wp2
                    go_ret
                    exact ⟨(by rw [HB.out]; first | done | rfl), below_new1 _ _⟩
                  rw [decide_eq_false dl] at HL
                  have HB := hid (HF.out (by omega))
                  try clear n0
                  go_enter Tryz.func146, Tryz.ntmps146
                  go_wp2_with fail
                  refine (HE.out).mono ?_
                  rintro e w1 ⟨rfl, rfl⟩
                  go_wp2_with fail
                  refine (HS.out).mono ?_
                  rintro e w1 ⟨rfl, rfl⟩
                  go_wp2_with fail
                  refine (HC.out).mono ?_
                  rintro e w1 ⟨rfl, rfl⟩
                  go_wp2_with fail
                  refine (HL.out).mono ?_
                  rintro e w1 ⟨rfl, rfl⟩
                  go_wp2
                  go_ret
                  exact ⟨(by rw [HB.out]; first | done | rfl), below_new1 _ _⟩
                have d0' : (count == 0) = false := by simpa using d0
                have HB := hid (HF.out (by omega))
                try clear n0
                go_enter Tryz.func146, Tryz.ntmps146
                go_wp2_with fail
                refine (HE.out).mono ?_
                rintro e w1 ⟨rfl, rfl⟩
                go_wp2_with fail
                refine (HS.out).mono ?_
                rintro e w1 ⟨rfl, rfl⟩
                go_wp2_with fail
                refine (HC.out).mono ?_
                rintro e w1 ⟨rfl, rfl⟩
                go_wp2
                go_ret
                exact ⟨(by rw [HB.out]; first | done | rfl), below_new1 _ _⟩
              have HB := hid (HF.out (by omega))
              try clear n0
              go_enter Tryz.func146, Tryz.ntmps146
              go_wp2_with fail
              refine (HE.out).mono ?_
              rintro e w1 ⟨rfl, rfl⟩
              go_wp2_with fail
              refine (HS.out).mono ?_
              rintro e w1 ⟨rfl, rfl⟩
              go_wp2_with fail
              refine (HC.out).mono ?_
              rintro e w1 ⟨rfl, rfl⟩
              go_wp2
              go_ret
              exact ⟨(by rw [HB.out]; first | done | rfl), below_new1 _ _⟩
            have k1' : (kind == 1) = false := by simpa using k1
            by_cases k2 : kind = 2
            · subst k2
              have HB := hid (HT.out (by omega))
              try clear n0
              go_enter Tryz.func146, Tryz.ntmps146
              go_wp2_with fail
              refine (HE.out).mono ?_
              rintro e w1 ⟨rfl, rfl⟩
              go_wp2_with fail
              refine (HS.out).mono ?_
              rintro e w1 ⟨rfl, rfl⟩
              go_wp2_with fail
              refine (HC.out).mono ?_
              rintro e w1 ⟨rfl, rfl⟩
              go_wp2
              go_ret
              exact ⟨(by rw [HB.out]; first | done | rfl), below_new1 _ _⟩
            have k2' : (kind == 2) = false := by simpa using k2
            by_cases k3 : kind = 3
            · subst k3
              by_cases s0 : seq = 0
              · subst s0
                have HB := hid (HT.out (by omega))
                try clear n0
                go_enter Tryz.func146, Tryz.ntmps146
                go_wp2_with fail
                refine (HE.out).mono ?_
                rintro e w1 ⟨rfl, rfl⟩
                go_wp2_with fail
                refine (HS.out).mono ?_
                rintro e w1 ⟨rfl, rfl⟩
                go_wp2_with fail
                refine (HC.out).mono ?_
                rintro e w1 ⟨rfl, rfl⟩
                go_wp2
                go_ret
                exact ⟨(by rw [HB.out]; first | done | rfl), below_new1 _ _⟩
              have s0' : (seq == 0) = false := by simpa using s0
              have HB := hid (HF.out (by omega))
              try clear n0
              go_enter Tryz.func146, Tryz.ntmps146
              go_wp2_with fail
              refine (HE.out).mono ?_
              rintro e w1 ⟨rfl, rfl⟩
              go_wp2_with fail
              refine (HS.out).mono ?_
              rintro e w1 ⟨rfl, rfl⟩
              go_wp2_with fail
              refine (HC.out).mono ?_
              rintro e w1 ⟨rfl, rfl⟩
              go_wp2
              go_ret
              exact ⟨(by rw [HB.out]; first | done | rfl), below_new1 _ _⟩
            have k3' : (kind == 3) = false := by simpa using k3
            by_cases k4 : kind = 4
            · subst k4
              by_cases s0 : seq = 0
              · subst s0
                by_cases x0 : count = 0
                · subst x0
                  have HB := hid (HT.out (by omega))
                  try clear n0
                  go_enter Tryz.func146, Tryz.ntmps146
                  go_wp2_with fail
                  refine (HE.out).mono ?_
                  rintro e w1 ⟨rfl, rfl⟩
                  go_wp2_with fail
                  refine (HS.out).mono ?_
                  rintro e w1 ⟨rfl, rfl⟩
                  go_wp2_with fail
                  refine (HC.out).mono ?_
                  rintro e w1 ⟨rfl, rfl⟩
                  go_wp2
                  go_ret
                  exact ⟨(by rw [HB.out]; first | done | rfl), below_new1 _ _⟩
                have x0' : (count == 0) = false := by simpa using x0
                have HB := hid (HF.out (by omega))
                try clear n0
                go_enter Tryz.func146, Tryz.ntmps146
                go_wp2_with fail
                refine (HE.out).mono ?_
                rintro e w1 ⟨rfl, rfl⟩
                go_wp2_with fail
                refine (HS.out).mono ?_
                rintro e w1 ⟨rfl, rfl⟩
                go_wp2_with fail
                refine (HC.out).mono ?_
                rintro e w1 ⟨rfl, rfl⟩
                go_wp2
                go_ret
                exact ⟨(by rw [HB.out]; first | done | rfl), below_new1 _ _⟩
              have s0' : (seq == 0) = false := by simpa using s0
              have HB := hid (HF.out (by omega))
              try clear n0
              go_enter Tryz.func146, Tryz.ntmps146
              go_wp2_with fail
              refine (HE.out).mono ?_
              rintro e w1 ⟨rfl, rfl⟩
              go_wp2_with fail
              refine (HS.out).mono ?_
              rintro e w1 ⟨rfl, rfl⟩
              go_wp2_with fail
              refine (HC.out).mono ?_
              rintro e w1 ⟨rfl, rfl⟩
              go_wp2
              go_ret
              exact ⟨(by rw [HB.out]; first | done | rfl), below_new1 _ _⟩
            have k4' : (kind == 4) = false := by simpa using k4
            have HB := hid (HF.out (by omega))
            try clear n0
            go_enter Tryz.func146, Tryz.ntmps146
            go_wp2_with fail
            refine (HE.out).mono ?_
            rintro e w1 ⟨rfl, rfl⟩
            go_wp2_with fail
            refine (HS.out).mono ?_
            rintro e w1 ⟨rfl, rfl⟩
            go_wp2_with fail
            refine (HC.out).mono ?_
            rintro e w1 ⟨rfl, rfl⟩
            go_wp2
            go_ret
            exact ⟨(by rw [HB.out]; first | done | rfl), below_new1 _ _⟩
          have n0' : ((n : Int) == 0) = false := by simp; omega
          by_cases k1 : kind = 1
          · subst k1
            by_cases d1 : seq < 1000000000000
            · by_cases d0 : count = 0
              · subst d0
                by_cases dl : 1 ≤ (n : Int) ∧ (n : Int) ≤ 100
                · rw [decide_eq_true dl] at HL
                  have HB := hid (HT.out (by omega))
                  try clear n0
                  go_enter Tryz.func146, Tryz.ntmps146
                  go_wp2_with fail
                  refine (HE.out).mono ?_
                  rintro e w1 ⟨rfl, rfl⟩
                  go_wp2_with fail
                  refine (HS.out).mono ?_
                  rintro e w1 ⟨rfl, rfl⟩
                  go_wp2_with fail
                  refine (HC.out).mono ?_
                  rintro e w1 ⟨rfl, rfl⟩
                  go_wp2_with fail
                  refine (HL.out).mono ?_
                  rintro e w1 ⟨rfl, rfl⟩
                  go_wp2
                  go_ret
                  exact ⟨(by rw [HB.out]; first | done | rfl), below_new1 _ _⟩
                rw [decide_eq_false dl] at HL
                have HB := hid (HF.out (by omega))
                try clear n0
                go_enter Tryz.func146, Tryz.ntmps146
                go_wp2_with fail
                refine (HE.out).mono ?_
                rintro e w1 ⟨rfl, rfl⟩
                go_wp2_with fail
                refine (HS.out).mono ?_
                rintro e w1 ⟨rfl, rfl⟩
                go_wp2_with fail
                refine (HC.out).mono ?_
                rintro e w1 ⟨rfl, rfl⟩
                go_wp2_with fail
                refine (HL.out).mono ?_
                rintro e w1 ⟨rfl, rfl⟩
                go_wp2
                go_ret
                exact ⟨(by rw [HB.out]; first | done | rfl), below_new1 _ _⟩
              have d0' : (count == 0) = false := by simpa using d0
              have HB := hid (HF.out (by omega))
              try clear n0
              go_enter Tryz.func146, Tryz.ntmps146
              go_wp2_with fail
              refine (HE.out).mono ?_
              rintro e w1 ⟨rfl, rfl⟩
              go_wp2_with fail
              refine (HS.out).mono ?_
              rintro e w1 ⟨rfl, rfl⟩
              go_wp2_with fail
              refine (HC.out).mono ?_
              rintro e w1 ⟨rfl, rfl⟩
              go_wp2
              go_ret
              exact ⟨(by rw [HB.out]; first | done | rfl), below_new1 _ _⟩
            have HB := hid (HF.out (by omega))
            try clear n0
            go_enter Tryz.func146, Tryz.ntmps146
            go_wp2_with fail
            refine (HE.out).mono ?_
            rintro e w1 ⟨rfl, rfl⟩
            go_wp2_with fail
            refine (HS.out).mono ?_
            rintro e w1 ⟨rfl, rfl⟩
            go_wp2_with fail
            refine (HC.out).mono ?_
            rintro e w1 ⟨rfl, rfl⟩
            go_wp2
            go_ret
            exact ⟨(by rw [HB.out]; first | done | rfl), below_new1 _ _⟩
          have k1' : (kind == 1) = false := by simpa using k1
          by_cases k2 : kind = 2
          · subst k2
            have HB := hid (HF.out (by omega))
            try clear n0
            go_enter Tryz.func146, Tryz.ntmps146
            go_wp2_with fail
            refine (HE.out).mono ?_
            rintro e w1 ⟨rfl, rfl⟩
            go_wp2_with fail
            refine (HS.out).mono ?_
            rintro e w1 ⟨rfl, rfl⟩
            go_wp2_with fail
            refine (HC.out).mono ?_
            rintro e w1 ⟨rfl, rfl⟩
            go_wp2
            go_ret
            exact ⟨(by rw [HB.out]; first | done | rfl), below_new1 _ _⟩
          have k2' : (kind == 2) = false := by simpa using k2
          by_cases k3 : kind = 3
          · subst k3
            have HB := hid (HF.out (by omega))
            try clear n0
            go_enter Tryz.func146, Tryz.ntmps146
            go_wp2_with fail
            refine (HE.out).mono ?_
            rintro e w1 ⟨rfl, rfl⟩
            go_wp2_with fail
            refine (HS.out).mono ?_
            rintro e w1 ⟨rfl, rfl⟩
            go_wp2_with fail
            refine (HC.out).mono ?_
            rintro e w1 ⟨rfl, rfl⟩
            go_wp2
            go_ret
            exact ⟨(by rw [HB.out]; first | done | rfl), below_new1 _ _⟩
          have k3' : (kind == 3) = false := by simpa using k3
          by_cases k4 : kind = 4
          · subst k4
            have HB := hid (HF.out (by omega))
            try clear n0
            go_enter Tryz.func146, Tryz.ntmps146
            go_wp2_with fail
            refine (HE.out).mono ?_
            rintro e w1 ⟨rfl, rfl⟩
            go_wp2_with fail
            refine (HS.out).mono ?_
            rintro e w1 ⟨rfl, rfl⟩
            go_wp2_with fail
            refine (HC.out).mono ?_
            rintro e w1 ⟨rfl, rfl⟩
            go_wp2
            go_ret
            exact ⟨(by rw [HB.out]; first | done | rfl), below_new1 _ _⟩
          have k4' : (kind == 4) = false := by simpa using k4
          have HB := hid (HF.out (by omega))
          try clear n0
          go_enter Tryz.func146, Tryz.ntmps146
          go_wp2_with fail
          refine (HE.out).mono ?_
          rintro e w1 ⟨rfl, rfl⟩
          go_wp2_with fail
          refine (HS.out).mono ?_
          rintro e w1 ⟨rfl, rfl⟩
          go_wp2_with fail
          refine (HC.out).mono ?_
          rintro e w1 ⟨rfl, rfl⟩
          go_wp2
          go_ret
          exact ⟨(by rw [HB.out]; first | done | rfl), below_new1 _ _⟩
      rw [decide_eq_false wc] at HC
      have HB := hid (HF.out (by omega))
      try clear n0
      go_enter Tryz.func146, Tryz.ntmps146
      go_wp2_with fail
      refine (HE.out).mono ?_
      rintro e w1 ⟨rfl, rfl⟩
      go_wp2_with fail
      refine (HS.out).mono ?_
      rintro e w1 ⟨rfl, rfl⟩
      go_wp2_with fail
      refine (HC.out).mono ?_
      rintro e w1 ⟨rfl, rfl⟩
      go_wp2
      go_ret
      exact ⟨(by rw [HB.out]; first | done | rfl), below_new1 _ _⟩
    rw [decide_eq_false ws] at HS
    have HB := hid (HF.out (by omega))
    try clear n0
    go_enter Tryz.func146, Tryz.ntmps146
    go_wp2_with fail
    refine (HE.out).mono ?_
    rintro e w1 ⟨rfl, rfl⟩
    go_wp2_with fail
    refine (HS.out).mono ?_
    rintro e w1 ⟨rfl, rfl⟩
    go_wp2
    go_ret
    exact ⟨(by rw [HB.out]; first | done | rfl), below_new1 _ _⟩
  rw [decide_eq_false we] at HE
  have HB := hid (HF.out (by omega))
  try clear n0
  go_enter Tryz.func146, Tryz.ntmps146
  go_wp2_with fail
  refine (HE.out).mono ?_
  rintro e w1 ⟨rfl, rfl⟩
  go_wp2
  go_ret
  exact ⟨(by rw [HB.out]; first | done | rfl), below_new1 _ _⟩

theorem validPacket_any (p : PP) (a : Option Addr) (cap : Nat) (w : World) (hn : p.data.length ≤ maxLen) :
    Calls Tryz.prog 146 #[.agg #[.int .i64 p.kind, .int .i64 p.epoch, .int .i64 p.seq, .int .i64 p.count, .bool p.last, .slice a p.data.length cap]] w fun e w' => e = .returned (.bool (pktOK p)) ∧ Below w.heap.size w w' :=
  validPacket_raw p.kind p.epoch p.seq p.count p.last a p.data.length cap w (pktOK p) (fun h => decide_eq_true h) (fun h => decide_eq_false h) hn

end Go.Proofs.YtfaehioeepolhabGreat
