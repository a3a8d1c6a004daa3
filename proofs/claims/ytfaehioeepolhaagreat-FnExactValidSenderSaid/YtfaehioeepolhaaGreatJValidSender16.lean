/- OpenStr, Opn6, PktMath. -/
import Derived.Test.YtfaehioeepolhaaGreatJValidSender2
import Derived.Test.YtfaehioeepolhaaGreatJValidSender6
import Derived.Test.YtfaehioeepolhaaGreatJValidSender15
import Derived.Test.YtfaehioeepolhaaGreatJValidSender11
/- Streams that came in. -/
namespace Go.Proofs.YtfaehioeepolhaaGreat
open Go.ChangeShapes Go.WideShapes Go.ChangeAt Go.RowKit

theorem opens_SSS {H : Type} (enc : TypeId × Value → H) (W : World) : Opens enc Tryz.prog W 27 (cSl cSSS 123) :=
  opens_slice Tryz.underlying27 (by kernel_rfl) (by decide) (opens_SS enc W) _
def cStr : Cod PStr := cMap (cPair cBool (cPair (cSl cField 98) (cPair cInt (cSl cSSS 123)))) fun s => (s.opened, s.fields, s.next, s.dicts)
theorem opens_Str {H : Type} (enc : TypeId × Value → H) (W : World) : Opens enc Tryz.prog W 29 cStr :=
  opens_struct4 Tryz.underlying29 rfl rfl rfl rfl rfl (by kernel_rfl) (by kernel_rfl) (by kernel_rfl) (by kernel_rfl) (by kernel_rfl) (opens_bool Tryz.underlying4) (opens_FieldS enc W) (opens_int Tryz.underlying3) (opens_SSS enc W) (fun x y z u => ⟨x, y, z, u⟩) (fun _ _ _ _ => rfl)
def StreamIn (w : World) (v : Value) : Prop := ∃ (s : PStr) (a b : Option Addr) (c d : Nat), v = .agg #[.bool s.opened, .slice a s.fields.length c, .int .i64 s.next, .slice b s.dicts.length d] ∧ RdStr w s a c b d ∧ IntIn s.next
theorem streamIn_of {H : Type} {enc : TypeId × Value → H} {W : World} {v : Value} {d : DataW H} {p : List MemPlace} (hv : ∃ cs, v = .agg cs ∧ cs.size = Tryz.prog.cellsOf 29) (h : DataW.Trod enc Tryz.prog W 0 (fun _ => true) true 29 v d p) : StreamIn W v := by
  obtain ⟨s, cs, rfl, hr⟩ := Opens.st (opens_Str enc W) hv (by decide +kernel) h
  obtain ⟨_, _, rfl, rfl, _, _, rfl, ⟨u, rfl, hu⟩, _, _, rfl, ⟨rfl, i3⟩, u2, rfl, hu2⟩ := hr
  obtain ⟨a, c, rfl, -⟩ := id hu
  obtain ⟨b, d, rfl, -⟩ := id hu2
  exact ⟨s, a, b, c, d, rfl, ⟨hu, hu2⟩, i3⟩

end Go.Proofs.YtfaehioeepolhaaGreat

/- Structs of six fields that came in. No program. -/
namespace Go.Proofs.YtfaehioeepolhaaGreat
open Go.ChangeShapes Go.WideShapes Go.ChangeAt Go.RowKit

section
variable {H : Type} {enc : TypeId × Value → H} {P : Program} {w : World}

theorem opens_struct6 {α β γ δ ε ζ η : Type} {t : TypeId} {fs : Array Field} {f0 f1 f2 f3 f4 f5 : Field} {a : Cod α} {b : Cod β} {c : Cod γ} {d : Cod δ} {g : Cod ε} {h : Cod ζ} {f : η → α × β × γ × δ × ε × ζ} (ht : P.underlying t = some (.struct fs)) (hf : fs = #[f0, f1, f2, f3, f4, f5])
    (o0 : f0.offset = 0) (o1 : f1.offset = a.n) (o2 : f2.offset = a.n + b.n) (o3 : f3.offset = a.n + b.n + c.n) (o4 : f4.offset = a.n + b.n + c.n + d.n) (o5 : f5.offset = a.n + b.n + c.n + d.n + g.n)
    (n0 : P.cellsOf f0.type = a.n) (n1 : P.cellsOf f1.type = b.n) (n2 : P.cellsOf f2.type = c.n) (n3 : P.cellsOf f3.type = d.n) (n4 : P.cellsOf f4.type = g.n) (n5 : P.cellsOf f5.type = h.n) (hs : P.cellsOf t = a.n + (b.n + (c.n + (d.n + (g.n + h.n)))))
    (h0 : Opens enc P w f0.type a) (h1 : Opens enc P w f1.type b) (h2 : Opens enc P w f2.type c) (h3 : Opens enc P w f3.type d) (h4 : Opens enc P w f4.type g) (h5 : Opens enc P w f5.type h) (inv : α → β → γ → δ → ε → ζ → η) (hi : ∀ x y z u v s, f (inv x y z u v s) = (x, y, z, u, v, s)) : Opens enc P w t (cMap (cPair a (cPair b (cPair c (cPair d (cPair g h))))) f) := by
  subst hf
  intro fuel cs x hh
  obtain ⟨xs, k, _, _, hl, hxl, hfx⟩ := DataW.trod_struct ht hh
  have g0 := hfx 0 f0 rfl
  have g1 := hfx 1 f1 rfl
  have g2 := hfx 2 f2 rfl
  have g3 := hfx 3 f3 rfl
  have g4 := hfx 4 f4 rfl
  have g5 := hfx 5 f5 rfl
  match xs, hxl with
  | [y0, y1, y2, y3, y4, y5], _ =>
    obtain ⟨z0, r0⟩ := h0 _ _ _ g0
    obtain ⟨z1, r1⟩ := h1 _ _ _ g1
    obtain ⟨z2, r2⟩ := h2 _ _ _ g2
    obtain ⟨z3, r3⟩ := h3 _ _ _ g3
    obtain ⟨z4, r4⟩ := h4 _ _ _ g4
    obtain ⟨z5, r5⟩ := h5 _ _ _ g5
    refine ⟨inv z0 z1 z2 z3 z4 z5, ?_⟩
    show (cPair a (cPair b (cPair c (cPair d (cPair g h))))).rd w (f (inv z0 z1 z2 z3 z4 z5)) cs
    rw [hi]
    rw [o0, n0, List.drop_zero] at r0
    rw [o1, n1] at r1
    rw [o2, n2, ← List.drop_drop] at r2
    rw [o3, n3, ← List.drop_drop, ← List.drop_drop] at r3
    rw [o4, n4, ← List.drop_drop, ← List.drop_drop, ← List.drop_drop] at r4
    rw [o5, n5, List.take_of_length_le (by simp; omega), ← List.drop_drop, ← List.drop_drop, ← List.drop_drop, ← List.drop_drop] at r5
    exact ⟨_, _, (List.take_append_drop a.n cs).symm, r0, _, _, (List.take_append_drop b.n (cs.drop a.n)).symm, r1, _, _, (List.take_append_drop c.n ((cs.drop a.n).drop b.n)).symm, r2, _, _, (List.take_append_drop d.n (((cs.drop a.n).drop b.n).drop c.n)).symm, r3, _, _, (List.take_append_drop g.n ((((cs.drop a.n).drop b.n).drop c.n).drop d.n)).symm, r4, r5⟩
end
end Go.Proofs.YtfaehioeepolhaaGreat

/- Packets in bytes, plainly. No program. -/
namespace Go.Proofs.YtfaehioeepolhaaGreat
open Go.RowKit

structure PP where
  kind : Int
  epoch : Int
  seq : Int
  count : Int
  last : Bool
  data : List Nat
def lastN (b : Bool) : Nat := if b then 1 else 0
theorem lastN_lt (b : Bool) : lastN b < 256 := by cases b <;> decide
theorem lastN_0 {b : Bool} : lastN b = 0 ↔ b = false := by cases b <;> decide
/-- What a packet must be. -/
def PktOK (p : PP) : Prop := 1 ≤ p.epoch ∧ p.epoch ≤ 1000000000 ∧ 0 ≤ p.seq ∧ p.seq ≤ 1000000000000 ∧ 0 ≤ p.count ∧ p.count ≤ 1000000000 ∧
  ((p.kind = 1 ∧ p.seq < 1000000000000 ∧ p.count = 0 ∧ 1 ≤ p.data.length ∧ p.data.length ≤ 100) ∨ (lastN p.last = 0 ∧ p.data.length = 0 ∧ (p.kind = 2 ∨ (p.kind = 3 ∧ p.seq = 0) ∨ (p.kind = 4 ∧ p.seq = 0 ∧ p.count = 0))))
instance (p : PP) : Decidable (PktOK p) := by unfold PktOK; infer_instance
def pktOK (p : PP) : Bool := decide (PktOK p)
def headP (K E S C : Nat) (L : Bool) (D : List Nat) : List Nat := [67, K] ++ (digs E 4 ++ (digs S 8 ++ (digs C 4 ++ ([lastN L] ++ (digs D.length 2 ++ D)))))
theorem headP_len (K E S C : Nat) (L : Bool) (D : List Nat) : (headP K E S C L D).length = 21 + D.length := by simp [headP, digs_len]; omega
theorem headP_lt {K E S C : Nat} {L : Bool} {D : List Nat} (hK : K < 256) (hD : ∀ x ∈ D, x < 256) : ∀ x ∈ headP K E S C L D, x < 256 := by
  intro x hx
  simp only [headP, List.mem_append, List.mem_cons, List.not_mem_nil, or_false] at hx
  rcases hx with (rfl | rfl) | h | h | h | rfl | h | h
  · omega
  · exact hK
  · exact digs_lt _ _ x h
  · exact digs_lt _ _ x h
  · exact digs_lt _ _ x h
  · exact lastN_lt _
  · exact digs_lt _ _ x h
  · exact hD x h
def encP (K E S C : Nat) (L : Bool) (D : List Nat) : List Nat := headP K E S C L D ++ digs (crcM (headP K E S C L D)) 4
theorem encP_len (K E S C : Nat) (L : Bool) (D : List Nat) : (encP K E S C L D).length = 25 + D.length := by simp [encP, headP_len, digs_len]; omega
def pktB (p : PP) : List Nat := encP p.kind.toNat p.epoch.toNat p.seq.toNat p.count.toNat p.last p.data
/-- The encoded packet, or nothing. -/
def pktR (p : PP) : List Nat := if pktOK p = true then pktB p else []
theorem pktR_ok {p : PP} (h : pktOK p = true) : pktR p = pktB p := by unfold pktR; rw [if_pos h]
theorem pktR_bad {p : PP} (h : pktOK p = false) : pktR p = [] := by unfold pktR; rw [if_neg (by simp [h])]
theorem pktOK_data {p : PP} (h : pktOK p = true) : p.data.length ≤ 100 := by
  have := of_decide_eq_true h
  unfold PktOK at this
  omega
theorem pktOK_kind {p : PP} (h : pktOK p = true) : 1 ≤ p.kind ∧ p.kind ≤ 4 := by
  have := of_decide_eq_true h
  unfold PktOK at this
  omega
theorem pktR_len (p : PP) : (pktR p).length ≤ 125 := by
  unfold pktR
  split
  · rename_i h
    have := pktOK_data h
    simp only [pktB, encP_len]; omega
  · simp
theorem pktR_lt {p : PP} (hD : ∀ x ∈ p.data, x < 256) : ∀ x ∈ pktR p, x < 256 := by
  intro x hx
  unfold pktR at hx
  split at hx
  · rename_i h
    have hk := pktOK_kind h
    simp only [pktB, encP, List.mem_append] at hx
    rcases hx with hx | hx
    · exact headP_lt (by omega) hD x hx
    · exact digs_lt _ _ x hx
  · simp at hx

/-! ### what is read -/
def pktG (b : List Nat) : PP := ⟨((b[1]?.getD 0 : Nat) : Int), ((num ((b.drop 2).take 4) : Nat) : Int), IntKind.i64.wrap ((num ((b.drop 6).take 8) : Nat) : Int), ((num ((b.drop 14).take 4) : Nat) : Int), b[18]?.getD 0 == 1, (b.drop 21).take (b.length - 25)⟩
def noPkt : PP := ⟨0, 0, 0, 0, false, []⟩
def okB (b : List Nat) : Bool := decide (25 ≤ b.length) && decide (pktR (pktG b) = b)
def pkP (b : List Nat) : PP := if okB b = true then pktG b else noPkt
def pkC (b : List Nat) : Int := if okB b = true then 0 else 3
theorem okB_short {b : List Nat} (h : b.length < 25) : okB b = false := by
  unfold okB; rw [decide_eq_false (by omega)]; rfl
theorem okB_long {b : List Nat} (h : 125 < b.length) : okB b = false := by
  unfold okB
  have h1 := pktR_len (pktG b)
  rw [decide_eq_false (p := pktR (pktG b) = b) (fun e => by rw [e] at h1; omega)]
  simp
theorem okB_no {b : List Nat} (h : pktR (pktG b) ≠ b) : okB b = false := by unfold okB; rw [decide_eq_false h]; simp
theorem okB_yes {b : List Nat} (h1 : 25 ≤ b.length) (h : pktR (pktG b) = b) : okB b = true := by unfold okB; rw [decide_eq_true h, decide_eq_true h1]; rfl
theorem pk_no {b : List Nat} (h : okB b = false) : pkP b = noPkt ∧ pkC b = 3 := by simp [pkP, pkC, h]
theorem pk_yes {b : List Nat} (h : okB b = true) : pkP b = pktG b ∧ pkC b = 0 := by simp [pkP, pkC, h]

end Go.Proofs.YtfaehioeepolhaaGreat
