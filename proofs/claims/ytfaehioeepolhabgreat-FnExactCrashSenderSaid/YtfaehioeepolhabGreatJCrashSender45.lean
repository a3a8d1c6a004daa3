import Derived.Test.YtfaehioeepolhabGreatJCrashSender39
import Derived.Test.YtfaehioeepolhabGreatJCrashSender43
import Derived.Test.YtfaehioeepolhabGreatJCrashSender11
import Derived.Test.YtfaehioeepolhabGreatJCrashSender44
namespace Go.Proofs.YtfaehioeepolhabGreat
open Go.RowKit
def noHeap (w : World) : World := { w with heap := #[] }
theorem noHeap_below (w : World) : Below (noHeap w).heap.size (noHeap w) w := ⟨rfl, rfl, rfl, Nat.zero_le _, fun k h => absurd h (Nat.not_lt_zero k)⟩
def fcSame9 (W : World) : Fct := ⟨fun _ w => Below W.heap.size W w, fun _ _ _ h hb => bC h hb⟩
theorem ltS9 {w : World} {s : PStr} {a b : Option Addr} {c d : Nat} {bs ds : List Nat} (h : OwnStr w s a c b d bs ds) : ∀ x ∈ bs ++ ds, x < w.heap.size := fun x hx => by
 rcases List.mem_append.1 hx with h1 | h1
 ·exact h.f.lt x h1
 ·exact h.t.lt x h1
def FarC {α : Type} (c : Cod α) (t : TypeId) : Prop := ∀ {w : World} {x : α} {cs : List Value} {bs : List Nat} {g : Nat} {cells : Array Value}, c.own w x cs bs → w.heap[g]? = some (.cells cells t (0, 0)) → g ∉ bs
theorem ownSl_far {α : Type} {c : Cod α} {t e : TypeId} (hc : FarC c t) (hne : e ≠ t) {w : World} {xs : List α} {v : Value} {bs : List Nat} {g : Nat} {cells : Array Value} (h : OwnSl c e w xs v bs) (hb : w.heap[g]? = some (.cells cells t (0, 0))) : g ∉ bs := by
 rcases h with ⟨_, _, rfl⟩ | ⟨g0, cap, vs, bss, rfl, ho, rfl, hbl, hi⟩
 ·simp
 ·intro hm
  rcases List.mem_cons.1 hm with rfl | hm
  ·rcases ho.2 with ⟨h0, _⟩ | ⟨g', cap', cur, h0, _, hh, _⟩
   ·simp at h0
   ·simp only [Value.slice.injEq, Option.some.injEq, Addr.mk.injEq, and_true] at h0
    obtain ⟨rfl, -⟩ := h0
    rw [hb] at hh
    simp at hh
    exact hne hh.2.symm
  ·obtain ⟨l, hl, hb'⟩ := List.mem_flatten.1 hm
   obtain ⟨i, hi', rfl⟩ := List.getElem_of_mem hl
   exact hc (hi i (by omega) hi') hb hb'
theorem far_byte (t : TypeId) : FarC cByte t := fun h _ => by rw [h.2.2]; simp
theorem far_sl {α : Type} {c : Cod α} {t e : TypeId} (hc : FarC c t) (hne : e ≠ t) : FarC (cSl c e) t := fun h hb => by
 obtain ⟨v, rfl, h⟩ := h
 exact ownSl_far hc hne h hb
theorem far_field : FarC cField 43 := fun h hb => by
 obtain ⟨v, rfl, h1, _⟩ := cField_owned h
 exact ownSl_far (far_byte _) (by decide) h1 hb
theorem ownStr_far {w : World} {s : PStr} {a b : Option Addr} {c d : Nat} {bs ds : List Nat} {g : Nat} {cells : Array Value} (h : OwnStr w s a c b d bs ds) (hb : w.heap[g]? = some (.cells cells 43 (0, 0))) : g ∉ bs ++ ds := fun hm => by
 rcases List.mem_append.1 hm with k | k
 ·exact ownSl_far far_field (by decide) h.f hb k
 ·exact ownSl_far (far_sl (far_sl (far_byte _) (by decide)) (by decide)) (by decide) h.t hb k
def fcTupS (lo : Nat) (S : PStr) (H : List Nat) (C : Int) : Fct := ⟨fun v w => ∃ a c b d bs ds ar cr, v = .tuple #[.agg #[.bool S.opened, .slice a S.fields.length c, .int .i64 S.next, .slice b S.dicts.length d], .slice ar H.length cr, .int .i64 C] ∧ OwnStr w S a c b d bs ds ∧ w.ownsRow lo 5 1 (.slice ar H.length cr) H.length (byt H) ∧ (∀ x ∈ bs ++ ds, lo ≤ x) ∧ (bs ++ ds).Nodup, fun _ _ _ ⟨a, c, b, d, bs, ds, ar, cr, e, h1, h2, h3, h4⟩ hb => ⟨a, c, b, d, bs, ds, ar, cr, e, keptSt h1 (fun x hx => hb.block x (ltS9 h1 x hx)), own_later h2 hb, h3, h4⟩⟩
def fcStrV (lo : Nat) (S : PStr) : Fct := ⟨fun v w => ∃ a c b d bs ds, v = .agg #[.bool S.opened, .slice a S.fields.length c, .int .i64 S.next, .slice b S.dicts.length d] ∧ OwnStr w S a c b d bs ds ∧ (∀ x ∈ bs ++ ds, lo ≤ x) ∧ (bs ++ ds).Nodup, fun _ _ _ ⟨a, c, b, d, bs, ds, e, h1, h3, h4⟩ hb => ⟨a, c, b, d, bs, ds, e, keptSt h1 (fun x hx => hb.block x (ltS9 h1 x hx)), h3, h4⟩⟩
def fcHdr9 (lo : Nat) (H : List Nat) : Fct := ⟨fun v w => ∃ ar cr, v = .slice ar H.length cr ∧ w.ownsRow lo 5 1 (.slice ar H.length cr) H.length (byt H), fun _ _ _ ⟨ar, cr, e, h⟩ hb => ⟨ar, cr, e, own_later h hb⟩⟩
def fcNewS9 (lo : Nat) : Fct := ⟨fun v w => ∃ g, v = .pointer (some ⟨g, 0, none⟩) ∧ lo ≤ g ∧ w.heap[g]? = some (.cells #[.bool false, .slice none 0 0, .int .i64 0, .slice none 0 0] 43 (0, 0)), fun _ _ _ ⟨g, e, l, h⟩ hb => ⟨g, e, l, (hb.block _ (Array.getElem?_eq_some_iff.1 h).1).trans h⟩⟩
section
variable {lo : Nat} {S : PStr} {H : List Nat} {C : Int} {v : Value} {w w' : World} {gb : Nat} {cs : Array Value}
theorem row_far9 {B n : Nat} {u : Value} {vs : List Value} (h : w.ownsRow B 5 1 u n vs) (h1 : w.heap[gb]? = some (.cells cs 43 (0, 0))) (h3 : ∀ b, b ≠ gb → w'.heap[b]? = w.heap[b]?) : w'.ownsRow B 5 1 u n vs := ownsRow_kept h (fun b hb => h3 b (box_far h1 h (by decide) hb))
theorem tupS_kept (h : (fcTupS lo S H C).p v w) (h1 : w.heap[gb]? = some (.cells cs 43 (0, 0))) (h3 : ∀ b, b ≠ gb → w'.heap[b]? = w.heap[b]?) : (fcTupS lo S H C).p v w' := by
 obtain ⟨a, c, b, d, bs, ds, ar, cr, e, o, r, l, n⟩ := h
 exact ⟨a, c, b, d, bs, ds, ar, cr, e, keptSt o (fun x hx => h3 x (fun e => ownStr_far o h1 (e ▸ hx))), row_far9 r h1 h3, l, n⟩
theorem strV_kept (h : (fcStrV lo S).p v w) (h1 : w.heap[gb]? = some (.cells cs 43 (0, 0))) (h3 : ∀ b, b ≠ gb → w'.heap[b]? = w.heap[b]?) : (fcStrV lo S).p v w' := by
 obtain ⟨a, c, b, d, bs, ds, e, o, l, n⟩ := h
 exact ⟨a, c, b, d, bs, ds, e, keptSt o (fun x hx => h3 x (fun e => ownStr_far o h1 (e ▸ hx))), l, n⟩
theorem hdr9_kept (h : (fcHdr9 lo H).p v w) (h1 : w.heap[gb]? = some (.cells cs 43 (0, 0))) (h3 : ∀ b, b ≠ gb → w'.heap[b]? = w.heap[b]?) : (fcHdr9 lo H).p v w' := by
 obtain ⟨ar, cr, e, r⟩ := h
 exact ⟨ar, cr, e, row_far9 r h1 h3⟩
end
def bgH (lo : Nat) (S : PStr) (y : Nat → Bool) (t : Nat → Value) (w : World) : Prop := y 14 = true → ∃ g a c b d bs ds, t 13 = .pointer (some ⟨g, 0, none⟩) ∧ lo ≤ g ∧ w.heap[g]? = some (.cells #[.bool S.opened, .slice a S.fields.length c, .int .i64 S.next, .slice b S.dicts.length d] 43 (0, 0)) ∧ OwnStr w S a c b d bs ds ∧ (∀ x ∈ bs ++ ds, lo ≤ x) ∧ (bs ++ ds).Nodup
theorem bgH_carry {lo : Nat} {S : PStr} {y : Nat → Bool} {t : Nat → Value} {w : World} (h : bgH lo S y t w) (i : Nat) (v : Value) (h1 : i ≠ 14) (h2 : i ≠ 13) : bgH lo S (fun j => j == i || y j) (upd t i v) w := fun hh => by
 have hx : y 14 = true := by simpa [Ne.symm h1] using hh
 obtain ⟨g, a, c, b, d, bs, ds, e, r⟩ := h hx
 exact ⟨g, a, c, b, d, bs, ds, by simp [upd, Ne.symm h2, e], r⟩
set_option linter.unusedVariables false in
def bg0T (lo g : Nat) (r : PSnd) (a0 : Option Addr) (c0 : Nat) (S : PStr) (H : List Nat) (C : Int) : Nat → FX
 | 0 => FX.eq (.pointer (some ⟨g, 0, none⟩))
 | 1 => FX.eq (.pointer (some ⟨g, 0, none⟩))
 | 2 => FX.eq (.pointer (some ⟨g, 0, none⟩))
 | 3 => FX.eq (.slice a0 r.fields.length c0)
 | 4 => FX.eq (.pointer (some ⟨g, 0, none⟩))
 | 5 => FX.eq (.pointer (some ⟨g, 0, none⟩))
 | 6 => FX.eq (.pointer (some ⟨g, 2, none⟩))
 | 7 => FX.eq (.int .i64 r.base)
 | 8 => FX.is (fcTupS lo S H C)
 | 9 => FX.is (fcTupS lo S H C)
 | 10 => FX.is (fcStrV lo S)
 | 11 => FX.is (fcHdr9 lo H)
 | 12 => FX.eq (.int .i64 C)
 | 13 => FX.pre [14] (fcNewS9 lo)
 | 14 => FX.is Fct.any
 | 15 => FX.is (fcHdr9 lo H)
 | 16 => FX.eq (.int .i64 C)
 | _ => FX.eq undef
def bxs (y7 y10 y13 : Bool) (c0 c1 c2 c3 : Array Value) : Array Value := if y13 = true then c3 else if y10 = true then c2 else if y7 = true then c1 else c0
def b2H (W : World) (g : Nat) (c0 c1 c2 c3 : Array Value) (y : Nat → Bool) (_t : Nat → Value) (w : World) : Prop := W.heap.size ≤ w.heap.size ∧ (∀ b, b < W.heap.size → b ≠ g → w.heap[b]? = W.heap[b]?) ∧ w.heap[g]? = some (.cells (bxs (y 7) (y 10) (y 13) c0 c1 c2 c3) 45 (0, 0))
theorem b2H_carry {W : World} {g : Nat} {c0 c1 c2 c3 : Array Value} {y : Nat → Bool} {t : Nat → Value} {w : World} (h : b2H W g c0 c1 c2 c3 y t w) (i : Nat) (v : Value) (h1 : i ≠ 7) (h2 : i ≠ 10) (h3 : i ≠ 13) : b2H W g c0 c1 c2 c3 (fun j => j == i || y j) (upd t i v) w := by
 obtain ⟨k1, k2, k3⟩ := h
 refine ⟨k1, k2, ?_⟩
 have e7 : ((7 : Nat) == i || y 7) = y 7 := by simp [Ne.symm h1]
 have e10 : ((10 : Nat) == i || y 10) = y 10 := by simp [Ne.symm h2]
 have e13 : ((13 : Nat) == i || y 13) = y 13 := by simp [Ne.symm h3]
 show w.heap[g]? = some (.cells (bxs ((7 : Nat) == i || y 7) ((10 : Nat) == i || y 10) ((13 : Nat) == i || y 13) c0 c1 c2 c3) 45 (0, 0))
 rw [e7, e10, e13]
 exact k3
set_option linter.unusedVariables false in
def bg2T (g : Nat) (ov sv : Value) : Nat → FX
 | 0 => FX.eq (.pointer (some ⟨g, 0, none⟩))
 | 1 => FX.eq (.pointer (some ⟨g, 0, none⟩))
 | 2 => FX.eq (.pointer (some ⟨g, 0, none⟩))
 | 3 => FX.eq (ov)
 | 4 => FX.eq (sv)
 | 5 => FX.eq (.pointer (some ⟨g, 0, none⟩))
 | 6 => FX.eq (.pointer (some ⟨g, 4, none⟩))
 | 7 => FX.is Fct.any
 | 8 => FX.eq (.pointer (some ⟨g, 0, none⟩))
 | 9 => FX.eq (.pointer (some ⟨g, 5, none⟩))
 | 10 => FX.is Fct.any
 | 11 => FX.eq (.pointer (some ⟨g, 0, none⟩))
 | 12 => FX.eq (.pointer (some ⟨g, 9, none⟩))
 | 13 => FX.is Fct.any
 | _ => FX.eq undef
set_option maxRecDepth 100000 in
set_option maxHeartbeats 8000000 in
theorem begin_any (r : PSnd) (a0 a3 a1 a2 b2 : Option Addr) (c0 c3 c1 c2 d2 : Nat) (g : Nat) (w : World) (hk : w.heap[g]? = some (.cells #[.slice a0 r.fields.length c0, .int .i64 r.epoch, .int .i64 r.base, .slice a3 r.tables.length c3, .int .i64 r.pushed, .int .i64 r.out.epoch, .int .i64 r.out.next, .int .i64 r.out.now, .slice a1 r.out.wait.length c1, .bool r.str.opened, .slice a2 r.str.fields.length c2, .int .i64 r.str.next, .slice b2 r.str.dicts.length d2] 45 (0, 0))) (hr : RdSl cField w r.fields (.slice a0 r.fields.length c0)) (ht : totL (fun f : PF => f.name.length) r.fields ≤ 1048576) (S : PStr) (hS : S = startS r.fields r.base) (H : List Nat) (hH : H = startB r.fields r.base) (hHl : H.length ≤ 1048576) (hHb : ∀ x ∈ H, x < 256) (O : PO) (hO : O = pushO ⟨r.epoch, 0, 0, []⟩ H) :
  Calls Tryz.prog 103 #[.pointer (some ⟨g, 0, none⟩)] w fun e w' => ∃ a1x c1x a2x c2x b2x d2x os bs ds, e = .returned (.tuple #[]) ∧ w'.heap[g]? = some (.cells #[.slice a0 r.fields.length c0, .int .i64 r.epoch, .int .i64 r.base, .slice a3 r.tables.length c3, .int .i64 0, .int .i64 O.epoch, .int .i64 O.next, .int .i64 O.now, .slice a1x O.wait.length c1x, .bool S.opened, .slice a2x S.fields.length c2x, .int .i64 S.next, .slice b2x S.dicts.length d2x] 45 (0, 0)) ∧ OwnSl cSnt 141 w' O.wait (.slice a1x O.wait.length c1x) os ∧ OwnStr w' S a2x c2x b2x d2x bs ds ∧ (∀ x ∈ os ++ (bs ++ ds), w.heap.size ≤ x) ∧ (os ++ (bs ++ ds)).Nodup ∧ totL wN O.wait ≤ 1048576 ∧ Only [g] w w' := by
 obtain ⟨C, hC⟩ : ∃ C : Int, C = startC r.fields r.base := ⟨_, rfl⟩
 have HR := hid hr
 have HK := hid hk
 have HBY := hid hHb
 have HGL : Hid (g < w.heap.size) := hid (Array.getElem?_eq_some_iff.1 hk).1
 have HCL : Hid (∀ wx, Below w.heap.size w wx → Calls Tryz.prog 137 #[.slice a0 r.fields.length c0, .int .i64 r.base] wx (StartOwn wx S H C)) := hid (fun wx hb => by rw [hS, hH, hC]; exact implStart_any a0 c0 r.fields r.base wx (hr.later hb) ht)
 have q0 := cR _ _ 0 _ _ _ hk
 have q2 := cR _ _ 2 _ _ _ hk
 simp only [gA, gZ, gU] at q0 q2
 have HOE := hid hO
 clear hr hk hHb hC hS hH hO
 go_enter Tryz.func103, Tryz.ntmps103
 go_upto_region 0 with fail
 refine region_turns3 (n := 17) (by kernel_rfl) (by kernel_rfl) ?_ (fun t => { tmps := #[.pointer (some ⟨g, 0, none⟩), undef, t 13, t 15, t 16, undef, undef, t 9, t 0, t 1, t 2, t 3, t 4, t 5, t 6, t 7, t 8, t 10, t 11, t 12, undef, undef, undef, undef, undef, undef, undef, undef, undef, undef, undef, undef, undef, undef, undef, undef, undef, undef, undef, undef, undef], defers := [] }) (bg0T w.heap.size g r a0 c0 S H C) [14] (fcSame9 w) (bgH w.heap.size S) w w (fun k => if k = 13 then [14] else []) (fun k => !(k == 8 || k == 9 || k == 10 || k == 11 || k == 13 || k == 14 || k == 15)) (fun (_ : Nat) (v v' : World) => ∃ (gb : Nat) (cs : Array Value), v.heap[gb]? = some (Obj.cells cs 43 (0, 0)) ∧ v.heap.size ≤ v'.heap.size ∧ ∀ b, b ≠ gb → v'.heap[b]? = v.heap[b]?) [14] (fun i k => i == 14 && (k == 8 || k == 9 || k == 10 || k == 11 || k == 15)) (by kernel_rfl) (fun i hi k hk hs v w1 w2 hr h => by obtain ⟨gb, cs, h1, h2, h3⟩ := hr; simp only [Bool.and_eq_true, beq_iff_eq, Bool.or_eq_true] at hs; obtain ⟨rfl, hs⟩ := hs; rcases hs with (((rfl | rfl) | rfl) | rfl) | rfl <;> first | exact tupS_kept h h1 h3 | exact strV_kept h h1 h3 | exact hdr9_kept h h1 h3) (fun i hi hn => absurd hi hn) (fun j hj => by rcases (by omega : j = 0 ∨ j = 1 ∨ j = 2 ∨ j = 3 ∨ j = 4 ∨ j = 5 ∨ j = 6 ∨ j = 7 ∨ j = 8 ∨ j = 9 ∨ j = 10 ∨ j = 11 ∨ j = 12 ∨ j = 13 ∨ j = 14 ∨ j = 15 ∨ j = 16) with rfl | rfl | rfl | rfl | rfl | rfl | rfl | rfl | rfl | rfl | rfl | rfl | rfl | rfl | rfl | rfl | rfl <;> rfl) (fun j hj hp => by rcases (by omega : j = 0 ∨ j = 1 ∨ j = 2 ∨ j = 3 ∨ j = 4 ∨ j = 5 ∨ j = 6 ∨ j = 7 ∨ j = 8 ∨ j = 9 ∨ j = 10 ∨ j = 11 ∨ j = 12 ∨ j = 13 ∨ j = 14 ∨ j = 15 ∨ j = 16) with rfl | rfl | rfl | rfl | rfl | rfl | rfl | rfl | rfl | rfl | rfl | rfl | rfl | rfl | rfl | rfl | rfl <;> first | rfl | (exact absurd hp (by decide))) (fun j => ([undef, undef, undef, undef, undef, undef, undef, undef, undef, undef, undef, undef, undef, undef, undef, undef, undef] : List Value).getD j undef) (fun h => by cases h) (Below.refl _ w) (Below.refl _ _) ?_ ?_
 ·rfl
 ·intro i hi x t wx hxi hsh h0 hbx hgx hdp hall hHx
  rcases (by omega : i = 0 ∨ i = 1 ∨ i = 2 ∨ i = 3 ∨ i = 4 ∨ i = 5 ∨ i = 6 ∨ i = 7 ∨ i = 8 ∨ i = 9 ∨ i = 10 ∨ i = 11 ∨ i = 12 ∨ i = 13 ∨ i = 14 ∨ i = 15 ∨ i = 16) with rfl | rfl | rfl | rfl | rfl | rfl | rfl | rfl | rfl | rfl | rfl | rfl | rfl | rfl | rfl | rfl | rfl
  ·
   try dsimp only
   clear h0
   refine wpOp_step rfl (fun K' hK => ?_)
   go_simp
   exact hK _ _ ⟨.pointer (some ⟨g, 0, none⟩), (by simp [upd]), FX.eq_mk rfl, fun _ => Below.refl _ _, fun h => absurd h (by decide), hbx, bgH_carry hHx 0 _ (by decide) (by decide)⟩
  ·
   try dsimp only
   have x0 := depX hdp 0 (by kernel_rfl)
   have d0 := hall 0 (by omega) x0
   have e0 : t 0 = .pointer (some ⟨g, 0, none⟩) := d0.1
   rw [e0]
   clear h0
   refine wpOp_step rfl (fun K' hK => ?_)
   go_simp
   exact hK _ _ ⟨.pointer (some ⟨g, 0, none⟩), (by simp [upd, e0]), FX.eq_mk rfl, fun _ => Below.refl _ _, fun h => absurd h (by decide), hbx, bgH_carry hHx 1 _ (by decide) (by decide)⟩
  ·
   try dsimp only
   have x1 := depX hdp 1 (by kernel_rfl)
   have d1 := hall 1 (by omega) x1
   have e1 : t 1 = .pointer (some ⟨g, 0, none⟩) := d1.1
   rw [e1]
   clear h0
   refine wpOp_step rfl (fun K' hK => ?_)
   go_simp
   exact hK _ _ ⟨.pointer (some ⟨g, 0, none⟩), (by simp [upd, e1]), FX.eq_mk rfl, fun _ => Below.refl _ _, fun h => absurd h (by decide), hbx, bgH_carry hHx 2 _ (by decide) (by decide)⟩
  ·
   try dsimp only
   have x2 := depX hdp 2 (by kernel_rfl)
   have d2 := hall 2 (by omega) x2
   have e2 : t 2 = .pointer (some ⟨g, 0, none⟩) := d2.1
   rw [e2]
   have hy := notYet hsh hxi 14 (by kernel_rfl)
   have hz : Below w.heap.size w wx := hgx (by simp [hy])
   have q0 := (hz.cell (World.block_lt_of_cell? _ _ q0)).trans q0
   clear hz hy
   clear h0
   refine wpOp_step rfl (fun K' hK => ?_)
   go_simp
   exact hK _ _ ⟨.slice a0 r.fields.length c0, (by simp [upd, e2]), FX.eq_mk rfl, fun _ => Below.refl _ _, fun h => absurd h (by decide), hbx, bgH_carry hHx 3 _ (by decide) (by decide)⟩
  ·
   try dsimp only
   clear h0
   refine wpOp_step rfl (fun K' hK => ?_)
   go_simp
   exact hK _ _ ⟨.pointer (some ⟨g, 0, none⟩), (by simp [upd]), FX.eq_mk rfl, fun _ => Below.refl _ _, fun h => absurd h (by decide), hbx, bgH_carry hHx 4 _ (by decide) (by decide)⟩
  ·
   try dsimp only
   have x4 := depX hdp 4 (by kernel_rfl)
   have d4 := hall 4 (by omega) x4
   have e4 : t 4 = .pointer (some ⟨g, 0, none⟩) := d4.1
   rw [e4]
   clear h0
   refine wpOp_step rfl (fun K' hK => ?_)
   go_simp
   exact hK _ _ ⟨.pointer (some ⟨g, 0, none⟩), (by simp [upd, e4]), FX.eq_mk rfl, fun _ => Below.refl _ _, fun h => absurd h (by decide), hbx, bgH_carry hHx 5 _ (by decide) (by decide)⟩
  ·
   try dsimp only
   have x5 := depX hdp 5 (by kernel_rfl)
   have d5 := hall 5 (by omega) x5
   have e5 : t 5 = .pointer (some ⟨g, 0, none⟩) := d5.1
   rw [e5]
   clear h0
   refine wpOp_step rfl (fun K' hK => ?_)
   go_simp
   exact hK _ _ ⟨.pointer (some ⟨g, 2, none⟩), (by simp [upd, e5]), FX.eq_mk rfl, fun _ => Below.refl _ _, fun h => absurd h (by decide), hbx, bgH_carry hHx 6 _ (by decide) (by decide)⟩
  ·
   try dsimp only
   have x6 := depX hdp 6 (by kernel_rfl)
   have d6 := hall 6 (by omega) x6
   have e6 : t 6 = .pointer (some ⟨g, 2, none⟩) := d6.1
   rw [e6]
   have hy := notYet hsh hxi 14 (by kernel_rfl)
   have hz : Below w.heap.size w wx := hgx (by simp [hy])
   have q2 := (hz.cell (World.block_lt_of_cell? _ _ q2)).trans q2
   clear hz hy
   clear h0
   refine wpOp_step rfl (fun K' hK => ?_)
   go_simp
   exact hK _ _ ⟨.int .i64 r.base, (by simp [upd, e6]), FX.eq_mk rfl, fun _ => Below.refl _ _, fun h => absurd h (by decide), hbx, bgH_carry hHx 7 _ (by decide) (by decide)⟩
  ·
   try dsimp only
   have x3 := depX hdp 3 (by kernel_rfl)
   have d3 := hall 3 (by omega) x3
   have e3 : t 3 = .slice a0 r.fields.length c0 := d3.1
   have x7 := depX hdp 7 (by kernel_rfl)
   have d7 := hall 7 (by omega) x7
   have e7 : t 7 = .int .i64 r.base := d7.1
   rw [e3, e7]
   have hy := notYet hsh hxi 14 (by kernel_rfl)
   have hz : Below w.heap.size w wx := hgx (by simp [hy])
   have hsz := hz.size
   clear h0
   refine wpOp_step rfl (fun K' hK => ?_)
   go_simp
   refine (HCL.out wx hz).mono ?_
   rintro e w2 ⟨a, c, b, d, bs, ds, ar, cr, rfl, o2, r2, l2, n2, -, b2⟩
   exact hK _ _ ⟨_, (by simp [upd, e3, e7]), FX.is_mk ⟨a, c, b, d, bs, ds, ar, cr, rfl, o2, own_mono r2 hsz, fun x hx => Nat.le_trans hsz (l2 x hx), n2⟩, fun _ => b2, fun h => absurd h (by decide), bC hbx b2, fun h => absurd h (by simp [hy])⟩
  ·
   try dsimp only
   have x8 := depX hdp 8 (by kernel_rfl)
   have d8 := hall 8 (by omega) x8
   have f8 : (fcTupS w.heap.size S H C).p (t 8) wx := FX.is_of d8
   clear h0
   refine wpOp_step rfl (fun K' hK => ?_)
   go_simp
   exact hK _ _ ⟨t 8, (by simp [upd]), FX.is_mk f8, fun _ => Below.refl _ _, fun h => absurd h (by decide), hbx, bgH_carry hHx 9 _ (by decide) (by decide)⟩
  ·
   try dsimp only
   have x9 := depX hdp 9 (by kernel_rfl)
   have d9 := hall 9 (by omega) x9
   obtain ⟨a, c, b, d, bs, ds, ar, cr, e9, o9, r9, l9, n9⟩ : (fcTupS w.heap.size S H C).p (t 9) wx := FX.is_of d9
   rw [e9]
   clear h0
   refine wpOp_step rfl (fun K' hK => ?_)
   go_simp
   exact hK _ _ ⟨.agg #[.bool S.opened, .slice a S.fields.length c, .int .i64 S.next, .slice b S.dicts.length d], (by simp [upd, e9]), FX.is_mk ⟨a, c, b, d, bs, ds, rfl, o9, l9, n9⟩, fun _ => Below.refl _ _, fun h => absurd h (by decide), hbx, bgH_carry hHx 10 _ (by decide) (by decide)⟩
  ·
   try dsimp only
   have x9 := depX hdp 9 (by kernel_rfl)
   have d9 := hall 9 (by omega) x9
   obtain ⟨a, c, b, d, bs, ds, ar, cr, e9, o9, r9, l9, n9⟩ : (fcTupS w.heap.size S H C).p (t 9) wx := FX.is_of d9
   rw [e9]
   clear h0
   refine wpOp_step rfl (fun K' hK => ?_)
   go_simp
   exact hK _ _ ⟨.slice ar H.length cr, (by simp [upd, e9]), FX.is_mk ⟨ar, cr, rfl, r9⟩, fun _ => Below.refl _ _, fun h => absurd h (by decide), hbx, bgH_carry hHx 11 _ (by decide) (by decide)⟩
  ·
   try dsimp only
   have x9 := depX hdp 9 (by kernel_rfl)
   have d9 := hall 9 (by omega) x9
   obtain ⟨a, c, b, d, bs, ds, ar, cr, e9, o9, r9, l9, n9⟩ : (fcTupS w.heap.size S H C).p (t 9) wx := FX.is_of d9
   rw [e9]
   clear h0
   refine wpOp_step rfl (fun K' hK => ?_)
   go_simp
   exact hK _ _ ⟨.int .i64 C, (by simp [upd, e9]), FX.eq_mk rfl, fun _ => Below.refl _ _, fun h => absurd h (by decide), hbx, bgH_carry hHx 12 _ (by decide) (by decide)⟩
  ·
   try dsimp only
   have hy := notYet hsh hxi 14 (by kernel_rfl)
   clear h0
   refine wpOp_step rfl (fun K' hK => ?_)
   go_simp
   exact hK _ _ ⟨.pointer (some ⟨wx.heap.size, 0, none⟩), (by simp [upd]), FX.pre_mk ⟨wx.heap.size, rfl, hbx.size, heap_alloc_new wx _⟩, fun _ => bN _ _, fun h => absurd h (by decide), bC hbx (bN _ _), fun h => absurd h (by simp [hy])⟩
  ·
   try dsimp only
   have x13 := depX hdp 13 (by kernel_rfl)
   have d13 := hall 13 (by omega) x13
   have x10 := depX hdp 10 (by kernel_rfl)
   have d10 := hall 10 (by omega) x10
   obtain ⟨gs, ea, lg, hbox⟩ : (fcNewS9 w.heap.size).p (t 13) wx := FX.pre_of d13 hxi
   obtain ⟨a, c, b, d, bs, ds, eb, o10, l10, n10⟩ : (fcStrV w.heap.size S).p (t 10) wx := FX.is_of d10
   rw [ea, eb]
   have k0 := cR wx _ 0 _ _ _ hbox
   have k1 := cR wx _ 1 _ _ _ hbox
   have k2 := cR wx _ 2 _ _ _ hbox
   have k3 := cR wx _ 3 _ _ _ hbox
   have z0 := fR wx _ 0 _ _ hbox
   have z1 := fR wx _ 1 _ _ hbox
   have z2 := fR wx _ 2 _ _ hbox
   have z3 := fR wx _ 3 _ _ hbox
   simp only [gA, gZ, gU] at k0 k1 k2 k3
   have HBX := hid hbox
   have HO10 := hid o10
   clear hbox o10
   clear h0
   refine wpOp_step rfl (fun K' hK => ?_)
   go_simp
   exact hK _ _ ⟨undef, (by simp [upd, ea, eb]), FX.is_mk trivial, fun h => absurd (by decide) h, fun _ => ⟨gs, _, HBX.out, by simp, fun b hb => set4o hb⟩, set4b hbx lg, fun _ => ⟨gs, a, c, b, d, bs, ds, (by simp [upd]; exact ea), lg, set4 HBX.out, keptSt HO10.out (fun x hx => set4o (fun e => ownStr_far HO10.out HBX.out (e ▸ hx))), l10, n10⟩⟩
  ·
   try dsimp only
   have x11 := depX hdp 11 (by kernel_rfl)
   have d11 := hall 11 (by omega) x11
   obtain ⟨ar, cr, e11, r11⟩ : (fcHdr9 w.heap.size H).p (t 11) wx := FX.is_of d11
   rw [e11]
   clear h0
   refine wpOp_step rfl (fun K' hK => ?_)
   go_simp
   exact hK _ _ ⟨.slice ar H.length cr, (by simp [upd, e11]), FX.is_mk ⟨ar, cr, rfl, r11⟩, fun _ => Below.refl _ _, fun h => absurd h (by decide), hbx, bgH_carry hHx 15 _ (by decide) (by decide)⟩
  ·
   try dsimp only
   have x12 := depX hdp 12 (by kernel_rfl)
   have d12 := hall 12 (by omega) x12
   have e12 : t 12 = .int .i64 C := d12.1
   rw [e12]
   clear h0
   refine wpOp_step rfl (fun K' hK => ?_)
   go_simp
   exact hK _ _ ⟨.int .i64 C, (by simp [upd, e12]), FX.eq_mk rfl, fun _ => Below.refl _ _, fun h => absurd h (by decide), hbx, bgH_carry hHx 16 _ (by decide) (by decide)⟩
 ·intro x t wx hx hbx hall hHx
  obtain ⟨gS, a2x, c2x, b2x, d2x, bs, ds, eA, lgS, hbS, hoS, hlS, hnS⟩ := hHx (hx 14 (by omega))
  obtain ⟨ar, cr, e15, hr15⟩ : (fcHdr9 w.heap.size H).p (t 15) wx := FX.is_of (hall 15 (by omega))
  have e16 : t 16 = .int .i64 C := (hall 16 (by omega)).1
  try dsimp only
  rw [eA, e15, e16]
  generalize t 0 = v0
  generalize t 1 = v1
  generalize t 2 = v2
  generalize t 3 = v3
  generalize t 4 = v4
  generalize t 5 = v5
  generalize t 6 = v6
  generalize t 7 = v7
  generalize t 8 = v8
  generalize t 9 = v9
  generalize t 10 = v10
  generalize t 11 = v11
  generalize t 12 = v12
  have HBS := hid hbS
  have HOS := hid hoS
  have HLS := hid hlS
  have HNS := hid hnS
  have HR15 := hid (own_rdSl hr15 HBY.out)
  have HLGS := hid lgS
  have HBX0 := hid hbx
  clear hall hbx hbS hoS hlS hnS hr15 lgS eA e15 e16 hHx hx q0 q2
  have HK1 := hid ((HBX0.out.block _ HGL.out).trans HK.out)
  have q1 := cR _ _ 1 _ _ _ HK1.out
  simp only [gA, gZ, gU] at q1
  have HPS := hid (implPush0_any ⟨r.epoch, 0, 0, []⟩ none 0 H ar cr wx (RdSl.empty none) HR15.out hHl (by simp [totL]))
  obtain ⟨K, hKC⟩ : ∃ K : Int, K = pushC ⟨r.epoch, 0, 0, []⟩ H := ⟨_, rfl⟩
  rw [← HOE.out, ← hKC] at HPS
  clear hKC
  go_wp2_with fail
  refine HPS.out.mono ?_
  rintro e w3 ⟨a1x, c1x, os, rfl, oo, lo3, no3, to3, bl3⟩
  have hsx := HBX0.out.size
  have hb3 := bN w3 (.cells #[.int .i64 O.epoch, .int .i64 O.next, .int .i64 O.now, .slice a1x O.wait.length c1x] 41)
  have HGOB : Hid ((w3.alloc (.cells #[.int .i64 O.epoch, .int .i64 O.next, .int .i64 O.now, .slice a1x O.wait.length c1x] 41)).heap[w3.heap.size]? = some (.cells #[.int .i64 O.epoch, .int .i64 O.next, .int .i64 O.now, .slice a1x O.wait.length c1x] 41 (0, 0))) := hid (heap_alloc_new w3 _)
  have F3 := bC bl3 hb3
  have HKV2 := hid (boxSd HK1.out F3)
  have HGSB := hid (boxSd HBS.out F3)
  have HSS := hid (keptSt HOS.out (fun x hx => F3.block x (ltS9 HOS.out x hx)))
  have HOO := hid (oo.kept (fun x hx => hb3.block x (oo.lt x hx)))
  have HLO : Hid (∀ x ∈ os, wx.heap.size ≤ x) := hid lo3
  have HSL : Hid (∀ x ∈ bs ++ ds, x < wx.heap.size) := hid (ltS9 HOS.out)
  have HNO := hid no3
  have hto := to3
  have HB2 := hid (bC HBX0.out F3)
  have hs3 := bl3.size
  have HGOL : Hid (w3.heap.size < (w3.alloc (.cells #[.int .i64 O.epoch, .int .i64 O.next, .int .i64 O.now, .slice a1x O.wait.length c1x] 41)).heap.size) := hid (by simp)
  have HGON : Hid (w3.heap.size ≠ g) := hid (by have := HGL.out; omega)
  have HGSL : Hid (gS < (w3.alloc (.cells #[.int .i64 O.epoch, .int .i64 O.next, .int .i64 O.now, .slice a1x O.wait.length c1x] 41)).heap.size) := hid (Array.getElem?_eq_some_iff.1 HGSB.out).1
  have HGSN : Hid (gS ≠ g) := hid (by have := HGL.out; have := HLGS.out; omega)
  clear oo lo3 no3 to3 bl3 hb3 F3 HPS q1
  go_upto_region 2 with fail
  generalize (w3.alloc (.cells #[.int .i64 O.epoch, .int .i64 O.next, .int .i64 O.now, .slice a1x O.wait.length c1x] 41)) = W2 at *
  refine region_turns3 (n := 14) (by kernel_rfl) (by kernel_rfl) ?_ (fun t => { tmps := #[.pointer (some ⟨g, 0, none⟩), undef, .pointer (some ⟨gS, 0, none⟩), .slice ar H.length cr, .int .i64 C, .pointer (some ⟨w3.heap.size, 0, none⟩), .int .i64 K, v9, v0, v1, v2, v3, v4, v5, v6, v7, v8, v10, v11, v12, .tuple #[.agg #[.int .i64 O.epoch, .int .i64 O.next, .int .i64 O.now, .slice a1x O.wait.length c1x], .int .i64 K], .pointer (some ⟨g, 0, none⟩), .pointer (some ⟨g, 0, none⟩), .pointer (some ⟨g, 1, none⟩), .int .i64 r.epoch, .agg #[.int .i64 r.epoch, .int .i64 0, .int .i64 0, .slice none 0 0], .slice ar H.length cr, .tuple #[.agg #[.int .i64 O.epoch, .int .i64 O.next, .int .i64 O.now, .slice a1x O.wait.length c1x], .int .i64 K], .agg #[.int .i64 O.epoch, .int .i64 O.next, .int .i64 O.now, .slice a1x O.wait.length c1x], .int .i64 K, t 0, t 1, t 2, t 3, t 4, t 5, t 6, t 8, t 9, t 11, t 12], defers := [] }) (bg2T g (.agg #[.int .i64 O.epoch, .int .i64 O.next, .int .i64 O.now, .slice a1x O.wait.length c1x]) (.agg #[.bool S.opened, .slice a2x S.fields.length c2x, .int .i64 S.next, .slice b2x S.dicts.length d2x])) [7, 10, 13] (Fct.any) (b2H W2 g #[.slice a0 r.fields.length c0, .int .i64 r.epoch, .int .i64 r.base, .slice a3 r.tables.length c3, .int .i64 r.pushed, .int .i64 r.out.epoch, .int .i64 r.out.next, .int .i64 r.out.now, .slice a1 r.out.wait.length c1, .bool r.str.opened, .slice a2 r.str.fields.length c2, .int .i64 r.str.next, .slice b2 r.str.dicts.length d2] #[.slice a0 r.fields.length c0, .int .i64 r.epoch, .int .i64 r.base, .slice a3 r.tables.length c3, .int .i64 0, .int .i64 r.out.epoch, .int .i64 r.out.next, .int .i64 r.out.now, .slice a1 r.out.wait.length c1, .bool r.str.opened, .slice a2 r.str.fields.length c2, .int .i64 r.str.next, .slice b2 r.str.dicts.length d2] #[.slice a0 r.fields.length c0, .int .i64 r.epoch, .int .i64 r.base, .slice a3 r.tables.length c3, .int .i64 0, .int .i64 O.epoch, .int .i64 O.next, .int .i64 O.now, .slice a1x O.wait.length c1x, .bool r.str.opened, .slice a2 r.str.fields.length c2, .int .i64 r.str.next, .slice b2 r.str.dicts.length d2] #[.slice a0 r.fields.length c0, .int .i64 r.epoch, .int .i64 r.base, .slice a3 r.tables.length c3, .int .i64 0, .int .i64 O.epoch, .int .i64 O.next, .int .i64 O.now, .slice a1x O.wait.length c1x, .bool S.opened, .slice a2x S.fields.length c2x, .int .i64 S.next, .slice b2x S.dicts.length d2x]) (noHeap W2) W2 (fun k => []) (fun k => !(k == 7 || k == 10 || k == 13)) (fun _ _ _ => True) [7, 10, 13] (fun _ _ => true) (by kernel_rfl) (fun i hi k hk hs v w1 w2 hr h => by rcases (by omega : k = 0 ∨ k = 1 ∨ k = 2 ∨ k = 3 ∨ k = 4 ∨ k = 5 ∨ k = 6 ∨ k = 7 ∨ k = 8 ∨ k = 9 ∨ k = 10 ∨ k = 11 ∨ k = 12 ∨ k = 13) with rfl | rfl | rfl | rfl | rfl | rfl | rfl | rfl | rfl | rfl | rfl | rfl | rfl | rfl <;> trivial) (fun i hi hn => absurd hi hn) (fun j hj => by rcases (by omega : j = 0 ∨ j = 1 ∨ j = 2 ∨ j = 3 ∨ j = 4 ∨ j = 5 ∨ j = 6 ∨ j = 7 ∨ j = 8 ∨ j = 9 ∨ j = 10 ∨ j = 11 ∨ j = 12 ∨ j = 13) with rfl | rfl | rfl | rfl | rfl | rfl | rfl | rfl | rfl | rfl | rfl | rfl | rfl | rfl <;> rfl) (fun j hj hp => by rcases (by omega : j = 0 ∨ j = 1 ∨ j = 2 ∨ j = 3 ∨ j = 4 ∨ j = 5 ∨ j = 6 ∨ j = 7 ∨ j = 8 ∨ j = 9 ∨ j = 10 ∨ j = 11 ∨ j = 12 ∨ j = 13) with rfl | rfl | rfl | rfl | rfl | rfl | rfl | rfl | rfl | rfl | rfl | rfl | rfl | rfl <;> first | rfl | (exact absurd hp (by decide))) (fun j => ([undef, undef, undef, undef, undef, undef, undef, undef, undef, undef, undef, undef, undef, undef] : List Value).getD j undef) (⟨by simp, fun b h1 h2 => rfl, HKV2.out⟩) (noHeap_below W2) (trivial) ?_ ?_
  ·rfl
  ·intro i hi x t wx hxi hsh h0 hbx hgx hdp hall hHx
   rcases (by omega : i = 0 ∨ i = 1 ∨ i = 2 ∨ i = 3 ∨ i = 4 ∨ i = 5 ∨ i = 6 ∨ i = 7 ∨ i = 8 ∨ i = 9 ∨ i = 10 ∨ i = 11 ∨ i = 12 ∨ i = 13) with rfl | rfl | rfl | rfl | rfl | rfl | rfl | rfl | rfl | rfl | rfl | rfl | rfl | rfl
   ·
    try dsimp only
    clear h0
    refine wpOp_step rfl (fun K' hK => ?_)
    go_simp
    exact hK _ _ ⟨.pointer (some ⟨g, 0, none⟩), (by simp [upd]), FX.eq_mk rfl, fun _ => Below.refl _ _, fun h => absurd h (by decide), hbx, b2H_carry hHx 0 _ (by decide) (by decide) (by decide)⟩
   ·
    try dsimp only
    clear h0
    refine wpOp_step rfl (fun K' hK => ?_)
    go_simp
    exact hK _ _ ⟨.pointer (some ⟨g, 0, none⟩), (by simp [upd]), FX.eq_mk rfl, fun _ => Below.refl _ _, fun h => absurd h (by decide), hbx, b2H_carry hHx 1 _ (by decide) (by decide) (by decide)⟩
   ·
    try dsimp only
    clear h0
    refine wpOp_step rfl (fun K' hK => ?_)
    go_simp
    exact hK _ _ ⟨.pointer (some ⟨g, 0, none⟩), (by simp [upd]), FX.eq_mk rfl, fun _ => Below.refl _ _, fun h => absurd h (by decide), hbx, b2H_carry hHx 2 _ (by decide) (by decide) (by decide)⟩
   ·
    try dsimp only
    have hbO := (hHx.2.1 _ HGOL.out HGON.out).trans HGOB.out
    have k0 := cR wx _ 0 _ _ _ hbO
    have k1 := cR wx _ 1 _ _ _ hbO
    have k2 := cR wx _ 2 _ _ _ hbO
    have k3 := cR wx _ 3 _ _ _ hbO
    simp only [gA, gZ, gU] at k0 k1 k2 k3
    clear hbO
    clear h0
    refine wpOp_step rfl (fun K' hK => ?_)
    go_simp
    exact hK _ _ ⟨.agg #[.int .i64 O.epoch, .int .i64 O.next, .int .i64 O.now, .slice a1x O.wait.length c1x], (by simp [upd]), FX.eq_mk rfl, fun _ => Below.refl _ _, fun h => absurd h (by decide), hbx, b2H_carry hHx 3 _ (by decide) (by decide) (by decide)⟩
   ·
    try dsimp only
    have hbO := (hHx.2.1 _ HGSL.out HGSN.out).trans HGSB.out
    have k0 := cR wx _ 0 _ _ _ hbO
    have k1 := cR wx _ 1 _ _ _ hbO
    have k2 := cR wx _ 2 _ _ _ hbO
    have k3 := cR wx _ 3 _ _ _ hbO
    simp only [gA, gZ, gU] at k0 k1 k2 k3
    clear hbO
    clear h0
    refine wpOp_step rfl (fun K' hK => ?_)
    go_simp
    exact hK _ _ ⟨.agg #[.bool S.opened, .slice a2x S.fields.length c2x, .int .i64 S.next, .slice b2x S.dicts.length d2x], (by simp [upd]), FX.eq_mk rfl, fun _ => Below.refl _ _, fun h => absurd h (by decide), hbx, b2H_carry hHx 4 _ (by decide) (by decide) (by decide)⟩
   ·
    try dsimp only
    have x0 := depX hdp 0 (by kernel_rfl)
    have d0 := hall 0 (by omega) x0
    have e0 : t 0 = .pointer (some ⟨g, 0, none⟩) := d0.1
    rw [e0]
    clear h0
    refine wpOp_step rfl (fun K' hK => ?_)
    go_simp
    exact hK _ _ ⟨.pointer (some ⟨g, 0, none⟩), (by simp [upd, e0]), FX.eq_mk rfl, fun _ => Below.refl _ _, fun h => absurd h (by decide), hbx, b2H_carry hHx 5 _ (by decide) (by decide) (by decide)⟩
   ·
    try dsimp only
    have x5 := depX hdp 5 (by kernel_rfl)
    have d5 := hall 5 (by omega) x5
    have e5 : t 5 = .pointer (some ⟨g, 0, none⟩) := d5.1
    rw [e5]
    clear h0
    refine wpOp_step rfl (fun K' hK => ?_)
    go_simp
    exact hK _ _ ⟨.pointer (some ⟨g, 4, none⟩), (by simp [upd, e5]), FX.eq_mk rfl, fun _ => Below.refl _ _, fun h => absurd h (by decide), hbx, b2H_carry hHx 6 _ (by decide) (by decide) (by decide)⟩
   ·
    try dsimp only
    have x6 := depX hdp 6 (by kernel_rfl)
    have d6 := hall 6 (by omega) x6
    have e6 : t 6 = .pointer (some ⟨g, 4, none⟩) := d6.1
    rw [e6]
    have y10 := notYet hsh hxi 10 (by kernel_rfl)
    have y13 := notYet hsh hxi 13 (by kernel_rfl)
    have hbV : wx.heap[g]? = some (.cells #[.slice a0 r.fields.length c0, .int .i64 r.epoch, .int .i64 r.base, .slice a3 r.tables.length c3, .int .i64 r.pushed, .int .i64 r.out.epoch, .int .i64 r.out.next, .int .i64 r.out.now, .slice a1 r.out.wait.length c1, .bool r.str.opened, .slice a2 r.str.fields.length c2, .int .i64 r.str.next, .slice b2 r.str.dicts.length d2] 45 (0, 0)) := by have h := hHx.2.2; rw [hxi, y10, y13] at h; exact h
    have k4 := cR wx _ 4 _ _ _ hbV
    have z4 := fR wx _ 4 _ _ hbV
    simp only [gA, gZ, gU] at k4
    have HBV := hid hbV
    have HHX := hid hHx
    clear hbV hHx
    clear h0
    refine wpOp_step rfl (fun K' hK => ?_)
    go_simp
    exact hK _ _ ⟨undef, (by simp [upd, e6]), FX.is_mk trivial, fun h => absurd (by decide) h, fun _ => trivial, set13Pb hbx (Nat.zero_le _), ⟨by simpa using HHX.out.1, fun b h1 h2 => (set13Po h2).trans (HHX.out.2.1 b h1 h2), by simp only [y10, y13, Bool.or_false, beq_self_eq_true, Bool.true_or]; exact set13P HBV.out⟩⟩
   ·
    try dsimp only
    have x1 := depX hdp 1 (by kernel_rfl)
    have d1 := hall 1 (by omega) x1
    have e1 : t 1 = .pointer (some ⟨g, 0, none⟩) := d1.1
    rw [e1]
    clear h0
    refine wpOp_step rfl (fun K' hK => ?_)
    go_simp
    exact hK _ _ ⟨.pointer (some ⟨g, 0, none⟩), (by simp [upd, e1]), FX.eq_mk rfl, fun _ => Below.refl _ _, fun h => absurd h (by decide), hbx, b2H_carry hHx 8 _ (by decide) (by decide) (by decide)⟩
   ·
    try dsimp only
    have x8 := depX hdp 8 (by kernel_rfl)
    have d8 := hall 8 (by omega) x8
    have e8 : t 8 = .pointer (some ⟨g, 0, none⟩) := d8.1
    rw [e8]
    clear h0
    refine wpOp_step rfl (fun K' hK => ?_)
    go_simp
    exact hK _ _ ⟨.pointer (some ⟨g, 5, none⟩), (by simp [upd, e8]), FX.eq_mk rfl, fun _ => Below.refl _ _, fun h => absurd h (by decide), hbx, b2H_carry hHx 9 _ (by decide) (by decide) (by decide)⟩
   ·
    try dsimp only
    have x9 := depX hdp 9 (by kernel_rfl)
    have d9 := hall 9 (by omega) x9
    have e9 : t 9 = .pointer (some ⟨g, 5, none⟩) := d9.1
    have x3 := depX hdp 3 (by kernel_rfl)
    have d3 := hall 3 (by omega) x3
    have e3 : t 3 = .agg #[.int .i64 O.epoch, .int .i64 O.next, .int .i64 O.now, .slice a1x O.wait.length c1x] := d3.1
    rw [e9, e3]
    have x7 := depX hdp 7 (by kernel_rfl)
    have y13 := notYet hsh hxi 13 (by kernel_rfl)
    have hbV : wx.heap[g]? = some (.cells #[.slice a0 r.fields.length c0, .int .i64 r.epoch, .int .i64 r.base, .slice a3 r.tables.length c3, .int .i64 0, .int .i64 r.out.epoch, .int .i64 r.out.next, .int .i64 r.out.now, .slice a1 r.out.wait.length c1, .bool r.str.opened, .slice a2 r.str.fields.length c2, .int .i64 r.str.next, .slice b2 r.str.dicts.length d2] 45 (0, 0)) := by have h := hHx.2.2; rw [x7, hxi, y13] at h; exact h
    have k5 := cR wx _ 5 _ _ _ hbV
    have k6 := cR wx _ 6 _ _ _ hbV
    have k7 := cR wx _ 7 _ _ _ hbV
    have k8 := cR wx _ 8 _ _ _ hbV
    have z5 := fR wx _ 5 _ _ hbV
    have z6 := fR wx _ 6 _ _ hbV
    have z7 := fR wx _ 7 _ _ hbV
    have z8 := fR wx _ 8 _ _ hbV
    simp only [gA, gZ, gU] at k5 k6 k7 k8
    have HBV := hid hbV
    have HHX := hid hHx
    clear hbV hHx
    clear h0
    refine wpOp_step rfl (fun K' hK => ?_)
    go_simp
    exact hK _ _ ⟨undef, (by simp [upd, e9, e3]), FX.is_mk trivial, fun h => absurd (by decide) h, fun _ => trivial, set13Ob hbx (Nat.zero_le _), ⟨by simpa using HHX.out.1, fun b h1 h2 => (set13Oo h2).trans (HHX.out.2.1 b h1 h2), by simp only [x7, y13, Bool.or_false, Bool.or_true, beq_self_eq_true, Bool.true_or]; exact set13O HBV.out⟩⟩
   ·
    try dsimp only
    have x2 := depX hdp 2 (by kernel_rfl)
    have d2 := hall 2 (by omega) x2
    have e2 : t 2 = .pointer (some ⟨g, 0, none⟩) := d2.1
    rw [e2]
    clear h0
    refine wpOp_step rfl (fun K' hK => ?_)
    go_simp
    exact hK _ _ ⟨.pointer (some ⟨g, 0, none⟩), (by simp [upd, e2]), FX.eq_mk rfl, fun _ => Below.refl _ _, fun h => absurd h (by decide), hbx, b2H_carry hHx 11 _ (by decide) (by decide) (by decide)⟩
   ·
    try dsimp only
    have x11 := depX hdp 11 (by kernel_rfl)
    have d11 := hall 11 (by omega) x11
    have e11 : t 11 = .pointer (some ⟨g, 0, none⟩) := d11.1
    rw [e11]
    clear h0
    refine wpOp_step rfl (fun K' hK => ?_)
    go_simp
    exact hK _ _ ⟨.pointer (some ⟨g, 9, none⟩), (by simp [upd, e11]), FX.eq_mk rfl, fun _ => Below.refl _ _, fun h => absurd h (by decide), hbx, b2H_carry hHx 12 _ (by decide) (by decide) (by decide)⟩
   ·
    try dsimp only
    have x12 := depX hdp 12 (by kernel_rfl)
    have d12 := hall 12 (by omega) x12
    have e12 : t 12 = .pointer (some ⟨g, 9, none⟩) := d12.1
    have x4 := depX hdp 4 (by kernel_rfl)
    have d4 := hall 4 (by omega) x4
    have e4 : t 4 = .agg #[.bool S.opened, .slice a2x S.fields.length c2x, .int .i64 S.next, .slice b2x S.dicts.length d2x] := d4.1
    rw [e12, e4]
    have x7 := depX hdp 7 (by kernel_rfl)
    have x10 := depX hdp 10 (by kernel_rfl)
    have hbV : wx.heap[g]? = some (.cells #[.slice a0 r.fields.length c0, .int .i64 r.epoch, .int .i64 r.base, .slice a3 r.tables.length c3, .int .i64 0, .int .i64 O.epoch, .int .i64 O.next, .int .i64 O.now, .slice a1x O.wait.length c1x, .bool r.str.opened, .slice a2 r.str.fields.length c2, .int .i64 r.str.next, .slice b2 r.str.dicts.length d2] 45 (0, 0)) := by have h := hHx.2.2; rw [x7, x10, hxi] at h; exact h
    have k9 := cR wx _ 9 _ _ _ hbV
    have k10 := cR wx _ 10 _ _ _ hbV
    have k11 := cR wx _ 11 _ _ _ hbV
    have k12 := cR wx _ 12 _ _ _ hbV
    have z9 := fR wx _ 9 _ _ hbV
    have z10 := fR wx _ 10 _ _ hbV
    have z11 := fR wx _ 11 _ _ hbV
    have z12 := fR wx _ 12 _ _ hbV
    simp only [gA, gZ, gU] at k9 k10 k11 k12
    have HBV := hid hbV
    have HHX := hid hHx
    clear hbV hHx
    clear h0
    refine wpOp_step rfl (fun K' hK => ?_)
    go_simp
    exact hK _ _ ⟨undef, (by simp [upd, e12, e4]), FX.is_mk trivial, fun h => absurd (by decide) h, fun _ => trivial, set13Sb hbx (Nat.zero_le _), ⟨by simpa using HHX.out.1, fun b h1 h2 => (set13So h2).trans (HHX.out.2.1 b h1 h2), by simp only [x7, x10, Bool.or_true, beq_self_eq_true, Bool.true_or]; exact set13S HBV.out⟩⟩
  ·intro x t wx hx hbx hall hHx
   obtain ⟨hsz, hoth, hbox⟩ := hHx
   rw [hx 7 (by omega), hx 10 (by omega), hx 13 (by omega)] at hbox
   have hbox' : wx.heap[g]? = some (.cells #[.slice a0 r.fields.length c0, .int .i64 r.epoch, .int .i64 r.base, .slice a3 r.tables.length c3, .int .i64 0, .int .i64 O.epoch, .int .i64 O.next, .int .i64 O.now, .slice a1x O.wait.length c1x, .bool S.opened, .slice a2x S.fields.length c2x, .int .i64 S.next, .slice b2x S.dicts.length d2x] 45 (0, 0)) := hbox
   have HBOX := hid hbox'
   have HOTH := hid hoth
   have HTP := hid hbx
   have hsz2 := hsz
   clear hall hbx hoth hbox hbox' hx hsz
   try dsimp only
   (try simp only [Exit.inBlock, Exit.then])
   refine bodyPost_end (results_none rfl _ _ _) rfl ?_
   refine ⟨a1x, c1x, a2x, c2x, b2x, d2x, os, bs, ds, rfl, HBOX.out, HOO.out.kept (fun x hx => HOTH.out x (HOO.out.lt x hx) (by have := HLO.out x hx; have := HGL.out; omega)), keptSt HSS.out (fun x hx => HOTH.out x (ltS9 HSS.out x hx) (by have := HLS.out x hx; have := HGL.out; omega)), ?_, ?_, hto, ?_⟩
   ·intro x hx
    rcases List.mem_append.1 hx with h | h
    ·have := HLO.out x h; omega
    ·exact HLS.out x h
   ·refine List.nodup_append.2 ⟨HNO.out, HNS.out, fun x hx y hy e => ?_⟩
    have := HLO.out x hx
    have := HSL.out y hy
    omega
   ·exact ⟨HTP.out.os.trans HB2.out.os, HTP.out.tape.trans HB2.out.tape, HTP.out.output.trans HB2.out.output, Nat.le_trans HB2.out.size hsz2, fun k hk hn => (HOTH.out k (Nat.lt_of_lt_of_le hk HB2.out.size) (by simpa using hn)).trans (HB2.out.block k hk)⟩
end Go.Proofs.YtfaehioeepolhabGreat
