/- Set4, Msg, SlSzField, SlEqField, Strm, Txt. -/
import Derived.Test.YtfaehioeepolhaaGreatJOpenSender0
import Derived.Test.YtfaehioeepolhaaGreatJOpenSender9
import Derived.Test.YtfaehioeepolhaaGreatJOpenSender7
import Derived.Test.YtfaehioeepolhaaGreatJOpenSender10
import Derived.Test.YtfaehioeepolhaaGreatJOpenSender2
import Derived.Handy
import Derived.Test.YtfaehioeepolhaaGreatJOpenSender3
import Derived.Deep.RegionHeld
/- Blocks of four cells. No program. -/
namespace Go.Proofs.YtfaehioeepolhaaGreat
open Go.RowKit

theorem set4 {w : World} {g : Nat} {e : TypeId} {a b c d x y z u : Value} (h : w.heap[g]? = some (.cells #[a, b, c, d] e (0, 0))) :
    ((((w.setCell ⟨g, 0, none⟩ x).setCell ⟨g, 1, none⟩ y).setCell ⟨g, 2, none⟩ z).setCell ⟨g, 3, none⟩ u).heap[g]? = some (.cells #[x, y, z, u] e (0, 0)) := by
  have h1 := heap_setCell_same w g 0 _ e x h
  have h2 := heap_setCell_same _ g 1 _ e y h1
  have h3 := heap_setCell_same _ g 2 _ e z h2
  have h4 := heap_setCell_same _ g 3 _ e u h3
  rw [h4]; rfl
theorem set4o {w : World} {g k : Nat} {x y z u : Value} (h : k ≠ g) : ((((w.setCell ⟨g, 0, none⟩ x).setCell ⟨g, 1, none⟩ y).setCell ⟨g, 2, none⟩ z).setCell ⟨g, 3, none⟩ u).heap[k]? = w.heap[k]? := by
  rw [Below.heap_setCell _ _ _ _ h, Below.heap_setCell _ _ _ _ h, Below.heap_setCell _ _ _ _ h, Below.heap_setCell _ _ _ _ h]
theorem set4b {B : Nat} {a w : World} {g : Nat} {x y z u : Value} (h : Below B a w) (hg : B ≤ g) : Below B a ((((w.setCell ⟨g, 0, none⟩ x).setCell ⟨g, 1, none⟩ y).setCell ⟨g, 2, none⟩ z).setCell ⟨g, 3, none⟩ u) :=
  (((h.setCell (p := ⟨g, 0, none⟩) hg _).setCell (p := ⟨g, 1, none⟩) hg _).setCell (p := ⟨g, 2, none⟩) hg _).setCell (p := ⟨g, 3, none⟩) hg _

end Go.Proofs.YtfaehioeepolhaaGreat

/- Messages in memory: laws.toMessage, szMessage, eqMessage, markMessage. -/
namespace Go.Proofs.YtfaehioeepolhaaGreat
open Go.RowKit

/-! ### blocks of four cells -/
/-- The message's four cells. -/
abbrev mcells (m : PM) (v : Value) : Array Value := #[.int .i64 m.kind, .int .i64 m.field, .int .i64 m.count, v]
structure PMIn (m : PM) : Prop where
  kind : IntIn m.kind
  field : IntIn m.field
  count : IntIn m.count

end Go.Proofs.YtfaehioeepolhaaGreat

/- laws.szField, szFieldS. -/
namespace Go.Proofs.YtfaehioeepolhaaGreat
open Go.RowKit

set_option maxHeartbeats 400000 in
theorem szField_law : SzLaw Tryz.prog 62 cField (fun f : PF => f.name.length) := by
  intro w x cs l hrd h0 h1
  obtain ⟨a, cap, rfl⟩ := cField_shape hrd
  have hm : x.name.length ≤ maxLen := by
    obtain ⟨v, e, ⟨a', cap', rfl, h2, h3, _⟩, _⟩ := cField_rd hrd
    omega
  simp only [val]
  by_cases hneg : rest l x.name.length < 0
  · have hm1 := rest_neg1 hneg
    go_enter Tryz.func62, Tryz.ntmps62
    go_wp2_with fail
    refine (szBytes_any a _ cap l _ hm h0 h1).mono ?_
    rintro e w2 ⟨rfl, rfl⟩
    have HM := hid hm1
    clear hm1
    generalize hr : rest l x.name.length = r at *
    go_wp2
    go_ret
    exact ⟨by show _ = Ending.returned (.int .i64 (rest l x.name.length)); rw [hr, HM.out]; rfl, below_new1 _ _⟩
  · go_enter Tryz.func62, Tryz.ntmps62
    go_wp2_with fail
    refine (szBytes_any a _ cap l _ hm h0 h1).mono ?_
    rintro e w2 ⟨rfl, rfl⟩
    generalize hr : rest l x.name.length = r at *
    go_wp2
    go_ret
    exact ⟨by show _ = Ending.returned (.int .i64 (rest l x.name.length)); rw [hr]; rfl, below_new1 _ _⟩

set_option maxHeartbeats 1000000 in
theorem szFieldS_any (a : Option Addr) (cap : Nat) (xs : List PF) (l : Int) (w : World) (hr : RdSl cField w xs (.slice a xs.length cap)) (h0 : 0 ≤ l) (h1 : l ≤ 1048576) :
    Calls Tryz.prog 18 #[.slice a xs.length cap, .int .i64 l] w fun e w' => e = .returned (.int .i64 (rest l (totL (fun f : PF => f.name.length) xs))) ∧ Below w.heap.size w w' := by
  have hml : xs.length ≤ maxLen := by
    obtain ⟨a', cap', e', g1, g2, _⟩ := hr
    omega
  unfold maxLen at hml
  have HR := hid hr
  clear hr
  by_cases hbig : l - (xs.length : Int) < 0
  · have HM : Hid (rest l (totL (fun f : PF => f.name.length) xs) = -1) := hid (by unfold rest totL; rw [if_pos (by omega)])
    go_enter Tryz.func18, Tryz.ntmps18
    go_wp2
    go_ret
    exact ⟨by rw [HM.out]; rfl, Below.refl _ _⟩
  · go_enter Tryz.func18, Tryz.ntmps18
    go_wp2
    go_loopw [1, 5] (fun q i wr => ∃ k : Nat, k ≤ xs.length ∧ i = .int .i64 k ∧ q = .int .i64 (rest l (xs.length + ((xs.take k).map (fun f : PF => f.name.length)).sum)) ∧ 0 ≤ rest l (xs.length + ((xs.take k).map (fun f : PF => f.name.length)).sum) ∧ Below w.heap.size w wr) (fun _ i _ => xs.length - (intOf i).toNat)
    case atStart => exact ⟨0, Nat.zero_le _, rfl, by simp [rest]; omega, by simp [rest]; omega, Below.refl _ _⟩
    case round =>
      obtain ⟨k, hk, rfl, rfl, hle, hbe⟩ := hrel
      have HB := hid hbe
      clear hbe
      by_cases hlt : k < xs.length
      · obtain ⟨b, off, v0, v1, v2, rfl, hes, d0, d1, d2⟩ := (HR.out.later HB.out).at3 rfl hlt
        have HE := hid hes
        have hki : (k : Int) < (xs.length : Int) := by omega
        have HS := hid (sum_snoc (fun f : PF => f.name.length) xs k hlt)
        have HT := hid (rest_two (m := (fun f : PF => f.name.length) xs[k]) hle)
        have HNG : Hid (rest l (xs.length + ((xs.take (k + 1)).map (fun f : PF => f.name.length)).sum) < 0 → rest l (totL (fun f : PF => f.name.length) xs) = -1) := hid (fun h => by
          have h2 := sum_take (fun f : PF => f.name.length) xs (k + 1)
          have h3 := rest_neg (m := totL (fun f : PF => f.name.length) xs - (xs.length + ((xs.take (k + 1)).map (fun f : PF => f.name.length)).sum)) h
          unfold totL at *
          rw [show xs.length + ((xs.take (k + 1)).map (fun f : PF => f.name.length)).sum + (xs.length + (xs.map (fun f : PF => f.name.length)).sum - (xs.length + ((xs.take (k + 1)).map (fun f : PF => f.name.length)).sum)) = xs.length + (xs.map (fun f : PF => f.name.length)).sum from by omega] at h3
          exact h3)
        have hup := rest_le (n := xs.length + ((xs.take k).map (fun f : PF => f.name.length)).sum) h1
        clear hes
        generalize hq : rest l (xs.length + ((xs.take k).map (fun f : PF => f.name.length)).sum) = q at *
        go_wp2_with fail
        refine (szField_law wr xs[k] _ q HE.out hle hup).mono ?_
        rintro e w2 ⟨rfl, b2⟩
        have HB2 := hid (HB.out.trans (b2.mono HB.out.size))
        clear b2
        have HQ : Hid (rest q ((fun f : PF => f.name.length) xs[k]) = rest l (xs.length + ((xs.take (k + 1)).map (fun f : PF => f.name.length)).sum)) := hid (by rw [HT.out, HS.out, Nat.add_assoc])
        generalize rest q ((fun f : PF => f.name.length) xs[k]) = r at *
        by_cases hneg : r < 0
        · have hz := HNG.out (by rw [← HQ.out]; exact hneg)
          have HZ := hid hz
          clear hz
          go_wp2
          go_ret
          exact ⟨by rw [HZ.out]; rfl, HB2.out⟩
        · go_wp2
          go_roundw
          case rel => exact ⟨k + 1, by omega, by go_num, by rw [HQ.out], by rw [← HQ.out]; omega, HB2.out⟩
          case measure => simp [intOf]; omega
      · obtain rfl : k = xs.length := by omega
        have HF : Hid (rest l (xs.length + ((xs.take xs.length).map (fun f : PF => f.name.length)).sum) = rest l (totL (fun f : PF => f.name.length) xs)) := hid (by rw [List.take_length]; rfl)
        rw [HF.out]
        go_wp2
        go_ret
        exact ⟨rfl, HB.out⟩

theorem szFieldS_law : SzLaw Tryz.prog 18 (cSl cField 98) (totL (fun f : PF => f.name.length)) := by
  intro w xs cs l h h0 h1
  obtain ⟨v, rfl, hv⟩ := h
  obtain ⟨a, cap, rfl, _⟩ := id hv
  exact szFieldS_any a cap xs l w hv h0 h1

end Go.Proofs.YtfaehioeepolhaaGreat

/- laws.eqField, eqFieldS: two that are alike. -/
namespace Go.Proofs.YtfaehioeepolhaaGreat
open Go.RowKit

set_option maxHeartbeats 1000000 in
theorem eqField_law : EqLaw Tryz.prog 67 cField (fun f : PF => f.name.length) := by
  intro w x cs cs' h1 h2 ht
  obtain ⟨a1, c1, rfl⟩ := cField_shape h1
  obtain ⟨a2, c2, rfl⟩ := cField_shape h2
  have r1 : Rd w a1 (byt x.name) := by
    obtain ⟨v, e, hv, _⟩ := cField_rd h1
    obtain ⟨a', cap', rfl, _, _, _, hr, _⟩ := hv.bytes
    simp at e; rw [e.1]; exact hr
  have r2 : Rd w a2 (byt x.name) := by
    obtain ⟨v, e, hv, _⟩ := cField_rd h2
    obtain ⟨a', cap', rfl, _, _, _, hr, _⟩ := hv.bytes
    simp at e; rw [e.1]; exact hr
  simp only [val]
  clear h1 h2
  go_enter Tryz.func67, Tryz.ntmps67
  go_wp2_with fail
  refine (eqByteS_any a1 a2 c1 c2 _ x.name _ (r1.later (below_new2 _ _ _)) (r2.later (below_new2 _ _ _)) rfl (by have h : x.name.length ≤ 1048576 := ht; omega)).mono ?_
  rintro e w2 ⟨rfl, b2⟩
  rw [size2] at b2
  obtain ⟨k0, k1⟩ := heap2 _ _ b2
  have p0 := cell_of_row w2 _ 1 _ _ _ k0
  have p1 := cell_of_row w2 _ 2 _ _ _ k0
  have q0 := cell_of_row w2 _ 1 _ _ _ k1
  have q1 := cell_of_row w2 _ 2 _ _ _ k1
  simp at p0 p1 q0 q1
  have HB : Hid (Below w.heap.size w w2) := hid ((below_new2 w _ _).trans (b2.mono (by omega)))
  clear k0 k1 b2 r1 r2
  go_wp2
  go_ret
  exact ⟨rfl, HB.out⟩

set_option maxHeartbeats 2000000 in
theorem eqFieldS_any (a1 a2 : Option Addr) (c1 c2 : Nat) (xs : List PF) (w : World) (h1 : RdSl cField w xs (.slice a1 xs.length c1)) (h2 : RdSl cField w xs (.slice a2 xs.length c2)) (ht : totL (fun f : PF => f.name.length) xs ≤ 1048576) :
    Calls Tryz.prog 22 #[.slice a1 xs.length c1, .slice a2 xs.length c2] w fun e w' => e = .returned (.bool true) ∧ Below w.heap.size w w' := by
  have H1 := hid h1
  have H2 := hid h2
  clear h1 h2
  have hlen : xs.length ≤ 1048576 := by unfold totL at ht; omega
  go_enter Tryz.func22, Tryz.ntmps22
  go_wp2
  go_loopw [5] (fun i wr => ∃ k : Nat, k ≤ xs.length ∧ i = .int .i64 k ∧ Below w.heap.size w wr) (fun i _ => xs.length - (intOf i).toNat)
  case atStart => exact ⟨0, Nat.zero_le _, rfl, Below.refl _ _⟩
  case round =>
    obtain ⟨k, hk, rfl, hbe⟩ := hrel
    have HB := hid hbe
    clear hbe
    by_cases hlt : k < xs.length
    · obtain ⟨b1, o1, x0, x1, x2, rfl, hes1, d0, d1, d2⟩ := (H1.out.later HB.out).at3 rfl hlt
      obtain ⟨b2, o2, y0, y1, y2, rfl, hes2, g0, g1, g2⟩ := (H2.out.later HB.out).at3 rfl hlt
      have HQ : Hid (Calls Tryz.prog 67 #[.agg #[x0, x1, x2], .agg #[y0, y1, y2]] wr.drew fun e w' => e = .returned (.bool true) ∧ Hid (Below w.heap.size w w') ∧ w'.cell? ⟨b1, o1 + k * 3, none⟩ = some x0 ∧ w'.cell? ⟨b1, o1 + k * 3 + 1, none⟩ = some x1 ∧ w'.cell? ⟨b1, o1 + k * 3 + 2, none⟩ = some x2 ∧ w'.cell? ⟨b2, o2 + k * 3, none⟩ = some y0 ∧ w'.cell? ⟨b2, o2 + k * 3 + 1, none⟩ = some y1 ∧ w'.cell? ⟨b2, o2 + k * 3 + 2, none⟩ = some y2) := hid (by
        refine (eqField_law wr.drew xs[k] _ _ (cField.later hes1 (Below.refl _ _).drew) (cField.later hes2 (Below.refl _ _).drew) (by have := tot_at (fun f : PF => f.name.length) xs k hlt; unfold totL at ht; simp only [] at this ⊢; omega)).mono ?_
        rintro e w' ⟨rfl, b⟩
        have kp : ∀ p v, wr.cell? p = some v → w'.cell? p = some v := fun p v h => (b.cell (World.block_lt_of_cell? _ _ h)).trans h
        exact ⟨rfl, hid (HB.out.drew.trans (b.mono HB.out.size)), kp _ _ d0, kp _ _ d1, kp _ _ d2, kp _ _ g0, kp _ _ g1, kp _ _ g2⟩)
      have hki : (k : Int) < (xs.length : Int) := by omega
      clear hes1 hes2
      go_wp2
      go_region_held (fun w' => w'.cell? ⟨b1, o1 + k * 3, none⟩ = some x0 ∧ w'.cell? ⟨b1, o1 + k * 3 + 1, none⟩ = some x1 ∧ w'.cell? ⟨b1, o1 + k * 3 + 2, none⟩ = some x2 ∧ w'.cell? ⟨b2, o2 + k * 3, none⟩ = some y0 ∧ w'.cell? ⟨b2, o2 + k * 3 + 1, none⟩ = some y1 ∧ w'.cell? ⟨b2, o2 + k * 3 + 2, none⟩ = some y2) (go_keep) (first | (go_at_call 67; refine HQ.out.mono ?_; rintro e w' ⟨rfl, hw', hd0, hd1, hd2, hg0, hg1, hg2⟩))
      go_wp2
      go_roundw
      case rel => exact ⟨k + 1, by omega, by go_num, hw'.out⟩
      case measure => simp [intOf]; omega
    · obtain rfl : k = xs.length := by omega
      go_wp2
      go_ret
      exact ⟨rfl, HB.out⟩

theorem eqFieldS_law : EqLaw Tryz.prog 22 (cSl cField 98) (totL (fun f : PF => f.name.length)) := by
  intro w xs cs cs' h1 h2 ht
  obtain ⟨v, rfl, hv⟩ := h1
  obtain ⟨a, cap, rfl, _⟩ := id hv
  obtain ⟨v', rfl, hv'⟩ := h2
  obtain ⟨a', cap', rfl, _⟩ := id hv'
  exact eqFieldS_any a a' cap cap' xs w hv hv' ht

end Go.Proofs.YtfaehioeepolhaaGreat

/- Streams in memory: laws.szStream, toStream, eqStream. -/
namespace Go.Proofs.YtfaehioeepolhaaGreat
open Go.RowKit

structure PStr where
  opened : Bool
  fields : List PF
  next : Int
  dicts : List (List (List Nat))
def fN (f : PF) : Nat := f.name.length
def tStr (s : PStr) : Nat := totL fN s.fields + totL tS s.dicts
/-- A stream's two lists, as they read. -/
structure RdStr (w : World) (s : PStr) (a : Option Addr) (c : Nat) (b : Option Addr) (d : Nat) : Prop where
  f : RdSl cField w s.fields (.slice a s.fields.length c)
  t : RdSl cSSS w s.dicts (.slice b s.dicts.length d)
theorem RdStr.later {w w' : World} {s : PStr} {a b : Option Addr} {c d : Nat} (h : RdStr w s a c b d) (hb : Below w.heap.size w w') : RdStr w' s a c b d := ⟨h.f.later hb, h.t.later hb⟩
/-- The stream's four cells. -/
abbrev strA (s : PStr) (a : Option Addr) (c : Nat) (b : Option Addr) (d : Nat) : Array Value := #[.bool s.opened, .slice a s.fields.length c, .int .i64 s.next, .slice b s.dicts.length d]

set_option maxHeartbeats 1000000 in
theorem szStream_any (s : PStr) (a b : Option Addr) (c d : Nat) (l : Int) (w : World) (hr : RdStr w s a c b d) (h0 : 0 ≤ l) (h1 : l ≤ 1048576) :
    Calls Tryz.prog 36 #[.agg #[.bool s.opened, .slice a s.fields.length c, .int .i64 s.next, .slice b s.dicts.length d], .int .i64 l] w fun e w' => e = .returned (.int .i64 (rest l (tStr s))) ∧ Below w.heap.size w w' := by
  have HR := hid hr
  have HT : Hid (rest l (tStr s) = rest l (totL fN s.fields + totL tS s.dicts)) := hid rfl
  clear hr
  generalize rest l (tStr s) = R at *
  go_enter Tryz.func36, Tryz.ntmps36
  go_wp2_with fail
  refine (szFieldS_any a c s.fields l _ (HR.out.f.later (below_new1 _ _)) h0 h1).mono ?_
  rintro e w2 ⟨rfl, b2⟩
  rw [show totL (fun f : PF => f.name.length) s.fields = totL fN s.fields from rfl]
  have k1 := heap1 _ (by simpa using b2)
  have p3 := cell_of_row w2 _ 3 _ _ _ k1
  simp only [List.getElem?_toArray, List.getElem?_cons_zero, List.getElem?_cons_succ] at p3
  have HB2 : Hid (Below w.heap.size w w2) := hid (below_chain (below_new1 _ _) b2)
  clear k1 b2
  by_cases hneg : rest l (totL fN s.fields) < 0
  · have HN : Hid (rest l (totL fN s.fields) = -1) := hid (rest_neg1 hneg)
    have HR2 : Hid (R = -1) := hid (by rw [HT.out, rest_neg hneg])
    generalize rest l (totL fN s.fields) = r at *
    go_wp2
    go_ret
    exact ⟨by rw [HR2.out]; rfl, HB2.out⟩
  · have HR2 : Hid (R = rest (rest l (totL fN s.fields)) (totL tS s.dicts)) := hid (by rw [HT.out, rest_two (by omega)])
    have hup := rest_le (n := totL fN s.fields) h1
    generalize rest l (totL fN s.fields) = r at *
    go_wp2_with fail
    refine (szSSS_any b d s.dicts r w2 (HR.out.t.later HB2.out) (by omega) hup).mono ?_
    rintro e w3 ⟨rfl, rfl⟩
    rw [← HR2.out]
    by_cases hn2 : R < 0
    · have HN : Hid (R = -1) := hid (by rw [HR2.out] at hn2 ⊢; exact rest_neg1 hn2)
      clear HT
      go_wp2
      go_ret
      exact ⟨by rw [HN.out]; rfl, HB2.out⟩
    · clear HT
      go_wp2
      go_ret
      exact ⟨rfl, HB2.out⟩

set_option maxHeartbeats 2000000 in
theorem eqStream_any (s : PStr) (a b a' b' : Option Addr) (c d c' d' : Nat) (w : World) (h1 : RdStr w s a c b d) (h2 : RdStr w s a' c' b' d') (ht : tStr s ≤ 1048576) :
    Calls Tryz.prog 50 #[.agg #[.bool s.opened, .slice a s.fields.length c, .int .i64 s.next, .slice b s.dicts.length d], .agg #[.bool s.opened, .slice a' s.fields.length c', .int .i64 s.next, .slice b' s.dicts.length d']] w fun e w' => e = .returned (.bool true) ∧ Below w.heap.size w w' := by
  have H1 := hid h1
  have H2 := hid h2
  have ht1 : totL fN s.fields ≤ 1048576 ∧ totL tS s.dicts ≤ 1048576 := by unfold tStr at ht; omega
  have hbx : (s.opened != s.opened) = false := by simp
  have hnx : (s.next != s.next) = false := by simp
  clear h1 h2
  go_enter Tryz.func50, Tryz.ntmps50
  go_wp2_with fail
  refine (eqFieldS_any a a' c c' s.fields _ (H1.out.f.later (below_new2 _ _ _)) (H2.out.f.later (below_new2 _ _ _)) ht1.1).mono ?_
  rintro e w2 ⟨rfl, b2⟩
  rw [size2] at b2
  obtain ⟨k0, k1⟩ := heap2 _ _ b2
  have p2 := cell_of_row w2 _ 2 _ _ _ k0
  have p3 := cell_of_row w2 _ 3 _ _ _ k0
  have q2 := cell_of_row w2 _ 2 _ _ _ k1
  have q3 := cell_of_row w2 _ 3 _ _ _ k1
  simp only [List.getElem?_toArray, List.getElem?_cons_zero, List.getElem?_cons_succ] at p2 p3 q2 q3
  have HB : Hid (Below w.heap.size w w2) := hid ((below_new2 w _ _).trans (b2.mono (by omega)))
  clear k0 k1 b2
  go_wp2_with fail
  refine (eqSSS_any b b' d d' s.dicts w2 (H1.out.t.later HB.out) (H2.out.t.later HB.out) ht1.2).mono ?_
  rintro e w3 ⟨rfl, b3⟩
  have HB3 := hid (below_chain HB.out b3)
  clear b3
  go_wp2
  go_ret
  exact ⟨rfl, HB3.out⟩

/-- A stream in new memory. -/
structure OwnStr (w : World) (s : PStr) (a : Option Addr) (c : Nat) (b : Option Addr) (d : Nat) (bs ds : List Nat) : Prop where
  f : OwnSl cField 98 w s.fields (.slice a s.fields.length c) bs
  t : OwnSl cSSS 123 w s.dicts (.slice b s.dicts.length d) ds
theorem OwnStr.rd {w : World} {s : PStr} {a b : Option Addr} {c d : Nat} {bs ds : List Nat} (h : OwnStr w s a c b d bs ds) : RdStr w s a c b d := ⟨h.f.rd, h.t.rd⟩

set_option maxHeartbeats 2000000 in
theorem toStream_any (s : PStr) (a b : Option Addr) (c d : Nat) (w : World) (hr : RdStr w s a c b d) (ht : tStr s ≤ 1048576) :
    Calls Tryz.prog 42 #[.agg #[.bool s.opened, .slice a s.fields.length c, .int .i64 s.next, .slice b s.dicts.length d]] w fun e w' => ∃ a' c' b' d' bs ds, e = .returned (.agg #[.bool s.opened, .slice a' s.fields.length c', .int .i64 s.next, .slice b' s.dicts.length d']) ∧ OwnStr w' s a' c' b' d' bs ds ∧ (∀ x ∈ bs ++ ds, w.heap.size ≤ x) ∧ (bs ++ ds).Nodup ∧ Below w.heap.size w w' := by
  have HR := hid hr
  have ht1 : totL fN s.fields ≤ 1048576 ∧ totL tS s.dicts ≤ 1048576 := by unfold tStr at ht; omega
  clear hr
  go_enter Tryz.func42, Tryz.ntmps42
  go_wp2_with fail
  refine (toFieldS_any a c s.fields _ (HR.out.f.later (below_new3 _ _ _ _)) ht1.1).mono ?_
  rintro e w2 ⟨v2, bs, rfl, o2, l2, n2, b2⟩
  obtain ⟨a2, c2, rfl, -⟩ := id o2.rd
  rw [size3] at b2 l2
  obtain ⟨k0, k1, k2⟩ := heap3 _ _ _ b2
  have c02 := cell_of_row w2 _ 2 _ _ _ k0
  have c03 := cell_of_row w2 _ 3 _ _ _ k0
  have c21 := cell_of_row w2 _ 1 _ _ _ k2
  have c22 := cell_of_row w2 _ 2 _ _ _ k2
  have f21 := frozen_of_row w2 _ 1 _ _ k2
  have f22 := frozen_of_row w2 _ 2 _ _ k2
  simp only [List.getElem?_toArray, List.getElem?_cons_zero, List.getElem?_cons_succ] at c02 c03 c21 c22
  have hx0 : w.heap.size ≠ w.heap.size + 1 + 1 := by omega
  have hx1 : w.heap.size + 1 ≠ w.heap.size + 1 + 1 := by omega
  have hb2s : w.heap.size + 3 ≤ w2.heap.size := by have h := b2.size; rw [size3] at h; exact h
  have K2 : Hid (((w2.setCell ⟨w.heap.size + 1 + 1, 1, none⟩ (.slice a2 s.fields.length c2)).setCell ⟨w.heap.size + 1 + 1, 2, none⟩ (.int .i64 s.next)).heap[w.heap.size + 1 + 1]? = some (.cells #[.bool s.opened, .slice a2 s.fields.length c2, .int .i64 s.next, .slice none 0 0] 40 (0, 0))) := hid (by
    have h1 := heap_setCell_same _ _ 1 _ _ (.slice a2 s.fields.length c2) k2
    have h2 := heap_setCell_same _ _ 2 _ _ (.int .i64 s.next) h1
    exact h2)
  have hoth : ∀ j, j ≠ w.heap.size + 1 + 1 → ((w2.setCell ⟨w.heap.size + 1 + 1, 1, none⟩ (.slice a2 s.fields.length c2)).setCell ⟨w.heap.size + 1 + 1, 2, none⟩ (.int .i64 s.next)).heap[j]? = w2.heap[j]? := fun j hj => by
    rw [Below.heap_setCell _ _ _ _ hj, Below.heap_setCell _ _ _ _ hj]
  have K0 := hid ((hoth _ hx0).trans k0)
  have K1 := hid ((hoth _ hx1).trans k1)
  have HB2 : Hid (Below w.heap.size w ((w2.setCell ⟨w.heap.size + 1 + 1, 1, none⟩ (.slice a2 s.fields.length c2)).setCell ⟨w.heap.size + 1 + 1, 2, none⟩ (.int .i64 s.next))) := hid ((((below_new3 w _ _ _).trans (b2.mono (by omega))).setCell (p := ⟨w.heap.size + 1 + 1, 1, none⟩) (by simp only []; omega) _).setCell (p := ⟨w.heap.size + 1 + 1, 2, none⟩) (by simp only []; omega) _)
  have HO2 : Hid (OwnSl cField 98 ((w2.setCell ⟨w.heap.size + 1 + 1, 1, none⟩ (.slice a2 s.fields.length c2)).setCell ⟨w.heap.size + 1 + 1, 2, none⟩ (.int .i64 s.next)) s.fields (.slice a2 s.fields.length c2) bs) := hid (o2.kept (fun x hx => hoth x (by have := l2 x hx; omega)))
  have HL2 := hid l2
  have HN2 := hid n2
  have hLT := o2.lt
  have hsz : ((w2.setCell ⟨w.heap.size + 1 + 1, 1, none⟩ (.slice a2 s.fields.length c2)).setCell ⟨w.heap.size + 1 + 1, 2, none⟩ (.int .i64 s.next)).heap.size = w2.heap.size := by simp
  have HLT : Hid (∀ x ∈ bs, x < ((w2.setCell ⟨w.heap.size + 1 + 1, 1, none⟩ (.slice a2 s.fields.length c2)).setCell ⟨w.heap.size + 1 + 1, 2, none⟩ (.int .i64 s.next)).heap.size) := hid (by rw [hsz]; exact hLT)
  clear k0 k1 k2 b2 o2 l2 n2 hoth hLT
  have hW3 : w.heap.size + 3 ≤ ((w2.setCell ⟨w.heap.size + 1 + 1, 1, none⟩ (.slice a2 s.fields.length c2)).setCell ⟨w.heap.size + 1 + 1, 2, none⟩ (.int .i64 s.next)).heap.size := by rw [hsz]; exact hb2s
  clear hsz
  go_wp2_with fail
  generalize ((w2.setCell ⟨w.heap.size + 1 + 1, 1, none⟩ (.slice a2 s.fields.length c2)).setCell ⟨w.heap.size + 1 + 1, 2, none⟩ (.int .i64 s.next)) = W at *
  clear c02 c03 c21 c22 f21 f22
  refine (toSSS_any b d s.dicts W (HR.out.t.later HB2.out) ht1.2).mono ?_
  rintro e w4 ⟨v4, ds, rfl, o4, l4, n4, b4⟩
  obtain ⟨a4, c4, rfl, -⟩ := id o4.rd
  have k0 := (b4.block _ (by omega)).trans K0.out
  have k1 := (b4.block _ (by omega)).trans K1.out
  have k2 := (b4.block _ (by omega)).trans K2.out
  have c20 := cell_of_row w4 _ 0 _ _ _ k2
  have c21 := cell_of_row w4 _ 1 _ _ _ k2
  have c22 := cell_of_row w4 _ 2 _ _ _ k2
  have c23 := cell_of_row w4 _ 3 _ _ _ k2
  have f23 := frozen_of_row w4 _ 3 _ _ k2
  have c10 := cell_of_row w4 _ 0 _ _ _ k1
  have c11 := cell_of_row w4 _ 1 _ _ _ k1
  have c12 := cell_of_row w4 _ 2 _ _ _ k1
  have c13 := cell_of_row w4 _ 3 _ _ _ k1
  have f10 := frozen_of_row w4 _ 0 _ _ k1
  have f11 := frozen_of_row w4 _ 1 _ _ k1
  have f12 := frozen_of_row w4 _ 2 _ _ k1
  have f13 := frozen_of_row w4 _ 3 _ _ k1
  simp only [List.getElem?_toArray, List.getElem?_cons_zero, List.getElem?_cons_succ] at c20 c21 c22 c23 c10 c11 c12 c13
  have H1 := hid k1
  have HB4 := hid (below_chain HB2.out b4)
  have HO4 := hid o4
  have HL4 := hid l4
  have HN4 := hid n4
  have HO5 : Hid (OwnSl cField 98 w4 s.fields (.slice a2 s.fields.length c2) bs) := hid (HO2.out.kept (fun x hx => b4.block x (HLT.out x hx)))
  have hs4 := b4.size
  clear k0 k1 k2 b4 o4 l4 n4 K0 K1 K2 HO2
  go_wp2
  refine bodyPost_ret (results_cell_row rfl _ _ (w.heap.size + 1) 40 #[.bool s.opened, .slice a2 s.fields.length c2, .int .i64 s.next, .slice a4 s.dicts.length c4] (0, 0) _ rfl (set4 ((Below.heap_setCell _ ⟨w.heap.size + 1 + 1, 3, none⟩ _ _ hx1).trans H1.out)) Tryz.underlying40 rfl (by kernel_rfl)) rfl ?_
  have hk : ∀ x, w.heap.size + 3 ≤ x → ((((((w4.setCell ⟨w.heap.size + 1 + 1, 3, none⟩ (.slice a4 s.dicts.length c4)).setCell ⟨w.heap.size + 1, 0, none⟩ (.bool s.opened)).setCell ⟨w.heap.size + 1, 1, none⟩ (.slice a2 s.fields.length c2)).setCell ⟨w.heap.size + 1, 2, none⟩ (.int .i64 s.next)).setCell ⟨w.heap.size + 1, 3, none⟩ (.slice a4 s.dicts.length c4)).heap[x]?) = w4.heap[x]? := fun x hx => (set4o (by omega)).trans (Below.heap_setCell _ ⟨w.heap.size + 1 + 1, 3, none⟩ _ _ (by simp only []; omega))
  refine ⟨a2, c2, a4, c4, bs, ds, rfl, ⟨HO5.out.kept (fun x hx => hk x (HL2.out x hx)), HO4.out.kept (fun x hx => hk x (by have := HL4.out x hx; omega))⟩, ?_, ?_, set4b (HB4.out.setCell (p := ⟨w.heap.size + 1 + 1, 3, none⟩) (by simp only []; omega) _) (by omega)⟩
  · intro x hx
    rcases List.mem_append.1 hx with h | h
    · have := HL2.out x h; omega
    · have := HL4.out x h; omega
  · exact List.nodup_append.2 ⟨HN2.out, HN4.out, fun x hx y hy e => by have := HLT.out x hx; have := HL4.out y hy; omega⟩

end Go.Proofs.YtfaehioeepolhaaGreat

/- spec.l3texts, l3join: texts in new memory. -/
namespace Go.Proofs.YtfaehioeepolhaaGreat
open Go.RowKit

set_option maxRecDepth 100000 in
set_option maxHeartbeats 2000000 in
theorem l3texts_any (a : Option Addr) (cap : Nat) (xs : List (List Nat)) (w : World) (hr : RdSl cSS w xs (.slice a xs.length cap)) (ht : totL List.length xs ≤ 1048576) :
    Calls Tryz.prog 173 #[.slice a xs.length cap] w fun e w' => ∃ v, e = .returned v ∧ Txts w.heap.size w' v xs ∧ Below w.heap.size w w' := by
  obtain ⟨i0, hi, hz0, hz1, hz2⟩ := info_parts infoSlT
  have HR := hid hr
  clear hr
  rw [totL_tot] at ht
  go_enter Tryz.func173, Tryz.ntmps173
  go_wp2
  go_loopw [3, 4] (fun v i wr => ∃ k : Nat, k ≤ xs.length ∧ i = .int .i64 k ∧ Txts w.heap.size wr v (xs.take k) ∧ Below w.heap.size w wr) (fun _ i _ => xs.length - (intOf i).toNat)
  case atStart => exact ⟨0, Nat.zero_le _, rfl, by simpa using Txts.nil _ w, Below.refl _ _⟩
  case round =>
    obtain ⟨k, hk, rfl, htx, hbe⟩ := hrel
    have HX := hid htx
    have HB := hid hbe
    clear htx hbe
    by_cases hlt : k < xs.length
    · obtain ⟨b, off, a', c', rfl, hcb, hrr⟩ := (HR.out.later HB.out).row hlt
      have HRR := hid hrr
      have hlk := len_le_tot xs k hlt
      have hki : (k : Int) < (xs.length : Int) := by omega
      have HTK : Hid (xs.take (k + 1) = xs.take k ++ [xs[k]]) := hid (List.take_succ_eq_append_getElem hlt)
      have HTL : Hid ((xs.take k).length = k) := hid (by simp; omega)
      clear hrr
      go_wp2_with fail
      refine (l1copy_any a' c' xs[k] wr HRR.out (by omega)).mono ?_
      rintro e w2 ⟨u, rfl, o2, b2⟩
      obtain ⟨vals, how, hel⟩ := HX.out.later b2
      have hs2 : w.heap.size ≤ w2.heap.size := Nat.le_trans HB.out.size b2.size
      have HO := hid how
      have HEL := hid hel
      have HU := hid (own_mono o2 HB.out.size)
      have HBY := hid HRR.out.rdB.2
      have HB2 := hid (below_chain HB.out b2)
      obtain ⟨au, cu, rfl, -⟩ := rd_own o2
      rw [HTL.out] at how
      have HW := hid how
      clear how hel o2 b2
      go_wp2_with (first | (at_builtin; refine wpList_append_own _ rfl _ _ 123 rfl w.heap.size 23 i0 (.slice none 0 0) 1 24 Tryz.underlying123 hi hz0 hz1 hz2 rfl (by decide) _ k _ rfl (HW.out.alloc _) ⟨w2.heap.size, 0, none⟩ 1 1 [.slice au xs[k].length cu] rfl rfl (cell_one_new _ _ _) (one_cell rfl) (by unfold maxLen; omega) (by omega) (by simp; omega) ?_))
      intro v' w9 hown' hgrow _
      have HX9 : Hid (Txts w.heap.size w9 v' (xs.take (k + 1))) := hid (by
        rw [HTK.out]
        refine Txts.snoc (HO.out.alloc _) (fun i h => ?_) (HU.out.alloc _) HBY.out (by rw [HTL.out]; exact hown') hgrow
        obtain ⟨u', h1, h2, h3⟩ := HEL.out i h
        exact ⟨u', h1, h2.alloc _, h3⟩)
      have HB9 : Hid (Below w.heap.size w w9) := hid ((HB2.out.alloc HB2.out.size _).grown hgrow (by simp; omega) (fun p hp => (own_in HO.out hp).1))
      clear hown' hgrow
      go_wp2
      go_roundw
      case rel => exact ⟨k + 1, by omega, by go_num, HX9.out, HB9.out⟩
      case measure => simp [intOf]; omega
    · obtain rfl : k = xs.length := by omega
      have HF : Hid (Txts w.heap.size wr _ xs) := hid (by have := HX.out; rw [List.take_length] at this; exact this)
      go_wp2
      go_ret
      exact ⟨_, rfl, HF.out, HB.out⟩

end Go.Proofs.YtfaehioeepolhaaGreat
