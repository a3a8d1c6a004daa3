import Derived.Test.YtfaehioeepolhaaGreatJOpenSender15
import Derived.Test.YtfaehioeepolhaaGreatJOpenSender13
import Derived.Deep.RegionHeld
import Derived.Test.YtfaehioeepolhaaGreatJOpenSender11
import Derived.Test.YtfaehioeepolhaaGreatJOpenSender16
import Derived.Test.YtfaehioeepolhaaGreatJOpenSender3
namespace Go.Proofs.YtfaehioeepolhaaGreat
open Go.RowKit
theorem infoImSent : (Tryz.prog.info? 137).map (fun i => (i.zero, i.size, i.bytes)) = some (some (.agg #[.int .i64 0, .int .i64 0, .int .i64 0, .int .i64 0, .bool false, .slice none 0 0, .int .i64 0]), 7, 72) := by kernel_rfl
set_option maxRecDepth 100000 in
set_option maxHeartbeats 4000000 in
theorem eqSentS_any (a1 a2 : Option Addr) (c1 c2 : Nat) (xs : List PW) (w : World) (h1 : RdSl cSnt w xs (.slice a1 xs.length c1)) (h2 : RdSl cSnt w xs (.slice a2 xs.length c2)) (ht : totL wN xs ≤ 1048576) :
    Calls Tryz.prog 111 #[.slice a1 xs.length c1, .slice a2 xs.length c2] w fun e w' => e = .returned (.bool true) ∧ Below w.heap.size w w' := by
  have H1 := hid h1
  have H2 := hid h2
  clear h1 h2
  have hlen : xs.length ≤ 1048576 := by unfold totL at ht; omega
  go_enter Tryz.func111, Tryz.ntmps111
  go_wp2
  go_loopw [5] (fun i wr => ∃ k : Nat, k ≤ xs.length ∧ i = .int .i64 k ∧ Below w.heap.size w wr) (fun i _ => xs.length - (intOf i).toNat)
  case atStart => exact ⟨0, Nat.zero_le _, rfl, Below.refl _ _⟩
  case round =>
    obtain ⟨k, hk, rfl, hbe⟩ := hrel
    have HB := hid hbe
    clear hbe
    by_cases hlt : k < xs.length
    · obtain ⟨b1, o1, es1, rfl, hes1, hcs1⟩ := (H1.out.later HB.out).atN hlt
      obtain ⟨b2, o2, es2, rfl, hes2, hcs2⟩ := (H2.out.later HB.out).atN hlt
      obtain ⟨x1, y1, rfl⟩ := cSnt_shape hes1
      obtain ⟨x2, y2, rfl⟩ := cSnt_shape hes2
      have d0 : wr.cell? ⟨b1, o1 + k * 7, none⟩ = some (.int .i64 xs[k].pkt.kind) := by have h := hcs1 0 (by decide); rw [show cSnt.n = 7 from rfl] at h; simpa [Nat.add_assoc] using h
      have d1 : wr.cell? ⟨b1, o1 + k * 7 + 1, none⟩ = some (.int .i64 xs[k].pkt.epoch) := by have h := hcs1 1 (by decide); rw [show cSnt.n = 7 from rfl] at h; simpa [Nat.add_assoc] using h
      have d2 : wr.cell? ⟨b1, o1 + k * 7 + 2, none⟩ = some (.int .i64 xs[k].pkt.seq) := by have h := hcs1 2 (by decide); rw [show cSnt.n = 7 from rfl] at h; simpa [Nat.add_assoc] using h
      have d3 : wr.cell? ⟨b1, o1 + k * 7 + 3, none⟩ = some (.int .i64 xs[k].pkt.count) := by have h := hcs1 3 (by decide); rw [show cSnt.n = 7 from rfl] at h; simpa [Nat.add_assoc] using h
      have d4 : wr.cell? ⟨b1, o1 + k * 7 + 4, none⟩ = some (.bool xs[k].pkt.last) := by have h := hcs1 4 (by decide); rw [show cSnt.n = 7 from rfl] at h; simpa [Nat.add_assoc] using h
      have d5 : wr.cell? ⟨b1, o1 + k * 7 + 5, none⟩ = some (.slice x1 xs[k].pkt.data.length y1) := by have h := hcs1 5 (by decide); rw [show cSnt.n = 7 from rfl] at h; simpa [Nat.add_assoc] using h
      have d6 : wr.cell? ⟨b1, o1 + k * 7 + 6, none⟩ = some (.int .i64 xs[k].at_) := by have h := hcs1 6 (by decide); rw [show cSnt.n = 7 from rfl] at h; simpa [Nat.add_assoc] using h
      have g0 : wr.cell? ⟨b2, o2 + k * 7, none⟩ = some (.int .i64 xs[k].pkt.kind) := by have h := hcs2 0 (by decide); rw [show cSnt.n = 7 from rfl] at h; simpa [Nat.add_assoc] using h
      have g1 : wr.cell? ⟨b2, o2 + k * 7 + 1, none⟩ = some (.int .i64 xs[k].pkt.epoch) := by have h := hcs2 1 (by decide); rw [show cSnt.n = 7 from rfl] at h; simpa [Nat.add_assoc] using h
      have g2 : wr.cell? ⟨b2, o2 + k * 7 + 2, none⟩ = some (.int .i64 xs[k].pkt.seq) := by have h := hcs2 2 (by decide); rw [show cSnt.n = 7 from rfl] at h; simpa [Nat.add_assoc] using h
      have g3 : wr.cell? ⟨b2, o2 + k * 7 + 3, none⟩ = some (.int .i64 xs[k].pkt.count) := by have h := hcs2 3 (by decide); rw [show cSnt.n = 7 from rfl] at h; simpa [Nat.add_assoc] using h
      have g4 : wr.cell? ⟨b2, o2 + k * 7 + 4, none⟩ = some (.bool xs[k].pkt.last) := by have h := hcs2 4 (by decide); rw [show cSnt.n = 7 from rfl] at h; simpa [Nat.add_assoc] using h
      have g5 : wr.cell? ⟨b2, o2 + k * 7 + 5, none⟩ = some (.slice x2 xs[k].pkt.data.length y2) := by have h := hcs2 5 (by decide); rw [show cSnt.n = 7 from rfl] at h; simpa [Nat.add_assoc] using h
      have g6 : wr.cell? ⟨b2, o2 + k * 7 + 6, none⟩ = some (.int .i64 xs[k].at_) := by have h := hcs2 6 (by decide); rw [show cSnt.n = 7 from rfl] at h; simpa [Nat.add_assoc] using h
      have HQ : Hid (Calls Tryz.prog 159 #[.agg #[.int .i64 xs[k].pkt.kind, .int .i64 xs[k].pkt.epoch, .int .i64 xs[k].pkt.seq, .int .i64 xs[k].pkt.count, .bool xs[k].pkt.last, .slice x1 xs[k].pkt.data.length y1, .int .i64 xs[k].at_], .agg #[.int .i64 xs[k].pkt.kind, .int .i64 xs[k].pkt.epoch, .int .i64 xs[k].pkt.seq, .int .i64 xs[k].pkt.count, .bool xs[k].pkt.last, .slice x2 xs[k].pkt.data.length y2, .int .i64 xs[k].at_]] wr.drew fun e w' => e = .returned (.bool true) ∧ Hid (Below w.heap.size w w') ∧ w'.cell? ⟨b1, o1 + k * 7, none⟩ = some (.int .i64 xs[k].pkt.kind) ∧ w'.cell? ⟨b1, o1 + k * 7 + 1, none⟩ = some (.int .i64 xs[k].pkt.epoch) ∧ w'.cell? ⟨b1, o1 + k * 7 + 2, none⟩ = some (.int .i64 xs[k].pkt.seq) ∧ w'.cell? ⟨b1, o1 + k * 7 + 3, none⟩ = some (.int .i64 xs[k].pkt.count) ∧ w'.cell? ⟨b1, o1 + k * 7 + 4, none⟩ = some (.bool xs[k].pkt.last) ∧ w'.cell? ⟨b1, o1 + k * 7 + 5, none⟩ = some (.slice x1 xs[k].pkt.data.length y1) ∧ w'.cell? ⟨b1, o1 + k * 7 + 6, none⟩ = some (.int .i64 xs[k].at_) ∧ w'.cell? ⟨b2, o2 + k * 7, none⟩ = some (.int .i64 xs[k].pkt.kind) ∧ w'.cell? ⟨b2, o2 + k * 7 + 1, none⟩ = some (.int .i64 xs[k].pkt.epoch) ∧ w'.cell? ⟨b2, o2 + k * 7 + 2, none⟩ = some (.int .i64 xs[k].pkt.seq) ∧ w'.cell? ⟨b2, o2 + k * 7 + 3, none⟩ = some (.int .i64 xs[k].pkt.count) ∧ w'.cell? ⟨b2, o2 + k * 7 + 4, none⟩ = some (.bool xs[k].pkt.last) ∧ w'.cell? ⟨b2, o2 + k * 7 + 5, none⟩ = some (.slice x2 xs[k].pkt.data.length y2) ∧ w'.cell? ⟨b2, o2 + k * 7 + 6, none⟩ = some (.int .i64 xs[k].at_)) := hid (by
        have hq := eqSent_law wr.drew xs[k] _ _ (cSnt.later hes1 (Below.refl _ _).drew) (cSnt.later hes2 (Below.refl _ _).drew) (by have := tot_at wN xs k hlt; unfold totL at ht; omega)
        simp only [val] at hq
        refine hq.mono ?_
        rintro e w' ⟨rfl, b⟩
        have kp : ∀ p v, wr.cell? p = some v → w'.cell? p = some v := fun p v h => (b.cell (World.block_lt_of_cell? _ _ h)).trans h
        exact ⟨rfl, hid (HB.out.drew.trans (b.mono HB.out.size)), kp _ _ d0, kp _ _ d1, kp _ _ d2, kp _ _ d3, kp _ _ d4, kp _ _ d5, kp _ _ d6, kp _ _ g0, kp _ _ g1, kp _ _ g2, kp _ _ g3, kp _ _ g4, kp _ _ g5, kp _ _ g6⟩)
      have hki : (k : Int) < (xs.length : Int) := by omega
      clear hes1 hes2 hcs1 hcs2
      go_wp2
      go_region_held (fun w' => w'.cell? ⟨b1, o1 + k * 7, none⟩ = some (.int .i64 xs[k].pkt.kind) ∧ w'.cell? ⟨b1, o1 + k * 7 + 1, none⟩ = some (.int .i64 xs[k].pkt.epoch) ∧ w'.cell? ⟨b1, o1 + k * 7 + 2, none⟩ = some (.int .i64 xs[k].pkt.seq) ∧ w'.cell? ⟨b1, o1 + k * 7 + 3, none⟩ = some (.int .i64 xs[k].pkt.count) ∧ w'.cell? ⟨b1, o1 + k * 7 + 4, none⟩ = some (.bool xs[k].pkt.last) ∧ w'.cell? ⟨b1, o1 + k * 7 + 5, none⟩ = some (.slice x1 xs[k].pkt.data.length y1) ∧ w'.cell? ⟨b1, o1 + k * 7 + 6, none⟩ = some (.int .i64 xs[k].at_) ∧ w'.cell? ⟨b2, o2 + k * 7, none⟩ = some (.int .i64 xs[k].pkt.kind) ∧ w'.cell? ⟨b2, o2 + k * 7 + 1, none⟩ = some (.int .i64 xs[k].pkt.epoch) ∧ w'.cell? ⟨b2, o2 + k * 7 + 2, none⟩ = some (.int .i64 xs[k].pkt.seq) ∧ w'.cell? ⟨b2, o2 + k * 7 + 3, none⟩ = some (.int .i64 xs[k].pkt.count) ∧ w'.cell? ⟨b2, o2 + k * 7 + 4, none⟩ = some (.bool xs[k].pkt.last) ∧ w'.cell? ⟨b2, o2 + k * 7 + 5, none⟩ = some (.slice x2 xs[k].pkt.data.length y2) ∧ w'.cell? ⟨b2, o2 + k * 7 + 6, none⟩ = some (.int .i64 xs[k].at_)) (go_keep) (first | (go_at_call 159; refine HQ.out.mono ?_; rintro e w' ⟨rfl, hw', hd0, hd1, hd2, hd3, hd4, hd5, hd6, hg0, hg1, hg2, hg3, hg4, hg5, hg6⟩))
      go_wp2
      go_roundw
      case rel => exact ⟨k + 1, by omega, by go_num, hw'.out⟩
      case measure => simp [intOf]; omega
    · obtain rfl : k = xs.length := by omega
      go_wp2
      go_ret
      exact ⟨rfl, HB.out⟩
end Go.Proofs.YtfaehioeepolhaaGreat
namespace Go.Proofs.YtfaehioeepolhaaGreat
open Go.RowKit
structure PO where
  epoch : Int
  next : Int
  now : Int
  wait : List PW
set_option maxHeartbeats 1000000 in
theorem eqLinkOut_any (m : PO) (a b : Option Addr) (c d : Nat) (w : World) (h1 : RdSl cSnt w m.wait (.slice a m.wait.length c)) (h2 : RdSl cSnt w m.wait (.slice b m.wait.length d)) (ht : totL wN m.wait ≤ 1048576) :
    Calls Tryz.prog 61 #[.agg #[.int .i64 m.epoch, .int .i64 m.next, .int .i64 m.now, .slice a m.wait.length c], .agg #[.int .i64 m.epoch, .int .i64 m.next, .int .i64 m.now, .slice b m.wait.length d]] w fun e w' => e = .returned (.bool true) ∧ Below w.heap.size w w' := by
  have H1 := hid h1
  have H2 := hid h2
  clear h1 h2
  have x1 : (m.epoch != m.epoch) = false := by simp
  have x2 : (m.next != m.next) = false := by simp
  have x3 : (m.now != m.now) = false := by simp
  go_enter Tryz.func61, Tryz.ntmps61
  go_wp2_with fail
  refine (eqSentS_any a b c d m.wait _ (H1.out.later (below_new2 _ _ _)) (H2.out.later (below_new2 _ _ _)) ht).mono ?_
  rintro e w2 ⟨rfl, b2⟩
  have HB : Hid (Below w.heap.size w w2) := hid ((below_new2 w _ _).trans (b2.mono (by simp; omega)))
  clear b2
  go_wp2
  go_ret
  exact ⟨rfl, HB.out⟩
end Go.Proofs.YtfaehioeepolhaaGreat
namespace Go.Proofs.YtfaehioeepolhaaGreat
open Go.RowKit
def OutBox (B gm : Nat) (e n t : Int) (xs : List PW) (w : World) : Prop :=
  ∃ a c bs, w.heap[gm]? = some (.cells #[.int .i64 e, .int .i64 n, .int .i64 t, .slice a xs.length c] 56 (0, 0)) ∧ OwnSl cSnt 137 w xs (.slice a xs.length c) bs ∧ bs.Nodup ∧ ∀ b ∈ bs, B ≤ b ∧ b ≠ gm
theorem OutBox.later {B gm : Nat} {e n t : Int} {xs : List PW} {w w' : World} (h : OutBox B gm e n t xs w) (hb : Below w.heap.size w w') : OutBox B gm e n t xs w' := by
  obtain ⟨a, c, bs, h1, h2, h3, h4⟩ := h
  exact ⟨a, c, bs, (hb.block _ (Array.getElem?_eq_some_iff.1 h1).1).trans h1, h2.kept (fun b hm => hb.block b (h2.lt b hm)), h3, h4⟩
def fcOneS (lo : Nat) (s : PW) : Fct := ⟨fun v w => ∃ g a c bk, v = .slice (some ⟨g, 0, none⟩) 1 1 ∧ w.heap[g]? = some (.cells #[.int .i64 s.pkt.kind, .int .i64 s.pkt.epoch, .int .i64 s.pkt.seq, .int .i64 s.pkt.count, .bool s.pkt.last, .slice a s.pkt.data.length c, .int .i64 s.at_] 137 (0, 0)) ∧ OwnSl cByte 5 w s.pkt.data (.slice a s.pkt.data.length c) bk ∧ (∀ b ∈ bk, lo ≤ b) ∧ bk.Nodup,
  fun _ _ _ ⟨g, a, c, bk, e, h0, h1, h2, h3⟩ hb => ⟨g, a, c, bk, e, (hb.block _ (Array.getElem?_eq_some_iff.1 h0).1).trans h0, ownB_kept h1 hb, h2, h3⟩⟩
def fcGotS (B gm : Nat) (e n t : Int) (acc : Value) (xs : List PW) : Fct := ⟨fun v w => w.heap[gm]? = some (.cells #[.int .i64 e, .int .i64 n, .int .i64 t, acc] 56 (0, 0)) ∧ ∃ a c bs, v = .slice a xs.length c ∧ OwnSl cSnt 137 w xs (.slice a xs.length c) bs ∧ bs.Nodup ∧ ∀ b ∈ bs, B ≤ b ∧ b ≠ gm,
  fun _ _ _ ⟨h1, a, c, bs, e, h2, h3⟩ hb => ⟨(hb.block _ (Array.getElem?_eq_some_iff.1 h1).1).trans h1, a, c, bs, e, h2.kept (fun b hm => hb.block b (h2.lt b hm)), h3⟩⟩
def fcPutS (B gm : Nat) (e n t : Int) (xs : List PW) : Fct := ⟨fun _ w => OutBox B gm e n t xs w, fun _ _ _ h hb => h.later hb⟩
theorem outBox_put {B gm : Nat} {e n t : Int} {acc : Value} {xs : List PW} {w : World} {a : Option Addr} {c : Nat} {bs : List Nat} (h : w.heap[gm]? = some (.cells #[.int .i64 e, .int .i64 n, .int .i64 t, acc] 56 (0, 0))) (ho : OwnSl cSnt 137 w xs (.slice a xs.length c) bs) (hn : bs.Nodup) (hb : ∀ b ∈ bs, B ≤ b ∧ b ≠ gm) :
    OutBox B gm e n t xs (w.setCell ⟨gm, 3, none⟩ (.slice a xs.length c)) :=
  ⟨a, c, bs, heap_setCell_same _ _ 3 _ _ _ h, ho.kept (fun b hm => Below.heap_setCell _ ⟨gm, 3, none⟩ _ _ (hb b hm).2), hn, hb⟩
end Go.Proofs.YtfaehioeepolhaaGreat
namespace Go.Proofs.YtfaehioeepolhaaGreat
open Go.RowKit
set_option linter.unusedVariables false in
def soT (B lo gm gO b off c n k : Nat) (s : PW) (an : Option Addr) (cn : Nat) (acc : Value) (e nx t : Int) (xs : List PW) : Nat → FX
  | 0 => FX.eq (.pointer (some ⟨gm, 3, none⟩))
  | 1 => FX.eq (acc)
  | 2 => FX.eq (.pointer (some ⟨gO, 3, none⟩))
  | 3 => FX.eq (.slice (some ⟨b, off, none⟩) n c)
  | 4 => FX.eq (.int .i64 (k : Int))
  | 5 => FX.eq (.pointer (some ⟨b, off + k * 7, none⟩))
  | 6 => FX.eq (.pointer (some ⟨b, off + k * 7, none⟩))
  | 7 => FX.eq (.agg #[.int .i64 s.pkt.kind, .int .i64 s.pkt.epoch, .int .i64 s.pkt.seq, .int .i64 s.pkt.count, .bool s.pkt.last, .slice an s.pkt.data.length cn])
  | 8 => FX.pre [17, 19] (fcPk lo s.pkt)
  | 9 => FX.eq (.pointer (some ⟨gO, 3, none⟩))
  | 10 => FX.eq (.slice (some ⟨b, off, none⟩) n c)
  | 11 => FX.eq (.int .i64 (k : Int))
  | 12 => FX.eq (.pointer (some ⟨b, off + k * 7, none⟩))
  | 13 => FX.eq (.pointer (some ⟨b, off + k * 7 + 6, none⟩))
  | 14 => FX.eq (.int .i64 s.at_)
  | 15 => FX.pre [17, 19] (fcSn lo s)
  | 16 => FX.pre [17, 19] (fcOneS lo s)
  | 17 => FX.pre [19] (fcGotS B gm e nx t acc (xs ++ [s]))
  | 18 => FX.eq (.pointer (some ⟨gm, 3, none⟩))
  | 19 => FX.is (fcPutS B gm e nx t (xs ++ [s]))
  | _ => FX.eq undef
end Go.Proofs.YtfaehioeepolhaaGreat
namespace Go.Proofs.YtfaehioeepolhaaGreat
open Go.RowKit
set_option maxRecDepth 100000 in
set_option maxHeartbeats 2000000 in
theorem l5packet_any (p : PP) (a : Option Addr) (c : Nat) (w : World) (hr : RdSl cByte w p.data (.slice a p.data.length c)) (hl : p.data.length ≤ 1048576) :
    Calls Tryz.prog 172 #[.agg #[.int .i64 p.kind, .int .i64 p.epoch, .int .i64 p.seq, .int .i64 p.count, .bool p.last, .slice a p.data.length c]] w fun e w' => ∃ a2 c2 bk, e = .returned (.agg #[.int .i64 p.kind, .int .i64 p.epoch, .int .i64 p.seq, .int .i64 p.count, .bool p.last, .slice a2 p.data.length c2]) ∧ OwnSl cByte 5 w' p.data (.slice a2 p.data.length c2) bk ∧ (∀ b ∈ bk, w.heap.size ≤ b) ∧ bk.Nodup ∧ Below w.heap.size w w' := by
  have HR := hid hr
  have HBY : Hid (∀ x ∈ p.data, x < 256) := hid (by obtain ⟨_, _, _, _, _, _, _, h⟩ := hr.bytes; exact h)
  clear hr
  go_enter Tryz.func172, Tryz.ntmps172
  go_wp2_with fail
  refine (l1copy_any a c p.data _ (HR.out.later (below_new2 _ _ _)) hl).mono ?_
  rintro e w2 ⟨v2, rfl, o2, b2⟩
  obtain ⟨a2, c2, rfl, -⟩ := rd_own o2
  have hg := fun g h => own_in (g := g) o2 h
  rw [size2] at hg b2
  obtain ⟨k0, k1⟩ := heap2 _ _ b2
  have c00 := cell_of_row w2 _ 0 _ _ _ k0
  have f00 := frozen_of_row w2 _ 0 _ _ k0
  have c10 := cell_of_row w2 _ 0 _ _ _ k1
  have f10 := frozen_of_row w2 _ 0 _ _ k1
  have c01 := cell_of_row w2 _ 1 _ _ _ k0
  have f01 := frozen_of_row w2 _ 1 _ _ k0
  have c11 := cell_of_row w2 _ 1 _ _ _ k1
  have f11 := frozen_of_row w2 _ 1 _ _ k1
  have c02 := cell_of_row w2 _ 2 _ _ _ k0
  have f02 := frozen_of_row w2 _ 2 _ _ k0
  have c12 := cell_of_row w2 _ 2 _ _ _ k1
  have f12 := frozen_of_row w2 _ 2 _ _ k1
  have c03 := cell_of_row w2 _ 3 _ _ _ k0
  have f03 := frozen_of_row w2 _ 3 _ _ k0
  have c13 := cell_of_row w2 _ 3 _ _ _ k1
  have f13 := frozen_of_row w2 _ 3 _ _ k1
  have c04 := cell_of_row w2 _ 4 _ _ _ k0
  have f04 := frozen_of_row w2 _ 4 _ _ k0
  have c14 := cell_of_row w2 _ 4 _ _ _ k1
  have f14 := frozen_of_row w2 _ 4 _ _ k1
  have c05 := cell_of_row w2 _ 5 _ _ _ k0
  have f05 := frozen_of_row w2 _ 5 _ _ k0
  have c15 := cell_of_row w2 _ 5 _ _ _ k1
  have f15 := frozen_of_row w2 _ 5 _ _ k1
  simp only [List.getElem?_toArray, List.getElem?_cons_zero, List.getElem?_cons_succ] at c00 c10 c01 c11 c02 c12 c03 c13 c04 c14 c05 c15
  have K1 := hid k1
  have HB : Hid (Below w.heap.size w w2) := hid ((below_new2 w _ _).trans (b2.mono (by omega)))
  have HO := hid (ownSl_bytes o2 HBY.out)
  have HG : Hid (∀ b ∈ (Value.slice a2 p.data.length c2).ownBlock.toList, w.heap.size + 2 ≤ b) := hid (fun b hb => (hg b (by simpa using hb)).1)
  have HN : Hid ((Value.slice a2 p.data.length c2).ownBlock.toList.Nodup) := hid (by cases (Value.slice a2 p.data.length c2).ownBlock <;> simp)
  generalize (Value.slice a2 p.data.length c2).ownBlock.toList = bk at *
  have h01 : w.heap.size + 1 ≠ w.heap.size := by omega
  clear k0 k1 b2 o2 hg
  go_wp2
  refine bodyPost_ret (results_cell_row rfl _ _ (w.heap.size + 1) 120 #[.int .i64 p.kind, .int .i64 p.epoch, .int .i64 p.seq, .int .i64 p.count, .bool p.last, .slice a2 p.data.length c2] (0, 0) _ rfl (set6 ((Below.heap_setCell _ ⟨w.heap.size, 5, none⟩ _ _ h01).trans K1.out)) Tryz.underlying120 rfl (by kernel_rfl)) rfl ?_
  refine ⟨a2, c2, bk, rfl, HO.out.kept (fun b hb => ?_), fun b hb => by have := HG.out b hb; omega, HN.out, set6b (HB.out.setCell (p := ⟨w.heap.size, 5, none⟩) (by simp only []; omega) _) (by omega)⟩
  have := HG.out b hb
  exact (set6o (by omega)).trans (Below.heap_setCell _ ⟨w.heap.size, 5, none⟩ _ _ (by simp only []; omega))
end Go.Proofs.YtfaehioeepolhaaGreat
