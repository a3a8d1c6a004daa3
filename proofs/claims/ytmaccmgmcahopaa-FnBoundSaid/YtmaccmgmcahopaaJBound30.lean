import Derived.Test.YtmaccmgmcahopaaJBound8
import Derived.Test.YtmaccmgmcahopaaJBound29
import Derived.Test.YtmaccmgmcahopaaJBound9
namespace Go.Proofs.Ytmaccmgmcahopaa
open Go.RowKit
theorem rdB_of {w : World} {xs : List Nat} {a : Option Addr} {n c : Nat} (h : RdSl cByte w xs (.slice a n c)) : Rd w a (byt xs) := by
  obtain ⟨a', c', e, -, -, -, r, -⟩ := h.bytes
  cases e
  exact r
set_option maxHeartbeats 1000000 in
theorem samePacket_any (p : PP) (a b : Option Addr) (c d : Nat) (w : World) (h1 : RdSl cByte w p.data (.slice a p.data.length c)) (h2 : RdSl cByte w p.data (.slice b p.data.length d)) (ht : p.data.length ≤ 1048576) :
    Calls Try.prog 32 #[.agg #[.int .i64 p.kind, .int .i64 p.epoch, .int .i64 p.seq, .int .i64 p.count, .bool p.last, .slice a p.data.length c], .agg #[.int .i64 p.kind, .int .i64 p.epoch, .int .i64 p.seq, .int .i64 p.count, .bool p.last, .slice b p.data.length d]] w fun e w' => e = .returned (.bool true) ∧ Below w.heap.size w w' := by
  have H1 := hid h1
  have H2 := hid h2
  clear h1 h2
  have x1 : (p.kind == p.kind) = true := by simp
  have x2 : (p.epoch == p.epoch) = true := by simp
  have x3 : (p.seq == p.seq) = true := by simp
  have x4 : (p.count == p.count) = true := by simp
  have x5 : (p.last == p.last) = true := by simp
  go_enter Try.func32, Try.ntmps32
  go_wp2_with fail
  refine (sameB_any a b c d p.data.length p.data _ (rdB_of (H1.out.later (below_new2 _ _ _))) (rdB_of (H2.out.later (below_new2 _ _ _))) rfl (by omega)).mono ?_
  rintro e w2 ⟨rfl, b2⟩
  have HB : Hid (Below w.heap.size w w2) := hid ((below_new2 w _ _).trans (b2.mono (by simp; omega)))
  clear b2
  go_wp2
  go_ret
  exact ⟨rfl, HB.out⟩
set_option linter.unusedVariables false in
def smoT (s : PW) (N k b1 o1 b2 o2 c d gA gB : Nat) (x1 x2 : Option Addr) (y1 y2 : Nat) : Nat → Value
  | 0 => .pointer (some ⟨gA, 3, none⟩)
  | 1 => .slice (some ⟨b1, o1, none⟩) N c
  | 2 => .int .i64 (k : Int)
  | 3 => .pointer (some ⟨b1, o1 + k * 7, none⟩)
  | 4 => .pointer (some ⟨b1, o1 + k * 7 + 6, none⟩)
  | 5 => .int .i64 s.at_
  | 6 => .pointer (some ⟨gB, 3, none⟩)
  | 7 => .slice (some ⟨b2, o2, none⟩) N d
  | 8 => .int .i64 (k : Int)
  | 9 => .pointer (some ⟨b2, o2 + k * 7, none⟩)
  | 10 => .pointer (some ⟨b2, o2 + k * 7 + 6, none⟩)
  | 11 => .int .i64 s.at_
  | 12 => .bool false
  | 13 => .bool false
  | 14 => .pointer (some ⟨gA, 3, none⟩)
  | 15 => .slice (some ⟨b1, o1, none⟩) N c
  | 16 => .int .i64 (k : Int)
  | 17 => .pointer (some ⟨b1, o1 + k * 7, none⟩)
  | 18 => .pointer (some ⟨b1, o1 + k * 7, none⟩)
  | 19 => .agg #[.int .i64 s.pkt.kind, .int .i64 s.pkt.epoch, .int .i64 s.pkt.seq, .int .i64 s.pkt.count, .bool s.pkt.last, .slice x1 s.pkt.data.length y1]
  | 20 => .pointer (some ⟨gB, 3, none⟩)
  | 21 => .slice (some ⟨b2, o2, none⟩) N d
  | 22 => .int .i64 (k : Int)
  | 23 => .pointer (some ⟨b2, o2 + k * 7, none⟩)
  | 24 => .pointer (some ⟨b2, o2 + k * 7, none⟩)
  | 25 => .agg #[.int .i64 s.pkt.kind, .int .i64 s.pkt.epoch, .int .i64 s.pkt.seq, .int .i64 s.pkt.count, .bool s.pkt.last, .slice x2 s.pkt.data.length y2]
  | 26 => .bool true
  | 27 => .bool false
  | 28 => .bool false
  | _ => undef
set_option maxRecDepth 100000 in
set_option maxHeartbeats 4000000 in
theorem sameOut_any (m : PO) (a b : Option Addr) (c d : Nat) (w : World) (h1 : RdSl cSnt w m.wait (.slice a m.wait.length c)) (h2 : RdSl cSnt w m.wait (.slice b m.wait.length d)) (ht : totL wN m.wait ≤ 1048576) :
    Calls Try.prog 9 #[.agg #[.int .i64 m.epoch, .int .i64 m.next, .int .i64 m.now, .slice a m.wait.length c], .agg #[.int .i64 m.epoch, .int .i64 m.next, .int .i64 m.now, .slice b m.wait.length d]] w fun e w' => e = .returned (.bool true) ∧ Below w.heap.size w w' := by
  have H1 := hid h1
  have H2 := hid h2
  clear h1 h2
  have hlen : m.wait.length ≤ 1048576 := by unfold totL at ht; omega
  have x1 : (m.epoch != m.epoch) = false := by simp
  have x2 : (m.next != m.next) = false := by simp
  have x3 : (m.now != m.now) = false := by simp
  have HB0 := hid (below_new2 w (.cells #[.int .i64 m.epoch, .int .i64 m.next, .int .i64 m.now, .slice a m.wait.length c] 30) (.cells #[.int .i64 m.epoch, .int .i64 m.next, .int .i64 m.now, .slice b m.wait.length d] 30))
  have HK0 := hid (heap2 (w := w) (.cells #[.int .i64 m.epoch, .int .i64 m.next, .int .i64 m.now, .slice a m.wait.length c] 30) (.cells #[.int .i64 m.epoch, .int .i64 m.next, .int .i64 m.now, .slice b m.wait.length d] 30) (Below.refl _ _))
  go_enter Try.func9, Try.ntmps9
  go_wp2
  generalize ((w.alloc (.cells #[.int .i64 m.epoch, .int .i64 m.next, .int .i64 m.now, .slice a m.wait.length c] 30)).alloc (.cells #[.int .i64 m.epoch, .int .i64 m.next, .int .i64 m.now, .slice b m.wait.length d] 30)) = W0 at *
  go_loopw [5] (fun i wr => ∃ k : Nat, k ≤ m.wait.length ∧ i = .int .i64 k ∧ Below W0.heap.size W0 wr) (fun i _ => m.wait.length - (intOf i).toNat)
  case atStart => exact ⟨0, Nat.zero_le _, rfl, Below.refl _ _⟩
  case round =>
    obtain ⟨k, hk, rfl, hbe⟩ := hrel
    have HB := hid hbe
    have HBW := hid (below_chain HB0.out hbe)
    have u3 := cell_of_row _ _ 3 _ _ _ ((hbe.block _ (Array.getElem?_eq_some_iff.1 HK0.out.1).1).trans HK0.out.1)
    have v3 := cell_of_row _ _ 3 _ _ _ ((hbe.block _ (Array.getElem?_eq_some_iff.1 HK0.out.2).1).trans HK0.out.2)
    simp only [List.getElem?_toArray, List.getElem?_cons_zero, List.getElem?_cons_succ] at u3 v3
    clear hbe
    by_cases hlt : k < m.wait.length
    · obtain ⟨b1, o1, es1, rfl, hes1, hcs1⟩ := (H1.out.later HBW.out).atN hlt
      obtain ⟨b2, o2, es2, rfl, hes2, hcs2⟩ := (H2.out.later HBW.out).atN hlt
      obtain ⟨x1, y1, rfl, hp1, -, -⟩ := cSnt_rd hes1
      obtain ⟨x2, y2, rfl, hp2, -, -⟩ := cSnt_rd hes2
      have d0 : wr.cell? ⟨b1, o1 + k * 7, none⟩ = some (.int .i64 m.wait[k].pkt.kind) := by have h := hcs1 0 (by decide); rw [show cSnt.n = 7 from rfl] at h; simpa [Nat.add_assoc] using h
      have d1 : wr.cell? ⟨b1, o1 + k * 7 + 1, none⟩ = some (.int .i64 m.wait[k].pkt.epoch) := by have h := hcs1 1 (by decide); rw [show cSnt.n = 7 from rfl] at h; simpa [Nat.add_assoc] using h
      have d2 : wr.cell? ⟨b1, o1 + k * 7 + 2, none⟩ = some (.int .i64 m.wait[k].pkt.seq) := by have h := hcs1 2 (by decide); rw [show cSnt.n = 7 from rfl] at h; simpa [Nat.add_assoc] using h
      have d3 : wr.cell? ⟨b1, o1 + k * 7 + 3, none⟩ = some (.int .i64 m.wait[k].pkt.count) := by have h := hcs1 3 (by decide); rw [show cSnt.n = 7 from rfl] at h; simpa [Nat.add_assoc] using h
      have d4 : wr.cell? ⟨b1, o1 + k * 7 + 4, none⟩ = some (.bool m.wait[k].pkt.last) := by have h := hcs1 4 (by decide); rw [show cSnt.n = 7 from rfl] at h; simpa [Nat.add_assoc] using h
      have d5 : wr.cell? ⟨b1, o1 + k * 7 + 5, none⟩ = some (.slice x1 m.wait[k].pkt.data.length y1) := by have h := hcs1 5 (by decide); rw [show cSnt.n = 7 from rfl] at h; simpa [Nat.add_assoc] using h
      have d6 : wr.cell? ⟨b1, o1 + k * 7 + 6, none⟩ = some (.int .i64 m.wait[k].at_) := by have h := hcs1 6 (by decide); rw [show cSnt.n = 7 from rfl] at h; simpa [Nat.add_assoc] using h
      have g0 : wr.cell? ⟨b2, o2 + k * 7, none⟩ = some (.int .i64 m.wait[k].pkt.kind) := by have h := hcs2 0 (by decide); rw [show cSnt.n = 7 from rfl] at h; simpa [Nat.add_assoc] using h
      have g1 : wr.cell? ⟨b2, o2 + k * 7 + 1, none⟩ = some (.int .i64 m.wait[k].pkt.epoch) := by have h := hcs2 1 (by decide); rw [show cSnt.n = 7 from rfl] at h; simpa [Nat.add_assoc] using h
      have g2 : wr.cell? ⟨b2, o2 + k * 7 + 2, none⟩ = some (.int .i64 m.wait[k].pkt.seq) := by have h := hcs2 2 (by decide); rw [show cSnt.n = 7 from rfl] at h; simpa [Nat.add_assoc] using h
      have g3 : wr.cell? ⟨b2, o2 + k * 7 + 3, none⟩ = some (.int .i64 m.wait[k].pkt.count) := by have h := hcs2 3 (by decide); rw [show cSnt.n = 7 from rfl] at h; simpa [Nat.add_assoc] using h
      have g4 : wr.cell? ⟨b2, o2 + k * 7 + 4, none⟩ = some (.bool m.wait[k].pkt.last) := by have h := hcs2 4 (by decide); rw [show cSnt.n = 7 from rfl] at h; simpa [Nat.add_assoc] using h
      have g5 : wr.cell? ⟨b2, o2 + k * 7 + 5, none⟩ = some (.slice x2 m.wait[k].pkt.data.length y2) := by have h := hcs2 5 (by decide); rw [show cSnt.n = 7 from rfl] at h; simpa [Nat.add_assoc] using h
      have g6 : wr.cell? ⟨b2, o2 + k * 7 + 6, none⟩ = some (.int .i64 m.wait[k].at_) := by have h := hcs2 6 (by decide); rw [show cSnt.n = 7 from rfl] at h; simpa [Nat.add_assoc] using h
      have HQ : Hid (∀ wz : World, Hid (Below wr.heap.size wr wz) → Calls Try.prog 32 #[.agg #[.int .i64 m.wait[k].pkt.kind, .int .i64 m.wait[k].pkt.epoch, .int .i64 m.wait[k].pkt.seq, .int .i64 m.wait[k].pkt.count, .bool m.wait[k].pkt.last, .slice x1 m.wait[k].pkt.data.length y1], .agg #[.int .i64 m.wait[k].pkt.kind, .int .i64 m.wait[k].pkt.epoch, .int .i64 m.wait[k].pkt.seq, .int .i64 m.wait[k].pkt.count, .bool m.wait[k].pkt.last, .slice x2 m.wait[k].pkt.data.length y2]] wz fun e w' => e = .returned (.bool true) ∧ Hid (Below wr.heap.size wr w') ∧ Hid (Below wz.heap.size wz w')) := hid (fun wz hz => by
        refine (samePacket_any m.wait[k].pkt x1 x2 y1 y2 wz (hp1.later hz.out) (hp2.later hz.out) (by have := tot_at wN m.wait k hlt; unfold totL at ht; show wN m.wait[k] ≤ 1048576; omega)).mono ?_
        rintro e w' ⟨rfl, b⟩
        exact ⟨rfl, hid (below_chain hz.out b), hid b⟩)
      have hki : (k : Int) < (m.wait.length : Int) := by omega
      have xa : (m.wait[k].at_ != m.wait[k].at_) = false := by simp
      clear hes1 hes2 hcs1 hcs2 hp1 hp2
      go_wp2_with fail
      refine region_facts (n := 29) (by kernel_rfl) (by kernel_rfl) ?_ (fun t => { tmps := #[.agg #[.int .i64 m.epoch, .int .i64 m.next, .int .i64 m.now, .slice (some ⟨b1, o1, none⟩) m.wait.length c], .agg #[.int .i64 m.epoch, .int .i64 m.next, .int .i64 m.now, .slice (some ⟨b2, o2, none⟩) m.wait.length d], .pointer (some ⟨w.heap.size, 0, none⟩), .pointer (some ⟨w.heap.size + 1, 0, none⟩), u4, .int .i64 ((k : Nat) : Int), .pointer (some ⟨w.heap.size, 0, none⟩), .int .i64 m.epoch, .pointer (some ⟨w.heap.size + 1, 0, none⟩), .int .i64 m.epoch, .bool false, .bool false, .pointer (some ⟨w.heap.size, 1, none⟩), .int .i64 m.next, .pointer (some ⟨w.heap.size + 1, 1, none⟩), .int .i64 m.next, .bool false, .bool false, .bool false, .pointer (some ⟨w.heap.size, 2, none⟩), .int .i64 m.now, .pointer (some ⟨w.heap.size + 1, 2, none⟩), .int .i64 m.now, .bool false, .bool false, .bool false, .pointer (some ⟨w.heap.size, 3, none⟩), .slice (some ⟨b1, o1, none⟩) m.wait.length c, .int .i64 ((m.wait.length : Nat) : Int), .pointer (some ⟨w.heap.size + 1, 3, none⟩), .slice (some ⟨b2, o2, none⟩) m.wait.length d, .int .i64 ((m.wait.length : Nat) : Int), .bool false, .bool false, .int .i64 ((k : Nat) : Int), .pointer (some ⟨w.heap.size, 3, none⟩), .slice (some ⟨b1, o1, none⟩) m.wait.length c, .int .i64 ((m.wait.length : Nat) : Int), .bool true, u39, u40, t 0, t 1, t 2, t 3, t 4, t 5, t 6, t 7, t 8, t 9, t 10, t 11, t 12, t 13, t 14, t 15, t 16, t 17, t 18, t 19, t 20, t 21, t 22, t 23, t 24, t 25, t 26, t 27, t 28], defers := [] }) (fun i v _ => v = smoT m.wait[k] m.wait.length k b1 o1 b2 o2 c d w.heap.size (w.heap.size + 1) x1 x2 y1 y2 i) (fun wx => Below wr.heap.size wr wx) wr (fun _ _ _ _ h _ => h) (fun j => ([u41, u42, u43, u44, u45, u46, u47, u48, u49, u50, u51, u52, u53, u54, u55, u56, u57, u58, u59, u60, u61, u62, u63, u64, u65, u66, u67, u68, u69] : List Value).getD j undef) ((Below.refl _ wr).drew) ?_ ?_
      · rfl
      · intro i hi t wx hgx hdep
        have kp : ∀ p v, wr.cell? p = some v → wx.cell? p = some v := fun p v h => (hgx.cell (World.block_lt_of_cell? wr _ h)).trans h
        replace u3 := kp _ _ u3
        replace v3 := kp _ _ v3
        replace d0 := kp _ _ d0
        replace d1 := kp _ _ d1
        replace d2 := kp _ _ d2
        replace d3 := kp _ _ d3
        replace d4 := kp _ _ d4
        replace d5 := kp _ _ d5
        replace d6 := kp _ _ d6
        replace g0 := kp _ _ g0
        replace g1 := kp _ _ g1
        replace g2 := kp _ _ g2
        replace g3 := kp _ _ g3
        replace g4 := kp _ _ g4
        replace g5 := kp _ _ g5
        replace g6 := kp _ _ g6
        clear kp
        rcases (by omega : i = 0 ∨ i = 1 ∨ i = 2 ∨ i = 3 ∨ i = 4 ∨ i = 5 ∨ i = 6 ∨ i = 7 ∨ i = 8 ∨ i = 9 ∨ i = 10 ∨ i = 11 ∨ i = 12 ∨ i = 13 ∨ i = 14 ∨ i = 15 ∨ i = 16 ∨ i = 17 ∨ i = 18 ∨ i = 19 ∨ i = 20 ∨ i = 21 ∨ i = 22 ∨ i = 23 ∨ i = 24 ∨ i = 25 ∨ i = 26 ∨ i = 27 ∨ i = 28) with rfl | rfl | rfl | rfl | rfl | rfl | rfl | rfl | rfl | rfl | rfl | rfl | rfl | rfl | rfl | rfl | rfl | rfl | rfl | rfl | rfl | rfl | rfl | rfl | rfl | rfl | rfl | rfl | rfl
        · 
          try dsimp only
          refine wpOp_step rfl (fun K' hK => ?_)
          go_simp
          exact hK _ _ ⟨.pointer (some ⟨w.heap.size, 3, none⟩), (by simp [upd]), rfl, hgx, Below.refl _ _⟩
        · 
          try dsimp only
          have e0 : t 0 = .pointer (some ⟨w.heap.size, 3, none⟩) := dep (F := fun i v (_ : World) => v = smoT m.wait[k] m.wait.length k b1 o1 b2 o2 c d w.heap.size (w.heap.size + 1) x1 x2 y1 y2 i) (t := t) (w := wx) hdep 0 (by kernel_rfl)
          rw [e0]
          refine wpOp_step rfl (fun K' hK => ?_)
          go_simp
          exact hK _ _ ⟨.slice (some ⟨b1, o1, none⟩) m.wait.length c, (by simp [upd, e0]), rfl, hgx, Below.refl _ _⟩
        · 
          try dsimp only
          refine wpOp_step rfl (fun K' hK => ?_)
          go_simp
          exact hK _ _ ⟨.int .i64 (k : Int), (by simp [upd]), rfl, hgx, Below.refl _ _⟩
        · 
          try dsimp only
          have e1 : t 1 = .slice (some ⟨b1, o1, none⟩) m.wait.length c := dep (F := fun i v (_ : World) => v = smoT m.wait[k] m.wait.length k b1 o1 b2 o2 c d w.heap.size (w.heap.size + 1) x1 x2 y1 y2 i) (t := t) (w := wx) hdep 1 (by kernel_rfl)
          have e2 : t 2 = .int .i64 (k : Int) := dep (F := fun i v (_ : World) => v = smoT m.wait[k] m.wait.length k b1 o1 b2 o2 c d w.heap.size (w.heap.size + 1) x1 x2 y1 y2 i) (t := t) (w := wx) hdep 2 (by kernel_rfl)
          rw [e1, e2]
          refine wpOp_step rfl (fun K' hK => ?_)
          go_simp
          exact hK _ _ ⟨.pointer (some ⟨b1, o1 + k * 7, none⟩), (by simp [upd, e1, e2]), rfl, hgx, Below.refl _ _⟩
        · 
          try dsimp only
          have e3 : t 3 = .pointer (some ⟨b1, o1 + k * 7, none⟩) := dep (F := fun i v (_ : World) => v = smoT m.wait[k] m.wait.length k b1 o1 b2 o2 c d w.heap.size (w.heap.size + 1) x1 x2 y1 y2 i) (t := t) (w := wx) hdep 3 (by kernel_rfl)
          rw [e3]
          refine wpOp_step rfl (fun K' hK => ?_)
          go_simp
          exact hK _ _ ⟨.pointer (some ⟨b1, o1 + k * 7 + 6, none⟩), (by simp [upd, e3]), rfl, hgx, Below.refl _ _⟩
        · 
          try dsimp only
          have e4 : t 4 = .pointer (some ⟨b1, o1 + k * 7 + 6, none⟩) := dep (F := fun i v (_ : World) => v = smoT m.wait[k] m.wait.length k b1 o1 b2 o2 c d w.heap.size (w.heap.size + 1) x1 x2 y1 y2 i) (t := t) (w := wx) hdep 4 (by kernel_rfl)
          rw [e4]
          refine wpOp_step rfl (fun K' hK => ?_)
          go_simp
          exact hK _ _ ⟨.int .i64 m.wait[k].at_, (by simp [upd, e4]), rfl, hgx, Below.refl _ _⟩
        · 
          try dsimp only
          refine wpOp_step rfl (fun K' hK => ?_)
          go_simp
          exact hK _ _ ⟨.pointer (some ⟨w.heap.size + 1, 3, none⟩), (by simp [upd]), rfl, hgx, Below.refl _ _⟩
        · 
          try dsimp only
          have e6 : t 6 = .pointer (some ⟨w.heap.size + 1, 3, none⟩) := dep (F := fun i v (_ : World) => v = smoT m.wait[k] m.wait.length k b1 o1 b2 o2 c d w.heap.size (w.heap.size + 1) x1 x2 y1 y2 i) (t := t) (w := wx) hdep 6 (by kernel_rfl)
          rw [e6]
          refine wpOp_step rfl (fun K' hK => ?_)
          go_simp
          exact hK _ _ ⟨.slice (some ⟨b2, o2, none⟩) m.wait.length d, (by simp [upd, e6]), rfl, hgx, Below.refl _ _⟩
        · 
          try dsimp only
          refine wpOp_step rfl (fun K' hK => ?_)
          go_simp
          exact hK _ _ ⟨.int .i64 (k : Int), (by simp [upd]), rfl, hgx, Below.refl _ _⟩
        · 
          try dsimp only
          have e7 : t 7 = .slice (some ⟨b2, o2, none⟩) m.wait.length d := dep (F := fun i v (_ : World) => v = smoT m.wait[k] m.wait.length k b1 o1 b2 o2 c d w.heap.size (w.heap.size + 1) x1 x2 y1 y2 i) (t := t) (w := wx) hdep 7 (by kernel_rfl)
          have e8 : t 8 = .int .i64 (k : Int) := dep (F := fun i v (_ : World) => v = smoT m.wait[k] m.wait.length k b1 o1 b2 o2 c d w.heap.size (w.heap.size + 1) x1 x2 y1 y2 i) (t := t) (w := wx) hdep 8 (by kernel_rfl)
          rw [e7, e8]
          refine wpOp_step rfl (fun K' hK => ?_)
          go_simp
          exact hK _ _ ⟨.pointer (some ⟨b2, o2 + k * 7, none⟩), (by simp [upd, e7, e8]), rfl, hgx, Below.refl _ _⟩
        · 
          try dsimp only
          have e9 : t 9 = .pointer (some ⟨b2, o2 + k * 7, none⟩) := dep (F := fun i v (_ : World) => v = smoT m.wait[k] m.wait.length k b1 o1 b2 o2 c d w.heap.size (w.heap.size + 1) x1 x2 y1 y2 i) (t := t) (w := wx) hdep 9 (by kernel_rfl)
          rw [e9]
          refine wpOp_step rfl (fun K' hK => ?_)
          go_simp
          exact hK _ _ ⟨.pointer (some ⟨b2, o2 + k * 7 + 6, none⟩), (by simp [upd, e9]), rfl, hgx, Below.refl _ _⟩
        · 
          try dsimp only
          have e10 : t 10 = .pointer (some ⟨b2, o2 + k * 7 + 6, none⟩) := dep (F := fun i v (_ : World) => v = smoT m.wait[k] m.wait.length k b1 o1 b2 o2 c d w.heap.size (w.heap.size + 1) x1 x2 y1 y2 i) (t := t) (w := wx) hdep 10 (by kernel_rfl)
          rw [e10]
          refine wpOp_step rfl (fun K' hK => ?_)
          go_simp
          exact hK _ _ ⟨.int .i64 m.wait[k].at_, (by simp [upd, e10]), rfl, hgx, Below.refl _ _⟩
        · 
          try dsimp only
          have e5 : t 5 = .int .i64 m.wait[k].at_ := dep (F := fun i v (_ : World) => v = smoT m.wait[k] m.wait.length k b1 o1 b2 o2 c d w.heap.size (w.heap.size + 1) x1 x2 y1 y2 i) (t := t) (w := wx) hdep 5 (by kernel_rfl)
          have e11 : t 11 = .int .i64 m.wait[k].at_ := dep (F := fun i v (_ : World) => v = smoT m.wait[k] m.wait.length k b1 o1 b2 o2 c d w.heap.size (w.heap.size + 1) x1 x2 y1 y2 i) (t := t) (w := wx) hdep 11 (by kernel_rfl)
          rw [e5, e11]
          refine wpOp_step rfl (fun K' hK => ?_)
          go_simp
          exact hK _ _ ⟨.bool false, (by simp [upd, e5, e11]), rfl, hgx, Below.refl _ _⟩
        · 
          try dsimp only
          have e12 : t 12 = .bool false := dep (F := fun i v (_ : World) => v = smoT m.wait[k] m.wait.length k b1 o1 b2 o2 c d w.heap.size (w.heap.size + 1) x1 x2 y1 y2 i) (t := t) (w := wx) hdep 12 (by kernel_rfl)
          rw [e12]
          refine wpOp_step rfl (fun K' hK => ?_)
          go_simp
          exact hK _ _ ⟨.bool false, (by simp [upd, e12]), rfl, hgx, Below.refl _ _⟩
        · 
          try dsimp only
          have e13 : t 13 = .bool false := dep (F := fun i v (_ : World) => v = smoT m.wait[k] m.wait.length k b1 o1 b2 o2 c d w.heap.size (w.heap.size + 1) x1 x2 y1 y2 i) (t := t) (w := wx) hdep 13 (by kernel_rfl)
          rw [e13]
          refine wpOp_step rfl (fun K' hK => ?_)
          go_simp
          exact hK _ _ ⟨.pointer (some ⟨w.heap.size, 3, none⟩), (by simp [upd, e13]), rfl, hgx, Below.refl _ _⟩
        · 
          try dsimp only
          have e14 : t 14 = .pointer (some ⟨w.heap.size, 3, none⟩) := dep (F := fun i v (_ : World) => v = smoT m.wait[k] m.wait.length k b1 o1 b2 o2 c d w.heap.size (w.heap.size + 1) x1 x2 y1 y2 i) (t := t) (w := wx) hdep 14 (by kernel_rfl)
          have e13 : t 13 = .bool false := dep (F := fun i v (_ : World) => v = smoT m.wait[k] m.wait.length k b1 o1 b2 o2 c d w.heap.size (w.heap.size + 1) x1 x2 y1 y2 i) (t := t) (w := wx) hdep 13 (by kernel_rfl)
          rw [e14, e13]
          refine wpOp_step rfl (fun K' hK => ?_)
          go_simp
          exact hK _ _ ⟨.slice (some ⟨b1, o1, none⟩) m.wait.length c, (by simp [upd, e14, e13]), rfl, hgx, Below.refl _ _⟩
        · 
          try dsimp only
          have e13 : t 13 = .bool false := dep (F := fun i v (_ : World) => v = smoT m.wait[k] m.wait.length k b1 o1 b2 o2 c d w.heap.size (w.heap.size + 1) x1 x2 y1 y2 i) (t := t) (w := wx) hdep 13 (by kernel_rfl)
          rw [e13]
          refine wpOp_step rfl (fun K' hK => ?_)
          go_simp
          exact hK _ _ ⟨.int .i64 (k : Int), (by simp [upd, e13]), rfl, hgx, Below.refl _ _⟩
        · 
          try dsimp only
          have e15 : t 15 = .slice (some ⟨b1, o1, none⟩) m.wait.length c := dep (F := fun i v (_ : World) => v = smoT m.wait[k] m.wait.length k b1 o1 b2 o2 c d w.heap.size (w.heap.size + 1) x1 x2 y1 y2 i) (t := t) (w := wx) hdep 15 (by kernel_rfl)
          have e16 : t 16 = .int .i64 (k : Int) := dep (F := fun i v (_ : World) => v = smoT m.wait[k] m.wait.length k b1 o1 b2 o2 c d w.heap.size (w.heap.size + 1) x1 x2 y1 y2 i) (t := t) (w := wx) hdep 16 (by kernel_rfl)
          have e13 : t 13 = .bool false := dep (F := fun i v (_ : World) => v = smoT m.wait[k] m.wait.length k b1 o1 b2 o2 c d w.heap.size (w.heap.size + 1) x1 x2 y1 y2 i) (t := t) (w := wx) hdep 13 (by kernel_rfl)
          rw [e15, e16, e13]
          refine wpOp_step rfl (fun K' hK => ?_)
          go_simp
          exact hK _ _ ⟨.pointer (some ⟨b1, o1 + k * 7, none⟩), (by simp [upd, e15, e16, e13]), rfl, hgx, Below.refl _ _⟩
        · 
          try dsimp only
          have e17 : t 17 = .pointer (some ⟨b1, o1 + k * 7, none⟩) := dep (F := fun i v (_ : World) => v = smoT m.wait[k] m.wait.length k b1 o1 b2 o2 c d w.heap.size (w.heap.size + 1) x1 x2 y1 y2 i) (t := t) (w := wx) hdep 17 (by kernel_rfl)
          have e13 : t 13 = .bool false := dep (F := fun i v (_ : World) => v = smoT m.wait[k] m.wait.length k b1 o1 b2 o2 c d w.heap.size (w.heap.size + 1) x1 x2 y1 y2 i) (t := t) (w := wx) hdep 13 (by kernel_rfl)
          rw [e17, e13]
          refine wpOp_step rfl (fun K' hK => ?_)
          go_simp
          exact hK _ _ ⟨.pointer (some ⟨b1, o1 + k * 7, none⟩), (by simp [upd, e17, e13]), rfl, hgx, Below.refl _ _⟩
        · 
          try dsimp only
          have e18 : t 18 = .pointer (some ⟨b1, o1 + k * 7, none⟩) := dep (F := fun i v (_ : World) => v = smoT m.wait[k] m.wait.length k b1 o1 b2 o2 c d w.heap.size (w.heap.size + 1) x1 x2 y1 y2 i) (t := t) (w := wx) hdep 18 (by kernel_rfl)
          have e13 : t 13 = .bool false := dep (F := fun i v (_ : World) => v = smoT m.wait[k] m.wait.length k b1 o1 b2 o2 c d w.heap.size (w.heap.size + 1) x1 x2 y1 y2 i) (t := t) (w := wx) hdep 13 (by kernel_rfl)
          rw [e18, e13]
          refine wpOp_step rfl (fun K' hK => ?_)
          go_simp
          exact hK _ _ ⟨.agg #[.int .i64 m.wait[k].pkt.kind, .int .i64 m.wait[k].pkt.epoch, .int .i64 m.wait[k].pkt.seq, .int .i64 m.wait[k].pkt.count, .bool m.wait[k].pkt.last, .slice x1 m.wait[k].pkt.data.length y1], (by simp [upd, e18, e13]), rfl, hgx, Below.refl _ _⟩
        · 
          try dsimp only
          have e13 : t 13 = .bool false := dep (F := fun i v (_ : World) => v = smoT m.wait[k] m.wait.length k b1 o1 b2 o2 c d w.heap.size (w.heap.size + 1) x1 x2 y1 y2 i) (t := t) (w := wx) hdep 13 (by kernel_rfl)
          rw [e13]
          refine wpOp_step rfl (fun K' hK => ?_)
          go_simp
          exact hK _ _ ⟨.pointer (some ⟨w.heap.size + 1, 3, none⟩), (by simp [upd, e13]), rfl, hgx, Below.refl _ _⟩
        · 
          try dsimp only
          have e20 : t 20 = .pointer (some ⟨w.heap.size + 1, 3, none⟩) := dep (F := fun i v (_ : World) => v = smoT m.wait[k] m.wait.length k b1 o1 b2 o2 c d w.heap.size (w.heap.size + 1) x1 x2 y1 y2 i) (t := t) (w := wx) hdep 20 (by kernel_rfl)
          have e13 : t 13 = .bool false := dep (F := fun i v (_ : World) => v = smoT m.wait[k] m.wait.length k b1 o1 b2 o2 c d w.heap.size (w.heap.size + 1) x1 x2 y1 y2 i) (t := t) (w := wx) hdep 13 (by kernel_rfl)
          rw [e20, e13]
          refine wpOp_step rfl (fun K' hK => ?_)
          go_simp
          exact hK _ _ ⟨.slice (some ⟨b2, o2, none⟩) m.wait.length d, (by simp [upd, e20, e13]), rfl, hgx, Below.refl _ _⟩
        · 
          try dsimp only
          have e13 : t 13 = .bool false := dep (F := fun i v (_ : World) => v = smoT m.wait[k] m.wait.length k b1 o1 b2 o2 c d w.heap.size (w.heap.size + 1) x1 x2 y1 y2 i) (t := t) (w := wx) hdep 13 (by kernel_rfl)
          rw [e13]
          refine wpOp_step rfl (fun K' hK => ?_)
          go_simp
          exact hK _ _ ⟨.int .i64 (k : Int), (by simp [upd, e13]), rfl, hgx, Below.refl _ _⟩
        · 
          try dsimp only
          have e21 : t 21 = .slice (some ⟨b2, o2, none⟩) m.wait.length d := dep (F := fun i v (_ : World) => v = smoT m.wait[k] m.wait.length k b1 o1 b2 o2 c d w.heap.size (w.heap.size + 1) x1 x2 y1 y2 i) (t := t) (w := wx) hdep 21 (by kernel_rfl)
          have e22 : t 22 = .int .i64 (k : Int) := dep (F := fun i v (_ : World) => v = smoT m.wait[k] m.wait.length k b1 o1 b2 o2 c d w.heap.size (w.heap.size + 1) x1 x2 y1 y2 i) (t := t) (w := wx) hdep 22 (by kernel_rfl)
          have e13 : t 13 = .bool false := dep (F := fun i v (_ : World) => v = smoT m.wait[k] m.wait.length k b1 o1 b2 o2 c d w.heap.size (w.heap.size + 1) x1 x2 y1 y2 i) (t := t) (w := wx) hdep 13 (by kernel_rfl)
          rw [e21, e22, e13]
          refine wpOp_step rfl (fun K' hK => ?_)
          go_simp
          exact hK _ _ ⟨.pointer (some ⟨b2, o2 + k * 7, none⟩), (by simp [upd, e21, e22, e13]), rfl, hgx, Below.refl _ _⟩
        · 
          try dsimp only
          have e23 : t 23 = .pointer (some ⟨b2, o2 + k * 7, none⟩) := dep (F := fun i v (_ : World) => v = smoT m.wait[k] m.wait.length k b1 o1 b2 o2 c d w.heap.size (w.heap.size + 1) x1 x2 y1 y2 i) (t := t) (w := wx) hdep 23 (by kernel_rfl)
          have e13 : t 13 = .bool false := dep (F := fun i v (_ : World) => v = smoT m.wait[k] m.wait.length k b1 o1 b2 o2 c d w.heap.size (w.heap.size + 1) x1 x2 y1 y2 i) (t := t) (w := wx) hdep 13 (by kernel_rfl)
          rw [e23, e13]
          refine wpOp_step rfl (fun K' hK => ?_)
          go_simp
          exact hK _ _ ⟨.pointer (some ⟨b2, o2 + k * 7, none⟩), (by simp [upd, e23, e13]), rfl, hgx, Below.refl _ _⟩
        · 
          try dsimp only
          have e24 : t 24 = .pointer (some ⟨b2, o2 + k * 7, none⟩) := dep (F := fun i v (_ : World) => v = smoT m.wait[k] m.wait.length k b1 o1 b2 o2 c d w.heap.size (w.heap.size + 1) x1 x2 y1 y2 i) (t := t) (w := wx) hdep 24 (by kernel_rfl)
          have e13 : t 13 = .bool false := dep (F := fun i v (_ : World) => v = smoT m.wait[k] m.wait.length k b1 o1 b2 o2 c d w.heap.size (w.heap.size + 1) x1 x2 y1 y2 i) (t := t) (w := wx) hdep 13 (by kernel_rfl)
          rw [e24, e13]
          refine wpOp_step rfl (fun K' hK => ?_)
          go_simp
          exact hK _ _ ⟨.agg #[.int .i64 m.wait[k].pkt.kind, .int .i64 m.wait[k].pkt.epoch, .int .i64 m.wait[k].pkt.seq, .int .i64 m.wait[k].pkt.count, .bool m.wait[k].pkt.last, .slice x2 m.wait[k].pkt.data.length y2], (by simp [upd, e24, e13]), rfl, hgx, Below.refl _ _⟩
        · 
          try dsimp only
          have e19 : t 19 = .agg #[.int .i64 m.wait[k].pkt.kind, .int .i64 m.wait[k].pkt.epoch, .int .i64 m.wait[k].pkt.seq, .int .i64 m.wait[k].pkt.count, .bool m.wait[k].pkt.last, .slice x1 m.wait[k].pkt.data.length y1] := dep (F := fun i v (_ : World) => v = smoT m.wait[k] m.wait.length k b1 o1 b2 o2 c d w.heap.size (w.heap.size + 1) x1 x2 y1 y2 i) (t := t) (w := wx) hdep 19 (by kernel_rfl)
          have e25 : t 25 = .agg #[.int .i64 m.wait[k].pkt.kind, .int .i64 m.wait[k].pkt.epoch, .int .i64 m.wait[k].pkt.seq, .int .i64 m.wait[k].pkt.count, .bool m.wait[k].pkt.last, .slice x2 m.wait[k].pkt.data.length y2] := dep (F := fun i v (_ : World) => v = smoT m.wait[k] m.wait.length k b1 o1 b2 o2 c d w.heap.size (w.heap.size + 1) x1 x2 y1 y2 i) (t := t) (w := wx) hdep 25 (by kernel_rfl)
          have e13 : t 13 = .bool false := dep (F := fun i v (_ : World) => v = smoT m.wait[k] m.wait.length k b1 o1 b2 o2 c d w.heap.size (w.heap.size + 1) x1 x2 y1 y2 i) (t := t) (w := wx) hdep 13 (by kernel_rfl)
          rw [e19, e25, e13]
          refine wpOp_step rfl (fun K' hK => ?_)
          go_simp
          refine (HQ.out wx (hid hgx)).mono ?_
          rintro e w99 ⟨rfl, hb98, hb99⟩
          exact hK _ _ ⟨.bool true, (by simp [upd, e19, e25, e13]), rfl, hb98.out, hb99.out⟩
        · 
          try dsimp only
          have e26 : t 26 = .bool true := dep (F := fun i v (_ : World) => v = smoT m.wait[k] m.wait.length k b1 o1 b2 o2 c d w.heap.size (w.heap.size + 1) x1 x2 y1 y2 i) (t := t) (w := wx) hdep 26 (by kernel_rfl)
          have e13 : t 13 = .bool false := dep (F := fun i v (_ : World) => v = smoT m.wait[k] m.wait.length k b1 o1 b2 o2 c d w.heap.size (w.heap.size + 1) x1 x2 y1 y2 i) (t := t) (w := wx) hdep 13 (by kernel_rfl)
          rw [e26, e13]
          refine wpOp_step rfl (fun K' hK => ?_)
          go_simp
          exact hK _ _ ⟨.bool false, (by simp [upd, e26, e13]), rfl, hgx, Below.refl _ _⟩
        · 
          try dsimp only
          have e13 : t 13 = .bool false := dep (F := fun i v (_ : World) => v = smoT m.wait[k] m.wait.length k b1 o1 b2 o2 c d w.heap.size (w.heap.size + 1) x1 x2 y1 y2 i) (t := t) (w := wx) hdep 13 (by kernel_rfl)
          have e27 : t 27 = .bool false := dep (F := fun i v (_ : World) => v = smoT m.wait[k] m.wait.length k b1 o1 b2 o2 c d w.heap.size (w.heap.size + 1) x1 x2 y1 y2 i) (t := t) (w := wx) hdep 27 (by kernel_rfl)
          rw [e13, e27]
          refine wpOp_step rfl (fun K' hK => ?_)
          go_simp
          exact hK _ _ ⟨.bool false, (by simp [upd, e13, e27]), rfl, hgx, Below.refl _ _⟩
      · intro t wx hgx hall
        have HWX := hid hgx
        have e28 : t 28 = .bool false := hall 28 (by omega)
        clear hall hgx
        try dsimp only
        rw [e28]
        clear e28
        generalize t 0 = q0
        generalize t 1 = q1
        generalize t 2 = q2
        generalize t 3 = q3
        generalize t 4 = q4
        generalize t 5 = q5
        generalize t 6 = q6
        generalize t 7 = q7
        generalize t 8 = q8
        generalize t 9 = q9
        generalize t 10 = q10
        generalize t 11 = q11
        generalize t 12 = q12
        generalize t 13 = q13
        generalize t 14 = q14
        generalize t 15 = q15
        generalize t 16 = q16
        generalize t 17 = q17
        generalize t 18 = q18
        generalize t 19 = q19
        generalize t 20 = q20
        generalize t 21 = q21
        generalize t 22 = q22
        generalize t 23 = q23
        generalize t 24 = q24
        generalize t 25 = q25
        generalize t 26 = q26
        generalize t 27 = q27
        clear t
        go_wp2
        go_roundw
        case rel => exact ⟨k + 1, by omega, by go_num, below_chain HB.out HWX.out⟩
        case measure => simp [intOf]; omega
    · obtain rfl : k = m.wait.length := by omega
      go_wp2
      go_ret
      exact ⟨rfl, HBW.out⟩
end Go.Proofs.Ytmaccmgmcahopaa
