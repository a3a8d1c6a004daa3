import Derived.Test.YtfaehioeepolhabGreatJCrashSender19
import Derived.Test.YtfaehioeepolhabGreatJCrashSender41
import Derived.Test.YtfaehioeepolhabGreatJCrashSender17
namespace Go.Proofs.YtfaehioeepolhabGreat
open Go.RowKit
set_option maxRecDepth 100000 in
set_option maxHeartbeats 4000000 in
theorem isDataOf_any (p : PP) (a : Option Addr) (cap : Nat) (ep : Int) (w : World) (hn : p.data.length ≤ maxLen) :
  Calls Tryz.prog 121 #[.agg #[.int .i64 p.kind, .int .i64 p.epoch, .int .i64 p.seq, .int .i64 p.count, .bool p.last, .slice a p.data.length cap], .int .i64 ep] w fun e w' => e = .returned (.bool (dataB p ep)) ∧ Below w.heap.size w w' := by
 have HV := hid (validPacket_any p a cap (w.alloc (.cells #[.int .i64 p.kind, .int .i64 p.epoch, .int .i64 p.seq, .int .i64 p.count, .bool p.last, .slice a p.data.length cap] 139)) hn)
 have HB0 := hid (bN w (.cells #[.int .i64 p.kind, .int .i64 p.epoch, .int .i64 p.seq, .int .i64 p.count, .bool p.last, .slice a p.data.length cap] 139))
 have HK0 : Hid ((w.alloc (.cells #[.int .i64 p.kind, .int .i64 p.epoch, .int .i64 p.seq, .int .i64 p.count, .bool p.last, .slice a p.data.length cap] 139)).heap[w.heap.size]? = some (.cells #[.int .i64 p.kind, .int .i64 p.epoch, .int .i64 p.seq, .int .i64 p.count, .bool p.last, .slice a p.data.length cap] 139 (0, 0))) := hid (heap_alloc_new w _)
 have HD : Hid (dataB p ep = (pktOK p && (decide (p.kind = 1) && decide (p.epoch = ep)))) := hid rfl
 clear hn
 go_enter Tryz.func121, Tryz.ntmps121
 go_wp2_with fail
 refine HV.out.mono ?_
 rintro e w2 ⟨rfl, b2⟩
 have hx := box_laterP2 HK0.out b2
 have z0 := cR _ _ 0 _ _ _ hx
 have z1 := cR _ _ 1 _ _ _ hx
 simp only [gA, gZ, gU] at z0 z1
 have HB2 := hid (bC HB0.out b2)
 clear b2 hx
 cases hok : pktOK p with
 | false =>
  rw [hok] at HD
  clear hok
  go_wp2
  go_ret
  exact ⟨(by rw [HD.out]; first | done | rfl), HB2.out⟩
 | true =>
  rw [hok] at HD
  clear hok
  by_cases k1 : p.kind = 1
  ·have k1t : (p.kind == 1) = true := by simp; omega
   rw [decide_eq_true k1] at HD
   clear k1
   by_cases e1 : p.epoch = ep
   ·have e1t : (p.epoch == ep) = true := by simp; omega
    rw [decide_eq_true e1] at HD
    clear e1
    go_wp2
    go_ret
    exact ⟨(by rw [HD.out]; first | done | rfl), HB2.out⟩
   ·have e1t : (p.epoch == ep) = false := by simp; omega
    rw [decide_eq_false e1] at HD
    clear e1
    go_wp2
    go_ret
    exact ⟨(by rw [HD.out]; first | done | rfl), HB2.out⟩
  ·have k1t : (p.kind == 1) = false := by simp; omega
   rw [decide_eq_false k1] at HD
   clear k1
   go_wp2
   go_ret
   exact ⟨(by rw [HD.out]; first | done | rfl), HB2.out⟩
set_option maxHeartbeats 4000000 in
theorem firstWaiting_any (o : PO) (a : Option Addr) (cap : Nat) (w : World) (hml : o.wait.length ≤ 140737488355327) (h0 : 0 ≤ o.next) (h1 : o.next ≤ 1000000000000) :
  Calls Tryz.prog 120 #[.agg #[.int .i64 o.epoch, .int .i64 o.next, .int .i64 o.now, .slice a o.wait.length cap]] w fun e w' => e = .returned (.int .i64 (o.next - o.wait.length)) ∧ Below w.heap.size w w' := by
 have HB0 := hid (bN w (.cells #[.int .i64 o.epoch, .int .i64 o.next, .int .i64 o.now, .slice a o.wait.length cap] 41))
 go_enter Tryz.func120, Tryz.ntmps120
 go_wp2
 go_ret
 exact ⟨rfl, HB0.out⟩
set_option maxRecDepth 100000 in
set_option maxHeartbeats 8000000 in
theorem implVO_any (o : PO) (a : Option Addr) (cap : Nat) (w : World) (hr : RdSl cSnt w o.wait (.slice a o.wait.length cap)) :
  Calls Tryz.prog 75 #[.agg #[.int .i64 o.epoch, .int .i64 o.next, .int .i64 o.now, .slice a o.wait.length cap]] w fun e w' => e = .returned (.bool (outOK o)) ∧ Below w.heap.size w w' := by
 have HR := hid hr
 have HF : Hid (¬ OutH o → outOK o = false) := hid outOK_head
 have HW : Hid (∀ k, (hk : k < o.wait.length) → outW o k o.wait[k] = false → outOK o = false) := hid (fun k hk h => outOK_at hk h)
 have HB0 := hid (bN w (.cells #[.int .i64 o.epoch, .int .i64 o.next, .int .i64 o.now, .slice a o.wait.length cap] 41))
 have HK0 : Hid ((w.alloc (.cells #[.int .i64 o.epoch, .int .i64 o.next, .int .i64 o.now, .slice a o.wait.length cap] 41)).heap[w.heap.size]? = some (.cells #[.int .i64 o.epoch, .int .i64 o.next, .int .i64 o.now, .slice a o.wait.length cap] 41 (0, 0))) := hid (heap_alloc_new w _)
 have hml : o.wait.length ≤ maxLen := by obtain ⟨a', cap', e', g1, g2, _⟩ := hr; omega
 unfold maxLen at hml
 clear hr
 have HE := hid (within_any o.epoch 1 1000000000 (w.alloc (.cells #[.int .i64 o.epoch, .int .i64 o.next, .int .i64 o.now, .slice a o.wait.length cap] 41)))
 have HS := hid (within_any o.next 0 1000000000000 (w.alloc (.cells #[.int .i64 o.epoch, .int .i64 o.next, .int .i64 o.now, .slice a o.wait.length cap] 41)))
 have HC := hid (within_any o.now 0 1000000000 (w.alloc (.cells #[.int .i64 o.epoch, .int .i64 o.next, .int .i64 o.now, .slice a o.wait.length cap] 41)))
 by_cases c0 : ¬ (1 ≤ o.epoch ∧ o.epoch ≤ 1000000000)
 ·rw [decide_eq_false c0] at HE
  have HX := hid (HF.out (by unfold OutH; omega))
  go_enter Tryz.func75, Tryz.ntmps75
  go_wp2_with fail
  refine (HE.out).mono ?_
  rintro e w1 ⟨rfl, rfl⟩
  go_wp2
  go_ret
  exact ⟨(by rw [HX.out]; first | done | rfl), HB0.out⟩
 rw [decide_eq_true (Decidable.not_not.1 c0)] at HE
 by_cases c1 : ¬ (0 ≤ o.next ∧ o.next ≤ 1000000000000)
 ·rw [decide_eq_false c1] at HS
  have HX := hid (HF.out (by unfold OutH; omega))
  go_enter Tryz.func75, Tryz.ntmps75
  go_wp2_with fail
  refine (HE.out).mono ?_
  rintro e w1 ⟨rfl, rfl⟩
  go_wp2_with fail
  refine (HS.out).mono ?_
  rintro e w1 ⟨rfl, rfl⟩
  go_wp2
  go_ret
  exact ⟨(by rw [HX.out]; first | done | rfl), HB0.out⟩
 rw [decide_eq_true (Decidable.not_not.1 c1)] at HS
 by_cases c2 : ¬ (0 ≤ o.now ∧ o.now ≤ 1000000000)
 ·rw [decide_eq_false c2] at HC
  have HX := hid (HF.out (by unfold OutH; omega))
  go_enter Tryz.func75, Tryz.ntmps75
  go_wp2_with fail
  refine (HE.out).mono ?_
  rintro e w1 ⟨rfl, rfl⟩
  go_wp2_with fail
  refine (HS.out).mono ?_
  rintro e w1 ⟨rfl, rfl⟩
  go_wp2_with fail
  refine (HC.out).mono ?_
  rintro e w1 ⟨rfl, rfl⟩
  go_wp2
  go_ret
  exact ⟨(by rw [HX.out]; first | done | rfl), HB0.out⟩
 rw [decide_eq_true (Decidable.not_not.1 c2)] at HC
 by_cases c6 : 300 < o.wait.length
 ·have HX := hid (HF.out (by unfold OutH; omega))
  have c6' : (300 : Int) < (o.wait.length : Int) := by omega
  go_enter Tryz.func75, Tryz.ntmps75
  go_wp2_with fail
  refine (HE.out).mono ?_
  rintro e w1 ⟨rfl, rfl⟩
  go_wp2_with fail
  refine (HS.out).mono ?_
  rintro e w1 ⟨rfl, rfl⟩
  go_wp2_with fail
  refine (HC.out).mono ?_
  rintro e w1 ⟨rfl, rfl⟩
  go_wp2
  go_ret
  exact ⟨(by rw [HX.out]; first | done | rfl), HB0.out⟩
 have HH : Hid (OutH o) := hid (by unfold OutH; omega)
 have c6' : decide (300 < (o.wait.length : Int)) = false := decide_eq_false (by omega)
 have hnx0 : 0 ≤ o.next := by omega
 have hnx1 : o.next ≤ 1000000000000 := by omega
 have hwl : o.wait.length ≤ 300 := by omega
 clear c0 c1 c2 c6
 go_enter Tryz.func75, Tryz.ntmps75
 go_wp2_with fail
 refine (HE.out).mono ?_
 rintro e w1 ⟨rfl, rfl⟩
 go_wp2_with fail
 refine (HS.out).mono ?_
 rintro e w1 ⟨rfl, rfl⟩
 go_wp2_with fail
 refine (HC.out).mono ?_
 rintro e w1 ⟨rfl, rfl⟩
 go_wp2_with fail
 refine (firstWaiting_any o a cap _ (by omega) hnx0 hnx1).mono ?_
 rintro e w2 ⟨rfl, b2⟩
 have HK2 := hid (box_laterP2 HK0.out b2)
 have HB2 := hid (bC HB0.out b2)
 have k3 := cR _ _ 3 _ _ _ HK2.out
 simp only [gA, gZ, gU] at k3
 clear b2 HK0 HB0
 go_wp2
 go_loopw [31] (fun i wr => ∃ k : Nat, k ≤ o.wait.length ∧ i = .int .i64 k ∧ (∀ j, (hj : j < o.wait.length) → j < k → outW o j o.wait[j] = true) ∧ wr.heap[w.heap.size]? = some (.cells #[.int .i64 o.epoch, .int .i64 o.next, .int .i64 o.now, .slice a o.wait.length cap] 41 (0, 0)) ∧ Below w.heap.size w wr) (fun i _ => o.wait.length - (intOf i).toNat)
 case atStart => exact ⟨0, Nat.zero_le _, rfl, fun j _ h => by omega, HK2.out, HB2.out⟩
 case round =>
  obtain ⟨k, hk, rfl, hall, hbx, hbe⟩ := hrel
  have HA := hid hall
  have HB := hid hbe
  have HX := hid hbx
  have hG : w.heap.size < wr.heap.size := (Array.getElem?_eq_some_iff.1 hbx).1
  have p0 := cR _ _ 0 _ _ _ hbx
  have p1 := cR _ _ 1 _ _ _ hbx
  have p2 := cR _ _ 2 _ _ _ hbx
  have p3 := cR _ _ 3 _ _ _ hbx
  simp only [gA, gZ, gU] at p0 p1 p2 p3
  clear hall hbe hbx
  by_cases hlt : k < o.wait.length
  ·obtain ⟨b, off, es, rfl, hes, hcs⟩ := (HR.out.later HB.out).atN hlt
   obtain ⟨a0, c0, rfl, hrd, -, -⟩ := cSnt_rd hes
   have d0 : wr.cell? ⟨b, off + k * 7, none⟩ = some (.int .i64 o.wait[k].pkt.kind) := by have h := hcs 0 (by decide); rw [show cSnt.n = 7 from rfl] at h; simpa [Nat.add_assoc] using h
   have d1 : wr.cell? ⟨b, off + k * 7 + 1, none⟩ = some (.int .i64 o.wait[k].pkt.epoch) := by have h := hcs 1 (by decide); rw [show cSnt.n = 7 from rfl] at h; simpa [Nat.add_assoc] using h
   have d2 : wr.cell? ⟨b, off + k * 7 + 2, none⟩ = some (.int .i64 o.wait[k].pkt.seq) := by have h := hcs 2 (by decide); rw [show cSnt.n = 7 from rfl] at h; simpa [Nat.add_assoc] using h
   have d3 : wr.cell? ⟨b, off + k * 7 + 3, none⟩ = some (.int .i64 o.wait[k].pkt.count) := by have h := hcs 3 (by decide); rw [show cSnt.n = 7 from rfl] at h; simpa [Nat.add_assoc] using h
   have d4 : wr.cell? ⟨b, off + k * 7 + 4, none⟩ = some (.bool o.wait[k].pkt.last) := by have h := hcs 4 (by decide); rw [show cSnt.n = 7 from rfl] at h; simpa [Nat.add_assoc] using h
   have d5 : wr.cell? ⟨b, off + k * 7 + 5, none⟩ = some (.slice a0 o.wait[k].pkt.data.length c0) := by have h := hcs 5 (by decide); rw [show cSnt.n = 7 from rfl] at h; simpa [Nat.add_assoc] using h
   have d6 : wr.cell? ⟨b, off + k * 7 + 6, none⟩ = some (.int .i64 o.wait[k].at_) := by have h := hcs 6 (by decide); rw [show cSnt.n = 7 from rfl] at h; simpa [Nat.add_assoc] using h
   have hdl : o.wait[k].pkt.data.length ≤ maxLen := by obtain ⟨a', cap', e', g1, g2, _⟩ := hrd; omega
   have hki : (k : Int) < (o.wait.length : Int) := by omega
   have HOW : Hid (outW o k o.wait[k] = (dataB o.wait[k].pkt o.epoch && decide (o.wait[k].pkt.seq = o.next - o.wait.length + k ∧ -1 ≤ o.wait[k].at_ ∧ o.wait[k].at_ ≤ o.now))) := hid rfl
   have HWk := hid (HW.out k hlt)
   have HB1 := hid (bN wr (.cells #[.int .i64 o.wait[k].pkt.kind, .int .i64 o.wait[k].pkt.epoch, .int .i64 o.wait[k].pkt.seq, .int .i64 o.wait[k].pkt.count, .bool o.wait[k].pkt.last, .slice a0 o.wait[k].pkt.data.length c0, .int .i64 o.wait[k].at_] 141))
   have HY1 : Hid ((wr.alloc (.cells #[.int .i64 o.wait[k].pkt.kind, .int .i64 o.wait[k].pkt.epoch, .int .i64 o.wait[k].pkt.seq, .int .i64 o.wait[k].pkt.count, .bool o.wait[k].pkt.last, .slice a0 o.wait[k].pkt.data.length c0, .int .i64 o.wait[k].at_] 141)).heap[wr.heap.size]? = some (.cells #[.int .i64 o.wait[k].pkt.kind, .int .i64 o.wait[k].pkt.epoch, .int .i64 o.wait[k].pkt.seq, .int .i64 o.wait[k].pkt.count, .bool o.wait[k].pkt.last, .slice a0 o.wait[k].pkt.data.length c0, .int .i64 o.wait[k].at_] 141 (0, 0))) := hid (heap_alloc_new wr _)
   have HNX : Hid (outW o k o.wait[k] = true → ∀ j, (hj : j < o.wait.length) → j < k + 1 → outW o j o.wait[j] = true) := hid (fun h j hj hjk => by
    by_cases e : j = k
    ·subst e; exact h
    ·exact HA.out j hj (by omega))
   clear hes hcs hrd
   go_wp2_with fail
   refine (isDataOf_any o.wait[k].pkt a0 c0 o.epoch _ hdl).mono ?_
   rintro e w2 ⟨rfl, b2⟩
   have hy := box_laterP2 HY1.out b2
   have hx := box_laterP2 HX.out (bC HB1.out b2)
   have y0 := cR _ _ 0 _ _ _ hy
   have y1 := cR _ _ 1 _ _ _ hy
   have y2 := cR _ _ 2 _ _ _ hy
   have y3 := cR _ _ 3 _ _ _ hy
   have y4 := cR _ _ 4 _ _ _ hy
   have y5 := cR _ _ 5 _ _ _ hy
   have y6 := cR _ _ 6 _ _ _ hy
   have z0 := cR _ _ 0 _ _ _ hx
   have z1 := cR _ _ 1 _ _ _ hx
   have z2 := cR _ _ 2 _ _ _ hx
   have z3 := cR _ _ 3 _ _ _ hx
   simp only [gA, gZ, gU] at y0 y1 y2 y3 y4 y5 y6 z0 z1 z2 z3
   have HX2 := hid hx
   have HB2 := hid (bC HB.out (bC HB1.out b2))
   clear hx hy b2 HY1 d0 d1 d2 d3 d4 d5 d6 p0 p1 p2 p3
   cases hok : dataB o.wait[k].pkt o.epoch with
   | false =>
    have HOK := hid hok
    clear hok
    have HZ := hid (HWk.out (by rw [HOW.out]; rw [HOK.out]; rfl))
    go_wp2
    go_ret
    exact ⟨(by rw [HZ.out]; first | done | rfl), HB2.out⟩
   | true =>
    have HOK := hid hok
    clear hok
    by_cases s1 : o.wait[k].pkt.seq = o.next - o.wait.length + k
    ·have Hs1 := hid s1
     have s1t : (o.wait[k].pkt.seq != o.next - (o.wait.length : Int) + (k : Int)) = false := by simp; omega
     clear s1
     have HWI := hid (within_any o.wait[k].at_ (-1) o.now w2)
     by_cases a1 : -1 ≤ o.wait[k].at_ ∧ o.wait[k].at_ ≤ o.now
     ·have Ha1 := hid a1
      rw [decide_eq_true a1] at HWI
      clear a1
      have HT := hid (HNX.out (by rw [HOW.out, HOK.out, decide_eq_true ⟨Hs1.out, Ha1.out⟩]; rfl))
      go_wp2_with fail
      refine HWI.out.mono ?_
      rintro e w3 ⟨rfl, rfl⟩
      go_wp2
      go_roundw
      case rel => exact ⟨k + 1, by omega, by go_num, HT.out, HX2.out, HB2.out⟩
      case measure => simp [intOf]; omega
     ·have Ha1 := hid a1
      rw [decide_eq_false a1] at HWI
      clear a1
      have HZ := hid (HWk.out (by rw [HOW.out]; rw [decide_eq_false (p := _ ∧ _) (fun h => Ha1.out h.2)]; simp))
      go_wp2_with fail
      refine HWI.out.mono ?_
      rintro e w3 ⟨rfl, rfl⟩
      go_wp2
      go_ret
      exact ⟨(by rw [HZ.out]; first | done | rfl), HB2.out⟩
    ·have Hs1 := hid s1
     have s1f : (o.wait[k].pkt.seq != o.next - (o.wait.length : Int) + (k : Int)) = true := by simp; omega
     clear s1
     have HZ := hid (HWk.out (by rw [HOW.out]; rw [decide_eq_false (p := _ ∧ _) (fun h => Hs1.out h.1)]; simp))
     go_wp2
     go_ret
     exact ⟨(by rw [HZ.out]; first | done | rfl), HB2.out⟩
  ·obtain rfl : k = o.wait.length := by omega
   have HZ := hid (outOK_all HH.out (fun j hj => HA.out j hj hj))
   go_wp2
   go_ret
   exact ⟨(by rw [HZ.out]; first | done | rfl), HB.out⟩
def fcOneQ (s : PW) (a : Option Addr) (c : Nat) (bk : List Nat) : Fct := ⟨fun v w => ∃ g, v = .slice (some ⟨g, 0, none⟩) 1 1 ∧ w.heap[g]? = some (.cells #[.int .i64 s.pkt.kind, .int .i64 s.pkt.epoch, .int .i64 s.pkt.seq, .int .i64 s.pkt.count, .bool s.pkt.last, .slice a s.pkt.data.length c, .int .i64 s.at_] 141 (0, 0)) ∧ OwnSl cByte 5 w s.pkt.data (.slice a s.pkt.data.length c) bk,
 fun _ _ _ ⟨g, e, h0, h1⟩ hb => ⟨g, e, (hb.block _ (Array.getElem?_eq_some_iff.1 h0).1).trans h0, ownB_kept h1 hb⟩⟩
def fcGotQ (W1 : World) (us : List Nat) (gq : Nat) (acc : Value) (bk : List Nat) (xs : List PW) : Fct := ⟨fun v w => w.heap[gq]? = some (.cells #[acc] 176 (0, 0)) ∧ Only us W1 w ∧ ∃ a c bs, v = .slice a xs.length c ∧ OwnSl cSnt 141 w xs (.slice a xs.length c) bs ∧ bs.Nodup ∧ ∀ b ∈ bs, (b ∈ us ∨ b ∈ bk ∨ W1.heap.size ≤ b) ∧ b ≠ gq,
 fun _ _ _ ⟨h1, h0, a, c, bs, e, h2, h3⟩ hb => ⟨(hb.block _ (Array.getElem?_eq_some_iff.1 h1).1).trans h1, h0.trans (Only.of_below hb), a, c, bs, e, h2.kept (fun b hm => hb.block b (h2.lt b hm)), h3⟩⟩
def PutQ (W1 : World) (us : List Nat) (gq : Nat) (bk : List Nat) (xs : List PW) (w : World) : Prop := Only (gq :: us) W1 w ∧ ∃ a c bs, w.heap[gq]? = some (.cells #[.slice a xs.length c] 176 (0, 0)) ∧ OwnSl cSnt 141 w xs (.slice a xs.length c) bs ∧ bs.Nodup ∧ ∀ b ∈ bs, (b ∈ us ∨ b ∈ bk ∨ W1.heap.size ≤ b) ∧ b ≠ gq
def fcPutQ (W1 : World) (us : List Nat) (gq : Nat) (bk : List Nat) (xs : List PW) : Fct := ⟨fun _ w => PutQ W1 us gq bk xs w,
 fun _ _ _ ⟨h0, a, c, bs, h1, h2, h3⟩ hb => ⟨h0.trans (Only.of_below hb), a, c, bs, (hb.block _ (Array.getElem?_eq_some_iff.1 h1).1).trans h1, h2.kept (fun b hm => hb.block b (h2.lt b hm)), h3⟩⟩
theorem putQ_mk {W1 : World} {us : List Nat} {gq : Nat} {acc : Value} {bk : List Nat} {xs : List PW} {w : World} {a : Option Addr} {c : Nat} {bs : List Nat} (h : w.heap[gq]? = some (.cells #[acc] 176 (0, 0))) (hon : Only us W1 w) (ho : OwnSl cSnt 141 w xs (.slice a xs.length c) bs) (hn : bs.Nodup) (hb : ∀ b ∈ bs, (b ∈ us ∨ b ∈ bk ∨ W1.heap.size ≤ b) ∧ b ≠ gq) :
  PutQ W1 us gq bk xs (w.setCell ⟨gq, 0, none⟩ (.slice a xs.length c)) :=
 ⟨(hon.mono (fun x hx => List.mem_cons_of_mem _ hx)).trans ⟨rfl, rfl, rfl, by simp, fun i _ hn => Below.heap_setCell _ ⟨gq, 0, none⟩ _ _ (fun e => hn (by simp [e]))⟩, a, c, bs, heap_setCell_same _ _ 0 _ _ _ h, ho.kept (fun b hm => Below.heap_setCell _ ⟨gq, 0, none⟩ _ _ (hb b hm).2), hn, hb⟩
set_option linter.unusedVariables false in
def qpT (W1 : World) (us : List Nat) (gq : Nat) (acc : Value) (s : PW) (an : Option Addr) (cn : Nat) (bk : List Nat) (xs : List PW) : Nat → FX
 | 0 => FX.eq (.pointer (some ⟨gq, 0, none⟩))
 | 1 => FX.eq (.pointer (some ⟨gq, 0, none⟩))
 | 2 => FX.eq (.pointer (some ⟨gq, 0, none⟩))
 | 3 => FX.eq (.pointer (some ⟨gq, 0, none⟩))
 | 4 => FX.eq (acc)
 | 5 => FX.eq (.agg #[.int .i64 s.pkt.kind, .int .i64 s.pkt.epoch, .int .i64 s.pkt.seq, .int .i64 s.pkt.count, .bool s.pkt.last, .slice an s.pkt.data.length cn, .int .i64 s.at_])
 | 6 => FX.pre [7, 10] (fcOneQ s an cn bk)
 | 7 => FX.pre [10] (fcGotQ W1 us gq acc bk (xs ++ [s]))
 | 8 => FX.eq (.pointer (some ⟨gq, 0, none⟩))
 | 9 => FX.eq (.pointer (some ⟨gq, 0, none⟩))
 | 10 => FX.is (fcPutQ W1 us gq bk (xs ++ [s]))
 | _ => FX.eq undef
set_option maxRecDepth 100000 in
set_option maxHeartbeats 8000000 in
theorem put_any (gq : Nat) (aA : Option Addr) (cA : Nat) (xs : List PW) (us : List Nat) (s : PW) (an : Option Addr) (cn : Nat) (bk : List Nat) (Wb w : World) (hWb : Below Wb.heap.size Wb w) (hkq : w.heap[gq]? = some (.cells #[.slice aA xs.length cA] 176 (0, 0)))
  (hox : OwnSl cSnt 141 w xs (.slice aA xs.length cA) us) (hnb : us.Nodup) (hbb : ∀ b ∈ us, Wb.heap.size ≤ b ∧ b ≠ gq) (hda : OwnSl cByte 5 w s.pkt.data (.slice an s.pkt.data.length cn) bk) (hdn : bk.Nodup) (hdl : ∀ b ∈ bk, Wb.heap.size ≤ b ∧ b ≠ gq) (hdis : ∀ b ∈ bk, b ∉ us)
  (hok : PPIn s.pkt ∧ IntIn s.at_) (hx : xs.length ≤ 1048576) (hgq : Wb.heap.size ≤ gq) :
  Calls Tryz.prog 156 #[.pointer (some ⟨gq, 0, none⟩), .agg #[.int .i64 s.pkt.kind, .int .i64 s.pkt.epoch, .int .i64 s.pkt.seq, .int .i64 s.pkt.count, .bool s.pkt.last, .slice an s.pkt.data.length cn, .int .i64 s.at_]] w fun e w' => e = .returned (.tuple #[]) ∧ ∃ a c bs, w'.heap[gq]? = some (.cells #[.slice a (xs ++ [s]).length c] 176 (0, 0)) ∧ OwnSl cSnt 141 w' (xs ++ [s]) (.slice a (xs ++ [s]).length c) bs ∧ bs.Nodup ∧ (∀ b ∈ bs, (b ∈ us ∨ b ∈ bk ∨ w.heap.size ≤ b) ∧ b ≠ gq) ∧ Only (gq :: us) w w' ∧ Below Wb.heap.size Wb w' := by
 obtain ⟨i0, hi0, hz0, hz1, hz2⟩ := info_parts infoImSent
 have hlt := (Array.getElem?_eq_some_iff.1 hkq).1
 have HB01 := hid (bN w (.cells #[.int .i64 s.pkt.kind, .int .i64 s.pkt.epoch, .int .i64 s.pkt.seq, .int .i64 s.pkt.count, .bool s.pkt.last, .slice an s.pkt.data.length cn, .int .i64 s.at_] 141))
 have HSZ1 : Hid (w.heap.size ≤ (w.alloc (.cells #[.int .i64 s.pkt.kind, .int .i64 s.pkt.epoch, .int .i64 s.pkt.seq, .int .i64 s.pkt.count, .bool s.pkt.last, .slice an s.pkt.data.length cn, .int .i64 s.at_] 141)).heap.size) := hid (by simp)
 have HWB1 := hid (bC hWb HB01.out)
 have HKQ := hid (box_laterP2 hkq HB01.out)
 have HOX := hid (hox.kept (w' := w.alloc (.cells #[.int .i64 s.pkt.kind, .int .i64 s.pkt.epoch, .int .i64 s.pkt.seq, .int .i64 s.pkt.count, .bool s.pkt.last, .slice an s.pkt.data.length cn, .int .i64 s.at_] 141)) (fun b hb => HB01.out.block b (hox.lt b hb)))
 have HNB := hid hnb
 have HBB := hid hbb
 have HDA := hid (ownB_kept hda HB01.out)
 have HDN := hid hdn
 have HDL := hid hdl
 have HDIS := hid hdis
 have HOK := hid hok
 have HGQ := hid hgq
 have HKI : Hid ((w.alloc (.cells #[.int .i64 s.pkt.kind, .int .i64 s.pkt.epoch, .int .i64 s.pkt.seq, .int .i64 s.pkt.count, .bool s.pkt.last, .slice an s.pkt.data.length cn, .int .i64 s.at_] 141)).heap[w.heap.size]? = some (.cells #[.int .i64 s.pkt.kind, .int .i64 s.pkt.epoch, .int .i64 s.pkt.seq, .int .i64 s.pkt.count, .bool s.pkt.last, .slice an s.pkt.data.length cn, .int .i64 s.at_] 141 (0, 0))) := hid (heap_alloc_new w _)
 clear hkq hox hnb hbb hda hdn hdl hdis hok hgq hWb
 go_enter Tryz.func156, Tryz.ntmps156
 go_wp2_with fail
 generalize (w.alloc (.cells #[.int .i64 s.pkt.kind, .int .i64 s.pkt.epoch, .int .i64 s.pkt.seq, .int .i64 s.pkt.count, .bool s.pkt.last, .slice an s.pkt.data.length cn, .int .i64 s.at_] 141)) = W1 at *
 have g0 := cR _ _ 0 _ _ _ HKQ.out
 have d0 := cR _ _ 0 _ _ _ HKI.out
 have d1 := cR _ _ 1 _ _ _ HKI.out
 have d2 := cR _ _ 2 _ _ _ HKI.out
 have d3 := cR _ _ 3 _ _ _ HKI.out
 have d4 := cR _ _ 4 _ _ _ HKI.out
 have d5 := cR _ _ 5 _ _ _ HKI.out
 have d6 := cR _ _ 6 _ _ _ HKI.out
 simp only [gA, gZ, gU] at g0 d0 d1 d2 d3 d4 d5 d6
 refine region_turns (n := 11) (by kernel_rfl) (by kernel_rfl) ?_ (fun t => { tmps := #[.pointer (some ⟨gq, 0, none⟩), .agg #[.int .i64 s.pkt.kind, .int .i64 s.pkt.epoch, .int .i64 s.pkt.seq, .int .i64 s.pkt.count, .bool s.pkt.last, .slice an s.pkt.data.length cn, .int .i64 s.at_], undef, .pointer (some ⟨w.heap.size, 0, none⟩), t 0, t 1, t 2, t 3, t 4, t 5, t 6, t 7, t 8, t 9], defers := [] }) (qpT W1 us gq (.slice aA xs.length cA) s an cn bk xs) [7, 10] (fcSameL W1) Wb W1 (fun k => if k = 6 then [7, 10] else if k = 7 then [10] else []) (fun k => !(k == 6 || k == 7 || k == 10)) (by kernel_rfl) (fun j hj => by rcases (by omega : j = 0 ∨ j = 1 ∨ j = 2 ∨ j = 3 ∨ j = 4 ∨ j = 5 ∨ j = 6 ∨ j = 7 ∨ j = 8 ∨ j = 9 ∨ j = 10) with rfl | rfl | rfl | rfl | rfl | rfl | rfl | rfl | rfl | rfl | rfl <;> rfl) (fun j hj hp => by rcases (by omega : j = 0 ∨ j = 1 ∨ j = 2 ∨ j = 3 ∨ j = 4 ∨ j = 5 ∨ j = 6 ∨ j = 7 ∨ j = 8 ∨ j = 9 ∨ j = 10) with rfl | rfl | rfl | rfl | rfl | rfl | rfl | rfl | rfl | rfl | rfl <;> first | rfl | (exact absurd hp (by decide))) (fun j => ([undef, undef, undef, undef, undef, undef, undef, undef, undef, undef, undef] : List Value).getD j undef) HWB1.out (Below.refl _ _) ?_ ?_
 ·rfl
 ·intro i hi x t wx hxi hsh h0 hbx hgx hdp hall
  rcases (by omega : i = 0 ∨ i = 1 ∨ i = 2 ∨ i = 3 ∨ i = 4 ∨ i = 5 ∨ i = 6 ∨ i = 7 ∨ i = 8 ∨ i = 9 ∨ i = 10) with rfl | rfl | rfl | rfl | rfl | rfl | rfl | rfl | rfl | rfl | rfl
  ·
   try dsimp only
   clear h0
   refine wpOp_step rfl (fun K' hK => ?_)
   go_simp
   exact hK _ _ ⟨.pointer (some ⟨gq, 0, none⟩), (by simp [upd]), FX.eq_mk rfl, fun _ => Below.refl _ _, hbx⟩
  ·
   try dsimp only
   clear h0
   refine wpOp_step rfl (fun K' hK => ?_)
   go_simp
   exact hK _ _ ⟨.pointer (some ⟨gq, 0, none⟩), (by simp [upd]), FX.eq_mk rfl, fun _ => Below.refl _ _, hbx⟩
  ·
   try dsimp only
   have x1 := depX hdp 1 (by kernel_rfl)
   have d1 := hall 1 (by omega) x1
   have e1 : t 1 = .pointer (some ⟨gq, 0, none⟩) := d1.1
   rw [e1]
   clear h0
   refine wpOp_step rfl (fun K' hK => ?_)
   go_simp
   exact hK _ _ ⟨.pointer (some ⟨gq, 0, none⟩), (by simp [upd, e1]), FX.eq_mk rfl, fun _ => Below.refl _ _, hbx⟩
  ·
   try dsimp only
   have x2 := depX hdp 2 (by kernel_rfl)
   have d2 := hall 2 (by omega) x2
   have e2 : t 2 = .pointer (some ⟨gq, 0, none⟩) := d2.1
   rw [e2]
   clear h0
   refine wpOp_step rfl (fun K' hK => ?_)
   go_simp
   exact hK _ _ ⟨.pointer (some ⟨gq, 0, none⟩), (by simp [upd, e2]), FX.eq_mk rfl, fun _ => Below.refl _ _, hbx⟩
  ·
   try dsimp only
   have x3 := depX hdp 3 (by kernel_rfl)
   have d3 := hall 3 (by omega) x3
   have e3 : t 3 = .pointer (some ⟨gq, 0, none⟩) := d3.1
   rw [e3]
   have y7 := notYet hsh hxi 7 (by kernel_rfl)
   have y10 := notYet hsh hxi 10 (by kernel_rfl)
   have hz : Below W1.heap.size W1 wx := hgx (by simp [y7, y10])
   have g0 := (hz.cell (World.block_lt_of_cell? _ _ g0)).trans g0
   clear y7 y10 hz
   clear h0
   refine wpOp_step rfl (fun K' hK => ?_)
   go_simp
   exact hK _ _ ⟨.slice aA xs.length cA, (by simp [upd, e3]), FX.eq_mk rfl, fun _ => Below.refl _ _, hbx⟩
  ·
   try dsimp only
   have y7 := notYet hsh hxi 7 (by kernel_rfl)
   have y10 := notYet hsh hxi 10 (by kernel_rfl)
   have hz : Below W1.heap.size W1 wx := hgx (by simp [y7, y10])
   have d0 := (hz.cell (World.block_lt_of_cell? _ _ d0)).trans d0
   have d1 := (hz.cell (World.block_lt_of_cell? _ _ d1)).trans d1
   have d2 := (hz.cell (World.block_lt_of_cell? _ _ d2)).trans d2
   have d3 := (hz.cell (World.block_lt_of_cell? _ _ d3)).trans d3
   have d4 := (hz.cell (World.block_lt_of_cell? _ _ d4)).trans d4
   have d5 := (hz.cell (World.block_lt_of_cell? _ _ d5)).trans d5
   have d6 := (hz.cell (World.block_lt_of_cell? _ _ d6)).trans d6
   clear y7 y10 hz
   clear h0
   refine wpOp_step rfl (fun K' hK => ?_)
   go_simp
   exact hK _ _ ⟨.agg #[.int .i64 s.pkt.kind, .int .i64 s.pkt.epoch, .int .i64 s.pkt.seq, .int .i64 s.pkt.count, .bool s.pkt.last, .slice an s.pkt.data.length cn, .int .i64 s.at_], (by simp [upd]), FX.eq_mk rfl, fun _ => Below.refl _ _, hbx⟩
  ·
   try dsimp only
   have x5 := depX hdp 5 (by kernel_rfl)
   have d5 := hall 5 (by omega) x5
   have e5 : t 5 = .agg #[.int .i64 s.pkt.kind, .int .i64 s.pkt.epoch, .int .i64 s.pkt.seq, .int .i64 s.pkt.count, .bool s.pkt.last, .slice an s.pkt.data.length cn, .int .i64 s.at_] := d5.1
   rw [e5]
   have y7 := notYet hsh hxi 7 (by kernel_rfl)
   have y10 := notYet hsh hxi 10 (by kernel_rfl)
   have hz : Below W1.heap.size W1 wx := hgx (by simp [y7, y10])
   have r8 := ownB_kept HDA.out hz
   clear y7 y10 hz
   clear h0
   refine wpOp_step rfl (fun K' hK => ?_)
   go_simp
   exact hK _ _ ⟨.slice (some ⟨wx.heap.size, 0, none⟩) 1 1, (by simp [upd, e5]), FX.pre_mk ⟨wx.heap.size, rfl, heap_alloc_new wx _, ownB_kept r8 (bN _ _)⟩, fun _ => bN _ _, bC hbx (bN _ _)⟩
  ·
   try dsimp only
   have x4 := depX hdp 4 (by kernel_rfl)
   have d4 := hall 4 (by omega) x4
   have e4 : t 4 = .slice aA xs.length cA := d4.1
   have x6 := depX hdp 6 (by kernel_rfl)
   have d6 := hall 6 (by omega) x6
   rw [e4]
   have y10 := notYet hsh hxi 10 (by kernel_rfl)
   obtain ⟨g16, e6, h16, r8⟩ : (fcOneQ s an cn bk).p (t 6) wx := FX.pre_of2 d6 hxi y10
   rw [e6]
   have hz : Below W1.heap.size W1 wx := hgx (by simp [hxi, y10])
   have hox := HOX.out.kept (w' := wx) (fun b hb => hz.block b (HOX.out.lt b hb))
   have hkm := (hz.block _ (Array.getElem?_eq_some_iff.1 HKQ.out).1).trans HKQ.out
   obtain ⟨vals, ho, hgrowS⟩ := hox.grow HNB.out (fun b hb => (HBB.out b hb).1) hbx.size (cSnt_own (s := s) r8 HOK.out.1 HOK.out.2) HDN.out (fun b hb => (HDL.out b hb).1) HDIS.out
   clear h0
   refine wpOp_step rfl (fun K' hK => ?_)
   refine step_append_lies _ rfl (.tmp 8) (.tmp 10) 39 rfl Wb.heap.size 141 i0 (.agg #[.int .i64 0, .int .i64 0, .int .i64 0, .int .i64 0, .bool false, .slice none 0 0, .int .i64 0]) 7 72 Tryz.underlying39 hi0 hz0 hz1 hz2 rfl (by decide) (.slice aA xs.length cA) xs.length vals rfl ho ⟨g16, 0, none⟩ 1 1 [.int .i64 s.pkt.kind, .int .i64 s.pkt.epoch, .int .i64 s.pkt.seq, .int .i64 s.pkt.count, .bool s.pkt.last, .slice an s.pkt.data.length cn, .int .i64 s.at_] rfl rfl (World.news_of_block h16) (by simp [Value.oneCell']) (by omega) (by unfold maxLen; omega) (by omega) hbx.size _ rfl ?_
   intro g' cap' w9 hown hgrow hat hlt9
   obtain ⟨bs9, q1, q2, q3⟩ := hgrowS g' cap' w9 hown hgrow hat
   have hne : (Value.slice aA xs.length cA).ownBlock ≠ some gq := fun e => (HBB.out _ (own_block_mem HOX.out e)).2 rfl
   have hon : Only us W1 w9 := (Only.of_below hz).trans ((only_of_grown hgrow).mono (fun x hx => by simp only [Option.mem_toList] at hx; exact own_block_mem HOX.out hx))
   exact hK _ _ ⟨.slice (some ⟨g', 0, none⟩) (xs.length + 1) cap', (by simp [upd, e4, e6, Act.put]), FX.pre_mk ⟨(hgrow.block _ (Array.getElem?_eq_some_iff.1 hkm).1 (fun e => hne e.symm)).trans hkm, hon, some ⟨g', 0, none⟩, cap', bs9, by simp, q1, q2, fun b hb => ⟨by rcases (q3 b hb).2 with h | h | h; exact .inl h; exact .inr (.inl h); exact .inr (.inr (by have := hz.size; omega)), fun e => by subst e; rcases (q3 _ hb).2 with h | h | h; exact (HBB.out _ h).2 rfl; exact (HDL.out _ h).2 rfl; exact absurd (Array.getElem?_eq_some_iff.1 hkm).1 (by omega)⟩⟩, fun h => absurd (by simp) h, hbx.grown hgrow hbx.size (fun p hp => (own_in7 ho hp).1)⟩
  ·
   try dsimp only
   have x0 := depX hdp 0 (by kernel_rfl)
   have d0 := hall 0 (by omega) x0
   have e0 : t 0 = .pointer (some ⟨gq, 0, none⟩) := d0.1
   rw [e0]
   clear h0
   refine wpOp_step rfl (fun K' hK => ?_)
   go_simp
   exact hK _ _ ⟨.pointer (some ⟨gq, 0, none⟩), (by simp [upd, e0]), FX.eq_mk rfl, fun _ => Below.refl _ _, hbx⟩
  ·
   try dsimp only
   have x8 := depX hdp 8 (by kernel_rfl)
   have d8 := hall 8 (by omega) x8
   have e8 : t 8 = .pointer (some ⟨gq, 0, none⟩) := d8.1
   rw [e8]
   clear h0
   refine wpOp_step rfl (fun K' hK => ?_)
   go_simp
   exact hK _ _ ⟨.pointer (some ⟨gq, 0, none⟩), (by simp [upd, e8]), FX.eq_mk rfl, fun _ => Below.refl _ _, hbx⟩
  ·
   try dsimp only
   have x9 := depX hdp 9 (by kernel_rfl)
   have d9 := hall 9 (by omega) x9
   have e9 : t 9 = .pointer (some ⟨gq, 0, none⟩) := d9.1
   have x7 := depX hdp 7 (by kernel_rfl)
   have d7 := hall 7 (by omega) x7
   rw [e9]
   obtain ⟨hbm, hon, a17, c17, bs17, e7, o17, n17, b17⟩ : (fcGotQ W1 us gq (.slice aA xs.length cA) bk (xs ++ [s])).p (t 7) wx := FX.pre_of d7 hxi
   rw [e7]
   have k3 := cR wx _ 0 _ _ _ hbm
   have z3 := fR wx _ 0 _ _ hbm
   simp only [gA, gZ] at k3
   have HPUT := hid (putQ_mk hbm hon o17 n17 b17)
   rw [show (xs ++ [s]).length = xs.length + 1 from by simp] at HPUT
   clear hbm o17 n17 b17 hon
   clear h0
   refine wpOp_step rfl (fun K' hK => ?_)
   go_simp
   exact hK _ _ ⟨undef, (by simp [upd, e9, e7]), FX.is_mk HPUT.out, fun h => absurd (by simp) h, hbx.setCell (p := ⟨gq, 0, none⟩) HGQ.out _⟩
 ·intro x t wx hx hbx hall
  obtain ⟨hon, a9, c9, bs9, hk9, o9, n9, b9⟩ : (fcPutQ W1 us gq bk (xs ++ [s])).p (t 10) wx := FX.is_of (hall 10 (by omega))
  have HON := hid hon
  have HK9 := hid hk9
  have HO9 := hid o9
  have HN9 := hid n9
  have HB9 := hid b9
  have HBX := hid hbx
  clear hall hbx hon hk9 o9 n9 b9
  try dsimp only
  go_wp2
  go_end0
  exact ⟨rfl, a9, c9, bs9, HK9.out, HO9.out, HN9.out, fun b hb => ⟨by rcases (HB9.out b hb).1 with h | h | h; exact .inl h; exact .inr (.inl h); exact .inr (.inr (Nat.le_trans HSZ1.out h)), (HB9.out b hb).2⟩, (Only.of_below HB01.out).trans HON.out, HBX.out⟩
end Go.Proofs.YtfaehioeepolhabGreat
