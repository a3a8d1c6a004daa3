import Derived.Test.YtfaehioeepolhabGreatJCrashSender19
import Derived.Test.YtfaehioeepolhabGreatJCrashSender12
import Derived.Test.YtfaehioeepolhabGreatJCrashSender17
import Derived.Laws.ResultCell
import Derived.Test.YtfaehioeepolhabGreatJCrashSender7
namespace Go.Proofs.YtfaehioeepolhabGreat
open Go.RowKit
set_option maxRecDepth 100000 in
set_option maxHeartbeats 8000000 in
theorem specVO_any (o : PO) (a : Option Addr) (cap : Nat) (w : World) (hr : RdSl cSnt w o.wait (.slice a o.wait.length cap)) :
  Calls Tryz.prog 58 #[.agg #[.int .i64 o.epoch, .int .i64 o.next, .int .i64 o.now, .slice a o.wait.length cap]] w fun e w' => e = .returned (.bool (outOK o)) ∧ Below w.heap.size w w' := by
 have HR := hid hr
 have HF : Hid (¬ OutH o → outOK o = false) := hid outOK_head
 have HW : Hid (∀ k, (hk : k < o.wait.length) → outW o k o.wait[k] = false → outOK o = false) := hid (fun k hk h => outOK_at hk h)
 have HB0 := hid (bN w (.cells #[.int .i64 o.epoch, .int .i64 o.next, .int .i64 o.now, .slice a o.wait.length cap] 41))
 have HK0 : Hid ((w.alloc (.cells #[.int .i64 o.epoch, .int .i64 o.next, .int .i64 o.now, .slice a o.wait.length cap] 41)).heap[w.heap.size]? = some (.cells #[.int .i64 o.epoch, .int .i64 o.next, .int .i64 o.now, .slice a o.wait.length cap] 41 (0, 0))) := hid (heap_alloc_new w _)
 have hml : o.wait.length ≤ maxLen := by obtain ⟨a', cap', e', g1, g2, _⟩ := hr; omega
 unfold maxLen at hml
 clear hr
 by_cases c0 : o.epoch < 1
 ·have HX := hid (HF.out (by unfold OutH; omega))
  go_enter Tryz.func58, Tryz.ntmps58
  go_wp2
  go_ret
  exact ⟨(by rw [HX.out]; first | done | rfl), HB0.out⟩
 by_cases c1 : 1000000000 < o.epoch
 ·have HX := hid (HF.out (by unfold OutH; omega))
  go_enter Tryz.func58, Tryz.ntmps58
  go_wp2
  go_ret
  exact ⟨(by rw [HX.out]; first | done | rfl), HB0.out⟩
 by_cases c2 : o.next < 0
 ·have HX := hid (HF.out (by unfold OutH; omega))
  go_enter Tryz.func58, Tryz.ntmps58
  go_wp2
  go_ret
  exact ⟨(by rw [HX.out]; first | done | rfl), HB0.out⟩
 by_cases c3 : 1000000000000 < o.next
 ·have HX := hid (HF.out (by unfold OutH; omega))
  go_enter Tryz.func58, Tryz.ntmps58
  go_wp2
  go_ret
  exact ⟨(by rw [HX.out]; first | done | rfl), HB0.out⟩
 by_cases c4 : o.now < 0
 ·have HX := hid (HF.out (by unfold OutH; omega))
  go_enter Tryz.func58, Tryz.ntmps58
  go_wp2
  go_ret
  exact ⟨(by rw [HX.out]; first | done | rfl), HB0.out⟩
 by_cases c5 : 1000000000 < o.now
 ·have HX := hid (HF.out (by unfold OutH; omega))
  go_enter Tryz.func58, Tryz.ntmps58
  go_wp2
  go_ret
  exact ⟨(by rw [HX.out]; first | done | rfl), HB0.out⟩
 by_cases c6 : 300 < o.wait.length
 ·have HX := hid (HF.out (by unfold OutH; omega))
  have c6' : (300 : Int) < (o.wait.length : Int) := by omega
  go_enter Tryz.func58, Tryz.ntmps58
  go_wp2
  go_ret
  exact ⟨(by rw [HX.out]; first | done | rfl), HB0.out⟩
 have HH : Hid (OutH o) := hid (by unfold OutH; omega)
 have c6' : decide (300 < (o.wait.length : Int)) = false := decide_eq_false (by omega)
 go_enter Tryz.func58, Tryz.ntmps58
 go_wp2
 go_loopw [3] (fun i wr => ∃ k : Nat, k ≤ o.wait.length ∧ i = .int .i64 k ∧ (∀ j, (hj : j < o.wait.length) → j < k → outW o j o.wait[j] = true) ∧ wr.heap[w.heap.size]? = some (.cells #[.int .i64 o.epoch, .int .i64 o.next, .int .i64 o.now, .slice a o.wait.length cap] 41 (0, 0)) ∧ Below w.heap.size w wr) (fun i _ => o.wait.length - (intOf i).toNat)
 case atStart => exact ⟨0, Nat.zero_le _, rfl, fun j _ h => by omega, HK0.out, HB0.out⟩
 case round =>
  obtain ⟨k, hk, rfl, hall, hbx, hbe⟩ := hrel
  have HA := hid hall
  have HB := hid hbe
  have HX := hid hbx
  have hG : w.heap.size < wr.heap.size := (Array.getElem?_eq_some_iff.1 hbx).1
  have p0 := cR _ _ 0 _ _ _ hbx
  have p1 := cR _ _ 1 _ _ _ hbx
  have p2 := cR _ _ 2 _ _ _ hbx
  have p3 := cR _ _ 3 _ _ _ hbx
  simp only [gA, gZ, gU] at p0 p1 p2 p3
  clear hall hbe hbx
  by_cases hlt : k < o.wait.length
  ·obtain ⟨b, off, es, rfl, hes, hcs⟩ := (HR.out.later HB.out).atN hlt
   obtain ⟨a0, c0, rfl, hrd, -, -⟩ := cSnt_rd hes
   have d0 : wr.cell? ⟨b, off + k * 7, none⟩ = some (.int .i64 o.wait[k].pkt.kind) := by have h := hcs 0 (by decide); rw [show cSnt.n = 7 from rfl] at h; simpa [Nat.add_assoc] using h
   have d1 : wr.cell? ⟨b, off + k * 7 + 1, none⟩ = some (.int .i64 o.wait[k].pkt.epoch) := by have h := hcs 1 (by decide); rw [show cSnt.n = 7 from rfl] at h; simpa [Nat.add_assoc] using h
   have d2 : wr.cell? ⟨b, off + k * 7 + 2, none⟩ = some (.int .i64 o.wait[k].pkt.seq) := by have h := hcs 2 (by decide); rw [show cSnt.n = 7 from rfl] at h; simpa [Nat.add_assoc] using h
   have d3 : wr.cell? ⟨b, off + k * 7 + 3, none⟩ = some (.int .i64 o.wait[k].pkt.count) := by have h := hcs 3 (by decide); rw [show cSnt.n = 7 from rfl] at h; simpa [Nat.add_assoc] using h
   have d4 : wr.cell? ⟨b, off + k * 7 + 4, none⟩ = some (.bool o.wait[k].pkt.last) := by have h := hcs 4 (by decide); rw [show cSnt.n = 7 from rfl] at h; simpa [Nat.add_assoc] using h
   have d5 : wr.cell? ⟨b, off + k * 7 + 5, none⟩ = some (.slice a0 o.wait[k].pkt.data.length c0) := by have h := hcs 5 (by decide); rw [show cSnt.n = 7 from rfl] at h; simpa [Nat.add_assoc] using h
   have d6 : wr.cell? ⟨b, off + k * 7 + 6, none⟩ = some (.int .i64 o.wait[k].at_) := by have h := hcs 6 (by decide); rw [show cSnt.n = 7 from rfl] at h; simpa [Nat.add_assoc] using h
   have hdl : o.wait[k].pkt.data.length ≤ maxLen := by obtain ⟨a', cap', e', g1, g2, _⟩ := hrd; omega
   have hki : (k : Int) < (o.wait.length : Int) := by omega
   have HOW : Hid (outW o k o.wait[k] = (dataB o.wait[k].pkt o.epoch && decide (o.wait[k].pkt.seq = o.next - o.wait.length + k ∧ -1 ≤ o.wait[k].at_ ∧ o.wait[k].at_ ≤ o.now))) := hid rfl
   have HWk := hid (HW.out k hlt)
   have HB1 := hid (bN wr (.cells #[.int .i64 o.wait[k].pkt.kind, .int .i64 o.wait[k].pkt.epoch, .int .i64 o.wait[k].pkt.seq, .int .i64 o.wait[k].pkt.count, .bool o.wait[k].pkt.last, .slice a0 o.wait[k].pkt.data.length c0, .int .i64 o.wait[k].at_] 141))
   have HY1 : Hid ((wr.alloc (.cells #[.int .i64 o.wait[k].pkt.kind, .int .i64 o.wait[k].pkt.epoch, .int .i64 o.wait[k].pkt.seq, .int .i64 o.wait[k].pkt.count, .bool o.wait[k].pkt.last, .slice a0 o.wait[k].pkt.data.length c0, .int .i64 o.wait[k].at_] 141)).heap[wr.heap.size]? = some (.cells #[.int .i64 o.wait[k].pkt.kind, .int .i64 o.wait[k].pkt.epoch, .int .i64 o.wait[k].pkt.seq, .int .i64 o.wait[k].pkt.count, .bool o.wait[k].pkt.last, .slice a0 o.wait[k].pkt.data.length c0, .int .i64 o.wait[k].at_] 141 (0, 0))) := hid (heap_alloc_new wr _)
   have HNX : Hid (outW o k o.wait[k] = true → ∀ j, (hj : j < o.wait.length) → j < k + 1 → outW o j o.wait[j] = true) := hid (fun h j hj hjk => by
    by_cases e : j = k
    ·subst e; exact h
    ·exact HA.out j hj (by omega))
   clear hes hcs hrd
   go_wp2_with fail
   refine (l5valid_any o.wait[k].pkt a0 c0 _ hdl).mono ?_
   rintro e w2 ⟨rfl, b2⟩
   have hy := box_laterP2 HY1.out b2
   have hx := box_laterP2 HX.out (bC HB1.out b2)
   have y0 := cR _ _ 0 _ _ _ hy
   have y1 := cR _ _ 1 _ _ _ hy
   have y2 := cR _ _ 2 _ _ _ hy
   have y3 := cR _ _ 3 _ _ _ hy
   have y4 := cR _ _ 4 _ _ _ hy
   have y5 := cR _ _ 5 _ _ _ hy
   have y6 := cR _ _ 6 _ _ _ hy
   have z0 := cR _ _ 0 _ _ _ hx
   have z1 := cR _ _ 1 _ _ _ hx
   have z2 := cR _ _ 2 _ _ _ hx
   have z3 := cR _ _ 3 _ _ _ hx
   simp only [gA, gZ, gU] at y0 y1 y2 y3 y4 y5 y6 z0 z1 z2 z3
   have HX2 := hid hx
   have HB2 := hid (bC HB.out (bC HB1.out b2))
   clear hx hy b2 HY1 d0 d1 d2 d3 d4 d5 d6 p0 p1 p2 p3
   cases hok : pktOK o.wait[k].pkt with
   | false =>
    have HOK := hid hok
    clear hok
    have HZ := hid (HWk.out (by rw [HOW.out]; unfold dataB; rw [HOK.out]; rfl))
    go_wp2
    go_ret
    exact ⟨(by rw [HZ.out]; first | done | rfl), HB2.out⟩
   | true =>
    have HOK := hid hok
    clear hok
    by_cases k1 : o.wait[k].pkt.kind = 1
    ·have Hk1 := hid k1
     have k1t : (o.wait[k].pkt.kind != 1) = false := by simp; omega
     clear k1
     by_cases e1 : o.wait[k].pkt.epoch = o.epoch
     ·have He1 := hid e1
      have e1t : (o.wait[k].pkt.epoch != o.epoch) = false := by simp; omega
      clear e1
      by_cases s1 : o.wait[k].pkt.seq = o.next - o.wait.length + k
      ·have Hs1 := hid s1
       have s1t : (o.wait[k].pkt.seq != o.next - (o.wait.length : Int) + (k : Int)) = false := by simp; omega
       clear s1
       by_cases a1 : ¬ (o.wait[k].at_ < -1)
       ·have Ha1 := hid a1
        have a1t : decide (o.wait[k].at_ < -1) = false := by simp; omega
        clear a1
        by_cases n1 : ¬ (o.now < o.wait[k].at_)
        ·have Hn1 := hid n1
         have n1t : decide (o.now < o.wait[k].at_) = false := by simp; omega
         clear n1
         have HT := hid (HNX.out (by rw [HOW.out]; unfold dataB; rw [HOK.out, decide_eq_true Hk1.out, decide_eq_true He1.out, decide_eq_true ⟨Hs1.out, by have := Ha1.out; omega, by have := Hn1.out; omega⟩]; rfl))
         go_wp2
         go_roundw
         case rel => exact ⟨k + 1, by omega, by go_num, HT.out, HX2.out, HB2.out⟩
         case measure => simp [intOf]; omega
        have Hn1 := hid n1
        have n1f : decide (o.now < o.wait[k].at_) = true := by simp; omega
        clear n1
        have HZ := hid (HWk.out (by rw [HOW.out]; rw [decide_eq_false (p := _ ∧ _) (fun h => Hn1.out (by omega))]; simp))
        go_wp2
        go_ret
        exact ⟨(by rw [HZ.out]; first | done | rfl), HB2.out⟩
       have Ha1 := hid a1
       have a1f : decide (o.wait[k].at_ < -1) = true := by simp; omega
       clear a1
       have HZ := hid (HWk.out (by rw [HOW.out]; rw [decide_eq_false (p := _ ∧ _) (fun h => Ha1.out (by omega))]; simp))
       go_wp2
       go_ret
       exact ⟨(by rw [HZ.out]; first | done | rfl), HB2.out⟩
      have Hs1 := hid s1
      have s1f : (o.wait[k].pkt.seq != o.next - (o.wait.length : Int) + (k : Int)) = true := by simp; omega
      clear s1
      have HZ := hid (HWk.out (by rw [HOW.out]; rw [decide_eq_false (p := _ ∧ _) (fun h => Hs1.out h.1)]; simp))
      go_wp2
      go_ret
      exact ⟨(by rw [HZ.out]; first | done | rfl), HB2.out⟩
     have He1 := hid e1
     have e1f : (o.wait[k].pkt.epoch != o.epoch) = true := by simp; omega
     clear e1
     have HZ := hid (HWk.out (by rw [HOW.out]; unfold dataB; rw [decide_eq_false He1.out]; simp))
     go_wp2
     go_ret
     exact ⟨(by rw [HZ.out]; first | done | rfl), HB2.out⟩
    have Hk1 := hid k1
    have k1f : (o.wait[k].pkt.kind != 1) = true := by simp; omega
    clear k1
    have HZ := hid (HWk.out (by rw [HOW.out]; unfold dataB; rw [decide_eq_false Hk1.out]; simp))
    go_wp2
    go_ret
    exact ⟨(by rw [HZ.out]; first | done | rfl), HB2.out⟩
  ·obtain rfl : k = o.wait.length := by omega
   have HZ := hid (outOK_all HH.out (fun j hj => HA.out j hj hj))
   go_wp2
   go_ret
   exact ⟨(by rw [HZ.out]; first | done | rfl), HB.out⟩
theorem isNilC (w : World) : (binOp .eql 87 (.slice none 0 0) (.slice none 0 0)).run Tryz.prog w = .ok (.bool true) w := by kernel_rfl
theorem notNilC (w : World) (ad : Addr) (n c : Nat) : (binOp .eql 87 (.slice (some ad) n c) (.slice none 0 0)).run Tryz.prog w = .ok (.bool false) w := by kernel_rfl
set_option maxRecDepth 100000 in
set_option maxHeartbeats 1000000 in
theorem bclone_any (a : Option Addr) (cap : Nat) (xs : List Nat) (w : World) (hr : RdSl cByte w xs (.slice a xs.length cap)) (hl : xs.length ≤ 1048576) :
  Calls Tryz.prog 89 #[.slice a xs.length cap] w fun e w' => ∃ v, e = .returned v ∧ w'.ownsRow w.heap.size 5 1 v xs.length (byt xs) ∧ Below w.heap.size w w' := by
 obtain ⟨i0, hi, hz0, hz1, hz2⟩ := info_parts infoByteT
 have HR := hid hr.rdB.1
 have HN := hid hr.nil0
 clear hr
 cases a with
 | none =>
  obtain ⟨e1, e2⟩ := HN.out rfl
  obtain rfl : xs = [] := List.length_eq_zero_iff.1 e1
  subst e2
  have hnl := isNilC w
  go_enter Tryz.func89, Tryz.ntmps89
  go_wp2
  go_ret
  exact ⟨_, rfl, World.ownsRow_nil _ _ _ _, Below.refl _ _⟩
 | some ad =>
  have HB0 := hid (bN w (.cells #[] 5))
  have HO0 : Hid ((w.alloc (.cells #[] 5)).ownsRow w.heap.size 5 1 (.slice (some ⟨w.heap.size, 0, none⟩) 0 0) 0 []) := hid ⟨rfl, .inr ⟨w.heap.size, 0, #[], rfl, Nat.le_refl _, heap_alloc_new w _, Nat.le_refl _, Nat.zero_le _, rfl, rfl⟩⟩
  have HR0 := hid (HR.out.later HB0.out)
  have hnl := notNilC w ad xs.length cap
  go_enter Tryz.func89, Tryz.ntmps89
  go_wp2_with (first | (at_builtin; refine append_any rfl _ _ 87 rfl w.heap.size 5 i0 (.int .u8 0) 1 Tryz.underlying87 hi hz0 hz1 hz2 rfl _ 0 [] rfl HO0.out (some ad) xs.length cap (byt xs) rfl (byt_len _) HN.out HR0.out (byt_one _) (by unfold maxLen; omega) (by omega) (by simp) ?_))
  intro v' w1 hown hgrow
  have HB : Hid (Below w.heap.size w w1) := hid (HB0.out.grown hgrow (by simp) (fun k h => by simp [Value.ownBlock] at h; omega))
  have HO : Hid (w1.ownsRow w.heap.size 5 1 v' xs.length (byt xs)) := hid (by simpa using hown)
  clear hown hgrow
  go_wp2
  go_ret
  exact ⟨_, rfl, HO.out, HB.out⟩
set_option maxRecDepth 100000 in
set_option maxHeartbeats 2000000 in
theorem pieceOf_any (b off cap : Nat) (xs : List Nat) (k : Nat) (w : World) (hr : RdSl cByte w xs (.slice (some ⟨b, off, none⟩) xs.length cap)) (hl : xs.length ≤ 1048576) (hk : k * 100 < xs.length) :
  Calls Tryz.prog 155 #[.slice (some ⟨b, off, none⟩) xs.length cap, .int .i64 k] w fun e w' => ∃ v, e = .returned v ∧ w'.ownsRow w.heap.size 5 1 v (pcs xs k).length (byt (pcs xs k)) ∧ Below w.heap.size w w' := by
 have hcap : xs.length ≤ cap ∧ cap ≤ maxLen := by obtain ⟨a', cap', e', g1, g2, _⟩ := hr; simp only [Value.slice.injEq] at e'; omega
 unfold maxLen at hcap
 have hpl := pcs_len xs k
 have hcut := rdB_cut hr (lo := k * 100) (n := (pcs xs k).length) (by rw [pcs_len]; omega)
 rw [show (xs.drop (k * 100)).take (pcs xs k).length = pcs xs k from by rw [pcs_len]; unfold pcs; apply List.ext_getElem? ; intro i; simp only [List.getElem?_take, List.getElem?_drop]; by_cases h1 : i < min 100 (xs.length - k * 100); rw [if_pos h1, if_pos (by omega)]; rw [if_neg h1]; split; rw [List.getElem?_eq_none (by omega)]; rfl] at hcut
 have hcl := bclone_any (some ⟨b, off + k * 100, none⟩) (cap - k * 100) (pcs xs k) w hcut (by omega)
 clear hcut hr
 have hne : ¬ (cap = k * 100) := by omega
 by_cases hb : k * 100 + 100 ≤ xs.length
 ·have e1 : (pcs xs k).length = 100 := by omega
  rw [e1] at hcl
  have HP := hid e1
  have HCL := hid hcl
  have hbi : ((k : Int) * 100 + 100 : Int) ≤ (xs.length : Int) := by omega
  clear hpl e1 hcl
  go_enter Tryz.func155, Tryz.ntmps155
  go_wp2_with fail
  refine HCL.out.mono ?_
  rintro e w2 ⟨v2, rfl, o2, b2⟩
  have HO := hid o2
  have HB := hid b2
  clear o2 b2
  go_wp2
  go_ret
  exact ⟨v2, rfl, by rw [HP.out]; exact HO.out, HB.out⟩
 ·have e1 : (pcs xs k).length = xs.length - k * 100 := by omega
  rw [e1] at hcl
  have HP := hid e1
  have HCL := hid hcl
  have hbi : (xs.length : Int) < ((k : Int) * 100 + 100 : Int) := by omega
  clear hpl e1 hcl hb
  go_enter Tryz.func155, Tryz.ntmps155
  go_wp2_with fail
  refine HCL.out.mono ?_
  rintro e w2 ⟨v2, rfl, o2, b2⟩
  have HO := hid o2
  have HB := hid b2
  clear o2 b2
  go_wp2
  go_ret
  exact ⟨v2, rfl, by rw [HP.out]; exact HO.out, HB.out⟩
def SoOwn (w : World) (R : PO) (C : Int) (e : Ending) (w' : World) : Prop :=
 ∃ a c bs, e = .returned (.tuple #[.agg #[.int .i64 R.epoch, .int .i64 R.next, .int .i64 R.now, .slice a R.wait.length c], .int .i64 C]) ∧ OwnSl cSnt 141 w' R.wait (.slice a R.wait.length c) bs ∧ bs.Nodup ∧ (∀ b ∈ bs, w.heap.size ≤ b) ∧ Below w.heap.size w w'
theorem soOwn_nil {w w' : World} {R : PO} {C C' : Int} (hb : Below w.heap.size w w') (hp : R = noOut) (hC : C = C') : SoOwn w R C (.returned (.tuple #[.agg #[.int .i64 0, .int .i64 0, .int .i64 0, .slice none 0 0], .int .i64 C'])) w' := by
 subst hp hC
 exact ⟨none, 0, [], rfl, .inl ⟨rfl, rfl, rfl⟩, by simp, by simp, hb⟩
end Go.Proofs.YtfaehioeepolhabGreat
