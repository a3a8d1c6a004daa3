import Derived.Test.YtfaehioeepolhaaGreatJCrashReceiver45
import Derived.Test.YtfaehioeepolhaaGreatJCrashReceiver14
namespace Go.Proofs.YtfaehioeepolhaaGreat
open Go.RowKit
def kT (x : PP) : Nat := x.data.length + 5
def mkK (q : Nat) (x : PP) : PP := ⟨((q : Nat) : Int), ((q + 1 : Nat) : Int), ((q + 2 : Nat) : Int), ((q + 3 : Nat) : Int), (((q + 4 : Nat) : Int) % 3 == 0), mkByte (q + 5) x.data.length⟩
theorem wset5_6 (w : World) (g off : Nat) (x0 x1 x2 x3 x4 : Value) : wsetAll w g off [x0, x1, x2, x3, x4] = (((((w.setCell ⟨g, off, none⟩ x0).setCell ⟨g, off + 1, none⟩ x1).setCell ⟨g, off + 2, none⟩ x2).setCell ⟨g, off + 3, none⟩ x3).setCell ⟨g, off + 4, none⟩ x4) := by simp only [wsetAll, Nat.add_assoc, Nat.reduceAdd]
theorem kT_le (xs : List PP) : sumL kT xs = (xs.map pN).sum + 5 * xs.length := by
  unfold sumL
  induction xs with
  | nil => rfl
  | cons x l ih => simp [kT, pN] at ih ⊢; omega
theorem rdBytes_rdP {w : World} {xs : List Nat} {a : Option Addr} {n c : Nat} (h : RdSl cByte w xs (.slice a n c)) : Rd w a (byt xs) := by
  obtain ⟨a', cap', e', g1, g2, g3, g4, g5⟩ := h.bytes
  simp only [Value.slice.injEq] at e'
  obtain ⟨rfl, -, -⟩ := e'
  exact g4
set_option maxHeartbeats 1000000 in
theorem mkK_round {wr : World} {ys : List PP} {g m cap : Nat} {bs : List Nat} (h : OwnSl cPkt 120 wr ys (.slice (some ⟨g, 0, none⟩) m cap) bs) (hnd : bs.Nodup) {i : Nat} (hi : i < ys.length) (off : Nat) (hoff : off = i * 6) (q : Nat) (hq : q ≤ 1099511627776) (_hl : ys[i].data.length ≤ 1048576) :
    ∃ a0 c0, wr.cell? ⟨g, off, none⟩ = some (.int .i64 ys[i].kind) ∧ wr.cell? ⟨g, off + 1, none⟩ = some (.int .i64 ys[i].epoch) ∧ wr.cell? ⟨g, off + 2, none⟩ = some (.int .i64 ys[i].seq) ∧ wr.cell? ⟨g, off + 3, none⟩ = some (.int .i64 ys[i].count) ∧ wr.cell? ⟨g, off + 4, none⟩ = some (.bool ys[i].last) ∧ wr.cell? ⟨g, off + 5, none⟩ = some (.slice a0 ys[i].data.length c0) ∧ (∀ j, wr.frozen? ⟨g, j, none⟩ = false) ∧
      (((((wr.setCell ⟨g, off, none⟩ (.int .i64 ((q : Nat) : Int))).setCell ⟨g, off + 1, none⟩ (.int .i64 ((q + 1 : Nat) : Int))).setCell ⟨g, off + 2, none⟩ (.int .i64 ((q + 2 : Nat) : Int))).setCell ⟨g, off + 3, none⟩ (.int .i64 ((q + 3 : Nat) : Int))).setCell ⟨g, off + 4, none⟩ (.bool (((q + 4 : Nat) : Int) % 3 == 0))).ownsRow 0 5 1 (.slice a0 ys[i].data.length c0) ys[i].data.length (byt ys[i].data) ∧
      ∀ w2, w2.ownsRow 0 5 1 (.slice a0 ys[i].data.length c0) ys[i].data.length (byt (mkByte (q + 5) ys[i].data.length)) → (((((wr.setCell ⟨g, off, none⟩ (.int .i64 ((q : Nat) : Int))).setCell ⟨g, off + 1, none⟩ (.int .i64 ((q + 1 : Nat) : Int))).setCell ⟨g, off + 2, none⟩ (.int .i64 ((q + 2 : Nat) : Int))).setCell ⟨g, off + 3, none⟩ (.int .i64 ((q + 3 : Nat) : Int))).setCell ⟨g, off + 4, none⟩ (.bool (((q + 4 : Nat) : Int) % 3 == 0))).grownBy w2 (Value.slice a0 ys[i].data.length c0).ownBlock →
        OwnSl cPkt 120 w2 (ys.set i (mkK q ys[i])) (.slice (some ⟨g, 0, none⟩) m cap) bs ∧ Only bs wr w2 := by
  have hn : cPkt.n = 6 := rfl
  obtain ⟨g0, cap0, cs, bk, hv, hc, hbn, hbm, hng, hcell, -⟩ := h.focus2 hnd hi
  simp only [Value.slice.injEq, Option.some.injEq, Addr.mk.injEq, and_true] at hv
  obtain ⟨rfl, rfl, rfl⟩ := hv
  obtain ⟨a0, c0, rfl, hd, hin⟩ := cPkt_owned hc
  have hst := h.store hnd hi off 0 [.int .i64 ((q : Nat) : Int), .int .i64 ((q + 1 : Nat) : Int), .int .i64 ((q + 2 : Nat) : Int), .int .i64 ((q + 3 : Nat) : Int), .bool (((q + 4 : Nat) : Int) % 3 == 0)] (by rw [hn, hoff]; rfl) (by rw [hn]; simp) ⟨((q : Nat) : Int), ((q + 1 : Nat) : Int), ((q + 2 : Nat) : Int), ((q + 3 : Nat) : Int), (((q + 4 : Nat) : Int) % 3 == 0), ys[i].data⟩ (fun cs bk w' ho hk => by
    obtain ⟨a1, c1, rfl, hd1, hin1⟩ := cPkt_owned ho
    exact cPkt_own (p := ⟨((q : Nat) : Int), ((q + 1 : Nat) : Int), ((q + 2 : Nat) : Int), ((q + 3 : Nat) : Int), (((q + 4 : Nat) : Int) % 3 == 0), ys[i].data⟩) (hd1.kept hk) ⟨by dsimp only [IntIn]; omega, by dsimp only [IntIn]; omega, by dsimp only [IntIn]; omega, by dsimp only [IntIn]; omega⟩)
  have hko : ∀ b, b ≠ g → (((((wr.setCell ⟨g, off, none⟩ (.int .i64 ((q : Nat) : Int))).setCell ⟨g, off + 1, none⟩ (.int .i64 ((q + 1 : Nat) : Int))).setCell ⟨g, off + 2, none⟩ (.int .i64 ((q + 2 : Nat) : Int))).setCell ⟨g, off + 3, none⟩ (.int .i64 ((q + 3 : Nat) : Int))).setCell ⟨g, off + 4, none⟩ (.bool (((q + 4 : Nat) : Int) % 3 == 0))).heap[b]? = wr.heap[b]? := fun b hb => by
    rw [← wset5_6]; exact wsetAll_other _ wr g off hb
  rw [wset5_6] at hst
  have hbk : bk = (Value.slice a0 ys[i].data.length c0).ownBlock.toList := hd.bytes.2.1
  have d0 := hcell 0 (by decide)
  have d1 := hcell 1 (by decide)
  have d2 := hcell 2 (by decide)
  have d3 := hcell 3 (by decide)
  have d4 := hcell 4 (by decide)
  have d5 := hcell 5 (by decide)
  rw [hn] at d0 d1 d2 d3 d4 d5
  simp only [List.getElem?_cons_zero, List.getElem?_cons_succ, Nat.add_zero] at d0 d1 d2 d3 d4 d5
  subst hoff
  refine ⟨a0, c0, d0, d1, d2, d3, d4, d5, fun j => h.frozenAt j, ownsRow_kept hd.bytes.1 (fun b hb => hko b (fun e => hng (by rw [hbk, ← e, hb]; simp))), fun w2 o2 g2 => ?_⟩
  have h5 : (((((wr.setCell ⟨g, i * 6, none⟩ (.int .i64 ((q : Nat) : Int))).setCell ⟨g, i * 6 + 1, none⟩ (.int .i64 ((q + 1 : Nat) : Int))).setCell ⟨g, i * 6 + 2, none⟩ (.int .i64 ((q + 2 : Nat) : Int))).setCell ⟨g, i * 6 + 3, none⟩ (.int .i64 ((q + 3 : Nat) : Int))).setCell ⟨g, i * 6 + 4, none⟩ (.bool (((q + 4 : Nat) : Int) % 3 == 0))).cell? ⟨g, i * 6 + 5, none⟩ = some (.slice a0 ys[i].data.length c0) := by
    rw [World.cell?_setCell_other _ _ _ _ (by simp), World.cell?_setCell_other _ _ _ _ (by simp), World.cell?_setCell_other _ _ _ _ (by simp), World.cell?_setCell_other _ _ _ _ (by simp), World.cell?_setCell_other _ _ _ _ (by simp)]
    exact d5
  obtain ⟨g1, cap1, cs1, bk1, hv1, hc1, hbn1, hbm1, hng1, hcell1, hset1⟩ := hst.1.focus2 hnd (k := i) (by simpa using hi)
  simp only [Value.slice.injEq, Option.some.injEq, Addr.mk.injEq, and_true] at hv1
  obtain ⟨rfl, -, rfl⟩ := hv1
  rw [List.getElem_set_self] at hc1
  obtain ⟨a1, c1, rfl, hd1, hin1⟩ := cPkt_owned hc1
  have d51 := hcell1 5 (by decide)
  rw [hn, h5] at d51
  simp only [List.getElem?_cons_zero, List.getElem?_cons_succ, Option.some.injEq, Value.slice.injEq, true_and] at d51
  obtain ⟨rfl, rfl⟩ := d51
  have hbk1 : bk1 = (Value.slice a0 ys[i].data.length c0).ownBlock.toList := hd1.bytes.2.1
  have hon2 := only_of_grown g2
  rw [← hbk1] at hon2
  have hy2 := cPkt_own (p := ⟨((q : Nat) : Int), ((q + 1 : Nat) : Int), ((q + 2 : Nat) : Int), ((q + 3 : Nat) : Int), (((q + 4 : Nat) : Int) % 3 == 0), mkByte (q + 5) ys[i].data.length⟩) (v := (.slice a0 ys[i].data.length c0)) (bs := bk1) (w := w2) (by rw [hbk1]; exact ownSl_bytes o2 (mkByte_ok _ _)) ⟨hin1.kind, hin1.epoch, hin1.seq, hin1.count⟩
  have h2 := hset1 w2 _ hy2 hon2
  rw [List.set_set] at h2
  have hO := hst.2.trans (hon2.mono hbm1)
  exact ⟨h2, hO⟩
set_option maxRecDepth 100000 in
set_option maxHeartbeats 8000000 in
theorem markPacketS_any (a : Option Addr) (cap : Nat) (ys : List PP) (d : Nat) (bs : List Nat) (m : Nat) (w : World) (h : OwnCut cPkt 120 w ys d a cap bs) (hnd : bs.Nodup) (hn : ys.length ≤ 1048576) (ht : (ys.map pN).sum ≤ 1048576) (hm : m ≤ 1073741824) :
    Calls Tryz.prog 123 #[.slice a (ys.length - d : Nat) cap, .int .i64 m] w fun e w' => e = .returned (.int .i64 ((m + sumL kT (ys.drop d) : Nat) : Int)) ∧ OwnCut cPkt 120 w' (ys.take d ++ mkL kT mkK m (ys.drop d)) d a cap bs ∧ Only bs w w' := by
  obtain ⟨hle, hlen, hroom, hnil, v, ho, hv⟩ := h
  have hsm : sumL kT (ys.drop d) ≤ 8388608 := by
    have h1 := kT_le ys
    have h2 : sumL kT ys = sumL kT (ys.take d) + sumL kT (ys.drop d) := by
      conv => lhs; rw [← List.take_append_drop d ys]
      unfold sumL
      rw [List.map_append, List.sum_append]
    omega
  have HTE : Hid (∀ k, (hk : d + k < ys.length) → ys[d + k].data.length ≤ 1048576) := hid (fun k hk => by have := tot_at pN ys (d + k) hk; unfold pN at this ht; omega)
  have H0 : Hid (OwnSl cPkt 120 w (mixL kT mkK m ys d 0) v bs) := hid (by rw [mixL_zero]; exact ho)
  have HV : Hid (d < ys.length → ∃ g cp, v = .slice (some ⟨g, 0, none⟩) ys.length cp ∧ a = some ⟨g, d * 6, none⟩) := hid hv
  have HND := hid hnd
  have HFIN : Hid (∀ w', OwnSl cPkt 120 w' (mixL kT mkK m ys d (ys.length - d)) v bs → OwnCut cPkt 120 w' (ys.take d ++ mkL kT mkK m (ys.drop d)) d a cap bs) := hid (fun w' h' => by
    rw [mixL_done kT mkK m ys d (ys.length - d) (by omega)] at h'
    have hl : (ys.take d ++ mkL kT mkK m (ys.drop d)).length = ys.length := by simp [mkL_len]; omega
    exact ⟨by omega, by omega, hroom, hnil, v, h', fun hd => by rw [hl] at hd ⊢; exact hv hd⟩)
  have HLN : Hid ((ys.drop d).length = ys.length - d) := hid (by simp)
  clear ho hv hnd ht hlen hroom hnil
  generalize hL : ys.length - d = L at *
  have HL := hid hL
  clear hL
  go_enter Tryz.func123, Tryz.ntmps123
  go_wp2
  go_loopw [1, 5] (fun q i wr => ∃ k : Nat, k ≤ L ∧ i = .int .i64 k ∧ q = .int .i64 ((m + sumL kT ((ys.drop d).take k) : Nat) : Int) ∧ OwnSl cPkt 120 wr (mixL kT mkK m ys d k) v bs ∧ Only bs w wr) (fun _ i _ => L - (intOf i).toNat)
  case atStart => exact ⟨0, Nat.zero_le _, rfl, by simp [sumL], H0.out, Only.refl _ _⟩
  case round =>
    obtain ⟨k, hk, rfl, rfl, how, hon⟩ := hrel
    have HO := hid how
    have HON := hid hon
    clear how hon
    have hki0 := sumL_take kT (ys.drop d) k
    by_cases hlt : k < L
    · have hdk : d + k < ys.length := by have := HL.out; omega
      obtain ⟨g, cp, rfl, rfl⟩ := HV.out (by omega)
      have hlt2 : d + k < (mixL kT mkK m ys d k).length := by rw [mixL_len kT mkK m ys d k (by omega)]; exact hdk
      have hat : (mixL kT mkK m ys d k)[d + k] = ys[d + k] := by
        have h1 := mixL_at kT mkK m ys d k hdk
        rw [List.getElem?_eq_getElem hlt2, Option.some.injEq] at h1
        exact h1
      have hts := sumL_snoc kT (ys.drop d) k (by rw [HLN.out]; exact hlt)
      have hts2 := sumL_take kT (ys.drop d) (k + 1)
      have hle2 := HTE.out k hdk
      have HSU := hid (mixL_succ kT mkK m ys d k hdk)
      have hdr : (ys.drop d)[k]'(by rw [HLN.out]; exact hlt) = ys[d + k] := by simp
      rw [hdr] at hts
      have hft0 : kT ys[d + k] = ys[d + k].data.length + 5 := rfl
      have HTS := hid hts
      have hR := mkK_round HO.out HND.out hlt2 (d * 6 + k * 6) (by rw [Nat.add_mul]) (m + sumL kT ((ys.drop d).take k)) (by omega) (by rw [hat]; exact hle2)
      rw [hat, HSU.out] at hR
      have HFT := hid hft0
      have hsb : sumL kT ((ys.drop d).take k) + ys[d + k].data.length + 5 ≤ 8388608 := by omega
      clear hat hdr hts HSU hft0 hts2 hki0
      generalize sumL kT ((ys.drop d).take k) = t at *
      generalize ys[d + k].data.length = ln at *
      obtain ⟨a0, c0, d0, d1, d2, d3, d4, d5, hfz, o5, hfin⟩ := hR
      have f0 := hfz (d * 6 + k * 6)
      have f1 := hfz (d * 6 + k * 6 + 1)
      have f2 := hfz (d * 6 + k * 6 + 2)
      have f3 := hfz (d * 6 + k * 6 + 3)
      have f4 := hfz (d * 6 + k * 6 + 4)
      have f5 := hfz (d * 6 + k * 6 + 5)
      rw [show ((m + t : Nat) : Int) = (m : Int) + (t : Int) from by omega, show ((m + t + 1 : Nat) : Int) = (m : Int) + (t : Int) + 1 from by omega, show ((m + t + 2 : Nat) : Int) = (m : Int) + (t : Int) + 1 + 1 from by omega, show ((m + t + 3 : Nat) : Int) = (m : Int) + (t : Int) + 1 + 1 + 1 from by omega, show ((m + t + 4 : Nat) : Int) = (m : Int) + (t : Int) + 1 + 1 + 1 + 1 from by omega] at o5 hfin
      have HO5 := hid o5
      have HF := hid hfin
      have hki : (k : Int) < (L : Int) := by omega
      clear o5 hfin hfz
      go_wp2_with fail
      rw [show ((m : Int) + (t : Int) + 1 + 1 + 1 + 1 + 1) = ((m + t + 5 : Nat) : Int) from by omega]
      generalize (((((wr.setCell ⟨g, d * 6 + k * 6, none⟩ (.int .i64 ((m : Int) + (t : Int)))).setCell ⟨g, d * 6 + k * 6 + 1, none⟩ (.int .i64 ((m : Int) + (t : Int) + 1))).setCell ⟨g, d * 6 + k * 6 + 2, none⟩ (.int .i64 ((m : Int) + (t : Int) + 1 + 1))).setCell ⟨g, d * 6 + k * 6 + 3, none⟩ (.int .i64 ((m : Int) + (t : Int) + 1 + 1 + 1))).setCell ⟨g, d * 6 + k * 6 + 4, none⟩ (.bool (((m : Int) + (t : Int) + 1 + 1 + 1 + 1) % 3 == 0))) = W5 at *
      clear d0 d1 d2 d3 d4 d5 f0 f1 f2 f3 f4 f5
      refine (markByteS_any 0 _ (m + t + 5) _ _ W5 HO5.out (by omega) (by omega)).mono ?_
      rintro e w2 ⟨rfl, o2, g2⟩
      obtain ⟨Z, hZ⟩ : ∃ Z : Int, Z = ((m + t + 5 + ln : Nat) : Int) := ⟨_, rfl⟩
      have hR2 := HF.out w2 o2 g2
      rw [← hZ]
      have hz0 : 0 ≤ Z := by omega
      have hz1 : Z ≤ 1099511627776 := by omega
      have HZ := hid hZ
      clear hZ
      obtain ⟨hN, hO⟩ := hR2
      have HN := hid hN
      have HON2 := hid (HON.out.trans hO)
      clear hN hO o2 g2 HF HO5
      go_wp2
      go_roundw
      case rel => exact ⟨k + 1, by omega, by go_num, by rw [HTS.out, HFT.out]; congr 1; have := HZ.out; omega, HN.out, HON2.out⟩
      case measure => simp [intOf]; omega
    · obtain rfl : k = L := by omega
      have hH := HFIN.out wr HO.out
      have HH := hid hH
      have HT : Hid ((ys.drop d).take k = ys.drop d) := hid (by rw [← HLN.out, List.take_length])
      rw [HT.out]
      clear hH
      go_wp2
      go_ret
      exact ⟨rfl, HH.out, HON.out⟩
set_option maxRecDepth 100000 in
set_option maxHeartbeats 8000000 in
theorem heldPacketS_any (a : Option Addr) (cap : Nat) (xs : List PP) (m : Nat) (w : World) (hr : RdSl cPkt w (mkL kT mkK m xs) (.slice a xs.length cap)) (hn : xs.length ≤ 1048576) (ht : (xs.map pN).sum ≤ 1048576) (hm : m ≤ 1073741824) :
    Calls Tryz.prog 124 #[.slice a xs.length cap, .int .i64 m] w fun e w' => e = .returned (.int .i64 ((m + sumL kT xs : Nat) : Int)) ∧ Below w.heap.size w w' := by
  have HR := hid hr
  have hsm : sumL kT xs ≤ 8388608 := by have h1 := kT_le xs; omega
  have HTE : Hid (∀ k, (hk : k < xs.length) → xs[k].data.length ≤ 1048576) := hid (fun k hk => by have := tot_at pN xs k hk; unfold pN at this ht; omega)
  clear hr ht
  go_enter Tryz.func124, Tryz.ntmps124
  go_wp2
  go_loopw [1, 5] (fun q i wr => ∃ k : Nat, k ≤ xs.length ∧ i = .int .i64 k ∧ q = .int .i64 ((m + sumL kT (xs.take k) : Nat) : Int) ∧ Below w.heap.size w wr) (fun _ i _ => xs.length - (intOf i).toNat)
  case atStart => exact ⟨0, Nat.zero_le _, rfl, by simp [sumL], Below.refl _ _⟩
  case round =>
    obtain ⟨k, hk, rfl, rfl, hbe⟩ := hrel
    have HB := hid hbe
    clear hbe
    have hki0 := sumL_take kT xs k
    by_cases hlt : k < xs.length
    · have hlt2 : k < (mkL kT mkK m xs).length := by rw [mkL_len]; exact hlt
      obtain ⟨b, off, es, rfl, hes, hcs⟩ := (HR.out.later HB.out).atN hlt2
      have hat : (mkL kT mkK m xs)[k] = mkK (m + sumL kT (xs.take k)) xs[k] := by
        have h1 := mkL_at kT mkK m xs k hlt
        rw [List.getElem?_eq_getElem hlt2, Option.some.injEq] at h1
        exact h1
      rw [hat] at hes
      have HTS := hid (sumL_snoc kT xs k hlt)
      have hts2 := sumL_take kT xs (k + 1)
      have HFT : Hid (kT xs[k] = xs[k].data.length + 5) := hid rfl
      have hsb : sumL kT (xs.take k) + xs[k].data.length + 5 ≤ 8388608 := by have := HTS.out; have := HFT.out; omega
      have hln := HTE.out k hlt
      have HMK : Hid (mkK (m + sumL kT (xs.take k)) xs[k] = ⟨((m + sumL kT (xs.take k) : Nat) : Int), ((m + sumL kT (xs.take k) + 1 : Nat) : Int), ((m + sumL kT (xs.take k) + 2 : Nat) : Int), ((m + sumL kT (xs.take k) + 3 : Nat) : Int), (((m + sumL kT (xs.take k) + 4 : Nat) : Int) % 3 == 0), mkByte (m + sumL kT (xs.take k) + 5) xs[k].data.length⟩) := hid rfl
      rw [HMK.out] at hes
      generalize sumL kT (xs.take k) = t at *
      generalize xs[k].data.length = ln at *
      rw [show ((m + t : Nat) : Int) = (m : Int) + (t : Int) from by omega, show ((m + t + 1 : Nat) : Int) = (m : Int) + (t : Int) + 1 from by omega, show ((m + t + 2 : Nat) : Int) = (m : Int) + (t : Int) + 1 + 1 from by omega, show ((m + t + 3 : Nat) : Int) = (m : Int) + (t : Int) + 1 + 1 + 1 from by omega, show ((m + t + 4 : Nat) : Int) = (m : Int) + (t : Int) + 1 + 1 + 1 + 1 from by omega] at hes
      obtain ⟨Z, hZ⟩ : ∃ Z : Int, Z = ((m + t + 5 + ln : Nat) : Int) := ⟨_, rfl⟩
      skip
      obtain ⟨a0, c0, he, hrd, -⟩ := cPkt_rd hes
      simp only [mkByte_length] at he hrd
      have HRD := hid (rdBytes_rdP hrd)
      subst he
      have d0 : wr.cell? ⟨b, off + k * 6, none⟩ = some (.int .i64 ((m : Int) + (t : Int))) := by have h := hcs 0 (by decide); rw [show cPkt.n = 6 from rfl] at h; simpa [Nat.add_assoc] using h
      have d1 : wr.cell? ⟨b, off + k * 6 + 1, none⟩ = some (.int .i64 ((m : Int) + (t : Int) + 1)) := by have h := hcs 1 (by decide); rw [show cPkt.n = 6 from rfl] at h; simpa [Nat.add_assoc] using h
      have d2 : wr.cell? ⟨b, off + k * 6 + 2, none⟩ = some (.int .i64 ((m : Int) + (t : Int) + 1 + 1)) := by have h := hcs 2 (by decide); rw [show cPkt.n = 6 from rfl] at h; simpa [Nat.add_assoc] using h
      have d3 : wr.cell? ⟨b, off + k * 6 + 3, none⟩ = some (.int .i64 ((m : Int) + (t : Int) + 1 + 1 + 1)) := by have h := hcs 3 (by decide); rw [show cPkt.n = 6 from rfl] at h; simpa [Nat.add_assoc] using h
      have d4 : wr.cell? ⟨b, off + k * 6 + 4, none⟩ = some (.bool (((m : Int) + (t : Int) + 1 + 1 + 1 + 1) % 3 == 0)) := by have h := hcs 4 (by decide); rw [show cPkt.n = 6 from rfl] at h; simpa [Nat.add_assoc] using h
      have d5 : wr.cell? ⟨b, off + k * 6 + 5, none⟩ = some (.slice a0 ln c0) := by have h := hcs 5 (by decide); rw [show cPkt.n = 6 from rfl] at h; simpa [Nat.add_assoc] using h
      have hki : (k : Int) < (xs.length : Int) := by omega
      have g0 : (((m : Int) + (t : Int)) != ((m : Int) + (t : Int))) = false := by simp
      have g1 : (((m : Int) + (t : Int) + 1) != ((m : Int) + (t : Int) + 1)) = false := by simp
      have g2 : (((m : Int) + (t : Int) + 1 + 1) != ((m : Int) + (t : Int) + 1 + 1)) = false := by simp
      have g3 : (((m : Int) + (t : Int) + 1 + 1 + 1) != ((m : Int) + (t : Int) + 1 + 1 + 1)) = false := by simp
      have g4 : ((((m : Int) + (t : Int) + 1 + 1 + 1 + 1) % 3 == 0) != (((m : Int) + (t : Int) + 1 + 1 + 1 + 1) % 3 == 0)) = false := by simp
      have hz0 : 0 ≤ Z := by omega
      have hz1 : Z ≤ 1099511627776 := by omega
      have gz : (Z != Z) = false := by simp
      have HZ := hid hZ
      clear hat hes hcs hrd hts2 hki0 HMK hZ
      go_wp2_with fail
      rw [show ((m : Int) + (t : Int) + 1 + 1 + 1 + 1 + 1) = ((m + t + 5 : Nat) : Int) from by omega]
      refine (heldByteS_any a0 _ c0 (m + t + 5) wr HRD.out (by omega) (by omega)).mono ?_
      rintro e w2 ⟨rfl, b2⟩
      rw [← HZ.out]
      have HB2 := hid (HB.out.trans (b2.mono HB.out.size))
      skip
      clear b2 d0 d1 d2 d3 d4 d5
      go_wp2
      go_roundw
      case rel => exact ⟨k + 1, by omega, by go_num, by rw [HTS.out, HFT.out]; congr 1; have := HZ.out; omega, HB2.out⟩
      case measure => simp [intOf]; omega
    · obtain rfl : k = xs.length := by omega
      have HT : Hid (sumL kT (xs.take xs.length) = sumL kT xs) := hid (by rw [List.take_length])
      rw [HT.out]
      go_wp2
      go_ret
      exact ⟨rfl, HB.out⟩
end Go.Proofs.YtfaehioeepolhaaGreat
