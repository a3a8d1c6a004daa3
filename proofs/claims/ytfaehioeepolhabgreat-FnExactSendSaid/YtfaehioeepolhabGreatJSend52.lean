import Derived.Test.YtfaehioeepolhabGreatJSend51
import Derived.Test.YtfaehioeepolhabGreatJSend44
import Derived.Deep.DeepCutAuto
import Derived.Test.YtfaehioeepolhabGreatJSend43
import Derived.Test.YtfaehioeepolhabGreatJSend49
namespace Go.Proofs.YtfaehioeepolhabGreat
open Go.RowKit
set_option maxHeartbeats 4000000 in
theorem heldSSS_any (a : Option Addr) (cap : Nat) (xs : List (List (List Nat))) (m : Nat) (w : World) (hr : RdSl cSSS w (mkL tot mkSS m xs) (.slice a xs.length cap)) (ht : totL tS xs ≤ 1048576) (hm : m ≤ 536870912) :
    Calls Tryz.prog 100 #[.slice a xs.length cap, .int .i64 m] w fun e w' => e = .returned (.int .i64 ((m + sumL tot xs : Nat) : Int)) ∧ Below w.heap.size w w' := by
  have HR := hid hr
  have hsl := tS_le xs
  have hn : xs.length ≤ 1048576 := by unfold totL at ht; omega
  have HAT : Hid (∀ k, (h : k < xs.length) → xs[k].length ≤ 1048576 ∧ tot xs[k] ≤ 1048576) := hid (fun k h => by have := tS_at xs k h; omega)
  clear hr
  go_enter Tryz.func100, Tryz.ntmps100
  go_wp2
  go_loopw [1, 5] (fun q i wr => ∃ k : Nat, k ≤ xs.length ∧ i = .int .i64 k ∧ q = .int .i64 ((m + sumL tot (xs.take k) : Nat) : Int) ∧ Below w.heap.size w wr) (fun _ i _ => xs.length - (intOf i).toNat)
  case atStart => exact ⟨0, Nat.zero_le _, rfl, by simp [sumL], Below.refl _ _⟩
  case round =>
    obtain ⟨k, hk, rfl, rfl, hbe⟩ := hrel
    have HB := hid hbe
    clear hbe
    have hki0 := sumL_take tot xs k
    by_cases hlt : k < xs.length
    · have hlt2 : k < (mkL tot mkSS m xs).length := by rw [mkL_len]; exact hlt
      obtain ⟨b, off, a', c', rfl, hcb, hrr⟩ := (HR.out.later HB.out).row3 (k := k) hlt2
      have hat : (mkL tot mkSS m xs)[k] = mkSS (m + sumL tot (xs.take k)) xs[k] := by
        have h1 := mkL_at tot mkSS m xs k hlt
        rw [List.getElem?_eq_getElem hlt2, Option.some.injEq] at h1
        exact h1
      rw [hat, mkSS_len] at hcb hrr
      have HRR := hid hrr
      have hki : (k : Int) < (xs.length : Int) := by omega
      have HTS := hid (sumL_snoc tot xs k hlt)
      have hts2 := sumL_take tot xs (k + 1)
      have hle := HAT.out k hlt
      clear hrr hat
      generalize sumL tot (xs.take k) = t at *
      go_wp2_with fail
      refine (heldSS_any a' c' xs[k] (m + t) wr HRR.out hle.1 hle.2 (by omega)).mono ?_
      rintro e w2 ⟨rfl, b2⟩
      have HB2 := hid (HB.out.trans (b2.mono HB.out.size))
      clear b2
      go_wp2
      go_roundw
      case rel => exact ⟨k + 1, by omega, by go_num, by rw [HTS.out]; go_num, HB2.out⟩
      case measure => simp [intOf]; omega
    · obtain rfl : k = xs.length := by omega
      have HT : Hid (sumL tot (xs.take xs.length) = sumL tot xs) := hid (by rw [List.take_length])
      rw [HT.out]
      go_wp2
      go_ret
      exact ⟨rfl, HB.out⟩
end Go.Proofs.YtfaehioeepolhabGreat
namespace Go.Proofs.YtfaehioeepolhabGreat
open Go.RowKit
set_option maxHeartbeats 2000000 in
theorem heldStrX_any (s : PStr) (a b : Option Addr) (c d : Nat) (m : Nat) (w : World) (hr : RdSl cField w (mkF m s.fields) (.slice a s.fields.length c)) (hr2 : RdSl cSSS w (mkL tot mkSS (m + fT s.fields) s.dicts) (.slice b s.dicts.length d)) (hl : s.fields.length ≤ 1048576) (ht : fT s.fields ≤ 4194304) (htd : totL tS s.dicts ≤ 1048576) (hm : m ≤ 268435456) :
    Calls Tryz.prog 50 #[.agg #[.bool s.opened, .slice a s.fields.length c, .int .i64 s.next, .slice b s.dicts.length d], .int .i64 m] w fun e w' => e = .returned (.int .i64 ((m + fT s.fields + sumL tot s.dicts : Nat) : Int)) ∧ Below w.heap.size w w' := by
  have HR := hid hr
  have HR2 := hid hr2
  have hsd : sumL tot s.dicts ≤ 1048576 := Nat.le_trans (tS_le _) htd
  clear hr hr2
  go_enter Tryz.func50, Tryz.ntmps50
  go_wp2_with fail
  refine (heldFieldS_any a c s.fields m _ (HR.out.later (below_new1 _ _)) hl ht (by omega)).mono ?_
  rintro e w2 ⟨rfl, b2⟩
  have k1 := heap1 _ (by simpa using b2)
  have p3 := cell_of_row w2 _ 3 _ _ _ k1
  simp only [List.getElem?_toArray, List.getElem?_cons_zero, List.getElem?_cons_succ] at p3
  have HB2 := hid (below_chain (below_new1 _ _) b2)
  have HRN := hid (HR2.out.later HB2.out)
  clear k1 b2
  generalize hQ : m + fT s.fields = q at *
  have HQ := hid hQ
  have hq1 : q ≤ 536870912 := by omega
  clear hQ
  have hq0 : ¬ (q : Int) < 0 := by omega
  go_wp2_with fail
  refine (heldSSS_any b d s.dicts q w2 HRN.out htd hq1).mono ?_
  rintro e w3 ⟨rfl, b3⟩
  have HB3 := hid (below_chain HB2.out b3)
  clear b3
  obtain ⟨Z, hZ⟩ : ∃ Z : Int, Z = ((q + sumL tot s.dicts : Nat) : Int) := ⟨_, rfl⟩
  have hZ0 : decide (Z < 0) = false := decide_eq_false (by omega)
  rw [← hZ]
  have HZ := hid hZ
  clear hZ
  go_wp2
  go_ret
  have hh : Z = ((m + fT s.fields + sumL tot s.dicts : Nat) : Int) := by have := HZ.out; have := HQ.out; omega
  exact ⟨(by rw [hh]; rfl), HB3.out⟩
end Go.Proofs.YtfaehioeepolhabGreat
namespace Go.Proofs.YtfaehioeepolhabGreat
open Go.RowKit
theorem rdBytes_rdC {w : World} {xs : List Nat} {a : Option Addr} {n c : Nat} (h : RdSl cByte w xs (.slice a n c)) : Rd w a (byt xs) := by
  obtain ⟨a', cap', e', g1, g2, g3, g4, g5⟩ := h.bytes
  simp only [Value.slice.injEq] at e'
  obtain ⟨rfl, -, -⟩ := e'
  exact g4
set_option maxRecDepth 100000 in
set_option maxHeartbeats 8000000 in
theorem heldCellX_any (a : Option Addr) (cap : Nat) (xs : List PC) (m : Nat) (w : World) (hr : RdSl cCell w (mkL gT mkG m xs) (.slice a xs.length cap)) (hn : xs.length ≤ 1048576) (ht : (xs.map fun x : PC => x.text.length).sum ≤ 1048576) (hm : m ≤ 1073741824) :
    Calls Tryz.prog 98 #[.slice a xs.length cap, .int .i64 m] w fun e w' => e = .returned (.int .i64 ((m + sumL gT xs : Nat) : Int)) ∧ Below w.heap.size w w' := by
  have HR := hid hr
  have hsm : sumL gT xs ≤ 8388608 := by have h1 := gT_le xs; omega
  have HTE : Hid (∀ k, (hk : k < xs.length) → xs[k].text.length ≤ 1048576) := hid (fun k hk => by have := tot_at (fun x : PC => x.text.length) xs k hk; omega)
  clear hr ht
  go_enter Tryz.func98, Tryz.ntmps98
  go_wp2
  go_loopw [1, 5] (fun q i wr => ∃ k : Nat, k ≤ xs.length ∧ i = .int .i64 k ∧ q = .int .i64 ((m + sumL gT (xs.take k) : Nat) : Int) ∧ Below w.heap.size w wr) (fun _ i _ => xs.length - (intOf i).toNat)
  case atStart => exact ⟨0, Nat.zero_le _, rfl, by simp [sumL], Below.refl _ _⟩
  case round =>
    obtain ⟨k, hk, rfl, rfl, hbe⟩ := hrel
    have HB := hid hbe
    clear hbe
    have hki0 := sumL_take gT xs k
    by_cases hlt : k < xs.length
    · have hlt2 : k < (mkL gT mkG m xs).length := by rw [mkL_len]; exact hlt
      obtain ⟨b, off, x0, x1, x2, rfl, hes, d0, d1, d2⟩ := (HR.out.later HB.out).at3 (k := k) rfl hlt2
      have hat : (mkL gT mkG m xs)[k] = mkG (m + sumL gT (xs.take k)) xs[k] := by
        have h1 := mkL_at gT mkG m xs k hlt
        rw [List.getElem?_eq_getElem hlt2, Option.some.injEq] at h1
        exact h1
      rw [hat] at hes
      have HTS := hid (sumL_snoc gT xs k hlt)
      have hts2 := sumL_take gT xs (k + 1)
      have HFT : Hid (gT xs[k] = xs[k].text.length + 2) := hid rfl
      have hsb : sumL gT (xs.take k) + xs[k].text.length + 2 ≤ 8388608 := by have := HTS.out; have := HFT.out; omega
      have hln := HTE.out k hlt
      obtain ⟨u, he, hrd, -⟩ := cCell_rd hes
      have hrd2 : RdSl cByte wr (mkByte (m + sumL gT (xs.take k) + 2) xs[k].text.length) u := hrd
      obtain ⟨a0, c0, rfl, -⟩ := id hrd2
      rw [mkByte_length] at he hrd2
      simp only [List.cons.injEq, and_true] at he
      obtain ⟨rfl, rfl, rfl⟩ := he
      have HRD := hid (rdBytes_rdC hrd2)
      have e0 : (mkG (m + sumL gT (xs.take k)) xs[k]).null = (((m + sumL gT (xs.take k) : Nat) : Int) % 3 == 0) := rfl
      have e1 : (mkG (m + sumL gT (xs.take k)) xs[k]).num = ((m + sumL gT (xs.take k) + 1 : Nat) : Int) := rfl
      rw [e0] at d0
      rw [e1] at d1
      clear e0 e1 hes hrd hrd2 hat
      generalize sumL gT (xs.take k) = t at *
      generalize xs[k].text.length = ln at *
      rw [show ((m + t : Nat) : Int) = (m : Int) + (t : Int) from by omega] at d0
      rw [show ((m + t + 1 : Nat) : Int) = (m : Int) + (t : Int) + 1 from by omega] at d1
      obtain ⟨Z, hZ⟩ : ∃ Z : Int, Z = ((m + t + 2 + ln : Nat) : Int) := ⟨_, rfl⟩
      have hki : (k : Int) < (xs.length : Int) := by omega
      have g0 : ((((m : Int) + (t : Int)) % 3 == 0) != (((m : Int) + (t : Int)) % 3 == 0)) = false := by simp
      have g1 : (((m : Int) + (t : Int) + 1) != ((m : Int) + (t : Int) + 1)) = false := by simp
      have hz0 : decide (Z < 0) = false := decide_eq_false (by omega)
      have HZ := hid hZ
      clear hts2 hki0 hZ
      go_wp2_with fail
      rw [show ((m : Int) + (t : Int) + 1 + 1) = ((m + t + 2 : Nat) : Int) from by omega]
      refine (heldByteS_any a0 _ c0 (m + t + 2) wr HRD.out (by omega) (by omega)).mono ?_
      rintro e w2 ⟨rfl, b2⟩
      rw [← HZ.out]
      have HB2 := hid (HB.out.trans (b2.mono HB.out.size))
      clear b2 d0 d1 d2
      go_wp2
      go_roundw
      case rel => exact ⟨k + 1, by omega, by go_num, by rw [HTS.out, HFT.out]; congr 1; have := HZ.out; omega, HB2.out⟩
      case measure => simp [intOf]; omega
    · obtain rfl : k = xs.length := by omega
      have HT : Hid (sumL gT (xs.take xs.length) = sumL gT xs) := hid (by rw [List.take_length])
      rw [HT.out]
      go_wp2
      go_ret
      exact ⟨rfl, HB.out⟩
end Go.Proofs.YtfaehioeepolhabGreat
namespace Go.Proofs.YtfaehioeepolhabGreat
open Go.RowKit
set_option maxRecDepth 100000 in
set_option maxHeartbeats 8000000 in
theorem heldTableS_any (a : Option Addr) (cap : Nat) (xs : List PT) (m : Nat) (w : World) (hr : RdSl cTable w (mkL hT_ mkH m xs) (.slice a xs.length cap)) (ht : totL totT xs ≤ 1048576) (hm : m ≤ 536870912) :
    Calls Tryz.prog 48 #[.slice a xs.length cap, .int .i64 m] w fun e w' => e = .returned (.int .i64 ((m + sumL hT_ xs : Nat) : Int)) ∧ Below w.heap.size w w' := by
  have HR := hid hr
  have hn : xs.length ≤ 1048576 := by unfold totL at ht; omega
  have hsm : sumL hT_ xs ≤ 8388608 := by have h1 := hT_le xs; omega
  have HTE : Hid (∀ k, (hk : k < xs.length) → xs[k].cells.length ≤ 1048576 ∧ (xs[k].cells.map fun x : PC => x.text.length).sum ≤ 1048576) := hid (fun k hk => hT_at xs k hk ht)
  clear hr ht
  go_enter Tryz.func48, Tryz.ntmps48
  go_wp2
  go_loopw [1, 5] (fun q i wr => ∃ k : Nat, k ≤ xs.length ∧ i = .int .i64 k ∧ q = .int .i64 ((m + sumL hT_ (xs.take k) : Nat) : Int) ∧ Below w.heap.size w wr) (fun _ i _ => xs.length - (intOf i).toNat)
  case atStart => exact ⟨0, Nat.zero_le _, rfl, by simp [sumL], Below.refl _ _⟩
  case round =>
    obtain ⟨k, hk, rfl, rfl, hbe⟩ := hrel
    have HB := hid hbe
    clear hbe
    have hki0 := sumL_take hT_ xs k
    by_cases hlt : k < xs.length
    · have hlt2 : k < (mkL hT_ mkH m xs).length := by rw [mkL_len]; exact hlt
      obtain ⟨b, off, es, rfl, hes, hcs⟩ := (HR.out.later HB.out).atN hlt2
      have hat : (mkL hT_ mkH m xs)[k] = mkH (m + sumL hT_ (xs.take k)) xs[k] := by
        have h1 := mkL_at hT_ mkH m xs k hlt
        rw [List.getElem?_eq_getElem hlt2, Option.some.injEq] at h1
        exact h1
      rw [hat] at hes
      obtain ⟨u, rfl, hu, -⟩ := cTable_rd hes
      have hu2 : RdSl cCell wr (mkL gT mkG (m + sumL hT_ (xs.take k) + 1) xs[k].cells) u := hu
      obtain ⟨a0, c0, rfl, -⟩ := id hu2
      rw [mkL_len] at hu2
      have d0 : wr.cell? ⟨b, off + k * 2, none⟩ = some (.int .i64 ((m + sumL hT_ (xs.take k) : Nat) : Int)) := by have h := hcs 0 (by decide); rw [show cTable.n = 2 from rfl] at h; simpa [Nat.add_assoc, mkH] using h
      have d1 : wr.cell? ⟨b, off + k * 2 + 1, none⟩ = some (.slice a0 xs[k].cells.length c0) := by have h := hcs 1 (by decide); rw [show cTable.n = 2 from rfl] at h; simpa [Nat.add_assoc, mkL_len] using h
      have HU := hid hu2
      have HTS := hid (sumL_snoc hT_ xs k hlt)
      have hts2 := sumL_take hT_ xs (k + 1)
      have HFT : Hid (hT_ xs[k] = sumL gT xs[k].cells + 1) := hid rfl
      have hsb : sumL hT_ (xs.take k) + sumL gT xs[k].cells + 1 ≤ 8388608 := by have := HTS.out; have := HFT.out; omega
      have hle := HTE.out k hlt
      have hki : (k : Int) < (xs.length : Int) := by omega
      clear hes hu hu2 hcs hat hki0 hts2
      generalize sumL hT_ (xs.take k) = t at *
      rw [show ((m + t : Nat) : Int) = (m : Int) + (t : Int) from by omega] at d0
      have g0 : (((m : Int) + (t : Int)) != ((m : Int) + (t : Int))) = false := by simp
      go_wp2_with fail
      rw [show ((m : Int) + (t : Int) + 1) = ((m + t + 1 : Nat) : Int) from by omega]
      refine (heldCellX_any a0 c0 xs[k].cells (m + t + 1) wr HU.out hle.1 hle.2 (by omega)).mono ?_
      rintro e w2 ⟨rfl, b2⟩
      generalize sumL gT xs[k].cells = ln at *
      obtain ⟨Z, hZ⟩ : ∃ Z : Int, Z = ((m + t + 1 + ln : Nat) : Int) := ⟨_, rfl⟩
      rw [← hZ]
      have hz0 : decide (Z < 0) = false := decide_eq_false (by omega)
      have HZ := hid hZ
      have HB2 := hid (HB.out.trans (b2.mono HB.out.size))
      clear b2 d0 d1 hZ
      go_wp2
      go_roundw
      case rel => exact ⟨k + 1, by omega, by go_num, by rw [HTS.out, HFT.out]; congr 1; have := HZ.out; omega, HB2.out⟩
      case measure => simp [intOf]; omega
    · obtain rfl : k = xs.length := by omega
      have HT : Hid (sumL hT_ (xs.take xs.length) = sumL hT_ xs) := hid (by rw [List.take_length])
      rw [HT.out]
      go_wp2
      go_ret
      exact ⟨rfl, HB.out⟩
end Go.Proofs.YtfaehioeepolhabGreat
namespace Go.Proofs.YtfaehioeepolhabGreat
open Go.RowKit
set_option maxRecDepth 100000 in
set_option maxHeartbeats 8000000 in
theorem heldSdX_any (r : PSnd) (a0 a3 a1 a2 b2 : Option Addr) (c0 c3 c1 c2 d2 : Nat) (fs ts os bs ds : List Nat) (m : Nat) (w : World) (ho : MkSnd w r m a0 c0 a3 c3 a1 c1 a2 c2 b2 d2 fs ts os bs ds) (ht : SndFits r) (hm : m ≤ 1048576) :
    Calls Tryz.prog 15 #[.agg #[.slice a0 r.fields.length c0, .int .i64 r.epoch, .int .i64 r.base, .slice a3 r.tables.length c3, .int .i64 r.pushed, .int .i64 r.out.epoch, .int .i64 r.out.next, .int .i64 r.out.now, .slice a1 r.out.wait.length c1, .bool r.str.opened, .slice a2 r.str.fields.length c2, .int .i64 r.str.next, .slice b2 r.str.dicts.length d2], .int .i64 m] w fun e w' => e = .returned (.int .i64 ((m + nSnd r : Nat) : Int)) ∧ Below w.heap.size w w' := by
  have hT : totL fN r.fields ≤ 1048576 ∧ totL totT r.tables ≤ 1048576 ∧ totL wN r.out.wait ≤ 1048576 ∧ totL fN r.str.fields ≤ 1048576 ∧ totL tS r.str.dicts ≤ 1048576 := by unfold SndFits tStr at ht; omega
  have hS1 : fT r.fields ≤ 4194304 ∧ r.fields.length ≤ 1048576 := by have h1 := fT_le r.fields; have h2 := hT.1; unfold totL fN at h2; omega
  have hS2 : sumL hT_ r.tables ≤ 8388608 := by have h1 := hT_le r.tables; have h2 := hT.2.1; unfold totL at h1 h2; omega
  have hS3 : sumL sT r.out.wait ≤ 16777216 := by have h1 := sT_le r.out.wait; have h2 := hT.2.2.1; unfold totL at h2; omega
  have hS4 : fT r.str.fields ≤ 4194304 ∧ r.str.fields.length ≤ 1048576 := by have h1 := fT_le r.str.fields; have h2 := hT.2.2.2.1; unfold totL fN at h2; omega
  have hS5 : sumL tot r.str.dicts ≤ 1048576 := Nat.le_trans (tS_le _) hT.2.2.2.2
  have HNR : Hid (nSnd r = fT r.fields + sumL hT_ r.tables + sumL sT r.out.wait + (fT r.str.fields + sumL tot r.str.dicts)) := hid rfl
  obtain ⟨A, hA⟩ : ∃ A : Nat, A = m + fT r.fields := ⟨_, rfl⟩
  obtain ⟨B, hB⟩ : ∃ B : Nat, B = A + sumL hT_ r.tables := ⟨_, rfl⟩
  obtain ⟨C, hC⟩ : ∃ C : Nat, C = B + sumL sT r.out.wait := ⟨_, rfl⟩
  have hA1 : A ≤ 8388608 := by omega
  have hB1 : B ≤ 33554432 := by omega
  have hC1 : C ≤ 67108864 := by omega
  have HA := hid hA
  have HB := hid hB
  have HC := hid hC
  have HRF := hid ho.f.rd
  have HRT := hid ho.t.rd
  have HRO : Hid (RdSl cSnt w (mkL sT mkS ((m + fT r.fields) + sumL hT_ r.tables) r.out.wait) (.slice a1 r.out.wait.length c1)) := hid (by have h := ho.o.rd; simpa only [List.drop_zero, Nat.sub_zero, mkL_len] using h)
  have HRG : Hid (RdSl cField w (mkF (((m + fT r.fields) + sumL hT_ r.tables) + sumL sT r.out.wait) r.str.fields) (.slice a2 r.str.fields.length c2)) := hid (by have h := ho.s.f.rd; dsimp only at h; rwa [mkF_len] at h)
  have HRD : Hid (RdSl cSSS w (mkL tot mkSS ((((m + fT r.fields) + sumL hT_ r.tables) + sumL sT r.out.wait) + fT r.str.fields) r.str.dicts) (.slice b2 r.str.dicts.length d2)) := hid (by have h := ho.s.t.rd; dsimp only at h; rwa [mkL_len] at h)
  rw [← hA] at HRT HRO HRG HRD
  rw [← hB] at HRO HRG HRD
  rw [← hC] at HRG HRD
  clear ho hA hB hC
  have HK0 : Hid ((w.alloc (.cells #[.slice a0 r.fields.length c0, .int .i64 r.epoch, .int .i64 r.base, .slice a3 r.tables.length c3, .int .i64 r.pushed, .int .i64 r.out.epoch, .int .i64 r.out.next, .int .i64 r.out.now, .slice a1 r.out.wait.length c1, .bool r.str.opened, .slice a2 r.str.fields.length c2, .int .i64 r.str.next, .slice b2 r.str.dicts.length d2] 45)).heap[w.heap.size]? = some (.cells #[.slice a0 r.fields.length c0, .int .i64 r.epoch, .int .i64 r.base, .slice a3 r.tables.length c3, .int .i64 r.pushed, .int .i64 r.out.epoch, .int .i64 r.out.next, .int .i64 r.out.now, .slice a1 r.out.wait.length c1, .bool r.str.opened, .slice a2 r.str.fields.length c2, .int .i64 r.str.next, .slice b2 r.str.dicts.length d2] 45 (0, 0))) := hid (heap_alloc_new w _)
  have HB0 := hid (below_new1 w (.cells #[.slice a0 r.fields.length c0, .int .i64 r.epoch, .int .i64 r.base, .slice a3 r.tables.length c3, .int .i64 r.pushed, .int .i64 r.out.epoch, .int .i64 r.out.next, .int .i64 r.out.now, .slice a1 r.out.wait.length c1, .bool r.str.opened, .slice a2 r.str.fields.length c2, .int .i64 r.str.next, .slice b2 r.str.dicts.length d2] 45))
  go_enter Tryz.func15, Tryz.ntmps15
  go_upto_region 1 with fail
  generalize (w.alloc (.cells #[.slice a0 r.fields.length c0, .int .i64 r.epoch, .int .i64 r.base, .slice a3 r.tables.length c3, .int .i64 r.pushed, .int .i64 r.out.epoch, .int .i64 r.out.next, .int .i64 r.out.now, .slice a1 r.out.wait.length c1, .bool r.str.opened, .slice a2 r.str.fields.length c2, .int .i64 r.str.next, .slice b2 r.str.dicts.length d2] 45)) = W0 at *
  have p0 := cell_of_row _ _ 0 _ _ _ HK0.out
  simp only [List.getElem?_toArray, List.getElem?_cons_zero] at p0
  go_wp2_with fail
  refine (heldFieldS_any a0 c0 r.fields m W0 (HRF.out.later HB0.out) hS1.2 hS1.1 (by omega)).mono ?_
  rintro e w2 ⟨rfl, b2x⟩
  rw [← HA.out]
  have HK2 := hid (boxSd HK0.out b2x)
  have HB2 := hid (below_chain HB0.out b2x)
  clear b2x p0
  have p3 := cell_of_row _ _ 3 _ _ _ HK2.out
  simp only [List.getElem?_toArray, List.getElem?_cons_zero, List.getElem?_cons_succ] at p3
  have n0 : ¬ (A : Int) < 0 := by omega
  go_wp2_with fail
  refine (heldTableS_any a3 c3 r.tables A w2 (HRT.out.later HB2.out) hT.2.1 (by omega)).mono ?_
  rintro e w3 ⟨rfl, b3x⟩
  rw [← HB.out]
  have HK3 := hid (boxSd HK2.out b3x)
  have HB3 := hid (below_chain HB2.out b3x)
  clear b3x p3 n0
  have p5 := cell_of_row _ _ 5 _ _ _ HK3.out
  have p6 := cell_of_row _ _ 6 _ _ _ HK3.out
  have p7 := cell_of_row _ _ 7 _ _ _ HK3.out
  have p8 := cell_of_row _ _ 8 _ _ _ HK3.out
  simp only [List.getElem?_toArray, List.getElem?_cons_zero, List.getElem?_cons_succ] at p5 p6 p7 p8
  have n0 : ¬ (B : Int) < 0 := by omega
  go_wp2_with fail
  refine (heldLinkOut_any r.out.epoch r.out.next r.out.now a1 c1 r.out.wait B w3 (HRO.out.later HB3.out) hT.2.2.1 (by omega)).mono ?_
  rintro e w4 ⟨rfl, b4x⟩
  rw [← HC.out]
  have HK4 := hid (boxSd HK3.out b4x)
  have HB4 := hid (below_chain HB3.out b4x)
  clear b4x p5 p6 p7 p8 n0
  have p9 := cell_of_row _ _ 9 _ _ _ HK4.out
  have p10 := cell_of_row _ _ 10 _ _ _ HK4.out
  have p11 := cell_of_row _ _ 11 _ _ _ HK4.out
  have p12 := cell_of_row _ _ 12 _ _ _ HK4.out
  simp only [List.getElem?_toArray, List.getElem?_cons_zero, List.getElem?_cons_succ] at p9 p10 p11 p12
  have n0 : ¬ (C : Int) < 0 := by omega
  go_wp2_with fail
  refine (heldStrX_any r.str a2 b2 c2 d2 C w4 (HRG.out.later HB4.out) (HRD.out.later HB4.out) hS4.2 hS4.1 hT.2.2.2.2 (by omega)).mono ?_
  rintro e w5 ⟨rfl, b5x⟩
  have HB5 := hid (below_chain HB4.out b5x)
  clear b5x p9 p10 p11 p12 n0
  obtain ⟨Z, hZ⟩ : ∃ Z : Int, Z = ((C + fT r.str.fields + sumL tot r.str.dicts : Nat) : Int) := ⟨_, rfl⟩
  have hZ0 : decide (Z < 0) = false := decide_eq_false (by omega)
  rw [← hZ]
  have HZ := hid hZ
  clear hZ
  go_wp2
  go_ret
  have eA := HA.out
  have eB := HB.out
  have eC := HC.out
  have hh : Z = ((m + nSnd r : Nat) : Int) := by have := HZ.out; have := HNR.out; omega
  exact ⟨by rw [hh]; rfl, HB5.out⟩
end Go.Proofs.YtfaehioeepolhabGreat
namespace Go.Proofs.YtfaehioeepolhabGreat
open Go.RowKit
structure SV where
  a0 : Option Addr
  c0 : Nat
  a3 : Option Addr
  c3 : Nat
  a1 : Option Addr
  c1 : Nat
  a2 : Option Addr
  c2 : Nat
  b2 : Option Addr
  d2 : Nat
abbrev sdV (P : PSnd) (x : SV) : Value := .agg #[.slice x.a0 P.fields.length x.c0, .int .i64 P.epoch, .int .i64 P.base, .slice x.a3 P.tables.length x.c3, .int .i64 P.pushed, .int .i64 P.out.epoch, .int .i64 P.out.next, .int .i64 P.out.now, .slice x.a1 P.out.wait.length x.c1, .bool P.str.opened, .slice x.a2 P.str.fields.length x.c2, .int .i64 P.str.next, .slice x.b2 P.str.dicts.length x.d2]
abbrev sdA (P : PSnd) (x : SV) : Array Value := #[.slice x.a0 P.fields.length x.c0, .int .i64 P.epoch, .int .i64 P.base, .slice x.a3 P.tables.length x.c3, .int .i64 P.pushed, .int .i64 P.out.epoch, .int .i64 P.out.next, .int .i64 P.out.now, .slice x.a1 P.out.wait.length x.c1, .bool P.str.opened, .slice x.a2 P.str.fields.length x.c2, .int .i64 P.str.next, .slice x.b2 P.str.dicts.length x.d2]
abbrev zSd : Array Value := #[.slice none 0 0, .int .i64 0, .int .i64 0, .slice none 0 0, .int .i64 0, .int .i64 0, .int .i64 0, .int .i64 0, .slice none 0 0, .bool false, .slice none 0 0, .int .i64 0, .slice none 0 0]
abbrev tbV (p : PT) (a : Option Addr) (c : Nat) : Value := .agg #[.int .i64 p.rows, .slice a p.cells.length c]
abbrev tup2 (P : PSnd) (K : Int) (x : SV) : Value := .tuple #[sdV P x, .int .i64 K]
def fst2 : Value → Value
  | .tuple cs => cs.getD 0 undef
  | _ => undef
def RdSV (w : World) (P : PSnd) (x : SV) : Prop := RdSnd w P x.a0 x.c0 x.a3 x.c3 x.a1 x.c1 x.a2 x.c2 x.b2 x.d2
def RobV (n1 n2 : Nat) (P : PSnd) (x : SV) (w : World) : Prop := RobS n1 n2 P x.a0 x.c0 x.a3 x.c3 x.a1 x.c1 x.a2 x.c2 x.b2 x.d2 w
theorem RobV.kept {n1 n2 : Nat} {P : PSnd} {x : SV} {w w' : World} (h : RobV n1 n2 P x w) (hs : w.heap.size ≤ w'.heap.size) (hk : ∀ b, n1 ≤ b → b < n2 → w'.heap[b]? = w.heap[b]?) : RobV n1 n2 P x w' :=
  ⟨Nat.le_trans h.1 hs, fun W hW => h.2 W (fun b h1 h2 => (hW b h1 h2).trans (hk b h1 h2))⟩
theorem RobV.later {n1 n2 : Nat} {P : PSnd} {x : SV} {w w' : World} (h : RobV n1 n2 P x w) (hb : Below w.heap.size w w') : RobV n1 n2 P x w' :=
  h.kept hb.size (fun b _ h2 => hb.block b (Nat.lt_of_lt_of_le h2 h.1))
def BxS (w : World) (g : Nat) (cs : Array Value) : Prop := w.heap[g]? = some (.cells cs 45 (0, 0))
theorem BxS.later {w w' : World} {g : Nat} {cs : Array Value} (h : BxS w g cs) (hb : Below w.heap.size w w') : BxS w' g cs := (hb.block _ (Array.getElem?_eq_some_iff.1 h).1).trans h
def sg1 (s : PSnd) (y : Nat → Bool) (t : Nat → Value) (w : World) : Prop := y 1 = true → y 9 = false → ∃ x, t 1 = sdV s x ∧ RdSV w s x
def sg3 (p : PT) (y : Nat → Bool) (t : Nat → Value) (w : World) : Prop := y 3 = true → y 9 = false → ∃ a c, t 3 = tbV p a c ∧ RdSl cCell w p.cells (.slice a p.cells.length c)
def sg8 (lo : Nat) (y : Nat → Bool) (t : Nat → Value) (w : World) : Prop := y 8 = true → y 9 = false → ∃ g, t 8 = .pointer (some ⟨g, 0, none⟩) ∧ lo ≤ g ∧ BxS w g zSd
def sg4 (lo : Nat) (P : PSnd) (K : Int) (y : Nat → Bool) (t : Nat → Value) (w : World) : Prop :=
  y 4 = true → ∃ n1 n2 x, t 4 = tup2 P K x ∧ (y 5 = true → t 5 = tup2 P K x) ∧ (y 6 = true → t 6 = sdV P x) ∧ RobV n1 n2 P x w ∧ (y 8 = true → ∃ g, t 8 = .pointer (some ⟨g, 0, none⟩) ∧ lo ≤ g ∧ (g < n1 ∨ n2 ≤ g) ∧ (y 9 = true → BxS w g (sdA P x)))
def sgH (lo : Nat) (s : PSnd) (p : PT) (P : PSnd) (K : Int) (y : Nat → Bool) (t : Nat → Value) (w : World) : Prop := sg1 s y t w ∧ sg3 p y t w ∧ sg8 lo y t w ∧ sg4 lo P K y t w
section
variable {lo : Nat} {s : PSnd} {p : PT} {P : PSnd} {K : Int} {y : Nat → Bool} {t : Nat → Value} {w w' : World}
theorem sgH_start (lo : Nat) (s : PSnd) (p : PT) (P : PSnd) (K : Int) (t : Nat → Value) (w : World) : sgH lo s p P K (fun _ => false) t w :=
  ⟨(fun h => by cases h), (fun h => by cases h), (fun h => by cases h), (fun h => by cases h)⟩
theorem sg1.carry (h : sg1 s y t w) (hb : Below w.heap.size w w') (i : Nat) (h1 : i ≠ 1) (v : Value) : sg1 s (fun j => j == i || y j) (upd t i v) w' := by
  intro a b
  simp only [Bool.or_eq_true, beq_iff_eq, Bool.or_eq_false_iff] at a b
  obtain ⟨x, e, r⟩ := h (a.resolve_left (Ne.symm h1)) b.2
  exact ⟨x, by simp [upd, Ne.symm h1, e], RdSnd.later r hb⟩
theorem sg3.carry (h : sg3 p y t w) (hb : Below w.heap.size w w') (i : Nat) (h1 : i ≠ 3) (v : Value) : sg3 p (fun j => j == i || y j) (upd t i v) w' := by
  intro a b
  simp only [Bool.or_eq_true, beq_iff_eq, Bool.or_eq_false_iff] at a b
  obtain ⟨a1, c1, e, r⟩ := h (a.resolve_left (Ne.symm h1)) b.2
  exact ⟨a1, c1, by simp [upd, Ne.symm h1, e], r.later hb⟩
theorem sg8.carry (h : sg8 lo y t w) (hb : Below w.heap.size w w') (i : Nat) (h1 : i ≠ 8) (v : Value) : sg8 lo (fun j => j == i || y j) (upd t i v) w' := by
  intro a b
  simp only [Bool.or_eq_true, beq_iff_eq, Bool.or_eq_false_iff] at a b
  obtain ⟨g, e, l, r⟩ := h (a.resolve_left (Ne.symm h1)) b.2
  exact ⟨g, by simp [upd, Ne.symm h1, e], l, r.later hb⟩
theorem sg4.carry (h : sg4 lo P K y t w) (hb : Below w.heap.size w w') (i : Nat) (h4 : i ≠ 4) (h5 : i ≠ 5) (h6 : i ≠ 6) (h8 : i ≠ 8) (h9 : i ≠ 9) (v : Value) : sg4 lo P K (fun j => j == i || y j) (upd t i v) w' := by
  intro a
  simp only [Bool.or_eq_true, beq_iff_eq] at a
  obtain ⟨n1, n2, x, e4, e5, e6, hr, hg⟩ := h (a.resolve_left (Ne.symm h4))
  have hh : ∀ k, i ≠ k → ((k == i || y k) = true) → y k = true := fun k hk hy => by
    rw [Bool.or_eq_true, beq_iff_eq] at hy
    exact hy.resolve_left (Ne.symm hk)
  refine ⟨n1, n2, x, by simp [upd, Ne.symm h4, e4], fun q => by simp [upd, Ne.symm h5, e5 (hh 5 h5 q)], fun q => by simp [upd, Ne.symm h6, e6 (hh 6 h6 q)], hr.later hb, fun q => ?_⟩
  obtain ⟨g, eg, lg, hn, hb9⟩ := hg (hh 8 h8 q)
  exact ⟨g, by simp [upd, Ne.symm h8, eg], lg, hn, fun q9 => (hb9 (hh 9 h9 q9)).later hb⟩
theorem sgH.plain (h : sgH lo s p P K y t w) (hb : Below w.heap.size w w') (i : Nat) (hi : i = 0 ∨ i = 2 ∨ i = 7 ∨ i = 10) (v : Value) : sgH lo s p P K (fun j => j == i || y j) (upd t i v) w' :=
  ⟨h.1.carry hb i (by omega) v, h.2.1.carry hb i (by omega) v, h.2.2.1.carry hb i (by omega) v, h.2.2.2.carry hb i (by omega) (by omega) (by omega) (by omega) (by omega) v⟩
theorem sgH.op1 (h : sgH lo s p P K y t w) (hb : Below w.heap.size w w') (x : SV) (hr : RdSV w' s x) : sgH lo s p P K (fun j => j == 1 || y j) (upd t 1 (sdV s x)) w' :=
  ⟨fun _ _ => ⟨x, by simp [upd], hr⟩, h.2.1.carry hb 1 (by omega) _, h.2.2.1.carry hb 1 (by omega) _, h.2.2.2.carry hb 1 (by omega) (by omega) (by omega) (by omega) (by omega) _⟩
theorem sgH.op3 (h : sgH lo s p P K y t w) (hb : Below w.heap.size w w') {a : Option Addr} {c : Nat} (hr : RdSl cCell w' p.cells (.slice a p.cells.length c)) : sgH lo s p P K (fun j => j == 3 || y j) (upd t 3 (tbV p a c)) w' :=
  ⟨h.1.carry hb 3 (by omega) _, fun _ _ => ⟨a, c, by simp [upd], hr⟩, h.2.2.1.carry hb 3 (by omega) _, h.2.2.2.carry hb 3 (by omega) (by omega) (by omega) (by omega) (by omega) _⟩
theorem sgH.op4 (h : sgH lo s p P K y t w) (hb : Below w.heap.size w w') (h5 : y 5 = false) (h6 : y 6 = false) (h9 : y 9 = false) (x : SV) (hr : RobV w.heap.size w'.heap.size P x w') : sgH lo s p P K (fun j => j == 4 || y j) (upd t 4 (tup2 P K x)) w' := by
  refine ⟨h.1.carry hb 4 (by omega) _, h.2.1.carry hb 4 (by omega) _, h.2.2.1.carry hb 4 (by omega) _, fun _ => ⟨w.heap.size, w'.heap.size, x, by simp [upd], fun q => ?_, fun q => ?_, hr, fun q => ?_⟩⟩
  · simp [h5] at q
  · simp [h6] at q
  · have q8 : y 8 = true := by simpa using q
    obtain ⟨g, e, l, r⟩ := h.2.2.1 q8 h9
    exact ⟨g, by simp [upd, e], l, .inl (Array.getElem?_eq_some_iff.1 r).1, fun q9 => by simp [h9] at q9⟩
theorem sgH.op5 (h : sgH lo s p P K y t w) (hb : Below w.heap.size w w') (h4 : y 4 = true) (v : Value) (hv : v = t 4) : sgH lo s p P K (fun j => j == 5 || y j) (upd t 5 v) w' := by
  refine ⟨h.1.carry hb 5 (by omega) _, h.2.1.carry hb 5 (by omega) _, h.2.2.1.carry hb 5 (by omega) _, fun _ => ?_⟩
  obtain ⟨n1, n2, x, e4, e5, e6, hr, hg⟩ := h.2.2.2 h4
  refine ⟨n1, n2, x, by simp [upd, e4], fun _ => by simp [upd, hv, e4], fun q => by simp [upd, e6 (by simpa using q)], hr.later hb, fun q => ?_⟩
  obtain ⟨g, eg, lg, hn, hb9⟩ := hg (by simpa using q)
  exact ⟨g, by simp [upd, eg], lg, hn, fun q9 => (hb9 (by simpa using q9)).later hb⟩
theorem sgH.op6 (h : sgH lo s p P K y t w) (hb : Below w.heap.size w w') (h4 : y 4 = true) (v : Value) (hv : v = fst2 (t 4)) : sgH lo s p P K (fun j => j == 6 || y j) (upd t 6 v) w' := by
  refine ⟨h.1.carry hb 6 (by omega) _, h.2.1.carry hb 6 (by omega) _, h.2.2.1.carry hb 6 (by omega) _, fun _ => ?_⟩
  obtain ⟨n1, n2, x, e4, e5, e6, hr, hg⟩ := h.2.2.2 h4
  refine ⟨n1, n2, x, by simp [upd, e4], fun q => by simp [upd, e5 (by simpa using q)], fun _ => by simp [upd, hv, e4, fst2], hr.later hb, fun q => ?_⟩
  obtain ⟨g, eg, lg, hn, hb9⟩ := hg (by simpa using q)
  exact ⟨g, by simp [upd, eg], lg, hn, fun q9 => (hb9 (by simpa using q9)).later hb⟩
theorem sgH.op8 (h : sgH lo s p P K y t w) (hlo : lo ≤ w.heap.size) (h9 : y 9 = false) : sgH lo s p P K (fun j => j == 8 || y j) (upd t 8 (.pointer (some ⟨w.heap.size, 0, none⟩))) (w.alloc (.cells zSd 45)) := by
  have hb := below_new1 w (.cells zSd 45)
  refine ⟨h.1.carry hb 8 (by omega) _, h.2.1.carry hb 8 (by omega) _, fun _ _ => ⟨w.heap.size, by simp [upd], hlo, heap_alloc_new w _⟩, fun q => ?_⟩
  obtain ⟨n1, n2, x, e4, e5, e6, hr, -⟩ := h.2.2.2 (by simpa using q)
  refine ⟨n1, n2, x, by simp [upd, e4], fun q => by simp [upd, e5 (by simpa using q)], fun q => by simp [upd, e6 (by simpa using q)], hr.later hb, fun _ => ⟨w.heap.size, by simp [upd], hlo, .inr hr.1, fun q9 => by simp [h9] at q9⟩⟩
theorem sgH.at9 (h : sgH lo s p P K y t w) (h4 : y 4 = true) (h6 : y 6 = true) (h8 : y 8 = true) (h9 : y 9 = false) : ∃ g x, t 8 = .pointer (some ⟨g, 0, none⟩) ∧ t 6 = sdV P x ∧ lo ≤ g ∧ BxS w g zSd ∧
    ∀ v, BxS w g zSd → sgH lo s p P K (fun j => j == 9 || y j) (upd t 9 v) (((((((((((((w.setCell ⟨g, 0, none⟩ (.slice x.a0 P.fields.length x.c0)).setCell ⟨g, 1, none⟩ (.int .i64 P.epoch)).setCell ⟨g, 2, none⟩ (.int .i64 P.base)).setCell ⟨g, 3, none⟩ (.slice x.a3 P.tables.length x.c3)).setCell ⟨g, 4, none⟩ (.int .i64 P.pushed)).setCell ⟨g, 5, none⟩ (.int .i64 P.out.epoch)).setCell ⟨g, 6, none⟩ (.int .i64 P.out.next)).setCell ⟨g, 7, none⟩ (.int .i64 P.out.now)).setCell ⟨g, 8, none⟩ (.slice x.a1 P.out.wait.length x.c1)).setCell ⟨g, 9, none⟩ (.bool P.str.opened)).setCell ⟨g, 10, none⟩ (.slice x.a2 P.str.fields.length x.c2)).setCell ⟨g, 11, none⟩ (.int .i64 P.str.next)).setCell ⟨g, 12, none⟩ (.slice x.b2 P.str.dicts.length x.d2)) := by
  obtain ⟨n1, n2, x, e4, e5, e6, hr, hg⟩ := h.2.2.2 h4
  obtain ⟨g, eg, lg, hn, -⟩ := hg h8
  obtain ⟨g', eg', -, hz⟩ := h.2.2.1 h8 h9
  rw [eg] at eg'
  simp only [Value.pointer.injEq, Option.some.injEq, Addr.mk.injEq, and_true] at eg'
  subst eg'
  refine ⟨g, x, eg, e6 h6, lg, hz, fun v _ => ⟨fun _ q => by simp at q, fun _ q => by simp at q, fun _ q => by simp at q, fun _ => ?_⟩⟩
  refine ⟨n1, n2, x, by simp [upd, e4], fun q => by simp [upd, e5 (by simpa using q)], fun q => by simp [upd, e6 (by simpa using q)], hr.kept (by rw [set13_size]; exact Nat.le_refl _) (fun b h1 h2 => set13o (by omega)), fun _ => ⟨g, by simp [upd, eg], lg, hn, fun _ => set13 hz⟩⟩
theorem sgH.done (h : sgH lo s p P K y t w) (h4 : y 4 = true) (h8 : y 8 = true) (h9 : y 9 = true) : ∃ g x, t 8 = .pointer (some ⟨g, 0, none⟩) ∧ lo ≤ g ∧ w.heap[g]? = some (.cells (sdA P x) 45 (0, 0)) ∧ RdSV w P x := by
  obtain ⟨n1, n2, x, e4, e5, e6, hr, hg⟩ := h.2.2.2 h4
  obtain ⟨g, eg, lg, hn, hb⟩ := hg h8
  exact ⟨g, x, eg, lg, hb h9, hr.2 w (fun _ _ _ => rfl)⟩
end
set_option linter.unusedVariables false in
def sgT (vi vp : Value) (K : Int) : Nat → FX
  | 0 => FX.eq vi
  | 2 => FX.eq vp
  | 7 => FX.eq (.int .i64 K)
  | 10 => FX.eq (.int .i64 K)
  | _ => FX.is Fct.any
end Go.Proofs.YtfaehioeepolhabGreat
