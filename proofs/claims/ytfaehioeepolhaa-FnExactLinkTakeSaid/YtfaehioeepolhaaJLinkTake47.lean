import Derived.Test.YtfaehioeepolhaaJLinkTake35
import Derived.Deep.DeepCutAuto
namespace Go.Proofs.Ytfaehioeepolhaa
open Go.RowKit Go.Maps Go.WideMaps
set_option maxRecDepth 100000 in
set_option maxHeartbeats 4000000 in
theorem byNumber_any (ps : List PP) (a : Option Addr) (cap : Nat) (w : World) (hr : RdSl cPkt w ps (.slice a ps.length cap)) (hlen : ps.length ≤ 1048576) :
    Calls Try.prog 29 #[.slice a ps.length cap] w fun e w' => ∃ m, e = .returned (.map (some m)) ∧ w.heap.size ≤ m ∧ PkMap w w' m ps.length ps.reverse ∧ Below w.heap.size w w' := by
  have hmm := @run_makeMap Try.prog
  have HR := hid hr
  clear hr
  go_enter Try.func29, Try.ntmps29
  have HM0 : Hid (PkMap w (w.alloc (.map #[] 0)) w.heap.size 0 []) := hid (PkMap.made w w)
  have HB0 : Hid (Below w.heap.size w (w.alloc (.map #[] 0))) := hid (below_new1 w _)
  go_wp2
  generalize (w.alloc (.map #[] 0)) = W0 at *
  clear hmm
  go_loopw [5, 9] (fun _ i wr => ∃ k : Nat, k ≤ ps.length ∧ i = .int .i64 k ∧ PkMap w wr w.heap.size k (ps.take k).reverse ∧ Below w.heap.size w wr) (fun _ i _ => ps.length - (intOf i).toNat)
  case atStart => exact ⟨0, Nat.zero_le _, rfl, HM0.out, HB0.out⟩
  case round =>
    obtain ⟨k, hk, rfl, hmp, hbe⟩ := hrel
    have HMP := hid hmp
    have HBE := hid hbe
    clear hmp hbe
    by_cases hlt : k < ps.length
    · have HTK : Hid ((ps.take (k + 1)).reverse = ps[k] :: (ps.take k).reverse) := hid (by rw [List.take_succ_eq_append_getElem hlt, List.reverse_append]; rfl)
      obtain ⟨bb, off, es, rfl, hes, hcs⟩ := HR.out.atN hlt
      obtain ⟨an, cn, rfl, hnm, hhin⟩ := cPkt_rd hes
      generalize ps[k] = x at *
      have q0 : w.cell? ⟨bb, off + k * 6, none⟩ = some (.int .i64 x.kind) := by have h := hcs 0 (by decide); rw [show cPkt.n = 6 from rfl] at h; simpa [Nat.add_assoc] using h
      have qc0 := (HBE.out.cell (World.block_lt_of_cell? _ _ q0)).trans q0
      clear q0
      have q1 : w.cell? ⟨bb, off + k * 6 + 1, none⟩ = some (.int .i64 x.epoch) := by have h := hcs 1 (by decide); rw [show cPkt.n = 6 from rfl] at h; simpa [Nat.add_assoc] using h
      have qc1 := (HBE.out.cell (World.block_lt_of_cell? _ _ q1)).trans q1
      clear q1
      have q2 : w.cell? ⟨bb, off + k * 6 + 2, none⟩ = some (.int .i64 x.seq) := by have h := hcs 2 (by decide); rw [show cPkt.n = 6 from rfl] at h; simpa [Nat.add_assoc] using h
      have qc2 := (HBE.out.cell (World.block_lt_of_cell? _ _ q2)).trans q2
      clear q2
      have q3 : w.cell? ⟨bb, off + k * 6 + 3, none⟩ = some (.int .i64 x.count) := by have h := hcs 3 (by decide); rw [show cPkt.n = 6 from rfl] at h; simpa [Nat.add_assoc] using h
      have qc3 := (HBE.out.cell (World.block_lt_of_cell? _ _ q3)).trans q3
      clear q3
      have q4 : w.cell? ⟨bb, off + k * 6 + 4, none⟩ = some (.bool x.last) := by have h := hcs 4 (by decide); rw [show cPkt.n = 6 from rfl] at h; simpa [Nat.add_assoc] using h
      have qc4 := (HBE.out.cell (World.block_lt_of_cell? _ _ q4)).trans q4
      clear q4
      have q5 : w.cell? ⟨bb, off + k * 6 + 5, none⟩ = some (.slice an x.data.length cn) := by have h := hcs 5 (by decide); rw [show cPkt.n = 6 from rfl] at h; simpa [Nat.add_assoc] using h
      have qc5 := (HBE.out.cell (World.block_lt_of_cell? _ _ q5)).trans q5
      clear q5
      have HNM := hid hnm
      have HIN := hid hhin
      have hki : (k : Int) < (ps.length : Int) := by omega
      clear hes hcs hnm hhin
      have HK1 : Hid ((wr.alloc (.cells #[.int .i64 x.kind, .int .i64 x.epoch, .int .i64 x.seq, .int .i64 x.count, .bool x.last, .slice an x.data.length cn] 37)).heap[wr.heap.size]? = some (.cells #[.int .i64 x.kind, .int .i64 x.epoch, .int .i64 x.seq, .int .i64 x.count, .bool x.last, .slice an x.data.length cn] 37 (0, 0))) := hid (heap_alloc_new _ _)
      have HBX := hid (below_new1 wr (.cells #[.int .i64 x.kind, .int .i64 x.epoch, .int .i64 x.seq, .int .i64 x.count, .bool x.last, .slice an x.data.length cn] 37))
      go_upto_region 5 with fail
      generalize (wr.alloc (.cells #[.int .i64 x.kind, .int .i64 x.epoch, .int .i64 x.seq, .int .i64 x.count, .bool x.last, .slice an x.data.length cn] 37)) = W1 at *
      obtain ⟨D, hown, hisM, hDD, -⟩ := (HMP.out.later HBX.out).look
      have HOWN := hid hown
      have HISM := hid hisM
      have HDD := hid hDD
      clear hown hisM hDD
      have c0 := cell_of_row _ _ 0 _ _ _ HK1.out
      have c1 := cell_of_row _ _ 1 _ _ _ HK1.out
      have c2 := cell_of_row _ _ 2 _ _ _ HK1.out
      have c3 := cell_of_row _ _ 3 _ _ _ HK1.out
      have c4 := cell_of_row _ _ 4 _ _ _ HK1.out
      have c5 := cell_of_row _ _ 5 _ _ _ HK1.out
      simp only [List.getElem?_toArray, List.getElem?_cons_zero, List.getElem?_cons_succ] at c0 c1 c2 c3 c4 c5
      have HKEY := hid (keyI HIN.out.seq)
      go_wp2_with (first | (at_mapUpdate; refine wpList_mapUpdate_own _ rfl _ _ _ 54 rfl 3 37 keyedI Try.underlying54 anyElem w.heap.size k D rfl HOWN.out (by unfold maxLen; omega) _ _ _ rfl rfl HKEY.out _ [] rfl ?_))
      intro w1 hown1 hgrow1
      have HM2 : Hid (PkMap w w1 w.heap.size (k + 1) (x :: (ps.take k).reverse)) := hid (PkMap.put HISM.out HDD.out hown1 HNM.out HIN.out)
      have HB2 : Hid (Below w.heap.size w w1) := hid (by
        have h0 := below_chain HBE.out HBX.out
        exact h0.grown hgrow1 h0.size (fun j hj => by cases hj; exact Nat.le_refl _))
      clear hown1 hgrow1 c0 c1 c2 c3 c4 c5 qc0 qc1 qc2 qc3 qc4 qc5
      go_wp2
      go_roundw
      case rel => exact ⟨k + 1, by omega, by go_num, by rw [HTK.out]; exact HM2.out, HB2.out⟩
      case measure => simp [intOf]; omega
    · obtain rfl : k = ps.length := by omega
      rw [List.take_length] at HMP
      go_wp2
      go_ret
      exact ⟨_, rfl, Nat.le_refl _, HMP.out, HBE.out⟩
end Go.Proofs.Ytfaehioeepolhaa
