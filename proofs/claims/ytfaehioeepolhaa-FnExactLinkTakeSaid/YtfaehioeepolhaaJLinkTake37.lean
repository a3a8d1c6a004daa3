import Derived.Test.YtfaehioeepolhaaJLinkTake35
import Derived.Test.YtfaehioeepolhaaJLinkTake36
import Derived.Test.YtfaehioeepolhaaJLinkTake31
import Derived.Deep.DeepCutAuto
namespace Go.Proofs.Ytfaehioeepolhaa
open Go.RowKit Go.Maps Go.WideMaps
def ordK (L : List PP) (x : Int) (j : Nat) : List PP := (List.range j).filterMap fun (i : Nat) => findS L (x + (i : Int))
theorem ordK_zero (L : List PP) (x : Int) : ordK L x 0 = [] := rfl
theorem ordK_no {L : List PP} {x : Int} {j : Nat} (h : findS L (x + (j : Int)) = none) : ordK L x (j + 1) = ordK L x j := by simp [ordK, List.range_succ, List.filterMap_append, h]
theorem ordK_yes {L : List PP} {x : Int} {j : Nat} {y : PP} (h : findS L (x + (j : Int)) = some y) : ordK L x (j + 1) = ordK L x j ++ [y] := by simp [ordK, List.range_succ, List.filterMap_append, h]
theorem ordK_len (L : List PP) (x : Int) (j : Nat) : (ordK L x j).length ≤ j := by
  unfold ordK
  exact Nat.le_trans (List.length_filterMap_le _ _) (by simp)
set_option maxRecDepth 100000 in
set_option maxHeartbeats 8000000 in
theorem inOrder_any (L : List PP) (m n : Nat) (x : Int) (w0 w : World) (hmp : PkMap w0 w m n L) (hb0 : Below w0.heap.size w0 w) (hx0 : 0 ≤ x) (hx1 : x ≤ 1000001048577) (hd : ∀ y ∈ L, y.data.length ≤ 1048576) :
    Calls Try.prog 43 #[.map (some m), .int .i64 x] w fun e w' => ∃ v, e = .returned v ∧ AllSt w (ordK L x 8) v w' := by
  obtain ⟨i0, hi0, hz0, hz1, hz2⟩ := info_parts infoImPacket
  have HMP := hid hmp
  have HB0 := hid hb0
  have HD := hid hd
  clear hmp hb0 hd
  go_enter Try.func43, Try.ntmps43
  go_wp2
  go_loopw [5, 6, 7, 8] (fun v i _ _ wr => ∃ j : Nat, j ≤ 8 ∧ i = .int .i64 (x + (j : Int)) ∧ AllSt w (ordK L x j) v wr) (fun _ i _ _ _ => 8 - (intOf i - x).toNat)
  case atStart => exact ⟨0, by omega, by simp, ⟨⟨[], .inl ⟨rfl, rfl, rfl⟩, by simp, by simp⟩, Below.refl _ _⟩⟩
  case round =>
    obtain ⟨j, hj, rfl, hst⟩ := hrel
    have HST := hid hst
    have HBE := hid hst.2
    have hvr := hst.2.size
    clear hst
    have hxb : x + (j : Int) ≤ 9223372036854775807 := by omega
    have HKEY := hid (keyI (n := x + (j : Int)) ⟨by omega, by omega⟩)
    obtain ⟨D, hown, -, hDD, hNN⟩ := (HMP.out.later HBE.out).look
    have HOWN := hid hown
    have HDD := hid (hDD (x + (j : Int)))
    have HNN := hid (hNN (x + (j : Int)))
    clear hown hDD hNN
    by_cases hlt : j < 8
    · have hlt2 : decide (x + (j : Int) < x + 8) = true := decide_eq_true (by omega)
      have hlt3 : x + (j : Int) < x + 8 := by omega
      cases hf : findS L (x + (j : Int)) with
      | none =>
        have HOR := hid (ordK_no hf)
        have HHAS := hid (HDD.out.1 hf)
        have HAT := hid (HNN.out hf)
        clear hf
        have HBX := hid (below_new1 wr (.cells #[.int .i64 0, .int .i64 0, .int .i64 0, .int .i64 0, .bool false, .slice none 0 0] 37))
        go_wp2_with (first | (at_lookup; refine wpList_lookup_held _ rfl _ _ 54 rfl 3 37 keyedI Try.underlying54 (zeroPk _) m n D rfl HOWN.out _ _ rfl HKEY.out _ _ HAT.out HHAS.out ?_))
        go_wp2
        exact ⟨⟨j + 1, by omega, by rw [show x + ((j + 1 : Nat) : Int) = x + (j : Int) + 1 from by omega], by rw [HOR.out]; exact HST.out.later HBX.out⟩, by simp [intOf]; omega⟩
      | some y =>
        have HOR := hid (ordK_yes hf)
        obtain ⟨hhas, an, cn, hat, hrd, hin⟩ := HDD.out.2 y hf
        have HHAS := hid hhas
        have HAT := hid hat
        have HRD := hid (hrd.later HB0.out)
        have HIN := hid hin
        have hyl : y.data.length ≤ 1048576 := HD.out y (List.mem_of_find?_eq_some hf)
        clear hf hhas hat hrd hin
        have HKF : Hid ((wr.alloc (.cells #[.int .i64 y.kind, .int .i64 y.epoch, .int .i64 y.seq, .int .i64 y.count, .bool y.last, .slice an y.data.length cn] 37)).heap[wr.heap.size]? = some (.cells #[.int .i64 y.kind, .int .i64 y.epoch, .int .i64 y.seq, .int .i64 y.count, .bool y.last, .slice an y.data.length cn] 37 (0, 0))) := hid (heap_alloc_new wr _)
        have HBX := hid (below_new1 wr (.cells #[.int .i64 y.kind, .int .i64 y.epoch, .int .i64 y.seq, .int .i64 y.count, .bool y.last, .slice an y.data.length cn] 37))
        go_wp2_with (first | (at_lookup; refine wpList_lookup_held _ rfl _ _ 54 rfl 3 37 keyedI Try.underlying54 (zeroPk _) m n D rfl HOWN.out _ _ rfl HKEY.out _ _ HAT.out HHAS.out ?_))
        go_upto_region 7 with fail
        generalize (wr.alloc (.cells #[.int .i64 y.kind, .int .i64 y.epoch, .int .i64 y.seq, .int .i64 y.count, .bool y.last, .slice an y.data.length cn] 37)) = W2 at *
        have e0 := cell_of_row _ _ 0 _ _ _ HKF.out
        have e1 := cell_of_row _ _ 1 _ _ _ HKF.out
        have e2 := cell_of_row _ _ 2 _ _ _ HKF.out
        have e3 := cell_of_row _ _ 3 _ _ _ HKF.out
        have e4 := cell_of_row _ _ 4 _ _ _ HKF.out
        have e5 := cell_of_row _ _ 5 _ _ _ HKF.out
        simp only [List.getElem?_toArray, List.getElem?_cons_zero, List.getElem?_cons_succ] at e0 e1 e2 e3 e4 e5
        go_wp2_with fail
        refine (copyPacket_any y an cn W2 ((HRD.out.later HBE.out).later HBX.out) hyl).mono ?_
        rintro e w2 ⟨a2, c2, bk, rfl, o2, lk, nk, b2⟩
        have hol := ordK_len L x j
        obtain ⟨vals, ho, hadd⟩ := AllSt.add (HST.out.later HBX.out) b2 o2 lk nk HIN.out
        have HO := hid ho
        have HADD := hid hadd
        have HONE := hid (heap_alloc_new w2 (.cells #[.int .i64 y.kind, .int .i64 y.epoch, .int .i64 y.seq, .int .i64 y.count, .bool y.last, .slice a2 y.data.length c2] 37))
        have hV2 : w.heap.size ≤ w2.heap.size := by have h2 := b2.size; have h3 := HBX.out.size; omega
        clear ho hadd o2 lk nk b2
        go_wp2_with (first | (at_builtin; refine wpList_append_lies _ rfl (.tmp 23) (.tmp 26) 30 rfl w.heap.size 37 i0 (.agg #[.int .i64 0, .int .i64 0, .int .i64 0, .int .i64 0, .bool false, .slice none 0 0]) 6 64 Try.underlying30 hi0 hz0 hz1 hz2 rfl (by decide) (u5) (ordK L x j).length vals rfl HO.out ⟨w2.heap.size, 0, none⟩ 1 1 [.int .i64 y.kind, .int .i64 y.epoch, .int .i64 y.seq, .int .i64 y.count, .bool y.last, .slice a2 y.data.length c2] rfl rfl (World.news_of_block HONE.out) (by simp [Value.oneCell']) (by omega) (by unfold maxLen; omega) (by omega) (by simp; omega) _ rfl ?_))
        intro g9 cap9 w9 hown9 hgrow hat9 hlt9
        have HT9 := hid (HADD.out g9 cap9 w9 hown9 hgrow (by simpa using hat9))
        clear hown9 hgrow hat9 HADD HO HONE hlt9 hV2
        go_wp2
        exact ⟨⟨j + 1, by omega, by rw [show x + ((j + 1 : Nat) : Int) = x + (j : Int) + 1 from by omega], by rw [HOR.out]; exact HT9.out⟩, by simp [intOf]; omega⟩
    · obtain rfl : j = 8 := by omega
      go_wp2
      go_ret
      exact ⟨_, rfl, HST.out⟩
end Go.Proofs.Ytfaehioeepolhaa
