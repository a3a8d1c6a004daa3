import Derived.Test.YtcljakdcejhfiabJEncodePacket20
import Derived.Test.YtcljakdcejhfiabJEncodePacket27
namespace Go.Proofs.Ytcljakdcejhfiab
open Go.RowKit
theorem wrap64n (n : Nat) (h : n < 9223372036854775808) : IntKind.i64.wrap (n : Int) = n := by simp [IntKind.wrap, IntKind.bits, IntKind.signed]; omega
set_option maxRecDepth 100000 in
set_option maxHeartbeats 8000000 in
theorem specPkt_ok (K E S C : Nat) (L : Bool) (D : List Nat) (a : Option Addr) (cap : Nat) (w : World) (hr : RdSl cByte w D (.slice a D.length cap)) (hD : D.length ≤ 100) (hK : K < 256) (hE : E < 4294967296) (hS : S < 1099511627776) (hC : C < 4294967296)
    (hv : Calls Try.prog 42 #[.agg #[.int .i64 (K : Int), .int .i64 (E : Int), .int .i64 (S : Int), .int .i64 (C : Int), .bool L, .slice a D.length cap]] (w.alloc (.cells #[.int .i64 (K : Int), .int .i64 (E : Int), .int .i64 (S : Int), .int .i64 (C : Int), .bool L, .slice a D.length cap] 35)) fun e w' => e = .returned (.bool true) ∧ Below (w.alloc (.cells #[.int .i64 (K : Int), .int .i64 (E : Int), .int .i64 (S : Int), .int .i64 (C : Int), .bool L, .slice a D.length cap] 35)).heap.size (w.alloc (.cells #[.int .i64 (K : Int), .int .i64 (E : Int), .int .i64 (S : Int), .int .i64 (C : Int), .bool L, .slice a D.length cap] 35)) w') :
    Calls Try.prog 19 #[.agg #[.int .i64 (K : Int), .int .i64 (E : Int), .int .i64 (S : Int), .int .i64 (C : Int), .bool L, .slice a D.length cap]] w (EncPost w (encP K E S C L D)) := by
  obtain ⟨i0, hi, hz0, hz1, hz2⟩ := info_parts infoByteM
  have HR := hid hr
  have HV := hid hv
  have hwK := wrap_u8 K hK
  have HB0 := hid (below_new1 w (.cells #[.int .i64 (K : Int), .int .i64 (E : Int), .int .i64 (S : Int), .int .i64 (C : Int), .bool L, .slice a D.length cap] 35))
  have HK0 : Hid ((w.alloc (.cells #[.int .i64 (K : Int), .int .i64 (E : Int), .int .i64 (S : Int), .int .i64 (C : Int), .bool L, .slice a D.length cap] 35)).heap[w.heap.size]? = some (.cells #[.int .i64 (K : Int), .int .i64 (E : Int), .int .i64 (S : Int), .int .i64 (C : Int), .bool L, .slice a D.length cap] 35 (0, 0))) := hid (heap_alloc_new w _)
  have HUE : Hid (U (E : Int) = E) := hid (U_nat _ (by omega))
  have HUS : Hid (U (S : Int) = S) := hid (U_nat _ (by omega))
  have HUC : Hid (U (C : Int) = C) := hid (U_nat _ (by omega))
  have HUD : Hid (U (D.length : Int) = D.length) := hid (U_nat _ (by omega))
  have HLL : Hid (encP K E S C L D = ([67, K] ++ (digs E 4 ++ (digs S 8 ++ (digs C 4 ++ ([lastN L] ++ (digs D.length 2 ++ D)))))) ++ digs (crcM ([67, K] ++ (digs E 4 ++ (digs S 8 ++ (digs C 4 ++ ([lastN L] ++ (digs D.length 2 ++ D))))))) 4) := hid (by simp [encP, headP])
  have HYB : Hid (∀ x ∈ [67, K] ++ (digs E 4 ++ (digs S 8 ++ (digs C 4 ++ ([lastN L] ++ (digs D.length 2 ++ D))))), x < 256) := hid (by
    have h := headP_lt (K := K) (E := E) (S := S) (C := C) (L := L) (D := D) hK hr.rdB.2
    simpa [headP] using h)
  have HYL : Hid (([67, K] ++ (digs E 4 ++ (digs S 8 ++ (digs C 4 ++ ([lastN L] ++ (digs D.length 2 ++ D)))))).length = 21 + D.length) := hid (by simp [digs_len]; omega)
  clear hr hv
  cases L with
  | true =>
    rw [show lastN true = 1 from rfl] at HLL HYB HYL
    go_enter Try.func19, Try.ntmps19
    go_wp2_with fail
    refine HV.out.mono ?_
    rintro e w1 ⟨rfl, b1⟩
    have hX : w1.heap[w.heap.size]? = some (.cells #[.int .i64 (K : Int), .int .i64 (E : Int), .int .i64 (S : Int), .int .i64 (C : Int), .bool true, .slice a D.length cap] 35 (0, 0)) := (b1.block _ (Array.getElem?_eq_some_iff.1 HK0.out).1).trans HK0.out
    have hG := (Array.getElem?_eq_some_iff.1 hX).1
    have HBX : Hid (∀ w', Below w1.heap.size w1 w' → w'.heap[w.heap.size]? = some (.cells #[.int .i64 (K : Int), .int .i64 (E : Int), .int .i64 (S : Int), .int .i64 (C : Int), .bool true, .slice a D.length cap] 35 (0, 0))) := hid (fun w' hb => (hb.block _ hG).trans hX)
    have HB1 := hid (below_chain HB0.out b1)
    have hs1 := HB1.out.size
    clear b1 HB0 HK0 HV
    have p0 := cell_of_row _ _ 0 _ _ _ (HBX.out w1 (Below.refl _ _))
    have p1 := cell_of_row _ _ 1 _ _ _ (HBX.out w1 (Below.refl _ _))
    have p2 := cell_of_row _ _ 2 _ _ _ (HBX.out w1 (Below.refl _ _))
    have p3 := cell_of_row _ _ 3 _ _ _ (HBX.out w1 (Below.refl _ _))
    have p4 := cell_of_row _ _ 4 _ _ _ (HBX.out w1 (Below.refl _ _))
    have p5 := cell_of_row _ _ 5 _ _ _ (HBX.out w1 (Below.refl _ _))
    simp only [List.getElem?_toArray, List.getElem?_cons_zero, List.getElem?_cons_succ] at p0 p1 p2 p3 p4 p5
    have HO0 : Hid ((w1.alloc (.cells #[.int .u8 67, .int .u8 (K : Int)] 5)).ownsRow w1.heap.size 5 1 (.slice (some ⟨w1.heap.size, 0, none⟩) 2 2) 2 (byt [67, K])) := hid (own_built (cs := #[.int .u8 67, .int .u8 (K : Int)]) (Nat.le_refl _) (by simp [maxLen]))
    have HBA := hid (below_new1 w1 (.cells #[.int .u8 67, .int .u8 (K : Int)] 5))
    go_wp2_with fail
    refine (little_row (E : Int) 4 _ (by omega) (by omega) (by unfold IntIn; omega)).mono ?_
    rintro e x2 ⟨g2, k2, rfl, o2, b2⟩
    rw [HUE.out] at o2
    have HO2' := hid (own_later HO0.out b2)
    have HR2 := hid (rd_row o2)
    have hB2' : Below w1.heap.size w1 x2 := HBA.out.trans (b2.mono HBA.out.size)
    have HB2' := hid hB2'
    have hs2' := hB2'.size
    clear o2 b2 p0 p1 p2 p3 p4 p5
    have p0 := cell_of_row _ _ 0 _ _ _ (HBX.out x2 hB2')
    have p1 := cell_of_row _ _ 1 _ _ _ (HBX.out x2 hB2')
    have p2 := cell_of_row _ _ 2 _ _ _ (HBX.out x2 hB2')
    have p3 := cell_of_row _ _ 3 _ _ _ (HBX.out x2 hB2')
    have p4 := cell_of_row _ _ 4 _ _ _ (HBX.out x2 hB2')
    have p5 := cell_of_row _ _ 5 _ _ _ (HBX.out x2 hB2')
    simp only [List.getElem?_toArray, List.getElem?_cons_zero, List.getElem?_cons_succ] at p0 p1 p2 p3 p4 p5
    clear hB2'
    go_wp2_with (first | (at_builtin; refine append_any rfl _ _ 24 rfl w1.heap.size 5 i0 (.int .u8 0) 1 Try.underlying24 hi hz0 hz1 hz2 rfl _ (2) _ rfl HO2'.out (some ⟨g2, 0, none⟩) 4 k2 (byt (digs E 4)) rfl (by rw [byt_len, digs_len]) (by simp) HR2.out (byt_one _) (by unfold maxLen; omega) (by omega) hs2' ?_))
    intro v2 y2 o2 g2'
    have HO2 := hid o2
    have hB2 : Below w1.heap.size w1 y2 := HB2'.out.grown g2' hs2' (fun p hp => (own_in HO2'.out hp).1)
    have HB2 := hid hB2
    have hs2 := hB2.size
    clear p0 p1 p2 p3 p4 p5
    have p0 := cell_of_row _ _ 0 _ _ _ (HBX.out y2 hB2)
    have p1 := cell_of_row _ _ 1 _ _ _ (HBX.out y2 hB2)
    have p2 := cell_of_row _ _ 2 _ _ _ (HBX.out y2 hB2)
    have p3 := cell_of_row _ _ 3 _ _ _ (HBX.out y2 hB2)
    have p4 := cell_of_row _ _ 4 _ _ _ (HBX.out y2 hB2)
    have p5 := cell_of_row _ _ 5 _ _ _ (HBX.out y2 hB2)
    simp only [List.getElem?_toArray, List.getElem?_cons_zero, List.getElem?_cons_succ] at p0 p1 p2 p3 p4 p5
    clear o2 g2' hB2
    go_wp2_with fail
    refine (little_row (S : Int) 8 _ (by omega) (by omega) (by unfold IntIn; omega)).mono ?_
    rintro e x3 ⟨g3, k3, rfl, o3, b3⟩
    rw [HUS.out] at o3
    have HO3' := hid (own_later HO2.out b3)
    have HR3 := hid (rd_row o3)
    have hB3' : Below w1.heap.size w1 x3 := HB2.out.trans (b3.mono HB2.out.size)
    have HB3' := hid hB3'
    have hs3' := hB3'.size
    clear o3 b3 p0 p1 p2 p3 p4 p5
    have p0 := cell_of_row _ _ 0 _ _ _ (HBX.out x3 hB3')
    have p1 := cell_of_row _ _ 1 _ _ _ (HBX.out x3 hB3')
    have p2 := cell_of_row _ _ 2 _ _ _ (HBX.out x3 hB3')
    have p3 := cell_of_row _ _ 3 _ _ _ (HBX.out x3 hB3')
    have p4 := cell_of_row _ _ 4 _ _ _ (HBX.out x3 hB3')
    have p5 := cell_of_row _ _ 5 _ _ _ (HBX.out x3 hB3')
    simp only [List.getElem?_toArray, List.getElem?_cons_zero, List.getElem?_cons_succ] at p0 p1 p2 p3 p4 p5
    clear hB3'
    go_wp2_with (first | (at_builtin; refine append_any rfl _ _ 24 rfl w1.heap.size 5 i0 (.int .u8 0) 1 Try.underlying24 hi hz0 hz1 hz2 rfl _ (2 + 4) _ rfl HO3'.out (some ⟨g3, 0, none⟩) 8 k3 (byt (digs S 8)) rfl (by rw [byt_len, digs_len]) (by simp) HR3.out (byt_one _) (by unfold maxLen; omega) (by omega) hs3' ?_))
    intro v3 y3 o3 g3'
    have HO3 := hid o3
    have hB3 : Below w1.heap.size w1 y3 := HB3'.out.grown g3' hs3' (fun p hp => (own_in HO3'.out hp).1)
    have HB3 := hid hB3
    have hs3 := hB3.size
    clear p0 p1 p2 p3 p4 p5
    have p0 := cell_of_row _ _ 0 _ _ _ (HBX.out y3 hB3)
    have p1 := cell_of_row _ _ 1 _ _ _ (HBX.out y3 hB3)
    have p2 := cell_of_row _ _ 2 _ _ _ (HBX.out y3 hB3)
    have p3 := cell_of_row _ _ 3 _ _ _ (HBX.out y3 hB3)
    have p4 := cell_of_row _ _ 4 _ _ _ (HBX.out y3 hB3)
    have p5 := cell_of_row _ _ 5 _ _ _ (HBX.out y3 hB3)
    simp only [List.getElem?_toArray, List.getElem?_cons_zero, List.getElem?_cons_succ] at p0 p1 p2 p3 p4 p5
    clear o3 g3' hB3
    go_wp2_with fail
    refine (little_row (C : Int) 4 _ (by omega) (by omega) (by unfold IntIn; omega)).mono ?_
    rintro e x4 ⟨g4, k4, rfl, o4, b4⟩
    rw [HUC.out] at o4
    have HO4' := hid (own_later HO3.out b4)
    have HR4 := hid (rd_row o4)
    have hB4' : Below w1.heap.size w1 x4 := HB3.out.trans (b4.mono HB3.out.size)
    have HB4' := hid hB4'
    have hs4' := hB4'.size
    clear o4 b4 p0 p1 p2 p3 p4 p5
    have p0 := cell_of_row _ _ 0 _ _ _ (HBX.out x4 hB4')
    have p1 := cell_of_row _ _ 1 _ _ _ (HBX.out x4 hB4')
    have p2 := cell_of_row _ _ 2 _ _ _ (HBX.out x4 hB4')
    have p3 := cell_of_row _ _ 3 _ _ _ (HBX.out x4 hB4')
    have p4 := cell_of_row _ _ 4 _ _ _ (HBX.out x4 hB4')
    have p5 := cell_of_row _ _ 5 _ _ _ (HBX.out x4 hB4')
    simp only [List.getElem?_toArray, List.getElem?_cons_zero, List.getElem?_cons_succ] at p0 p1 p2 p3 p4 p5
    clear hB4'
    go_wp2_with (first | (at_builtin; refine append_any rfl _ _ 24 rfl w1.heap.size 5 i0 (.int .u8 0) 1 Try.underlying24 hi hz0 hz1 hz2 rfl _ (2 + 4 + 8) _ rfl HO4'.out (some ⟨g4, 0, none⟩) 4 k4 (byt (digs C 4)) rfl (by rw [byt_len, digs_len]) (by simp) HR4.out (byt_one _) (by unfold maxLen; omega) (by omega) hs4' ?_))
    intro v4 y4 o4 g4'
    have HO4 := hid o4
    have hB4 : Below w1.heap.size w1 y4 := HB4'.out.grown g4' hs4' (fun p hp => (own_in HO4'.out hp).1)
    have HB4 := hid hB4
    have hs4 := hB4.size
    clear p0 p1 p2 p3 p4 p5
    have p0 := cell_of_row _ _ 0 _ _ _ (HBX.out y4 hB4)
    have p1 := cell_of_row _ _ 1 _ _ _ (HBX.out y4 hB4)
    have p2 := cell_of_row _ _ 2 _ _ _ (HBX.out y4 hB4)
    have p3 := cell_of_row _ _ 3 _ _ _ (HBX.out y4 hB4)
    have p4 := cell_of_row _ _ 4 _ _ _ (HBX.out y4 hB4)
    have p5 := cell_of_row _ _ 5 _ _ _ (HBX.out y4 hB4)
    simp only [List.getElem?_toArray, List.getElem?_cons_zero, List.getElem?_cons_succ] at p0 p1 p2 p3 p4 p5
    clear o4 g4' hB4
    have HN5 : Hid (Rd (y4.alloc (.cells #[.int .u8 1] 5)) (some ⟨y4.heap.size, 0, none⟩) (byt [1])) := hid (rd_row (own_built (cs := #[.int .u8 1]) (Nat.le_refl _) (by simp [maxLen])))
    have HB5' := hid (HB4.out.alloc (o := .cells #[.int .u8 1] 5) hs4)
    go_wp2_with (first | (at_builtin; refine append_any rfl _ _ 24 rfl w1.heap.size 5 i0 (.int .u8 0) 1 Try.underlying24 hi hz0 hz1 hz2 rfl _ (2 + 4 + 8 + 4) _ rfl (HO4.out.alloc _) (some ⟨y4.heap.size, 0, none⟩) 1 1 (byt [1]) rfl rfl (by simp) HN5.out (byt_one _) (by unfold maxLen; omega) (by omega) (by simp; omega) ?_))
    intro v5 y5 o5 g5'
    have HO5 := hid o5
    have hB5 : Below w1.heap.size w1 y5 := HB5'.out.grown g5' (by simp; omega) (fun p hp => (own_in HO4.out hp).1)
    have HB5 := hid hB5
    have hs5 := hB5.size
    clear p0 p1 p2 p3 p4 p5
    have p0 := cell_of_row _ _ 0 _ _ _ (HBX.out y5 hB5)
    have p1 := cell_of_row _ _ 1 _ _ _ (HBX.out y5 hB5)
    have p2 := cell_of_row _ _ 2 _ _ _ (HBX.out y5 hB5)
    have p3 := cell_of_row _ _ 3 _ _ _ (HBX.out y5 hB5)
    have p4 := cell_of_row _ _ 4 _ _ _ (HBX.out y5 hB5)
    have p5 := cell_of_row _ _ 5 _ _ _ (HBX.out y5 hB5)
    simp only [List.getElem?_toArray, List.getElem?_cons_zero, List.getElem?_cons_succ] at p0 p1 p2 p3 p4 p5
    clear o5 g5' hB5
    go_wp2_with fail
    refine (little_row (D.length : Int) 2 _ (by omega) (by omega) (by unfold IntIn; omega)).mono ?_
    rintro e x6 ⟨g6, k6, rfl, o6, b6⟩
    rw [HUD.out] at o6
    have HO6' := hid (own_later HO5.out b6)
    have HR6 := hid (rd_row o6)
    have hB6' : Below w1.heap.size w1 x6 := HB5.out.trans (b6.mono HB5.out.size)
    have HB6' := hid hB6'
    have hs6' := hB6'.size
    clear o6 b6 p0 p1 p2 p3 p4 p5
    have p0 := cell_of_row _ _ 0 _ _ _ (HBX.out x6 hB6')
    have p1 := cell_of_row _ _ 1 _ _ _ (HBX.out x6 hB6')
    have p2 := cell_of_row _ _ 2 _ _ _ (HBX.out x6 hB6')
    have p3 := cell_of_row _ _ 3 _ _ _ (HBX.out x6 hB6')
    have p4 := cell_of_row _ _ 4 _ _ _ (HBX.out x6 hB6')
    have p5 := cell_of_row _ _ 5 _ _ _ (HBX.out x6 hB6')
    simp only [List.getElem?_toArray, List.getElem?_cons_zero, List.getElem?_cons_succ] at p0 p1 p2 p3 p4 p5
    clear hB6'
    go_wp2_with (first | (at_builtin; refine append_any rfl _ _ 24 rfl w1.heap.size 5 i0 (.int .u8 0) 1 Try.underlying24 hi hz0 hz1 hz2 rfl _ (2 + 4 + 8 + 4 + 1) _ rfl HO6'.out (some ⟨g6, 0, none⟩) 2 k6 (byt (digs D.length 2)) rfl (by rw [byt_len, digs_len]) (by simp) HR6.out (byt_one _) (by unfold maxLen; omega) (by omega) hs6' ?_))
    intro v6 y6 o6 g6'
    have HO6 := hid o6
    have hB6 : Below w1.heap.size w1 y6 := HB6'.out.grown g6' hs6' (fun p hp => (own_in HO6'.out hp).1)
    have HB6 := hid hB6
    have hs6 := hB6.size
    clear p0 p1 p2 p3 p4 p5
    have p0 := cell_of_row _ _ 0 _ _ _ (HBX.out y6 hB6)
    have p1 := cell_of_row _ _ 1 _ _ _ (HBX.out y6 hB6)
    have p2 := cell_of_row _ _ 2 _ _ _ (HBX.out y6 hB6)
    have p3 := cell_of_row _ _ 3 _ _ _ (HBX.out y6 hB6)
    have p4 := cell_of_row _ _ 4 _ _ _ (HBX.out y6 hB6)
    have p5 := cell_of_row _ _ 5 _ _ _ (HBX.out y6 hB6)
    simp only [List.getElem?_toArray, List.getElem?_cons_zero, List.getElem?_cons_succ] at p0 p1 p2 p3 p4 p5
    clear o6 g6' hB6
    have HRD := hid (HR.out.later (below_chain HB1.out HB6.out)).rdB.1
    go_wp2_with (first | (at_builtin; refine append_any rfl _ _ 24 rfl w1.heap.size 5 i0 (.int .u8 0) 1 Try.underlying24 hi hz0 hz1 hz2 rfl _ (2 + 4 + 8 + 4 + 1 + 2) _ rfl HO6.out a D.length cap (byt D) rfl (byt_len _) HR.out.nil0 HRD.out (byt_one _) (by unfold maxLen; omega) (by omega) hs6 ?_))
    intro v7 y7 o7 g7'
    have HO7 := hid o7
    have hB7 : Below w1.heap.size w1 y7 := HB6.out.grown g7' hs6 (fun p hp => (own_in HO6.out hp).1)
    have HB7 := hid hB7
    have hs7 := hB7.size
    clear p0 p1 p2 p3 p4 p5
    have p0 := cell_of_row _ _ 0 _ _ _ (HBX.out y7 hB7)
    have p1 := cell_of_row _ _ 1 _ _ _ (HBX.out y7 hB7)
    have p2 := cell_of_row _ _ 2 _ _ _ (HBX.out y7 hB7)
    have p3 := cell_of_row _ _ 3 _ _ _ (HBX.out y7 hB7)
    have p4 := cell_of_row _ _ 4 _ _ _ (HBX.out y7 hB7)
    have p5 := cell_of_row _ _ 5 _ _ _ (HBX.out y7 hB7)
    simp only [List.getElem?_toArray, List.getElem?_cons_zero, List.getElem?_cons_succ] at p0 p1 p2 p3 p4 p5
    clear o7 g7' hB7
    have ho : y7.ownsRow w1.heap.size 5 1 v7 (21 + D.length) (byt ([67, K] ++ (digs E 4 ++ (digs S 8 ++ (digs C 4 ++ ([1] ++ (digs D.length 2 ++ D))))))) := by
      have h := HO7.out
      simp only [← byt_append] at h
      exact h
    skip
    obtain ⟨a8, c8, e8, hr8⟩ := rd_own ho
    subst e8
    have HO8 := hid ho
    have HQ8 : Hid (Calls Try.prog 44 #[.slice a8 (21 + D.length) c8] y7 fun e w' => e = .returned (.int .u32 ((crcM ([67, K] ++ (digs E 4 ++ (digs S 8 ++ (digs C 4 ++ ([1] ++ (digs D.length 2 ++ D)))))) : Nat) : Int)) ∧ w' = y7) := hid (by
      have h := specCrc_any a8 c8 ([67, K] ++ (digs E 4 ++ (digs S 8 ++ (digs C 4 ++ ([1] ++ (digs D.length 2 ++ D)))))) y7 hr8 HYB.out (by rw [HYL.out]; omega)
      rw [HYL.out] at h
      exact h)
    have hcr := crcM_lt _ HYB.out
    clear ho hr8 HO7
    generalize hY : [67, K] ++ (digs E 4 ++ (digs S 8 ++ (digs C 4 ++ ([1] ++ (digs D.length 2 ++ D))))) = Y at *
    have HY := hid hY
    clear hY
    generalize crcM Y = R at *
    have hwR := wrap64n R (by omega)
    have HUR : Hid (U (R : Int) = R) := hid (U_nat _ (by omega))
    go_wp2_with fail
    refine HQ8.out.mono ?_
    rintro e w9 ⟨rfl, rfl⟩
    go_wp2_with fail
    refine (little_row (R : Int) 4 w9 (by omega) (by omega) (by unfold IntIn; omega)).mono ?_
    rintro e w10 ⟨g10, c10, rfl, o10, b10⟩
    rw [HUR.out] at o10
    have HO10 := hid (own_later HO8.out b10)
    have HR10 := hid (rd_row o10)
    have hB10 := HB7.out.trans (b10.mono HB7.out.size)
    have HB10 := hid hB10
    have hs10 := hB10.size
    clear o10 b10 hB10 HO8
    go_wp2_with (first | (at_builtin; refine append_any rfl _ _ 24 rfl w1.heap.size 5 i0 (.int .u8 0) 1 Try.underlying24 hi hz0 hz1 hz2 rfl _ (21 + D.length) _ rfl HO10.out (some ⟨g10, 0, none⟩) 4 c10 (byt (digs R 4)) rfl (by rw [byt_len, digs_len]) (by simp) HR10.out (byt_one _) (by unfold maxLen; omega) (by omega) hs10 ?_))
    intro v11 w11 ho11 hg11
    have HB11 : Hid (Below w1.heap.size w1 w11) := hid (HB10.out.grown hg11 hs10 (fun p hp => (own_in HO10.out hp).1))
    rw [← byt_append] at ho11
    obtain ⟨a11, c11, rfl, -⟩ := rd_own ho11
    have hEL : (encP K E S C true D).length = 21 + D.length + 4 := by rw [HLL.out, List.length_append, HYL.out, digs_len]
    have HF : Hid (w11.ownsRow w.heap.size 5 1 (.slice a11 (encP K E S C true D).length c11) (encP K E S C true D).length (byt (encP K E S C true D))) := hid (by
      rw [hEL, HLL.out]
      exact own_mono ho11 (by omega))
    have HEL := hid hEL
    clear ho11 hg11 hEL
    go_wp2
    go_ret
    exact ⟨a11, c11, by rw [HEL.out]; rfl, HF.out, below_chain HB1.out HB11.out⟩
  | false =>
    rw [show lastN false = 0 from rfl] at HLL HYB HYL
    go_enter Try.func19, Try.ntmps19
    go_wp2_with fail
    refine HV.out.mono ?_
    rintro e w1 ⟨rfl, b1⟩
    have hX : w1.heap[w.heap.size]? = some (.cells #[.int .i64 (K : Int), .int .i64 (E : Int), .int .i64 (S : Int), .int .i64 (C : Int), .bool false, .slice a D.length cap] 35 (0, 0)) := (b1.block _ (Array.getElem?_eq_some_iff.1 HK0.out).1).trans HK0.out
    have hG := (Array.getElem?_eq_some_iff.1 hX).1
    have HBX : Hid (∀ w', Below w1.heap.size w1 w' → w'.heap[w.heap.size]? = some (.cells #[.int .i64 (K : Int), .int .i64 (E : Int), .int .i64 (S : Int), .int .i64 (C : Int), .bool false, .slice a D.length cap] 35 (0, 0))) := hid (fun w' hb => (hb.block _ hG).trans hX)
    have HB1 := hid (below_chain HB0.out b1)
    have hs1 := HB1.out.size
    clear b1 HB0 HK0 HV
    have p0 := cell_of_row _ _ 0 _ _ _ (HBX.out w1 (Below.refl _ _))
    have p1 := cell_of_row _ _ 1 _ _ _ (HBX.out w1 (Below.refl _ _))
    have p2 := cell_of_row _ _ 2 _ _ _ (HBX.out w1 (Below.refl _ _))
    have p3 := cell_of_row _ _ 3 _ _ _ (HBX.out w1 (Below.refl _ _))
    have p4 := cell_of_row _ _ 4 _ _ _ (HBX.out w1 (Below.refl _ _))
    have p5 := cell_of_row _ _ 5 _ _ _ (HBX.out w1 (Below.refl _ _))
    simp only [List.getElem?_toArray, List.getElem?_cons_zero, List.getElem?_cons_succ] at p0 p1 p2 p3 p4 p5
    have HO0 : Hid ((w1.alloc (.cells #[.int .u8 67, .int .u8 (K : Int)] 5)).ownsRow w1.heap.size 5 1 (.slice (some ⟨w1.heap.size, 0, none⟩) 2 2) 2 (byt [67, K])) := hid (own_built (cs := #[.int .u8 67, .int .u8 (K : Int)]) (Nat.le_refl _) (by simp [maxLen]))
    have HBA := hid (below_new1 w1 (.cells #[.int .u8 67, .int .u8 (K : Int)] 5))
    go_wp2_with fail
    refine (little_row (E : Int) 4 _ (by omega) (by omega) (by unfold IntIn; omega)).mono ?_
    rintro e x2 ⟨g2, k2, rfl, o2, b2⟩
    rw [HUE.out] at o2
    have HO2' := hid (own_later HO0.out b2)
    have HR2 := hid (rd_row o2)
    have hB2' : Below w1.heap.size w1 x2 := HBA.out.trans (b2.mono HBA.out.size)
    have HB2' := hid hB2'
    have hs2' := hB2'.size
    clear o2 b2 p0 p1 p2 p3 p4 p5
    have p0 := cell_of_row _ _ 0 _ _ _ (HBX.out x2 hB2')
    have p1 := cell_of_row _ _ 1 _ _ _ (HBX.out x2 hB2')
    have p2 := cell_of_row _ _ 2 _ _ _ (HBX.out x2 hB2')
    have p3 := cell_of_row _ _ 3 _ _ _ (HBX.out x2 hB2')
    have p4 := cell_of_row _ _ 4 _ _ _ (HBX.out x2 hB2')
    have p5 := cell_of_row _ _ 5 _ _ _ (HBX.out x2 hB2')
    simp only [List.getElem?_toArray, List.getElem?_cons_zero, List.getElem?_cons_succ] at p0 p1 p2 p3 p4 p5
    clear hB2'
    go_wp2_with (first | (at_builtin; refine append_any rfl _ _ 24 rfl w1.heap.size 5 i0 (.int .u8 0) 1 Try.underlying24 hi hz0 hz1 hz2 rfl _ (2) _ rfl HO2'.out (some ⟨g2, 0, none⟩) 4 k2 (byt (digs E 4)) rfl (by rw [byt_len, digs_len]) (by simp) HR2.out (byt_one _) (by unfold maxLen; omega) (by omega) hs2' ?_))
    intro v2 y2 o2 g2'
    have HO2 := hid o2
    have hB2 : Below w1.heap.size w1 y2 := HB2'.out.grown g2' hs2' (fun p hp => (own_in HO2'.out hp).1)
    have HB2 := hid hB2
    have hs2 := hB2.size
    clear p0 p1 p2 p3 p4 p5
    have p0 := cell_of_row _ _ 0 _ _ _ (HBX.out y2 hB2)
    have p1 := cell_of_row _ _ 1 _ _ _ (HBX.out y2 hB2)
    have p2 := cell_of_row _ _ 2 _ _ _ (HBX.out y2 hB2)
    have p3 := cell_of_row _ _ 3 _ _ _ (HBX.out y2 hB2)
    have p4 := cell_of_row _ _ 4 _ _ _ (HBX.out y2 hB2)
    have p5 := cell_of_row _ _ 5 _ _ _ (HBX.out y2 hB2)
    simp only [List.getElem?_toArray, List.getElem?_cons_zero, List.getElem?_cons_succ] at p0 p1 p2 p3 p4 p5
    clear o2 g2' hB2
    go_wp2_with fail
    refine (little_row (S : Int) 8 _ (by omega) (by omega) (by unfold IntIn; omega)).mono ?_
    rintro e x3 ⟨g3, k3, rfl, o3, b3⟩
    rw [HUS.out] at o3
    have HO3' := hid (own_later HO2.out b3)
    have HR3 := hid (rd_row o3)
    have hB3' : Below w1.heap.size w1 x3 := HB2.out.trans (b3.mono HB2.out.size)
    have HB3' := hid hB3'
    have hs3' := hB3'.size
    clear o3 b3 p0 p1 p2 p3 p4 p5
    have p0 := cell_of_row _ _ 0 _ _ _ (HBX.out x3 hB3')
    have p1 := cell_of_row _ _ 1 _ _ _ (HBX.out x3 hB3')
    have p2 := cell_of_row _ _ 2 _ _ _ (HBX.out x3 hB3')
    have p3 := cell_of_row _ _ 3 _ _ _ (HBX.out x3 hB3')
    have p4 := cell_of_row _ _ 4 _ _ _ (HBX.out x3 hB3')
    have p5 := cell_of_row _ _ 5 _ _ _ (HBX.out x3 hB3')
    simp only [List.getElem?_toArray, List.getElem?_cons_zero, List.getElem?_cons_succ] at p0 p1 p2 p3 p4 p5
    clear hB3'
    go_wp2_with (first | (at_builtin; refine append_any rfl _ _ 24 rfl w1.heap.size 5 i0 (.int .u8 0) 1 Try.underlying24 hi hz0 hz1 hz2 rfl _ (2 + 4) _ rfl HO3'.out (some ⟨g3, 0, none⟩) 8 k3 (byt (digs S 8)) rfl (by rw [byt_len, digs_len]) (by simp) HR3.out (byt_one _) (by unfold maxLen; omega) (by omega) hs3' ?_))
    intro v3 y3 o3 g3'
    have HO3 := hid o3
    have hB3 : Below w1.heap.size w1 y3 := HB3'.out.grown g3' hs3' (fun p hp => (own_in HO3'.out hp).1)
    have HB3 := hid hB3
    have hs3 := hB3.size
    clear p0 p1 p2 p3 p4 p5
    have p0 := cell_of_row _ _ 0 _ _ _ (HBX.out y3 hB3)
    have p1 := cell_of_row _ _ 1 _ _ _ (HBX.out y3 hB3)
    have p2 := cell_of_row _ _ 2 _ _ _ (HBX.out y3 hB3)
    have p3 := cell_of_row _ _ 3 _ _ _ (HBX.out y3 hB3)
    have p4 := cell_of_row _ _ 4 _ _ _ (HBX.out y3 hB3)
    have p5 := cell_of_row _ _ 5 _ _ _ (HBX.out y3 hB3)
    simp only [List.getElem?_toArray, List.getElem?_cons_zero, List.getElem?_cons_succ] at p0 p1 p2 p3 p4 p5
    clear o3 g3' hB3
    go_wp2_with fail
    refine (little_row (C : Int) 4 _ (by omega) (by omega) (by unfold IntIn; omega)).mono ?_
    rintro e x4 ⟨g4, k4, rfl, o4, b4⟩
    rw [HUC.out] at o4
    have HO4' := hid (own_later HO3.out b4)
    have HR4 := hid (rd_row o4)
    have hB4' : Below w1.heap.size w1 x4 := HB3.out.trans (b4.mono HB3.out.size)
    have HB4' := hid hB4'
    have hs4' := hB4'.size
    clear o4 b4 p0 p1 p2 p3 p4 p5
    have p0 := cell_of_row _ _ 0 _ _ _ (HBX.out x4 hB4')
    have p1 := cell_of_row _ _ 1 _ _ _ (HBX.out x4 hB4')
    have p2 := cell_of_row _ _ 2 _ _ _ (HBX.out x4 hB4')
    have p3 := cell_of_row _ _ 3 _ _ _ (HBX.out x4 hB4')
    have p4 := cell_of_row _ _ 4 _ _ _ (HBX.out x4 hB4')
    have p5 := cell_of_row _ _ 5 _ _ _ (HBX.out x4 hB4')
    simp only [List.getElem?_toArray, List.getElem?_cons_zero, List.getElem?_cons_succ] at p0 p1 p2 p3 p4 p5
    clear hB4'
    go_wp2_with (first | (at_builtin; refine append_any rfl _ _ 24 rfl w1.heap.size 5 i0 (.int .u8 0) 1 Try.underlying24 hi hz0 hz1 hz2 rfl _ (2 + 4 + 8) _ rfl HO4'.out (some ⟨g4, 0, none⟩) 4 k4 (byt (digs C 4)) rfl (by rw [byt_len, digs_len]) (by simp) HR4.out (byt_one _) (by unfold maxLen; omega) (by omega) hs4' ?_))
    intro v4 y4 o4 g4'
    have HO4 := hid o4
    have hB4 : Below w1.heap.size w1 y4 := HB4'.out.grown g4' hs4' (fun p hp => (own_in HO4'.out hp).1)
    have HB4 := hid hB4
    have hs4 := hB4.size
    clear p0 p1 p2 p3 p4 p5
    have p0 := cell_of_row _ _ 0 _ _ _ (HBX.out y4 hB4)
    have p1 := cell_of_row _ _ 1 _ _ _ (HBX.out y4 hB4)
    have p2 := cell_of_row _ _ 2 _ _ _ (HBX.out y4 hB4)
    have p3 := cell_of_row _ _ 3 _ _ _ (HBX.out y4 hB4)
    have p4 := cell_of_row _ _ 4 _ _ _ (HBX.out y4 hB4)
    have p5 := cell_of_row _ _ 5 _ _ _ (HBX.out y4 hB4)
    simp only [List.getElem?_toArray, List.getElem?_cons_zero, List.getElem?_cons_succ] at p0 p1 p2 p3 p4 p5
    clear o4 g4' hB4
    have HN5 : Hid (Rd (y4.alloc (.cells #[.int .u8 0] 5)) (some ⟨y4.heap.size, 0, none⟩) (byt [0])) := hid (rd_row (own_built (cs := #[.int .u8 0]) (Nat.le_refl _) (by simp [maxLen])))
    have HB5' := hid (HB4.out.alloc (o := .cells #[.int .u8 0] 5) hs4)
    go_wp2_with (first | (at_builtin; refine append_any rfl _ _ 24 rfl w1.heap.size 5 i0 (.int .u8 0) 1 Try.underlying24 hi hz0 hz1 hz2 rfl _ (2 + 4 + 8 + 4) _ rfl (HO4.out.alloc _) (some ⟨y4.heap.size, 0, none⟩) 1 1 (byt [0]) rfl rfl (by simp) HN5.out (byt_one _) (by unfold maxLen; omega) (by omega) (by simp; omega) ?_))
    intro v5 y5 o5 g5'
    have HO5 := hid o5
    have hB5 : Below w1.heap.size w1 y5 := HB5'.out.grown g5' (by simp; omega) (fun p hp => (own_in HO4.out hp).1)
    have HB5 := hid hB5
    have hs5 := hB5.size
    clear p0 p1 p2 p3 p4 p5
    have p0 := cell_of_row _ _ 0 _ _ _ (HBX.out y5 hB5)
    have p1 := cell_of_row _ _ 1 _ _ _ (HBX.out y5 hB5)
    have p2 := cell_of_row _ _ 2 _ _ _ (HBX.out y5 hB5)
    have p3 := cell_of_row _ _ 3 _ _ _ (HBX.out y5 hB5)
    have p4 := cell_of_row _ _ 4 _ _ _ (HBX.out y5 hB5)
    have p5 := cell_of_row _ _ 5 _ _ _ (HBX.out y5 hB5)
    simp only [List.getElem?_toArray, List.getElem?_cons_zero, List.getElem?_cons_succ] at p0 p1 p2 p3 p4 p5
    clear o5 g5' hB5
    go_wp2_with fail
    refine (little_row (D.length : Int) 2 _ (by omega) (by omega) (by unfold IntIn; omega)).mono ?_
    rintro e x6 ⟨g6, k6, rfl, o6, b6⟩
    rw [HUD.out] at o6
    have HO6' := hid (own_later HO5.out b6)
    have HR6 := hid (rd_row o6)
    have hB6' : Below w1.heap.size w1 x6 := HB5.out.trans (b6.mono HB5.out.size)
    have HB6' := hid hB6'
    have hs6' := hB6'.size
    clear o6 b6 p0 p1 p2 p3 p4 p5
    have p0 := cell_of_row _ _ 0 _ _ _ (HBX.out x6 hB6')
    have p1 := cell_of_row _ _ 1 _ _ _ (HBX.out x6 hB6')
    have p2 := cell_of_row _ _ 2 _ _ _ (HBX.out x6 hB6')
    have p3 := cell_of_row _ _ 3 _ _ _ (HBX.out x6 hB6')
    have p4 := cell_of_row _ _ 4 _ _ _ (HBX.out x6 hB6')
    have p5 := cell_of_row _ _ 5 _ _ _ (HBX.out x6 hB6')
    simp only [List.getElem?_toArray, List.getElem?_cons_zero, List.getElem?_cons_succ] at p0 p1 p2 p3 p4 p5
    clear hB6'
    go_wp2_with (first | (at_builtin; refine append_any rfl _ _ 24 rfl w1.heap.size 5 i0 (.int .u8 0) 1 Try.underlying24 hi hz0 hz1 hz2 rfl _ (2 + 4 + 8 + 4 + 1) _ rfl HO6'.out (some ⟨g6, 0, none⟩) 2 k6 (byt (digs D.length 2)) rfl (by rw [byt_len, digs_len]) (by simp) HR6.out (byt_one _) (by unfold maxLen; omega) (by omega) hs6' ?_))
    intro v6 y6 o6 g6'
    have HO6 := hid o6
    have hB6 : Below w1.heap.size w1 y6 := HB6'.out.grown g6' hs6' (fun p hp => (own_in HO6'.out hp).1)
    have HB6 := hid hB6
    have hs6 := hB6.size
    clear p0 p1 p2 p3 p4 p5
    have p0 := cell_of_row _ _ 0 _ _ _ (HBX.out y6 hB6)
    have p1 := cell_of_row _ _ 1 _ _ _ (HBX.out y6 hB6)
    have p2 := cell_of_row _ _ 2 _ _ _ (HBX.out y6 hB6)
    have p3 := cell_of_row _ _ 3 _ _ _ (HBX.out y6 hB6)
    have p4 := cell_of_row _ _ 4 _ _ _ (HBX.out y6 hB6)
    have p5 := cell_of_row _ _ 5 _ _ _ (HBX.out y6 hB6)
    simp only [List.getElem?_toArray, List.getElem?_cons_zero, List.getElem?_cons_succ] at p0 p1 p2 p3 p4 p5
    clear o6 g6' hB6
    have HRD := hid (HR.out.later (below_chain HB1.out HB6.out)).rdB.1
    go_wp2_with (first | (at_builtin; refine append_any rfl _ _ 24 rfl w1.heap.size 5 i0 (.int .u8 0) 1 Try.underlying24 hi hz0 hz1 hz2 rfl _ (2 + 4 + 8 + 4 + 1 + 2) _ rfl HO6.out a D.length cap (byt D) rfl (byt_len _) HR.out.nil0 HRD.out (byt_one _) (by unfold maxLen; omega) (by omega) hs6 ?_))
    intro v7 y7 o7 g7'
    have HO7 := hid o7
    have hB7 : Below w1.heap.size w1 y7 := HB6.out.grown g7' hs6 (fun p hp => (own_in HO6.out hp).1)
    have HB7 := hid hB7
    have hs7 := hB7.size
    clear p0 p1 p2 p3 p4 p5
    have p0 := cell_of_row _ _ 0 _ _ _ (HBX.out y7 hB7)
    have p1 := cell_of_row _ _ 1 _ _ _ (HBX.out y7 hB7)
    have p2 := cell_of_row _ _ 2 _ _ _ (HBX.out y7 hB7)
    have p3 := cell_of_row _ _ 3 _ _ _ (HBX.out y7 hB7)
    have p4 := cell_of_row _ _ 4 _ _ _ (HBX.out y7 hB7)
    have p5 := cell_of_row _ _ 5 _ _ _ (HBX.out y7 hB7)
    simp only [List.getElem?_toArray, List.getElem?_cons_zero, List.getElem?_cons_succ] at p0 p1 p2 p3 p4 p5
    clear o7 g7' hB7
    have ho : y7.ownsRow w1.heap.size 5 1 v7 (21 + D.length) (byt ([67, K] ++ (digs E 4 ++ (digs S 8 ++ (digs C 4 ++ ([0] ++ (digs D.length 2 ++ D))))))) := by
      have h := HO7.out
      simp only [← byt_append] at h
      exact h
    skip
    obtain ⟨a8, c8, e8, hr8⟩ := rd_own ho
    subst e8
    have HO8 := hid ho
    have HQ8 : Hid (Calls Try.prog 44 #[.slice a8 (21 + D.length) c8] y7 fun e w' => e = .returned (.int .u32 ((crcM ([67, K] ++ (digs E 4 ++ (digs S 8 ++ (digs C 4 ++ ([0] ++ (digs D.length 2 ++ D)))))) : Nat) : Int)) ∧ w' = y7) := hid (by
      have h := specCrc_any a8 c8 ([67, K] ++ (digs E 4 ++ (digs S 8 ++ (digs C 4 ++ ([0] ++ (digs D.length 2 ++ D)))))) y7 hr8 HYB.out (by rw [HYL.out]; omega)
      rw [HYL.out] at h
      exact h)
    have hcr := crcM_lt _ HYB.out
    clear ho hr8 HO7
    generalize hY : [67, K] ++ (digs E 4 ++ (digs S 8 ++ (digs C 4 ++ ([0] ++ (digs D.length 2 ++ D))))) = Y at *
    have HY := hid hY
    clear hY
    generalize crcM Y = R at *
    have hwR := wrap64n R (by omega)
    have HUR : Hid (U (R : Int) = R) := hid (U_nat _ (by omega))
    go_wp2_with fail
    refine HQ8.out.mono ?_
    rintro e w9 ⟨rfl, rfl⟩
    go_wp2_with fail
    refine (little_row (R : Int) 4 w9 (by omega) (by omega) (by unfold IntIn; omega)).mono ?_
    rintro e w10 ⟨g10, c10, rfl, o10, b10⟩
    rw [HUR.out] at o10
    have HO10 := hid (own_later HO8.out b10)
    have HR10 := hid (rd_row o10)
    have hB10 := HB7.out.trans (b10.mono HB7.out.size)
    have HB10 := hid hB10
    have hs10 := hB10.size
    clear o10 b10 hB10 HO8
    go_wp2_with (first | (at_builtin; refine append_any rfl _ _ 24 rfl w1.heap.size 5 i0 (.int .u8 0) 1 Try.underlying24 hi hz0 hz1 hz2 rfl _ (21 + D.length) _ rfl HO10.out (some ⟨g10, 0, none⟩) 4 c10 (byt (digs R 4)) rfl (by rw [byt_len, digs_len]) (by simp) HR10.out (byt_one _) (by unfold maxLen; omega) (by omega) hs10 ?_))
    intro v11 w11 ho11 hg11
    have HB11 : Hid (Below w1.heap.size w1 w11) := hid (HB10.out.grown hg11 hs10 (fun p hp => (own_in HO10.out hp).1))
    rw [← byt_append] at ho11
    obtain ⟨a11, c11, rfl, -⟩ := rd_own ho11
    have hEL : (encP K E S C false D).length = 21 + D.length + 4 := by rw [HLL.out, List.length_append, HYL.out, digs_len]
    have HF : Hid (w11.ownsRow w.heap.size 5 1 (.slice a11 (encP K E S C false D).length c11) (encP K E S C false D).length (byt (encP K E S C false D))) := hid (by
      rw [hEL, HLL.out]
      exact own_mono ho11 (by omega))
    have HEL := hid hEL
    clear ho11 hg11 hEL
    go_wp2
    go_ret
    exact ⟨a11, c11, by rw [HEL.out]; rfl, HF.out, below_chain HB1.out HB11.out⟩
set_option maxHeartbeats 4000000 in
theorem specPkt_any (p : PP) (a : Option Addr) (cap : Nat) (w : World) (hr : RdSl cByte w p.data (.slice a p.data.length cap)) :
    Calls Try.prog 19 #[.agg #[.int .i64 p.kind, .int .i64 p.epoch, .int .i64 p.seq, .int .i64 p.count, .bool p.last, .slice a p.data.length cap]] w (EncPost w (pktR p)) := by
  obtain ⟨kind, epoch, seq, count, last, D⟩ := p
  dsimp only at *
  have hml : D.length ≤ maxLen := by
    obtain ⟨a', cap', e', h1, h2, _⟩ := hr
    omega
  have HV := hid (l5valid_any ⟨kind, epoch, seq, count, last, D⟩ a cap (w.alloc (.cells #[.int .i64 kind, .int .i64 epoch, .int .i64 seq, .int .i64 count, .bool last, .slice a D.length cap] 35)) hml)
  dsimp only at HV
  have HB0 := hid (below_new1 w (.cells #[.int .i64 kind, .int .i64 epoch, .int .i64 seq, .int .i64 count, .bool last, .slice a D.length cap] 35))
  cases hok : pktOK ⟨kind, epoch, seq, count, last, D⟩ with
  | false =>
    have HR0 := hid (pktR_bad hok)
    rw [hok] at HV
    clear hok hr
    rw [HR0.out]
    go_enter Try.func19, Try.ntmps19
    go_wp2_with fail
    refine HV.out.mono ?_
    rintro e w1 ⟨rfl, b1⟩
    go_wp2
    go_ret
    exact encPost_nil (below_chain HB0.out b1) rfl
  | true =>
    rw [hok] at HV
    rw [pktR_ok hok]
    have h1 : PktOK ⟨kind, epoch, seq, count, last, D⟩ := of_decide_eq_true hok
    unfold PktOK at h1
    dsimp only at h1
    obtain ⟨K, rfl⟩ : ∃ K : Nat, kind = K := ⟨kind.toNat, by omega⟩
    obtain ⟨E, rfl⟩ : ∃ E : Nat, epoch = E := ⟨epoch.toNat, by omega⟩
    obtain ⟨S, rfl⟩ : ∃ S : Nat, seq = S := ⟨seq.toNat, by omega⟩
    obtain ⟨C, rfl⟩ : ∃ C : Nat, count = C := ⟨count.toNat, by omega⟩
    have hB : pktB ⟨(K : Int), (E : Int), (S : Int), (C : Int), last, D⟩ = encP K E S C last D := by simp [pktB]
    rw [hB]
    exact specPkt_ok K E S C last D a cap w hr (by omega) (by omega) (by omega) (by omega) (by omega) HV.out
end Go.Proofs.Ytcljakdcejhfiab
