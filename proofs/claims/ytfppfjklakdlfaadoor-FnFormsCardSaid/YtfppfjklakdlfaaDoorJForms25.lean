import Derived.Test.YtfppfjklakdlfaaDoorJForms1
import Derived.Test.YtfppfjklakdlfaaDoorJForms4
import Derived.Test.YtfppfjklakdlfaaDoorJForms14
import Derived.Test.YtfppfjklakdlfaaDoorJForms18
import Derived.Test.YtfppfjklakdlfaaDoorJForms24
import Derived.Test.YtfppfjklakdlfaaDoorJForms15
import Derived.Deep.DeepCutAuto
import Derived.Deep.RegionHeld3
namespace Go.Proofs.YtfppfjklakdlfaaDoor
open Go.RowKit
def drawnB (xs : List Nat) (j : Nat) : Nat → List (List Nat) × Nat
  | 0 => ([], j)
  | n + 1 => ((drawnB xs j n).1 ++ [drawn xs (drawnB xs j n).2 20], (drawnB xs j n).2 + 1 + nxt xs (drawnB xs j n).2 % 20)
theorem drawnB_len (xs : List Nat) (j n : Nat) : (drawnB xs j n).1.length = n := by
  induction n with
  | zero => rfl
  | succ n ih => simp [drawnB, ih]
theorem infoSlDM : (Tryd.prog.info? 22).map (fun i => (i.zero, i.size, i.bytes)) = some (some (.slice none 0 0), 1, 24) := by kernel_rfl
def dmK (xs : List Nat) : Nat := 1 + nxt xs 0 % 4
def dmJ (xs : List Nat) : Nat := if dmK xs = 2 ∨ dmK xs = 3 then 3 else 2
def dmF (xs : List Nat) : Nat := if dmK xs = 2 ∨ dmK xs = 3 then nxt xs 2 % 12 else 0
theorem dmF_lt (xs : List Nat) : dmF xs < 12 := by
  unfold dmF
  split
  · exact Nat.mod_lt _ (by omega)
  · omega
def dmN (xs : List Nat) : Nat := nxt xs (dmJ xs) % 6
def dmB (xs : List Nat) : List (List Nat) := (drawnB xs (dmJ xs + 1) (dmN xs)).1
def dmE (xs : List Nat) : Nat := (drawnB xs (dmJ xs + 1) (dmN xs)).2
def dmsg (xs : List Nat) : PM :=
  if nxt xs 0 = 250 then ⟨5, dmF xs, nxt xs 1, dmB xs⟩
  else if nxt xs 0 = 251 then ⟨dmK xs, (dmF xs : Int) + 12 - 1, nxt xs 1, dmB xs⟩
  else if nxt xs 0 = 252 then ⟨dmK xs, dmF xs, 1000 + ((nxt xs (dmE xs) : Nat) : Int) % 2, dmB xs⟩
  else if nxt xs 0 = 253 then ⟨dmK xs, dmF xs, nxt xs 1, dmB xs ++ List.replicate (40 + nxt xs (dmE xs + (40 - dmN xs)) % 2 - dmN xs) []⟩
  else if nxt xs 0 = 254 then ⟨dmK xs, dmF xs, nxt xs 1, [List.replicate (19972 + nxt xs (dmE xs) % 16) 7]⟩
  else if nxt xs 0 = 255 then ⟨dmK xs, dmF xs, -1, dmB xs⟩
  else ⟨dmK xs, dmF xs, nxt xs 1, dmB xs⟩
set_option maxRecDepth 100000 in
set_option maxHeartbeats 8000000 in
theorem drawM_any (a : Option Addr) (cap : Nat) (ys : List Nat) (w : World) (hr : RdSl cByte w ys (.slice a ys.length cap)) (hl : ys.length ≤ 1048576) :
    Calls Tryd.prog 13 #[.slice a ys.length cap] w fun e w' => ∃ v c, e = .returned (.agg #[.int .i64 (dmsg (ys.take 600)).kind, .int .i64 (dmsg (ys.take 600)).field, .int .i64 (dmsg (ys.take 600)).count, .slice v (dmsg (ys.take 600)).bufs.length c]) ∧ RdSl cSS w' (dmsg (ys.take 600)).bufs (.slice v (dmsg (ys.take 600)).bufs.length c) ∧ Below w.heap.size w w' := by
  obtain ⟨j0, hj, hy0, hy1, hy2⟩ := info_parts infoSlDM
  have HR := hid hr.rdB.1
  have HBY := hid (take_lt hr.rdB.2 600)
  have hxl := take_len ys
  obtain ⟨hcap, hnil⟩ : ys.length ≤ cap ∧ (a = none → cap = 0) := by
    have h0 := hr.nil0
    obtain ⟨a', c', e', g1, g2, _⟩ := hr
    simp only [Value.slice.injEq] at e'
    exact ⟨by omega, fun h => (h0 h).2⟩
  clear hr
  go_enter Tryd.func13, Tryd.ntmps13
  go_wp2_with fail
  have hb0 := below_new1 w (.cells #[.int .i64 0, .int .i64 0, .int .i64 0, .slice none 0 0] 25)
  have HK0 : Hid ((w.alloc (.cells #[.int .i64 0, .int .i64 0, .int .i64 0, .slice none 0 0] 25)).heap[w.heap.size]? = some (.cells #[.int .i64 0, .int .i64 0, .int .i64 0, .slice none 0 0] 25 (0, 0))) := hid (heap_alloc_new w _)
  have hs0 : (w.alloc (.cells #[.int .i64 0, .int .i64 0, .int .i64 0, .slice none 0 0] 25)).heap.size = w.heap.size + 1 := by simp
  generalize (w.alloc (.cells #[.int .i64 0, .int .i64 0, .int .i64 0, .slice none 0 0] 25)) = w0 at *
  refine (open_any a cap ys w0 (HR.out.later hb0) hcap hnil hl).mono ?_
  rintro e w1 ⟨a', c', rfl, hrd, hab0, bl1, hs1⟩
  have HK1 : Hid (w1.heap[w.heap.size]? = some (.cells #[.int .i64 0, .int .i64 0, .int .i64 0, .slice none 0 0] 25 (0, 0))) := hid ((bl1.block _ (by omega)).trans HK0.out)
  have B1 := below_chain hb0 bl1
  have HS0 := hid hs0
  have HS1 := hid hs1
  clear hs0 hs1
  have HRD := hid hrd
  have HAB := hid hab0
  clear hrd hab0 HR hcap hnil bl1 hb0
  obtain ⟨xs, hxs⟩ : ∃ xs, xs = ys.take 600 := ⟨_, rfl⟩
  rw [← hxs] at HBY hxl HRD HAB
  have HXS := hid hxs
  clear hxs
  go_wp2_with fail
  refine (next_any _ c' 0 a' xs w1 HRD.out hxl HBY.out).mono ?_
  rintro e w2 ⟨rfl, r2, g2⟩
  have HR2 := hid r2
  have HG2 := hid g2
  clear r2 g2
  have hk : nxt xs 0 < 256 := nxt_lt HBY.out 0
  obtain ⟨k, hkk⟩ : ∃ k : Nat, k = nxt xs 0 := ⟨_, rfl⟩
  rw [← hkk] at hk ⊢
  have HKK := hid hkk
  clear hkk
  go_wp2_with fail
  obtain ⟨K, hK⟩ : ∃ K : Nat, K = 1 + k % 4 := ⟨_, rfl⟩
  have hKi : 1 + (k : Int) % 4 = (K : Int) := by rw [hK]; simp
  have HKD : Hid (dmK xs = K) := hid (by unfold dmK; rw [← HKK.out, hK])
  have hKb : 1 ≤ K ∧ K ≤ 4 := by omega
  rw [hKi]
  clear hKi hK
  refine (next_any _ c' 1 a' xs w2 HR2.out hxl HBY.out).mono ?_
  rintro e w3 ⟨rfl, r3, g3⟩
  have hC : nxt xs 1 < 256 := nxt_lt HBY.out 1
  obtain ⟨C, hCC⟩ : ∃ C : Nat, C = nxt xs 1 := ⟨_, rfl⟩
  rw [← hCC] at hC ⊢
  have HCC := hid hCC
  clear hCC
  have hR : w0.heap.size < w3.heap.size := by have := HG2.out.size; have := g3.size; have := HS1.out; omega
  have B3 : Below w.heap.size w w3 := (B1.grown HG2.out B1.size (fun p hp => by simp at hp; have := HS0.out; omega)).grown g3 (Nat.le_trans B1.size HG2.out.size) (fun p hp => by simp at hp; have := HS0.out; omega)
  have HK3 : Hid (w3.heap[w.heap.size]? = some (.cells #[.int .i64 0, .int .i64 0, .int .i64 0, .slice none 0 0] 25 (0, 0))) := hid ((g3.block _ (by have := HG2.out.size; have := HS0.out; have := HS1.out; omega) (fun e => by simp at e; have := HS0.out; omega)).trans ((HG2.out.block _ (by have := HS0.out; have := HS1.out; omega) (fun e => by simp at e; have := HS0.out; omega)).trans HK1.out))
  have HAB3 : Hid (∀ x, a' = some x → xs ≠ [] → x.block < w3.heap.size) := hid (fun x h1 h2 => by have := HAB.out x h1 h2; omega)
  have HD4 : Hid (DSt w3 w3.heap.size w0.heap.size a' c' xs 2 25 #[.int .i64 (K : Int), .int .i64 0, .int .i64 (C : Int), .slice none 0 0] (w3.alloc (.cells #[.int .i64 (K : Int), .int .i64 0, .int .i64 (C : Int), .slice none 0 0] 25))) := hid ⟨heap_alloc_new w3 _, r3.kept (World.grownBy_alloc w3 _ none) (by simp) (by simp), ⟨rfl, rfl, rfl, by simp, fun i hi _ => Below.heap_alloc _ _ _ hi⟩⟩
  have HRN := hid hR
  have HB3 := hid B3
  clear r3 g3 HG2 HR2 HRD HK1 HAB B3 hR B1 HK0
  have p0 := cell_of_row _ _ 0 _ _ _ HD4.out.box
  have zp0 := frozen_of_row _ _ 0 _ _ HD4.out.box
  have p1 := cell_of_row _ _ 1 _ _ _ HD4.out.box
  have zp1 := frozen_of_row _ _ 1 _ _ HD4.out.box
  have p2 := cell_of_row _ _ 2 _ _ _ HD4.out.box
  have zp2 := frozen_of_row _ _ 2 _ _ HD4.out.box
  have p3 := cell_of_row _ _ 3 _ _ _ HD4.out.box
  have zp3 := frozen_of_row _ _ 3 _ _ HD4.out.box
  simp only [List.getElem?_toArray, List.getElem?_cons_zero, List.getElem?_cons_succ] at p0 p1 p2 p3
  have hM3 : Hid (w3.heap.size ≤ w3.heap.size) := hid (Nat.le_refl _)
  go_upto_region 4 with fail
  obtain ⟨t, ht⟩ : ∃ t : Bool, t = decide (K = 2 ∨ K = 3) := ⟨_, rfl⟩
  go_cut [25] (fun c wx => c = .bool t ∧ wx = w3.alloc (.cells #[.int .i64 (K : Int), .int .i64 0, .int .i64 (C : Int), .slice none 0 0] 25))
  case first =>
    by_cases hK2 : K = 2
    · have e2 : ((K : Int) == 2) = true := by rw [hK2]; rfl
      have HT : Hid (t = true) := hid (by rw [ht, hK2]; rfl)
      clear hK2 ht
      go_wp2_with fail
      go_meet
      case rel => exact ⟨by rw [HT.out], rfl⟩
    · have e2 : ((K : Int) == 2) = false := beq_eq_false_iff_ne.2 (by omega)
      by_cases hK3 : K = 3
      · have e3 : ((K : Int) == 3) = true := by rw [hK3]; rfl
        have HT : Hid (t = true) := hid (by rw [ht, hK3]; rfl)
        clear hK2 hK3 ht
        go_wp2_with fail
        go_meet
        case rel => exact ⟨by rw [HT.out], rfl⟩
      · have e3 : ((K : Int) == 3) = false := beq_eq_false_iff_ne.2 (by omega)
        have HT : Hid (t = false) := hid (by rw [ht]; exact decide_eq_false (by omega))
        clear hK2 hK3 ht
        go_wp2_with fail
        go_meet
        case rel => exact ⟨by rw [HT.out], rfl⟩
  case rest =>
    obtain ⟨rfl, rfl⟩ := hcut
    have HT := hid ht
    clear ht
    go_upto_if 25 with fail
    go_cut [26] (fun _ wx => DSt w3 w3.heap.size w0.heap.size a' c' xs (dmJ xs) 25 #[.int .i64 (K : Int), .int .i64 ((dmF xs : Nat) : Int), .int .i64 (C : Int), .slice none 0 0] wx)
    case first =>
      cases t with
      | true =>
        have HJ : Hid (dmJ xs = 3) := hid (by unfold dmJ; rw [HKD.out, if_pos (of_decide_eq_true HT.out.symm)])
        have HFF : Hid (dmF xs = nxt xs 2 % 12) := hid (by unfold dmF; rw [HKD.out, if_pos (of_decide_eq_true HT.out.symm)])
        go_wp2_with fail
        refine (dnext HD4.out hM3.out HRN.out hxl HBY.out).mono ?_
        rintro e w5 ⟨rfl, d5, g5⟩
        have HD5 := hid d5
        clear d5 g5 p0 zp0 p1 zp1 p2 zp2 p3 zp3
        have hf2 : nxt xs 2 < 256 := nxt_lt HBY.out 2
        have p0 := cell_of_row _ _ 0 _ _ _ HD5.out.box
        have zp0 := frozen_of_row _ _ 0 _ _ HD5.out.box
        have p1 := cell_of_row _ _ 1 _ _ _ HD5.out.box
        have zp1 := frozen_of_row _ _ 1 _ _ HD5.out.box
        have p2 := cell_of_row _ _ 2 _ _ _ HD5.out.box
        have zp2 := frozen_of_row _ _ 2 _ _ HD5.out.box
        have p3 := cell_of_row _ _ 3 _ _ _ HD5.out.box
        have zp3 := frozen_of_row _ _ 3 _ _ HD5.out.box
        simp only [List.getElem?_toArray, List.getElem?_cons_zero, List.getElem?_cons_succ] at p0 p1 p2 p3
        obtain ⟨Q, hq⟩ : ∃ Q : Nat, Q = nxt xs 2 := ⟨_, rfl⟩
        rw [← hq] at hf2 ⊢
        have HQ := hid hq
        clear hq
        go_wp2_with fail
        go_meet
        case rel =>
          rw [HJ.out, HFF.out, ← HQ.out]
          exact HD5.out.set hM3.out HRN.out HAB3.out 1 _ (by simp)
      | false =>
        have HJ : Hid (dmJ xs = 2) := hid (by unfold dmJ; rw [HKD.out, if_neg (of_decide_eq_false HT.out.symm)])
        have HFF : Hid (dmF xs = 0) := hid (by unfold dmF; rw [HKD.out, if_neg (of_decide_eq_false HT.out.symm)])
        go_wp2_with fail
        go_meet
        case rel =>
          rw [HJ.out, HFF.out]
          exact HD4.out
    case rest =>
      have HD6 := hid hcut
      clear hcut HD4 p0 zp0 p1 zp1 p2 zp2 p3 zp3
      go_wp2_with fail
      refine (dnext HD6.out hM3.out HRN.out hxl HBY.out).mono ?_
      rintro e w7 ⟨rfl, d7, -⟩
      have HD7 := hid d7
      have hn2 : nxt xs (dmJ xs) < 256 := nxt_lt HBY.out _
      clear d7 HD6
      obtain ⟨N, hN⟩ : ∃ N : Nat, N = nxt xs (dmJ xs) % 6 := ⟨_, rfl⟩
      have hNi : ((nxt xs (dmJ xs) : Nat) : Int) % 6 = (N : Int) := by rw [hN]; simp
      have HN : Hid (dmN xs = N) := hid (by unfold dmN; rw [hN])
      have hNb : N < 6 := by omega
      clear hN
      obtain ⟨Y, hY⟩ : ∃ Y : Nat, Y = nxt xs (dmJ xs) := ⟨_, rfl⟩
      rw [← hY] at hNi hn2 ⊢
      clear hY
      go_wp2
      try rw [hNi]
      clear hNi
      go_loopw [7] (fun i wr => ∃ (q : Nat) (v : Value), q ≤ N ∧ i = .int .i64 q ∧ DSt w3 w3.heap.size w0.heap.size a' c' xs (drawnB xs (dmJ xs + 1) q).2 25 #[.int .i64 (K : Int), .int .i64 ((dmF xs : Nat) : Int), .int .i64 (C : Int), v] wr ∧ Txts w3.heap.size wr v (drawnB xs (dmJ xs + 1) q).1) (fun i _ => N - (intOf i).toNat)
      case atStart => exact ⟨0, _, Nat.zero_le _, rfl, HD7.out, Txts.nil _ _⟩
      case round =>
        obtain ⟨q, v, hq, rfl, hd, htx⟩ := hrel
        have HD := hid hd
        have HX := hid htx
        clear hd htx
        by_cases hlt : q < N
        · have p0 := cell_of_row _ _ 0 _ _ _ HD.out.box
          have zp0 := frozen_of_row _ _ 0 _ _ HD.out.box
          have p1 := cell_of_row _ _ 1 _ _ _ HD.out.box
          have zp1 := frozen_of_row _ _ 1 _ _ HD.out.box
          have p2 := cell_of_row _ _ 2 _ _ _ HD.out.box
          have zp2 := frozen_of_row _ _ 2 _ _ HD.out.box
          have p3 := cell_of_row _ _ 3 _ _ _ HD.out.box
          have zp3 := frozen_of_row _ _ 3 _ _ HD.out.box
          simp only [List.getElem?_toArray, List.getElem?_cons_zero, List.getElem?_cons_succ] at p0 p1 p2 p3
          have hqi : (q : Int) < (N : Int) := by omega
          have hdq : decide (q < N) = true := decide_eq_true hlt
          obtain ⟨av, cv, rfl⟩ := HX.out.len
          obtain ⟨bs, hbs⟩ : ∃ bs, bs = (drawnB xs (dmJ xs + 1) q).1 := ⟨_, rfl⟩
          obtain ⟨J, hJ⟩ : ∃ J, J = (drawnB xs (dmJ xs + 1) q).2 := ⟨_, rfl⟩
          have HBE : Hid (bs ++ [drawn xs J 20] = (drawnB xs (dmJ xs + 1) (q + 1)).1) := hid (by rw [hbs, hJ]; rfl)
          have HJE : Hid (J + 1 + nxt xs J % 20 = (drawnB xs (dmJ xs + 1) (q + 1)).2) := hid (by rw [hJ]; rfl)
          have hbl : bs.length = q := by rw [hbs]; exact drawnB_len _ _ _
          rw [← hJ, ← hbs] at HD
          rw [← hbs] at HX
          clear hbs hJ
          have HYB : Hid (∀ x ∈ drawn xs J 20, x < 256) := hid (drawn_lt HBY.out J 20)
          have HL2 : Hid ((bs ++ [drawn xs J 20]).length = bs.length + 1) := hid (by simp)
          have hbl2 : bs.length ≤ 256 := by omega
          have HBL := hid hbl
          clear hbl
          have HBW : Hid (Below w.heap.size w wr) := hid (HB3.out.grown HD.out.gro HB3.out.size (fun p hp => by simp at hp; have := HS0.out; omega))
          clear p0 zp0 p1 zp1 p2 zp2 p3 zp3
          go_wp2_with fail
          refine region_turns3 (n := 8) (by kernel_rfl) (by kernel_rfl) ?_ (fun t => { tmps := #[.slice a ys.length cap, undef, .pointer (some ⟨w.heap.size, 0, none⟩), .pointer (some ⟨w0.heap.size, 0, none⟩), .int .i64 ((k : Nat) : Int), .pointer (some ⟨w3.heap.size, 0, none⟩), .int .i64 ((N : Nat) : Int), .int .i64 ((q : Nat) : Int), u8, u9, u10, u11, u12, u13, u14, u15, u16, u17, u18, u19, u20, u21, u22, u23, u24, u25, u26, u27, u28, u29, .pointer (some ⟨w0.heap.size, 0, none⟩), .int .i64 ((Y : Nat) : Int), .int .i64 ((N : Nat) : Int), .int .i64 ((q : Nat) : Int), .int .i64 ((N : Nat) : Int), .bool true, u36, u37, t 0, t 1, t 2, t 3, t 4, t 5, t 6, u45, u46, u47, u48, u49, u50, u51, u52, u53, u54, u55, u56, u57, u58, u59, u60, u61, u62, u63, u64, u65, u66, u67, u68, u69, u70, u71, u72, u73, u74, u75, u76, u77, u78, u79, u80, u81, u82, u83, u84, u85, u86, u87, u88, u89], defers := [] }) (d10T w3.heap.size w0.heap.size av bs.length cv) [3, 5, 7] (Fct.any) (d10H w3 w0.heap.size a' c' xs J (J + 1 + nxt xs J % 20) (K : Int) ((dmF xs : Nat) : Int) (C : Int) (.slice av bs.length cv) bs (drawn xs J 20)) w wr (fun k => []) (fun _ => true) (fun _ _ _ => True) [] (fun _ _ => false) (by kernel_rfl) (fun _ _ _ _ h => by cases h) (fun _ _ _ _ _ _ h => h) (fun j hj => by rcases (by omega : j = 0 ∨ j = 1 ∨ j = 2 ∨ j = 3 ∨ j = 4 ∨ j = 5 ∨ j = 6 ∨ j = 7) with rfl | rfl | rfl | rfl | rfl | rfl | rfl | rfl <;> rfl) (fun j hj hp => by rcases (by omega : j = 0 ∨ j = 1 ∨ j = 2 ∨ j = 3 ∨ j = 4 ∨ j = 5 ∨ j = 6 ∨ j = 7) with rfl | rfl | rfl | rfl | rfl | rfl | rfl | rfl <;> first | rfl | (exact absurd hp (by decide))) (fun j => ([u38, u39, u40, u41, u42, u43, u44, undef] : List Value).getD j undef) (d10H_start (dgA_drew ⟨HD.out, HX.out⟩)) HBW.out (trivial) ?_ ?_
          · rfl
          · intro i hi x t wx hxi hsh h0 hbx hgx hdp hall hHx
            rcases (by omega : i = 0 ∨ i = 1 ∨ i = 2 ∨ i = 3 ∨ i = 4 ∨ i = 5 ∨ i = 6 ∨ i = 7) with rfl | rfl | rfl | rfl | rfl | rfl | rfl | rfl
            · 
              try dsimp only
              clear h0
              refine wpOp_step rfl (fun K' hK => ?_)
              go_simp
              exact hK _ _ ⟨.pointer (some ⟨w3.heap.size, 3, none⟩), (by simp [upd]), FX.eq_mk rfl, fun _ => Below.refl _ _, fun h => absurd h (by decide), hbx, hHx.plain 0 (by omega) _⟩
            · 
              try dsimp only
              have x0 := depX hdp 0 (by kernel_rfl)
              have d0 := hall 0 (by omega) x0
              have e0 : t 0 = .pointer (some ⟨w3.heap.size, 3, none⟩) := d0.1
              rw [e0]
              have y5 := notYet hsh hxi 5 (by kernel_rfl)
              have hbox := hHx.box y5
              have k3 := cell_of_row _ _ 3 _ _ _ hbox
              simp only [List.getElem?_toArray, List.getElem?_cons_zero, List.getElem?_cons_succ] at k3
              clear hbox
              clear h0
              refine wpOp_step rfl (fun K' hK => ?_)
              go_simp
              exact hK _ _ ⟨.slice av bs.length cv, (by simp [upd, e0]), FX.eq_mk rfl, fun _ => Below.refl _ _, fun h => absurd h (by decide), hbx, hHx.plain 1 (by omega) _⟩
            · 
              try dsimp only
              clear h0
              refine wpOp_step rfl (fun K' hK => ?_)
              go_simp
              exact hK _ _ ⟨.pointer (some ⟨w0.heap.size, 0, none⟩), (by simp [upd]), FX.eq_mk rfl, fun _ => Below.refl _ _, fun h => absurd h (by decide), hbx, hHx.plain 2 (by omega) _⟩
            · 
              try dsimp only
              have x2 := depX hdp 2 (by kernel_rfl)
              have d2 := hall 2 (by omega) x2
              have e2 : t 2 = .pointer (some ⟨w0.heap.size, 0, none⟩) := d2.1
              rw [e2]
              have y4 := notYet hsh hxi 4 (by kernel_rfl)
              have y5 := notYet hsh hxi 5 (by kernel_rfl)
              have y7 := notYet hsh hxi 7 (by kernel_rfl)
              have hst := hHx.1 hxi
              clear h0
              refine wpOp_step rfl (fun K' hK => ?_)
              go_simp
              refine (drawBytes_any _ c' J 20 a' xs wx hst.1.rdr (fun x h1 h2 => Nat.lt_of_lt_of_le (HAB3.out x h1 h2) hst.1.gro.size) hxl HBY.out (by omega) (by omega)).mono ?_
              rintro e w9 ⟨a9, c9, rfl, -, o9, r9, g9⟩
              exact hK _ _ ⟨_, (by simp [upd, e2]), FX.is_mk trivial, fun h => absurd (by decide) h, fun _ => trivial, hbx.grown g9 hbx.size (fun p hp => by simp at hp; have := HS0.out; omega), hHx.op3 HRN.out hxi y4 y5 y7 a9 c9 o9 r9 g9⟩
            · 
              try dsimp only
              have x3 := depX hdp 3 (by kernel_rfl)
              have d3 := hall 3 (by omega) x3
              have y5 := notYet hsh hxi 5 (by kernel_rfl)
              have y7 := notYet hsh hxi 7 (by kernel_rfl)
              obtain ⟨-, a9, c9, e3, -⟩ := hHx.2.1 x3 y5
              have e3 : t 3 = .slice a9 (drawn xs J 20).length c9 := e3
              have e3' := e3
              rw [e3]
              clear h0
              refine wpOp_step rfl (fun K' hK => ?_)
              go_simp
              exact hK _ _ ⟨.slice (some ⟨wx.heap.size, 0, none⟩) 1 1, (by simp [upd, e3]), FX.is_mk trivial, fun _ => below_new1 _ _, fun h => absurd h (by decide), below_chain hbx (below_new1 _ _), hHx.op4 HRN.out HAB3.out x3 y5 y7 _ _ e3'.symm⟩
            · 
              try dsimp only
              have x1 := depX hdp 1 (by kernel_rfl)
              have d1 := hall 1 (by omega) x1
              have e1 : t 1 = .slice av bs.length cv := d1.1
              have x4 := depX hdp 4 (by kernel_rfl)
              have d4 := hall 4 (by omega) x4
              rw [e1]
              have y7 := notYet hsh hxi 7 (by kernel_rfl)
              have x3 := reach_up hsh (i := 3) 10 4 (by kernel_rfl) x4
              obtain ⟨⟨hd, htx⟩, a9, c9, e3, o9, h4⟩ := hHx.2.1 x3 hxi
              obtain ⟨g9, e4, hc9⟩ := h4 x4
              rw [e4]
              obtain ⟨vals, ho, hi'⟩ := htx
              have hs3 := hd.gro.size
              clear h0
              refine wpOp_step rfl (fun K' hK => ?_)
              refine step_append_lies _ rfl (.tmp 39) (.tmp 42) 23 rfl w3.heap.size 22 j0 (.slice none 0 0) 1 24 Tryd.underlying23 hj hy0 hy1 hy2 rfl (by decide) (.slice av bs.length cv) bs.length vals rfl ho ⟨g9, 0, none⟩ 1 1 [.slice a9 (drawn xs J 20).length c9] rfl rfl (oneY_at hc9) (one_cell rfl) (by omega) (by unfold maxLen; omega) (by omega) (by omega) _ rfl ?_
              intro g' cap' w9 hown hgrow hat hlt9
              exact hK _ _ ⟨.slice (some ⟨g', 0, none⟩) (bs.length + 1) cap', (by simp [upd, e1, e4, Act.put]), FX.is_mk trivial, fun h => absurd (by decide) h, fun _ => trivial, hbx.grown hgrow hbx.size (fun p hp => by have := (own_in ho hp).1; have := HB3.out.size; omega), hHx.op5 HRN.out HAB3.out x3 hxi y7 HYB.out ho hi' o9 hown hgrow⟩
            · 
              try dsimp only
              clear h0
              refine wpOp_step rfl (fun K' hK => ?_)
              go_simp
              exact hK _ _ ⟨.pointer (some ⟨w3.heap.size, 3, none⟩), (by simp [upd]), FX.eq_mk rfl, fun _ => Below.refl _ _, fun h => absurd h (by decide), hbx, hHx.plain 6 (by omega) _⟩
            · 
              try dsimp only
              have x6 := depX hdp 6 (by kernel_rfl)
              have d6 := hall 6 (by omega) x6
              have e6 : t 6 = .pointer (some ⟨w3.heap.size, 3, none⟩) := d6.1
              have x5 := depX hdp 5 (by kernel_rfl)
              have d5 := hall 5 (by omega) x5
              rw [e6]
              have x3 := reach_up hsh (i := 3) 10 5 (by kernel_rfl) x5
              obtain ⟨hd, htx⟩ := hHx.2.2.1 x5 hxi
              obtain ⟨a5, c5, e5⟩ := htx.len
              rw [HL2.out] at e5
              rw [e5]
              have k3 := cell_of_row _ _ 3 _ _ _ hd.box
              have z3 := frozen_of_row _ _ 3 _ _ hd.box
              simp only [List.getElem?_toArray, List.getElem?_cons_zero, List.getElem?_cons_succ] at k3
              have HH := hid (hHx.op7 HRN.out HAB3.out x3 x5 hxi undef)
              rw [e5] at HH
              clear hd htx hHx
              clear h0
              refine wpOp_step rfl (fun K' hK => ?_)
              go_simp
              exact hK _ _ ⟨undef, (by simp [upd, e6, e5]), FX.is_mk trivial, fun h => absurd (by decide) h, fun _ => trivial, hbx.setCell (p := ⟨w3.heap.size, 3, none⟩) HB3.out.size _, HH.out⟩
          · intro x t wx hx hbx hall hHx
            obtain ⟨v', hdn⟩ := hHx.2.2.2 (hx 7 (by omega))
            try dsimp only
            have HDN := hid hdn
            clear hall hbx hx hHx hdn
            go_wp2
            go_roundw
            case rel => exact ⟨q + 1, v', by omega, by go_num, by rw [HJE.out] at HDN; exact HDN.out.1, by rw [HBE.out] at HDN; exact HDN.out.2⟩
            case measure => simp [intOf]; omega
        · have hqN : q = N := by omega
          have HBq : Hid ((drawnB xs (dmJ xs + 1) q).1 = dmB xs) := hid (by rw [hqN]; unfold dmB; rw [HN.out])
          have HEq : Hid ((drawnB xs (dmJ xs + 1) q).2 = dmE xs) := hid (by rw [hqN]; unfold dmE; rw [HN.out])
          rw [HEq.out] at HD
          rw [HBq.out] at HX
          have hqd : decide (q < N) = false := decide_eq_false hlt
          have hlen : (dmB xs).length = N := by rw [← HBq.out, drawnB_len, hqN]
          have HLEN := hid hlen
          clear HBq HEq hlen hqN hlt hq
          obtain ⟨av, cv, rfl⟩ := HX.out.len
          by_cases hk : k = 250
          · have e250 : ((k : Int) == 250) = true := by rw [hk]; rfl
            have e251 : ((k : Int) == 251) = false := beq_eq_false_iff_ne.2 (by omega)
            have e252 : ((k : Int) == 252) = false := beq_eq_false_iff_ne.2 (by omega)
            have e253 : ((k : Int) == 253) = false := beq_eq_false_iff_ne.2 (by omega)
            have e254 : ((k : Int) == 254) = false := beq_eq_false_iff_ne.2 (by omega)
            have e255 : ((k : Int) == 255) = false := beq_eq_false_iff_ne.2 (by omega)
            have HMS : Hid (dmsg xs = ⟨5, ((dmF xs : Nat) : Int), (C : Int), dmB xs⟩) := hid (by unfold dmsg; rw [← HKK.out, if_pos hk]; (try rw [HKD.out]); (try rw [← HCC.out]))
            clear hk
            have s0 := cell_of_row _ _ 0 _ _ _ HD.out.box
            have zs0 := frozen_of_row _ _ 0 _ _ HD.out.box
            have s1 := cell_of_row _ _ 1 _ _ _ HD.out.box
            have zs1 := frozen_of_row _ _ 1 _ _ HD.out.box
            have s2 := cell_of_row _ _ 2 _ _ _ HD.out.box
            have zs2 := frozen_of_row _ _ 2 _ _ HD.out.box
            have s3 := cell_of_row _ _ 3 _ _ _ HD.out.box
            have zs3 := frozen_of_row _ _ 3 _ _ HD.out.box
            simp only [List.getElem?_toArray, List.getElem?_cons_zero, List.getElem?_cons_succ] at s0 s1 s2 s3
            go_upto_if 49 with fail
            have HD9 := hid (HD.out.set hM3.out HRN.out HAB3.out 0 (.int .i64 5) (cs' := #[.int .i64 5, .int .i64 ((dmF xs : Nat) : Int), .int .i64 (C : Int), .slice av (dmB xs).length cv]) (by simp))
            have HX9 : Hid (Txts w3.heap.size (wr.setCell ⟨w3.heap.size, 0, none⟩ (.int .i64 5)) (.slice av (dmB xs).length cv) (dmB xs)) := hid (txts_far HD.out.box HX.out (fun p hp => heap_setCell_other wr ⟨w3.heap.size, 0, none⟩ p _ (fun e => hp e)))
            generalize (wr.setCell ⟨w3.heap.size, 0, none⟩ (.int .i64 5)) = w9 at *
            clear s0 zs0 s1 zs1 s2 zs2 s3 zs3
            have HKr : Hid (w9.heap[w.heap.size]? = some (.cells #[.int .i64 0, .int .i64 0, .int .i64 0, .slice none 0 0] 25 (0, 0))) := hid ((HD9.out.gro.block _ (Array.getElem?_eq_some_iff.1 HK3.out).1 (fun e => by simp at e; have := HS0.out; omega)).trans HK3.out)
            have HBf : Hid (Below w.heap.size w w9) := hid (HB3.out.grown HD9.out.gro HB3.out.size (fun p hp => by simp at hp; have := HS0.out; omega))
            have p0 := cell_of_row _ _ 0 _ _ _ HD9.out.box
            have zp0 := frozen_of_row _ _ 0 _ _ HD9.out.box
            have p1 := cell_of_row _ _ 1 _ _ _ HD9.out.box
            have zp1 := frozen_of_row _ _ 1 _ _ HD9.out.box
            have p2 := cell_of_row _ _ 2 _ _ _ HD9.out.box
            have zp2 := frozen_of_row _ _ 2 _ _ HD9.out.box
            have p3 := cell_of_row _ _ 3 _ _ _ HD9.out.box
            have zp3 := frozen_of_row _ _ 3 _ _ HD9.out.box
            simp only [List.getElem?_toArray, List.getElem?_cons_zero, List.getElem?_cons_succ] at p0 p1 p2 p3
            have r0 := cell_of_row _ _ 0 _ _ _ HKr.out
            have zr0 := frozen_of_row _ _ 0 _ _ HKr.out
            have r1 := cell_of_row _ _ 1 _ _ _ HKr.out
            have zr1 := frozen_of_row _ _ 1 _ _ HKr.out
            have r2 := cell_of_row _ _ 2 _ _ _ HKr.out
            have zr2 := frozen_of_row _ _ 2 _ _ HKr.out
            have r3 := cell_of_row _ _ 3 _ _ _ HKr.out
            have zr3 := frozen_of_row _ _ 3 _ _ HKr.out
            simp only [List.getElem?_toArray, List.getElem?_cons_zero, List.getElem?_cons_succ] at r0 r1 r2 r3
            have hgm : ¬ w3.heap.size = w.heap.size := by have := HRN.out; have := HS0.out; omega
            have hgm2 : ¬ w.heap.size = w3.heap.size := by have := HRN.out; have := HS0.out; omega
            go_wp2
            refine bodyPost_ret (results_cell_row rfl _ _ w.heap.size 25 #[.int .i64 5, .int .i64 ((dmF xs : Nat) : Int), .int .i64 (C : Int), .slice av (dmB xs).length cv] (0, 0) _ rfl (set4 HKr.out) Tryd.underlying25 rfl (by kernel_rfl)) rfl ?_
            rw [← HXS.out, HMS.out]
            refine ⟨_, _, rfl, ?_, set4b HBf.out (Nat.le_refl _)⟩
            have hlt3 : w.heap.size < w3.heap.size := by have := HRN.out; have := HS0.out; omega
            exact (txts_grown (txts_grown (txts_grown (txts_grown HX9.out (set_grown _ w.heap.size 0 _) hlt3) (set_grown _ w.heap.size 1 _) hlt3) (set_grown _ w.heap.size 2 _) hlt3) (set_grown _ w.heap.size 3 _) hlt3).rd
          have hk250 := hk
          clear hk
          by_cases hk : k = 251
          · have e250 : ((k : Int) == 250) = false := beq_eq_false_iff_ne.2 (by omega)
            have e251 : ((k : Int) == 251) = true := by rw [hk]; rfl
            have e252 : ((k : Int) == 252) = false := beq_eq_false_iff_ne.2 (by omega)
            have e253 : ((k : Int) == 253) = false := beq_eq_false_iff_ne.2 (by omega)
            have e254 : ((k : Int) == 254) = false := beq_eq_false_iff_ne.2 (by omega)
            have e255 : ((k : Int) == 255) = false := beq_eq_false_iff_ne.2 (by omega)
            have HMS : Hid (dmsg xs = ⟨(K : Int), ((dmF xs : Nat) : Int) + 12 - 1, (C : Int), dmB xs⟩) := hid (by unfold dmsg; rw [← HKK.out, if_neg (show ¬ k = 250 by omega), if_pos hk]; (try rw [HKD.out]); (try rw [← HCC.out]))
            clear hk
            have hF12 : dmF xs < 12 := dmF_lt xs
            have s0 := cell_of_row _ _ 0 _ _ _ HD.out.box
            have zs0 := frozen_of_row _ _ 0 _ _ HD.out.box
            have s1 := cell_of_row _ _ 1 _ _ _ HD.out.box
            have zs1 := frozen_of_row _ _ 1 _ _ HD.out.box
            have s2 := cell_of_row _ _ 2 _ _ _ HD.out.box
            have zs2 := frozen_of_row _ _ 2 _ _ HD.out.box
            have s3 := cell_of_row _ _ 3 _ _ _ HD.out.box
            have zs3 := frozen_of_row _ _ 3 _ _ HD.out.box
            simp only [List.getElem?_toArray, List.getElem?_cons_zero, List.getElem?_cons_succ] at s0 s1 s2 s3
            have HD9 := hid (HD.out.set hM3.out HRN.out HAB3.out 1 (.int .i64 (((dmF xs : Nat) : Int) + 12 - 1)) (cs' := #[.int .i64 (K : Int), .int .i64 (((dmF xs : Nat) : Int) + 12 - 1), .int .i64 (C : Int), .slice av (dmB xs).length cv]) (by simp))
            have HX9 : Hid (Txts w3.heap.size (wr.setCell ⟨w3.heap.size, 1, none⟩ (.int .i64 (((dmF xs : Nat) : Int) + 12 - 1))) (.slice av (dmB xs).length cv) (dmB xs)) := hid (txts_far HD.out.box HX.out (fun p hp => heap_setCell_other wr ⟨w3.heap.size, 1, none⟩ p _ (fun e => hp e)))
            go_upto_if 56 with fail
            generalize (wr.setCell ⟨w3.heap.size, 1, none⟩ (.int .i64 (((dmF xs : Nat) : Int) + 12 - 1))) = w9 at *
            clear s0 zs0 s1 zs1 s2 zs2 s3 zs3
            have HKr : Hid (w9.heap[w.heap.size]? = some (.cells #[.int .i64 0, .int .i64 0, .int .i64 0, .slice none 0 0] 25 (0, 0))) := hid ((HD9.out.gro.block _ (Array.getElem?_eq_some_iff.1 HK3.out).1 (fun e => by simp at e; have := HS0.out; omega)).trans HK3.out)
            have HBf : Hid (Below w.heap.size w w9) := hid (HB3.out.grown HD9.out.gro HB3.out.size (fun p hp => by simp at hp; have := HS0.out; omega))
            have p0 := cell_of_row _ _ 0 _ _ _ HD9.out.box
            have zp0 := frozen_of_row _ _ 0 _ _ HD9.out.box
            have p1 := cell_of_row _ _ 1 _ _ _ HD9.out.box
            have zp1 := frozen_of_row _ _ 1 _ _ HD9.out.box
            have p2 := cell_of_row _ _ 2 _ _ _ HD9.out.box
            have zp2 := frozen_of_row _ _ 2 _ _ HD9.out.box
            have p3 := cell_of_row _ _ 3 _ _ _ HD9.out.box
            have zp3 := frozen_of_row _ _ 3 _ _ HD9.out.box
            simp only [List.getElem?_toArray, List.getElem?_cons_zero, List.getElem?_cons_succ] at p0 p1 p2 p3
            have r0 := cell_of_row _ _ 0 _ _ _ HKr.out
            have zr0 := frozen_of_row _ _ 0 _ _ HKr.out
            have r1 := cell_of_row _ _ 1 _ _ _ HKr.out
            have zr1 := frozen_of_row _ _ 1 _ _ HKr.out
            have r2 := cell_of_row _ _ 2 _ _ _ HKr.out
            have zr2 := frozen_of_row _ _ 2 _ _ HKr.out
            have r3 := cell_of_row _ _ 3 _ _ _ HKr.out
            have zr3 := frozen_of_row _ _ 3 _ _ HKr.out
            simp only [List.getElem?_toArray, List.getElem?_cons_zero, List.getElem?_cons_succ] at r0 r1 r2 r3
            have hgm : ¬ w3.heap.size = w.heap.size := by have := HRN.out; have := HS0.out; omega
            have hgm2 : ¬ w.heap.size = w3.heap.size := by have := HRN.out; have := HS0.out; omega
            go_wp2
            refine bodyPost_ret (results_cell_row rfl _ _ w.heap.size 25 #[.int .i64 (K : Int), .int .i64 (((dmF xs : Nat) : Int) + 12 - 1), .int .i64 (C : Int), .slice av (dmB xs).length cv] (0, 0) _ rfl (set4 HKr.out) Tryd.underlying25 rfl (by kernel_rfl)) rfl ?_
            rw [← HXS.out, HMS.out]
            refine ⟨_, _, rfl, ?_, set4b HBf.out (Nat.le_refl _)⟩
            have hlt3 : w.heap.size < w3.heap.size := by have := HRN.out; have := HS0.out; omega
            exact (txts_grown (txts_grown (txts_grown (txts_grown HX9.out (set_grown _ w.heap.size 0 _) hlt3) (set_grown _ w.heap.size 1 _) hlt3) (set_grown _ w.heap.size 2 _) hlt3) (set_grown _ w.heap.size 3 _) hlt3).rd
          have hk251 := hk
          clear hk
          by_cases hk : k = 252
          · have e250 : ((k : Int) == 250) = false := beq_eq_false_iff_ne.2 (by omega)
            have e251 : ((k : Int) == 251) = false := beq_eq_false_iff_ne.2 (by omega)
            have e252 : ((k : Int) == 252) = true := by rw [hk]; rfl
            have e253 : ((k : Int) == 253) = false := beq_eq_false_iff_ne.2 (by omega)
            have e254 : ((k : Int) == 254) = false := beq_eq_false_iff_ne.2 (by omega)
            have e255 : ((k : Int) == 255) = false := beq_eq_false_iff_ne.2 (by omega)
            have HMS : Hid (dmsg xs = ⟨(K : Int), ((dmF xs : Nat) : Int), 1000 + ((nxt xs (dmE xs) : Nat) : Int) % 2, dmB xs⟩) := hid (by unfold dmsg; rw [← HKK.out, if_neg (show ¬ k = 250 by omega), if_neg (show ¬ k = 251 by omega), if_pos hk]; (try rw [HKD.out]); (try rw [← HCC.out]))
            clear hk
            go_wp2_with fail
            refine (dnext HD.out hM3.out HRN.out hxl HBY.out).mono ?_
            rintro e w8 ⟨rfl, d8, g8⟩
            have HD8 := hid d8
            have HX8 := hid (txts_grown HX.out g8 HRN.out)
            clear d8 g8 HD HX
            have hV : nxt xs (dmE xs) < 256 := nxt_lt HBY.out _
            obtain ⟨V, hVV⟩ : ∃ V : Nat, V = nxt xs (dmE xs) := ⟨_, rfl⟩
            rw [← hVV] at hV ⊢
            rw [← hVV] at HMS
            clear hVV
            have s0 := cell_of_row _ _ 0 _ _ _ HD8.out.box
            have zs0 := frozen_of_row _ _ 0 _ _ HD8.out.box
            have s1 := cell_of_row _ _ 1 _ _ _ HD8.out.box
            have zs1 := frozen_of_row _ _ 1 _ _ HD8.out.box
            have s2 := cell_of_row _ _ 2 _ _ _ HD8.out.box
            have zs2 := frozen_of_row _ _ 2 _ _ HD8.out.box
            have s3 := cell_of_row _ _ 3 _ _ _ HD8.out.box
            have zs3 := frozen_of_row _ _ 3 _ _ HD8.out.box
            simp only [List.getElem?_toArray, List.getElem?_cons_zero, List.getElem?_cons_succ] at s0 s1 s2 s3
            have HD9 := hid (HD8.out.set hM3.out HRN.out HAB3.out 2 (.int .i64 (1000 + (V : Int) % 2)) (cs' := #[.int .i64 (K : Int), .int .i64 ((dmF xs : Nat) : Int), .int .i64 (1000 + (V : Int) % 2), .slice av (dmB xs).length cv]) (by simp))
            have HX9 : Hid (Txts w3.heap.size (w8.setCell ⟨w3.heap.size, 2, none⟩ (.int .i64 (1000 + (V : Int) % 2))) (.slice av (dmB xs).length cv) (dmB xs)) := hid (txts_far HD8.out.box HX8.out (fun p hp => heap_setCell_other w8 ⟨w3.heap.size, 2, none⟩ p _ (fun e => hp e)))
            go_upto_if 63 with fail
            generalize (w8.setCell ⟨w3.heap.size, 2, none⟩ (.int .i64 (1000 + (V : Int) % 2))) = w9 at *
            clear s0 zs0 s1 zs1 s2 zs2 s3 zs3
            have HKr : Hid (w9.heap[w.heap.size]? = some (.cells #[.int .i64 0, .int .i64 0, .int .i64 0, .slice none 0 0] 25 (0, 0))) := hid ((HD9.out.gro.block _ (Array.getElem?_eq_some_iff.1 HK3.out).1 (fun e => by simp at e; have := HS0.out; omega)).trans HK3.out)
            have HBf : Hid (Below w.heap.size w w9) := hid (HB3.out.grown HD9.out.gro HB3.out.size (fun p hp => by simp at hp; have := HS0.out; omega))
            have p0 := cell_of_row _ _ 0 _ _ _ HD9.out.box
            have zp0 := frozen_of_row _ _ 0 _ _ HD9.out.box
            have p1 := cell_of_row _ _ 1 _ _ _ HD9.out.box
            have zp1 := frozen_of_row _ _ 1 _ _ HD9.out.box
            have p2 := cell_of_row _ _ 2 _ _ _ HD9.out.box
            have zp2 := frozen_of_row _ _ 2 _ _ HD9.out.box
            have p3 := cell_of_row _ _ 3 _ _ _ HD9.out.box
            have zp3 := frozen_of_row _ _ 3 _ _ HD9.out.box
            simp only [List.getElem?_toArray, List.getElem?_cons_zero, List.getElem?_cons_succ] at p0 p1 p2 p3
            have r0 := cell_of_row _ _ 0 _ _ _ HKr.out
            have zr0 := frozen_of_row _ _ 0 _ _ HKr.out
            have r1 := cell_of_row _ _ 1 _ _ _ HKr.out
            have zr1 := frozen_of_row _ _ 1 _ _ HKr.out
            have r2 := cell_of_row _ _ 2 _ _ _ HKr.out
            have zr2 := frozen_of_row _ _ 2 _ _ HKr.out
            have r3 := cell_of_row _ _ 3 _ _ _ HKr.out
            have zr3 := frozen_of_row _ _ 3 _ _ HKr.out
            simp only [List.getElem?_toArray, List.getElem?_cons_zero, List.getElem?_cons_succ] at r0 r1 r2 r3
            have hgm : ¬ w3.heap.size = w.heap.size := by have := HRN.out; have := HS0.out; omega
            have hgm2 : ¬ w.heap.size = w3.heap.size := by have := HRN.out; have := HS0.out; omega
            go_wp2
            refine bodyPost_ret (results_cell_row rfl _ _ w.heap.size 25 #[.int .i64 (K : Int), .int .i64 ((dmF xs : Nat) : Int), .int .i64 (1000 + (V : Int) % 2), .slice av (dmB xs).length cv] (0, 0) _ rfl (set4 HKr.out) Tryd.underlying25 rfl (by kernel_rfl)) rfl ?_
            rw [← HXS.out, HMS.out]
            refine ⟨_, _, rfl, ?_, set4b HBf.out (Nat.le_refl _)⟩
            have hlt3 : w.heap.size < w3.heap.size := by have := HRN.out; have := HS0.out; omega
            exact (txts_grown (txts_grown (txts_grown (txts_grown HX9.out (set_grown _ w.heap.size 0 _) hlt3) (set_grown _ w.heap.size 1 _) hlt3) (set_grown _ w.heap.size 2 _) hlt3) (set_grown _ w.heap.size 3 _) hlt3).rd
          have hk252 := hk
          clear hk
          by_cases hk : k = 253
          · have e250 : ((k : Int) == 250) = false := beq_eq_false_iff_ne.2 (by omega)
            have e251 : ((k : Int) == 251) = false := beq_eq_false_iff_ne.2 (by omega)
            have e252 : ((k : Int) == 252) = false := beq_eq_false_iff_ne.2 (by omega)
            have e253 : ((k : Int) == 253) = true := by rw [hk]; rfl
            have e254 : ((k : Int) == 254) = false := beq_eq_false_iff_ne.2 (by omega)
            have e255 : ((k : Int) == 255) = false := beq_eq_false_iff_ne.2 (by omega)
            have HMS : Hid (dmsg xs = ⟨(K : Int), ((dmF xs : Nat) : Int), (C : Int), dmB xs ++ List.replicate (40 + nxt xs (dmE xs + (40 - dmN xs)) % 2 - dmN xs) []⟩) := hid (by unfold dmsg; rw [← HKK.out, if_neg (show ¬ k = 250 by omega), if_neg (show ¬ k = 251 by omega), if_neg (show ¬ k = 252 by omega), if_pos hk]; (try rw [HKD.out]); (try rw [← HCC.out]))
            clear hk
            go_wp2
            have hqN2 : (dmB xs).length = N := HLEN.out
            have HQN := hid hqN2
            clear hqN2
            have hnb : N ≤ 5 := by omega
            go_loopg [64] (42 - N) (fun g _ wr => ∃ (b : Nat) (v : Value), b + g = 42 ∧ N ≤ b ∧ b ≤ 41 ∧ (b = 41 → nxt xs (dmE xs + (40 - N)) % 2 = 1) ∧ DSt w3 w3.heap.size w0.heap.size a' c' xs (dmE xs + (b - N)) 25 #[.int .i64 (K : Int), .int .i64 ((dmF xs : Nat) : Int), .int .i64 (C : Int), v] wr ∧ Txts w3.heap.size wr v (dmB xs ++ List.replicate (b - N) []))
            case atStart => exact ⟨N, _, by omega, Nat.le_refl _, by omega, fun h => by omega, by rw [Nat.sub_self]; exact HD.out, by rw [Nat.sub_self]; simpa using HX.out⟩
            case round =>
              obtain ⟨b, v, hbg, hNb2, hb41, h41, hd, htx⟩ := hrel
              have HDb := hid hd
              have HXb := hid htx
              have H41 := hid h41
              clear hd htx h41 HD HX
              obtain ⟨ab, cb, rfl⟩ := HXb.out.len
              have hlb : (dmB xs ++ List.replicate (b - N) []).length = b := by simp [HQN.out]; omega
              rw [hlb] at HDb HXb
              clear hlb
              have hV : nxt xs (dmE xs + (b - N)) < 256 := nxt_lt HBY.out _
              obtain ⟨V, hVV⟩ : ∃ V : Nat, V = nxt xs (dmE xs + (b - N)) := ⟨_, rfl⟩
              have HNX : Hid (Calls Tryd.prog 38 #[.pointer (some ⟨w0.heap.size, 0, none⟩)] wr.drew fun e w' => e = .returned (.int .i64 (V : Int)) ∧ w'.cell? ⟨w3.heap.size, 3, none⟩ = some (.slice ab b cb) ∧ Hid (DSt w3 w3.heap.size w0.heap.size a' c' xs (dmE xs + ((b + 1) - N)) 25 #[.int .i64 (K : Int), .int .i64 ((dmF xs : Nat) : Int), .int .i64 (C : Int), (.slice ab b cb)] w') ∧ Hid (Txts w3.heap.size w' (.slice ab b cb) (dmB xs ++ List.replicate (b - N) []))) := hid (by
                have hA := dgA_drew ⟨HDb.out, HXb.out⟩
                refine (dnext hA.1 hM3.out HRN.out hxl HBY.out).mono ?_
                rintro e w' ⟨rfl, d8, g8⟩
                rw [← hVV]
                refine ⟨rfl, ?_, hid ?_, hid (txts_grown hA.2 g8 HRN.out)⟩
                · have := cell_of_row _ _ 3 _ _ _ d8.box
                  simpa using this
                · rw [show dmE xs + (b + 1 - N) = dmE xs + (b - N) + 1 from by omega]
                  exact d8)
              rw [← hVV] at hV
              have HVV := hid hVV
              clear hVV
              have p3 := cell_of_row _ _ 3 _ _ _ HDb.out.box
              simp only [List.getElem?_toArray, List.getElem?_cons_zero, List.getElem?_cons_succ] at p3
              go_wp2_with fail
              (go_region_held3 (fun w' => w'.cell? ⟨w3.heap.size, 3, none⟩ = some (.slice ab b cb)) (go_keep) (first
                | (go_at_call 38; refine HNX.out.mono ?_; rintro e w8 ⟨rfl, pp3, hd8, hx8⟩)))
              obtain ⟨m2, hm2⟩ : ∃ m2 : Nat, m2 = V % 2 := ⟨_, rfl⟩
              have hm2b : m2 ≤ 1 := by omega
              have em1 : (V : Int).tmod 2 = (m2 : Int) := by rw [hm2]; rfl
              have em2 : IntKind.i64.wrap (40 + (m2 : Int)) = 40 + (m2 : Int) := by simp [IntKind.wrap, IntKind.bits, IntKind.signed]; omega
              rw [em1, em2]
              clear em1 em2 p3
              have HM2 := hid hm2
              clear hm2 HNX HDb HXb
              by_cases hlt2 : b < 40 + m2
              · have e3 : decide ((b : Int) < 40 + (m2 : Int)) = true := decide_eq_true (by omega)
                obtain ⟨vals, ho, hi2⟩ := hx8.out
                have HO := hid ho
                have HI := hid hi2
                have hlb : (dmB xs ++ List.replicate (b - N) []).length = b := by simp [HQN.out]; omega
                rw [hlb] at ho
                have HW := hid ho
                have HLB := hid hlb
                clear ho hi2 hlb
                have hs8 := hd8.out.gro.size
                have p3 := cell_of_row _ _ 3 _ _ _ hd8.out.box
                simp only [List.getElem?_toArray, List.getElem?_cons_zero, List.getElem?_cons_succ] at p3
                go_wp2_with (first | (at_builtin; refine wpList_append_own _ rfl _ _ 23 rfl w3.heap.size 22 j0 (.slice none 0 0) 1 24 Tryd.underlying23 hj hy0 hy1 hy2 rfl (by decide) _ b _ rfl (HW.out.alloc _) ⟨w8.heap.size, 0, none⟩ 1 1 [.slice none 0 0] rfl rfl (cell_one_new _ _ _) (one_cell rfl) (by unfold maxLen; omega) (by omega) (by simp; omega) ?_) | fail)
                intro v' w9 hown' hgrow _
                obtain ⟨a9, c9, rfl, -⟩ := rd_own hown'
                have HDA := hid (hd8.out.later (below_new1 w8 (.cells #[.slice none 0 0] 22)))
                have HD9 := hid (HDA.out.grow HRN.out HAB3.out hgrow (fun p hp => ⟨(own_in (HW.out.alloc (.cells #[.slice none 0 0] 22)) hp).1, fun e => boxY_far HDA.out.box (HW.out.alloc (.cells #[.slice none 0 0] 22)) (by decide) (by rw [hp, e])⟩))
                have HRP : Hid ((dmB xs ++ List.replicate (b - N) []) ++ [[]] = dmB xs ++ List.replicate ((b + 1) - N) []) := hid (by rw [List.append_assoc, ← List.replicate_succ', show b + 1 - N = b - N + 1 from by omega])
                have HX9 : Hid (Txts w3.heap.size w9 (.slice a9 (b + 1) c9) (dmB xs ++ List.replicate ((b + 1) - N) [])) := hid (by
                  rw [← HRP.out]
                  exact Txts.snoc (HO.out.alloc _) (fun i h => by obtain ⟨u', h1, h2, h3⟩ := HI.out i h; exact ⟨u', h1, h2.alloc _, h3⟩) (World.ownsRow_nil _ _ _ _) (by simp) (by rw [HLB.out]; exact hown') hgrow)
                have H41n : Hid (b + 1 = 41 → nxt xs (dmE xs + (40 - N)) % 2 = 1) := hid (fun h => by
                  have h1 := HM2.out
                  rw [HVV.out, show b = 40 from by omega] at h1
                  omega)
                clear hown' hgrow p3 pp3 hd8 hx8 HDA
                have s3 := cell_of_row _ _ 3 _ _ _ HD9.out.box
                have zs3 := frozen_of_row _ _ 3 _ _ HD9.out.box
                simp only [List.getElem?_toArray, List.getElem?_cons_zero, List.getElem?_cons_succ] at s3
                go_wp2
                go_roundg (41 - b)
                case rel =>
                  exact ⟨b + 1, _, by omega, by omega, by omega, H41n.out, HD9.out.set hM3.out HRN.out HAB3.out 3 _ (by simp), txts_far HD9.out.box HX9.out (fun p hp => heap_setCell_other w9 ⟨w3.heap.size, 3, none⟩ p _ (fun e => hp e))⟩
                case measure => omega
              · have e3 : decide ((b : Int) < 40 + (m2 : Int)) = false := decide_eq_false (by omega)
                have HBF : Hid (40 + nxt xs (dmE xs + (40 - dmN xs)) % 2 - dmN xs = b - N) := hid (by
                  rw [HN.out]
                  by_cases h40 : b = 40
                  · have h1 := HM2.out
                    rw [HVV.out, h40] at h1
                    omega
                  · have h1 := H41.out (by omega)
                    omega)
                rw [HBF.out] at HMS
                have HLB2 : Hid ((dmB xs ++ List.replicate (b - N) []).length = b) := hid (by simp [HQN.out]; omega)
                have HD8 := hd8
                have HX8 := hx8
                clear hd8 hx8 pp3
                have HKr : Hid (w8.heap[w.heap.size]? = some (.cells #[.int .i64 0, .int .i64 0, .int .i64 0, .slice none 0 0] 25 (0, 0))) := hid ((HD8.out.gro.block _ (Array.getElem?_eq_some_iff.1 HK3.out).1 (fun e => by simp at e; have := HS0.out; omega)).trans HK3.out)
                have HBf : Hid (Below w.heap.size w w8) := hid (HB3.out.grown HD8.out.gro HB3.out.size (fun p hp => by simp at hp; have := HS0.out; omega))
                have p0 := cell_of_row _ _ 0 _ _ _ HD8.out.box
                have zp0 := frozen_of_row _ _ 0 _ _ HD8.out.box
                have p1 := cell_of_row _ _ 1 _ _ _ HD8.out.box
                have zp1 := frozen_of_row _ _ 1 _ _ HD8.out.box
                have p2 := cell_of_row _ _ 2 _ _ _ HD8.out.box
                have zp2 := frozen_of_row _ _ 2 _ _ HD8.out.box
                have p3 := cell_of_row _ _ 3 _ _ _ HD8.out.box
                have zp3 := frozen_of_row _ _ 3 _ _ HD8.out.box
                simp only [List.getElem?_toArray, List.getElem?_cons_zero, List.getElem?_cons_succ] at p0 p1 p2 p3
                have r0 := cell_of_row _ _ 0 _ _ _ HKr.out
                have zr0 := frozen_of_row _ _ 0 _ _ HKr.out
                have r1 := cell_of_row _ _ 1 _ _ _ HKr.out
                have zr1 := frozen_of_row _ _ 1 _ _ HKr.out
                have r2 := cell_of_row _ _ 2 _ _ _ HKr.out
                have zr2 := frozen_of_row _ _ 2 _ _ HKr.out
                have r3 := cell_of_row _ _ 3 _ _ _ HKr.out
                have zr3 := frozen_of_row _ _ 3 _ _ HKr.out
                simp only [List.getElem?_toArray, List.getElem?_cons_zero, List.getElem?_cons_succ] at r0 r1 r2 r3
                have hgm : ¬ w3.heap.size = w.heap.size := by have := HRN.out; have := HS0.out; omega
                have hgm2 : ¬ w.heap.size = w3.heap.size := by have := HRN.out; have := HS0.out; omega
                go_wp2
                refine bodyPost_ret (results_cell_row rfl _ _ w.heap.size 25 #[.int .i64 (K : Int), .int .i64 ((dmF xs : Nat) : Int), .int .i64 (C : Int), .slice ab b cb] (0, 0) _ rfl (set4 HKr.out) Tryd.underlying25 rfl (by kernel_rfl)) rfl ?_
                rw [← HXS.out, HMS.out]
                show ∃ v c, _ = Ending.returned (Value.agg #[.int .i64 (K : Int), .int .i64 ((dmF xs : Nat) : Int), .int .i64 (C : Int), .slice v (dmB xs ++ List.replicate (b - N) []).length c]) ∧ RdSl cSS _ (dmB xs ++ List.replicate (b - N) []) (.slice v (dmB xs ++ List.replicate (b - N) []).length c) ∧ _
                rw [HLB2.out]
                refine ⟨_, _, rfl, ?_, set4b HBf.out (Nat.le_refl _)⟩
                have hlt3 : w.heap.size < w3.heap.size := by have := HRN.out; have := HS0.out; omega
                exact (txts_grown (txts_grown (txts_grown (txts_grown HX8.out (set_grown _ w.heap.size 0 _) hlt3) (set_grown _ w.heap.size 1 _) hlt3) (set_grown _ w.heap.size 2 _) hlt3) (set_grown _ w.heap.size 3 _) hlt3).rd
          have hk253 := hk
          clear hk
          by_cases hk : k = 254
          · have e250 : ((k : Int) == 250) = false := beq_eq_false_iff_ne.2 (by omega)
            have e251 : ((k : Int) == 251) = false := beq_eq_false_iff_ne.2 (by omega)
            have e252 : ((k : Int) == 252) = false := beq_eq_false_iff_ne.2 (by omega)
            have e253 : ((k : Int) == 253) = false := beq_eq_false_iff_ne.2 (by omega)
            have e254 : ((k : Int) == 254) = true := by rw [hk]; rfl
            have e255 : ((k : Int) == 255) = false := beq_eq_false_iff_ne.2 (by omega)
            have HMS : Hid (dmsg xs = ⟨(K : Int), ((dmF xs : Nat) : Int), (C : Int), [List.replicate (19972 + nxt xs (dmE xs) % 16) 7]⟩) := hid (by unfold dmsg; rw [← HKK.out, if_neg (show ¬ k = 250 by omega), if_neg (show ¬ k = 251 by omega), if_neg (show ¬ k = 252 by omega), if_neg (show ¬ k = 253 by omega), if_pos hk]; (try rw [HKD.out]); (try rw [← HCC.out]))
            clear hk
            go_wp2_with fail
            refine (dnext HD.out hM3.out HRN.out hxl HBY.out).mono ?_
            rintro e w8 ⟨rfl, d8, g8⟩
            have HD8 := hid d8
            have HX8 := hid (txts_grown HX.out g8 HRN.out)
            clear d8 g8 HD HX
            have hV : nxt xs (dmE xs) < 256 := nxt_lt HBY.out _
            obtain ⟨V, hVV⟩ : ∃ V : Nat, V = nxt xs (dmE xs) := ⟨_, rfl⟩
            rw [← hVV] at hV ⊢
            rw [← hVV] at HMS
            clear hVV
            obtain ⟨L, hL⟩ : ∃ L : Nat, L = 19972 + V % 16 := ⟨_, rfl⟩
            have hLi : 19972 + (V : Int) % 16 = (L : Int) := by rw [hL]; simp
            have hLb : L ≤ 19987 := by omega
            rw [← hL] at HMS
            clear hL
            go_wp2_with fail
            clear hLi
            refine (fill_any 7 L w8 (by omega)).mono ?_
            rintro e w10 ⟨aL, cL, rfl, oL, b10⟩
            have HD10 := hid (HD8.out.later b10)
            have hs83 := HD8.out.gro.size
            have hs10 := b10.size
            have HO11 : Hid ((w10.alloc (.cells #[.slice aL L cL] 22)).ownsRow w3.heap.size 5 1 (.slice aL L cL) (List.replicate L 7).length (byt (List.replicate L 7))) := hid (by rw [List.length_replicate]; exact own_later (own_mono oL hs83) (below_new1 w10 _))
            have HD11 := hid (HD10.out.later (below_new1 w10 (.cells #[.slice aL L cL] 22)))
            have HX11 : Hid (Txts w3.heap.size (w10.alloc (.cells #[.slice aL L cL] 22)) (.slice (some ⟨w10.heap.size, 0, none⟩) 1 1) [List.replicate L 7]) := hid ⟨[.slice aL L cL], own_one w10 _ _ (by omega), fun i h => by
              obtain rfl : i = 0 := by simpa using h
              exact ⟨_, rfl, HO11.out, fun x hx => by simp at hx; omega⟩⟩
            clear oL b10 HD8 HX8 HD10 hs83 hs10
            have s0 := cell_of_row _ _ 0 _ _ _ HD11.out.box
            have zs0 := frozen_of_row _ _ 0 _ _ HD11.out.box
            have s1 := cell_of_row _ _ 1 _ _ _ HD11.out.box
            have zs1 := frozen_of_row _ _ 1 _ _ HD11.out.box
            have s2 := cell_of_row _ _ 2 _ _ _ HD11.out.box
            have zs2 := frozen_of_row _ _ 2 _ _ HD11.out.box
            have s3 := cell_of_row _ _ 3 _ _ _ HD11.out.box
            have zs3 := frozen_of_row _ _ 3 _ _ HD11.out.box
            simp only [List.getElem?_toArray, List.getElem?_cons_zero, List.getElem?_cons_succ] at s0 s1 s2 s3
            have HD9 := hid (HD11.out.set hM3.out HRN.out HAB3.out 3 (.slice (some ⟨w10.heap.size, 0, none⟩) 1 1) (cs' := #[.int .i64 (K : Int), .int .i64 ((dmF xs : Nat) : Int), .int .i64 (C : Int), .slice (some ⟨w10.heap.size, 0, none⟩) 1 1]) (by simp))
            have HX9 : Hid (Txts w3.heap.size ((w10.alloc (.cells #[.slice aL L cL] 22)).setCell ⟨w3.heap.size, 3, none⟩ (.slice (some ⟨w10.heap.size, 0, none⟩) 1 1)) (.slice (some ⟨w10.heap.size, 0, none⟩) 1 1) ([List.replicate L 7])) := hid (txts_far HD11.out.box HX11.out (fun p hp => heap_setCell_other (w10.alloc (.cells #[.slice aL L cL] 22)) ⟨w3.heap.size, 3, none⟩ p _ (fun e => hp e)))
            go_upto_if 87 with fail
            generalize ((w10.alloc (.cells #[.slice aL L cL] 22)).setCell ⟨w3.heap.size, 3, none⟩ (.slice (some ⟨w10.heap.size, 0, none⟩) 1 1)) = w9 at *
            clear s0 zs0 s1 zs1 s2 zs2 s3 zs3
            have HKr : Hid (w9.heap[w.heap.size]? = some (.cells #[.int .i64 0, .int .i64 0, .int .i64 0, .slice none 0 0] 25 (0, 0))) := hid ((HD9.out.gro.block _ (Array.getElem?_eq_some_iff.1 HK3.out).1 (fun e => by simp at e; have := HS0.out; omega)).trans HK3.out)
            have HBf : Hid (Below w.heap.size w w9) := hid (HB3.out.grown HD9.out.gro HB3.out.size (fun p hp => by simp at hp; have := HS0.out; omega))
            have p0 := cell_of_row _ _ 0 _ _ _ HD9.out.box
            have zp0 := frozen_of_row _ _ 0 _ _ HD9.out.box
            have p1 := cell_of_row _ _ 1 _ _ _ HD9.out.box
            have zp1 := frozen_of_row _ _ 1 _ _ HD9.out.box
            have p2 := cell_of_row _ _ 2 _ _ _ HD9.out.box
            have zp2 := frozen_of_row _ _ 2 _ _ HD9.out.box
            have p3 := cell_of_row _ _ 3 _ _ _ HD9.out.box
            have zp3 := frozen_of_row _ _ 3 _ _ HD9.out.box
            simp only [List.getElem?_toArray, List.getElem?_cons_zero, List.getElem?_cons_succ] at p0 p1 p2 p3
            have r0 := cell_of_row _ _ 0 _ _ _ HKr.out
            have zr0 := frozen_of_row _ _ 0 _ _ HKr.out
            have r1 := cell_of_row _ _ 1 _ _ _ HKr.out
            have zr1 := frozen_of_row _ _ 1 _ _ HKr.out
            have r2 := cell_of_row _ _ 2 _ _ _ HKr.out
            have zr2 := frozen_of_row _ _ 2 _ _ HKr.out
            have r3 := cell_of_row _ _ 3 _ _ _ HKr.out
            have zr3 := frozen_of_row _ _ 3 _ _ HKr.out
            simp only [List.getElem?_toArray, List.getElem?_cons_zero, List.getElem?_cons_succ] at r0 r1 r2 r3
            have hgm : ¬ w3.heap.size = w.heap.size := by have := HRN.out; have := HS0.out; omega
            have hgm2 : ¬ w.heap.size = w3.heap.size := by have := HRN.out; have := HS0.out; omega
            go_wp2
            refine bodyPost_ret (results_cell_row rfl _ _ w.heap.size 25 #[.int .i64 (K : Int), .int .i64 ((dmF xs : Nat) : Int), .int .i64 (C : Int), .slice (some ⟨w10.heap.size, 0, none⟩) 1 1] (0, 0) _ rfl (set4 HKr.out) Tryd.underlying25 rfl (by kernel_rfl)) rfl ?_
            rw [← HXS.out, HMS.out]
            refine ⟨_, _, rfl, ?_, set4b HBf.out (Nat.le_refl _)⟩
            have hlt3 : w.heap.size < w3.heap.size := by have := HRN.out; have := HS0.out; omega
            exact (txts_grown (txts_grown (txts_grown (txts_grown HX9.out (set_grown _ w.heap.size 0 _) hlt3) (set_grown _ w.heap.size 1 _) hlt3) (set_grown _ w.heap.size 2 _) hlt3) (set_grown _ w.heap.size 3 _) hlt3).rd
          have hk254 := hk
          clear hk
          by_cases hk : k = 255
          · have e250 : ((k : Int) == 250) = false := beq_eq_false_iff_ne.2 (by omega)
            have e251 : ((k : Int) == 251) = false := beq_eq_false_iff_ne.2 (by omega)
            have e252 : ((k : Int) == 252) = false := beq_eq_false_iff_ne.2 (by omega)
            have e253 : ((k : Int) == 253) = false := beq_eq_false_iff_ne.2 (by omega)
            have e254 : ((k : Int) == 254) = false := beq_eq_false_iff_ne.2 (by omega)
            have e255 : ((k : Int) == 255) = true := by rw [hk]; rfl
            have HMS : Hid (dmsg xs = ⟨(K : Int), ((dmF xs : Nat) : Int), -1, dmB xs⟩) := hid (by unfold dmsg; rw [← HKK.out, if_neg (show ¬ k = 250 by omega), if_neg (show ¬ k = 251 by omega), if_neg (show ¬ k = 252 by omega), if_neg (show ¬ k = 253 by omega), if_neg (show ¬ k = 254 by omega), if_pos hk]; (try rw [HKD.out]); (try rw [← HCC.out]))
            clear hk
            have s0 := cell_of_row _ _ 0 _ _ _ HD.out.box
            have zs0 := frozen_of_row _ _ 0 _ _ HD.out.box
            have s1 := cell_of_row _ _ 1 _ _ _ HD.out.box
            have zs1 := frozen_of_row _ _ 1 _ _ HD.out.box
            have s2 := cell_of_row _ _ 2 _ _ _ HD.out.box
            have zs2 := frozen_of_row _ _ 2 _ _ HD.out.box
            have s3 := cell_of_row _ _ 3 _ _ _ HD.out.box
            have zs3 := frozen_of_row _ _ 3 _ _ HD.out.box
            simp only [List.getElem?_toArray, List.getElem?_cons_zero, List.getElem?_cons_succ] at s0 s1 s2 s3
            have HD9 := hid (HD.out.set hM3.out HRN.out HAB3.out 2 (.int .i64 (-1)) (cs' := #[.int .i64 (K : Int), .int .i64 ((dmF xs : Nat) : Int), .int .i64 (-1), .slice av (dmB xs).length cv]) (by simp))
            have HX9 : Hid (Txts w3.heap.size (wr.setCell ⟨w3.heap.size, 2, none⟩ (.int .i64 (-1))) (.slice av (dmB xs).length cv) (dmB xs)) := hid (txts_far HD.out.box HX.out (fun p hp => heap_setCell_other wr ⟨w3.heap.size, 2, none⟩ p _ (fun e => hp e)))
            have HKr : Hid ((wr.setCell ⟨w3.heap.size, 2, none⟩ (.int .i64 (-1))).heap[w.heap.size]? = some (.cells #[.int .i64 0, .int .i64 0, .int .i64 0, .slice none 0 0] 25 (0, 0))) := hid ((HD9.out.gro.block _ (Array.getElem?_eq_some_iff.1 HK3.out).1 (fun e => by simp at e; have := HS0.out; omega)).trans HK3.out)
            have HBf : Hid (Below w.heap.size w (wr.setCell ⟨w3.heap.size, 2, none⟩ (.int .i64 (-1)))) := hid (HB3.out.grown HD9.out.gro HB3.out.size (fun p hp => by simp at hp; have := HS0.out; omega))
            have p0 := cell_of_row _ _ 0 _ _ _ HD9.out.box
            have zp0 := frozen_of_row _ _ 0 _ _ HD9.out.box
            have p1 := cell_of_row _ _ 1 _ _ _ HD9.out.box
            have zp1 := frozen_of_row _ _ 1 _ _ HD9.out.box
            have p2 := cell_of_row _ _ 2 _ _ _ HD9.out.box
            have zp2 := frozen_of_row _ _ 2 _ _ HD9.out.box
            have p3 := cell_of_row _ _ 3 _ _ _ HD9.out.box
            have zp3 := frozen_of_row _ _ 3 _ _ HD9.out.box
            simp only [List.getElem?_toArray, List.getElem?_cons_zero, List.getElem?_cons_succ] at p0 p1 p2 p3
            have r0 := cell_of_row _ _ 0 _ _ _ HKr.out
            have zr0 := frozen_of_row _ _ 0 _ _ HKr.out
            have r1 := cell_of_row _ _ 1 _ _ _ HKr.out
            have zr1 := frozen_of_row _ _ 1 _ _ HKr.out
            have r2 := cell_of_row _ _ 2 _ _ _ HKr.out
            have zr2 := frozen_of_row _ _ 2 _ _ HKr.out
            have r3 := cell_of_row _ _ 3 _ _ _ HKr.out
            have zr3 := frozen_of_row _ _ 3 _ _ HKr.out
            simp only [List.getElem?_toArray, List.getElem?_cons_zero, List.getElem?_cons_succ] at r0 r1 r2 r3
            have hgm : ¬ w3.heap.size = w.heap.size := by have := HRN.out; have := HS0.out; omega
            have hgm2 : ¬ w.heap.size = w3.heap.size := by have := HRN.out; have := HS0.out; omega
            go_wp2
            refine bodyPost_ret (results_cell_row rfl _ _ w.heap.size 25 #[.int .i64 (K : Int), .int .i64 ((dmF xs : Nat) : Int), .int .i64 (-1), .slice av (dmB xs).length cv] (0, 0) _ rfl (set4 HKr.out) Tryd.underlying25 rfl (by kernel_rfl)) rfl ?_
            rw [← HXS.out, HMS.out]
            refine ⟨_, _, rfl, ?_, set4b HBf.out (Nat.le_refl _)⟩
            have hlt3 : w.heap.size < w3.heap.size := by have := HRN.out; have := HS0.out; omega
            exact (txts_grown (txts_grown (txts_grown (txts_grown HX9.out (set_grown _ w.heap.size 0 _) hlt3) (set_grown _ w.heap.size 1 _) hlt3) (set_grown _ w.heap.size 2 _) hlt3) (set_grown _ w.heap.size 3 _) hlt3).rd
          have hk255 := hk
          clear hk
          have hk : True := trivial
          have e250 : ((k : Int) == 250) = false := beq_eq_false_iff_ne.2 (by omega)
          have e251 : ((k : Int) == 251) = false := beq_eq_false_iff_ne.2 (by omega)
          have e252 : ((k : Int) == 252) = false := beq_eq_false_iff_ne.2 (by omega)
          have e253 : ((k : Int) == 253) = false := beq_eq_false_iff_ne.2 (by omega)
          have e254 : ((k : Int) == 254) = false := beq_eq_false_iff_ne.2 (by omega)
          have e255 : ((k : Int) == 255) = false := beq_eq_false_iff_ne.2 (by omega)
          have HMS : Hid (dmsg xs = ⟨(K : Int), ((dmF xs : Nat) : Int), (C : Int), dmB xs⟩) := hid (by unfold dmsg; rw [← HKK.out, if_neg (show ¬ k = 250 by omega), if_neg (show ¬ k = 251 by omega), if_neg (show ¬ k = 252 by omega), if_neg (show ¬ k = 253 by omega), if_neg (show ¬ k = 254 by omega), if_neg (show ¬ k = 255 by omega)]; (try rw [HKD.out]); (try rw [← HCC.out]))
          clear hk
          have HKr : Hid (wr.heap[w.heap.size]? = some (.cells #[.int .i64 0, .int .i64 0, .int .i64 0, .slice none 0 0] 25 (0, 0))) := hid ((HD.out.gro.block _ (Array.getElem?_eq_some_iff.1 HK3.out).1 (fun e => by simp at e; have := HS0.out; omega)).trans HK3.out)
          have HBf : Hid (Below w.heap.size w wr) := hid (HB3.out.grown HD.out.gro HB3.out.size (fun p hp => by simp at hp; have := HS0.out; omega))
          have p0 := cell_of_row _ _ 0 _ _ _ HD.out.box
          have zp0 := frozen_of_row _ _ 0 _ _ HD.out.box
          have p1 := cell_of_row _ _ 1 _ _ _ HD.out.box
          have zp1 := frozen_of_row _ _ 1 _ _ HD.out.box
          have p2 := cell_of_row _ _ 2 _ _ _ HD.out.box
          have zp2 := frozen_of_row _ _ 2 _ _ HD.out.box
          have p3 := cell_of_row _ _ 3 _ _ _ HD.out.box
          have zp3 := frozen_of_row _ _ 3 _ _ HD.out.box
          simp only [List.getElem?_toArray, List.getElem?_cons_zero, List.getElem?_cons_succ] at p0 p1 p2 p3
          have r0 := cell_of_row _ _ 0 _ _ _ HKr.out
          have zr0 := frozen_of_row _ _ 0 _ _ HKr.out
          have r1 := cell_of_row _ _ 1 _ _ _ HKr.out
          have zr1 := frozen_of_row _ _ 1 _ _ HKr.out
          have r2 := cell_of_row _ _ 2 _ _ _ HKr.out
          have zr2 := frozen_of_row _ _ 2 _ _ HKr.out
          have r3 := cell_of_row _ _ 3 _ _ _ HKr.out
          have zr3 := frozen_of_row _ _ 3 _ _ HKr.out
          simp only [List.getElem?_toArray, List.getElem?_cons_zero, List.getElem?_cons_succ] at r0 r1 r2 r3
          have hgm : ¬ w3.heap.size = w.heap.size := by have := HRN.out; have := HS0.out; omega
          have hgm2 : ¬ w.heap.size = w3.heap.size := by have := HRN.out; have := HS0.out; omega
          go_wp2
          refine bodyPost_ret (results_cell_row rfl _ _ w.heap.size 25 #[.int .i64 (K : Int), .int .i64 ((dmF xs : Nat) : Int), .int .i64 (C : Int), .slice av (dmB xs).length cv] (0, 0) _ rfl (set4 HKr.out) Tryd.underlying25 rfl (by kernel_rfl)) rfl ?_
          rw [← HXS.out, HMS.out]
          refine ⟨_, _, rfl, ?_, set4b HBf.out (Nat.le_refl _)⟩
          have hlt3 : w.heap.size < w3.heap.size := by have := HRN.out; have := HS0.out; omega
          exact (txts_grown (txts_grown (txts_grown (txts_grown HX.out (set_grown _ w.heap.size 0 _) hlt3) (set_grown _ w.heap.size 1 _) hlt3) (set_grown _ w.heap.size 2 _) hlt3) (set_grown _ w.heap.size 3 _) hlt3).rd
end Go.Proofs.YtfppfjklakdlfaaDoor
