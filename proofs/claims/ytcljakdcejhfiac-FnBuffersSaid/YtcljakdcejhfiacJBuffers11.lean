import Derived.Test.YtcljakdcejhfiacJBuffers3
import Derived.Test.YtcljakdcejhfiacJBuffers10
namespace Go.Proofs.Ytcljakdcejhfiac
open Go.RowKit
theorem pick8 (i : Nat) (h : i < 8) : ∃ x : Int, ([Value.int .i64 1, Value.int .i64 2, Value.int .i64 4, Value.int .i64 8, Value.int .i64 3, Value.int .i64 0, Value.int .i64 (-1), Value.int .i64 16] : List Value)[i]? = some (.int .i64 x) ∧ IntIn x := by
  have e : i = 0 ∨ i = 1 ∨ i = 2 ∨ i = 3 ∨ i = 4 ∨ i = 5 ∨ i = 6 ∨ i = 7 := by omega
  rcases e with rfl | rfl | rfl | rfl | rfl | rfl | rfl | rfl
  all_goals exact ⟨_, rfl, by constructor <;> decide⟩
theorem pick16 (i : Nat) (h : i < 16) : ∃ x : Int, ([Value.int .i64 0, Value.int .i64 1, Value.int .i64 (-1), Value.int .i64 127, Value.int .i64 128, Value.int .i64 (-128), Value.int .i64 (-129), Value.int .i64 32767, Value.int .i64 32768, Value.int .i64 (-32768), Value.int .i64 2147483647, Value.int .i64 2147483648, Value.int .i64 (-2147483648), Value.int .i64 (-2147483649), Value.int .i64 9223372036854775807, Value.int .i64 (-9223372036854775808)] : List Value)[i]? = some (.int .i64 x) ∧ IntIn x := by
  have e : i = 0 ∨ i = 1 ∨ i = 2 ∨ i = 3 ∨ i = 4 ∨ i = 5 ∨ i = 6 ∨ i = 7 ∨ i = 8 ∨ i = 9 ∨ i = 10 ∨ i = 11 ∨ i = 12 ∨ i = 13 ∨ i = 14 ∨ i = 15 := by omega
  rcases e with rfl | rfl | rfl | rfl | rfl | rfl | rfl | rfl | rfl | rfl | rfl | rfl | rfl | rfl | rfl | rfl
  all_goals exact ⟨_, rfl, by constructor <;> decide⟩
theorem rdr_alloc {w1 : World} {g c j : Nat} {a : Option Addr} {xs : List Nat} (o : Obj) (h : Rdr w1 g a c xs j) : Rdr (w1.alloc o) g a c xs j := h.kept (World.grownBy_alloc w1 o none) (by simp) (by simp)
theorem grown_alloc {w w1 : World} {g : Nat} (o : Obj) (h : w.grownBy w1 (some g)) : w.grownBy (w1.alloc o) (some g) := grown_next h (World.grownBy_alloc w1 o none) (by simp)
set_option maxRecDepth 1000000 in
set_option maxHeartbeats 4000000 in
theorem drawWidth_any (g c j : Nat) (a : Option Addr) (xs : List Nat) (w : World) (h : Rdr w g a c xs j) (hl : xs.length ≤ 1048576) (hx : ∀ x ∈ xs, x < 256) :
    Calls Try.prog 70 #[.pointer (some ⟨g, 0, none⟩)] w fun e w' => ∃ n : Int, e = .returned (.int .i64 n) ∧ IntIn n ∧ Rdr w' g a c xs (j + 1) ∧ w.grownBy w' (some g) := by
  go_enter Try.func70, Try.ntmps70
  go_wp2_with fail
  refine (next_any g c j a xs w h hl hx).mono ?_
  rintro e w1 ⟨rfl, r1, g1⟩
  have HR1 := hid r1
  have HG1 := hid g1
  have hk := nxt_lt hx j
  clear r1 g1 h hx
  generalize nxt xs j = k at *
  by_cases hb : (k : Int) < 240
  · obtain ⟨x, hc, hin⟩ := pick8 (k % 4) (by omega)
    have HIN := hid hin
    clear hin
    go_wp2
    go_ret
    exact ⟨x, rfl, HIN.out, rdr_alloc _ HR1.out, grown_alloc _ HG1.out⟩
  · obtain ⟨x, hc, hin⟩ := pick8 (k % 8) (by omega)
    have HIN := hid hin
    clear hin
    go_wp2
    go_ret
    exact ⟨x, rfl, HIN.out, rdr_alloc _ HR1.out, grown_alloc _ HG1.out⟩
set_option maxRecDepth 1000000 in
set_option maxHeartbeats 4000000 in
theorem drawValue_any (g c j : Nat) (a : Option Addr) (xs : List Nat) (w : World) (h : Rdr w g a c xs j) (hl : xs.length ≤ 1048576) (hx : ∀ x ∈ xs, x < 256) :
    Calls Try.prog 71 #[.pointer (some ⟨g, 0, none⟩)] w fun e w' => ∃ n : Int, e = .returned (.int .i64 n) ∧ IntIn n ∧ Rdr w' g a c xs (j + 1) ∧ w.grownBy w' (some g) := by
  go_enter Try.func71, Try.ntmps71
  go_wp2_with fail
  refine (next_any g c j a xs w h hl hx).mono ?_
  rintro e w1 ⟨rfl, r1, g1⟩
  have HR1 := hid r1
  have HG1 := hid g1
  have hk := nxt_lt hx j
  clear r1 g1 h hx
  generalize nxt xs j = k at *
  by_cases hb : (k : Int) < 60
  · obtain ⟨x, hc, hin⟩ := pick16 (k % 16) (by omega)
    have HIN := hid hin
    clear hin
    go_wp2
    go_ret
    exact ⟨x, rfl, HIN.out, rdr_alloc _ HR1.out, grown_alloc _ HG1.out⟩
  · go_wp2
    go_ret
    exact ⟨(k : Int) - 150, rfl, by constructor <;> omega, rdr_alloc _ HR1.out, grown_alloc _ HG1.out⟩
theorem infoIntD : (Try.prog.info? 3).map (fun i => (i.zero, i.size, i.bytes)) = some (some (.int .i64 0), 1, 8) := by kernel_rfl
theorem ints_append (xs ys : List Int) : ints (xs ++ ys) = ints xs ++ ints ys := by simp [ints]
def DIPost (w : World) (e : Ending) (w' : World) : Prop :=
  ∃ (vs : List Int) (n : Int) (a' : Option Addr) (c' : Nat), e = .returned (.tuple #[.slice a' vs.length c', .int .i64 n]) ∧ vs.length ≤ 8 ∧ (∀ x ∈ vs, IntIn x) ∧ IntIn n ∧ w'.ownsRow w.heap.size 3 1 (.slice a' vs.length c') vs.length (ints vs) ∧ Below w.heap.size w w'
def DILoop (w wr : World) (v : Value) (k c1 : Nat) (a1 : Option Addr) (ys : List Nat) : Prop :=
  ∃ (vs : List Int) (j : Nat), vs.length = k ∧ (∀ x ∈ vs, IntIn x) ∧ wr.ownsRow (w.heap.size + 1) 3 1 v k (ints vs) ∧ Rdr wr w.heap.size a1 c1 ys j ∧ w.heap.size + 1 ≤ wr.heap.size ∧ Below w.heap.size w wr
set_option maxRecDepth 1000000 in
set_option maxHeartbeats 4000000 in
theorem drawPackInts_any (a : Option Addr) (cap : Nat) (xs : List Nat) (w : World) (hr : Rd w a (byt xs)) (hcap : xs.length ≤ cap) (hnil : a = none → cap = 0) (hl : xs.length ≤ 1048576) (hx : ∀ x ∈ xs, x < 256) :
    Calls Try.prog 29 #[.slice a xs.length cap] w (DIPost w) := by
  obtain ⟨i0, hi, hz0, hz1, hz2⟩ := info_parts infoIntD
  obtain ⟨ys, hys⟩ : ∃ ys, ys = xs.take 600 := ⟨_, rfl⟩
  have HX : Hid (∀ x ∈ ys, x < 256) := hid (by rw [hys]; exact take_lt hx 600)
  have HL : Hid (ys.length ≤ 1048576) := hid (by rw [hys]; exact take_len xs)
  have HY := hid hys
  clear hys
  go_enter Try.func29, Try.ntmps29
  go_wp2_with fail
  refine (open_any a cap xs w hr hcap hnil hl).mono ?_
  rintro e w1 ⟨a1, c1, rfl, r1, hab, b1, hsz⟩
  rw [← HY.out] at r1 hab
  have HB1 := hid b1
  have HAB := hid hab
  have HR1 := hid r1
  have HS := hid hsz
  clear hr hx hnil hcap hl hab r1 b1 hsz
  go_wp2_with fail
  refine (drawWidth_any w.heap.size c1 0 a1 ys w1 HR1.out HL.out HX.out).mono ?_
  rintro e w2 ⟨wid, rfl, hwid, r2, g2⟩
  have HW := hid hwid
  have HB2 := hid (below_grown HB1.out g2 (Nat.le_refl _))
  have HR2 := hid r2
  have hS2 : w.heap.size + 1 ≤ w2.heap.size := by have := g2.size; have := HS.out; omega
  clear r2 g2 hwid
  go_wp2_with fail
  refine (next_any w.heap.size c1 (0 + 1) a1 ys w2 HR2.out HL.out HX.out).mono ?_
  rintro e w3 ⟨rfl, r3, g3⟩
  have HB3 := hid (below_grown HB2.out g3 (Nat.le_refl _))
  have HR3 := hid r3
  have hS3 : w.heap.size + 1 ≤ w3.heap.size := Nat.le_trans hS2 g3.size
  clear r3 g3
  obtain ⟨n, hn⟩ : ∃ n, n = nxt ys (0 + 1) % 8 := ⟨_, rfl⟩
  have hnm : ((nxt ys (0 + 1) : Nat) : Int) % 8 = (n : Int) := by omega
  have hn8 : n ≤ 8 := by omega
  clear hn
  generalize nxt ys (0 + 1) = q at *
  go_wp2
  rw [hnm]
  clear hnm
  go_loopw [7, 8, 9] (fun v i _ wr => ∃ k : Nat, k ≤ n ∧ i = .int .i64 k ∧ DILoop w wr v k c1 a1 ys) (fun _ i _ _ => n - (intOf i).toNat)
  case atStart => exact ⟨0, Nat.zero_le _, rfl, [], 0 + 1 + 1, rfl, by simp, by simpa [ints] using World.ownsRow_nil _ _ _ _, HR3.out, hS3, HB3.out⟩
  case round =>
    obtain ⟨k, hk, rfl, vs, j, hvl, hvs, how, hrr, hsz, hbe⟩ := hrel
    have HVL := hid hvl
    have HVS := hid hvs
    have HO := hid how
    have HRR := hid hrr
    have HBE := hid hbe
    clear hvl hvs how hrr hbe HR3 HB3 hS3
    by_cases hlt : k < n
    · have hki : (k : Int) < (n : Int) := by omega
      go_wp2_with fail
      refine (drawValue_any w.heap.size c1 j a1 ys wr HRR.out HL.out HX.out).mono ?_
      rintro e w4 ⟨x, rfl, hxin, r4, g4⟩
      have HXI := hid hxin
      have HO4 := hid (own_marked HO.out g4 (fun q p hq hp => by have := own_in HO.out hq; simp at hp; omega))
      have HR4 := hid r4
      have HB4 := hid (below_grown HBE.out g4 (Nat.le_refl _))
      have hs4 : w.heap.size + 1 ≤ w4.heap.size := Nat.le_trans hsz g4.size
      clear hxin r4 g4
      go_wp2_with fail
      refine (l1fits_i8 x w4 HXI.out).mono ?_
      rintro e w4 ⟨rfl, rfl⟩
      by_cases hf : IntKind.i8.wrap x = x
      · rw [decide_eq_true hf]
        clear hf
        go_wp2_with (first | (at_builtin; refine wpList_append_own _ rfl _ _ 53 rfl (w.heap.size + 1) 3 i0 (.int .i64 0) 1 8 Try.underlying53 hi hz0 hz1 hz2 rfl (by decide) _ k _ rfl (HO4.out.alloc _) ⟨w4.heap.size, 0, none⟩ 1 1 [.int .i64 x] rfl rfl (cell_one_new _ _ _) (one_cell rfl) (by unfold maxLen; omega) (by omega) (by simp; omega) ?_))
        intro v' w9 hown' hgrow _
        have hrow : ∀ p, Value.ownBlock _ = some p → w.heap.size + 1 ≤ p := fun p hp => (own_in HO4.out hp).1
        have HF : Hid (DILoop w w9 v' (k + 1) c1 a1 ys) := hid ⟨vs ++ [x], j + 1, by simp [HVL.out], (by
            intro y hy
            rcases List.mem_append.1 hy with h | h
            · exact HVS.out y h
            · rw [List.mem_singleton] at h; rw [h]; exact HXI.out), (by rw [ints_append]; exact hown'),
          ((HR4.out.kept (World.grownBy_alloc w4 _ none) (by simp) (by simp)).kept hgrow (fun e => by have := hrow _ e; omega) (fun x hx1 hx2 e => by have := hrow _ e; have := HAB.out x hx1 hx2; omega)),
          (by have := hgrow.size; simp at this; omega), ((HB4.out.alloc HB4.out.size _).grown hgrow (by simp; omega) (fun p hp => by have := hrow p hp; omega))⟩
        clear hown' hgrow hrow
        go_wp2
        go_roundw
        case rel => exact ⟨k + 1, by omega, by go_num, HF.out⟩
        case measure => simp [intOf]; omega
      · rw [decide_eq_false hf]
        clear hf
        go_wp2_with fail
        refine (next_any w.heap.size c1 (j + 1) a1 ys w4 HR4.out HL.out HX.out).mono ?_
        rintro e w5 ⟨rfl, r5, g5⟩
        have HO5 := hid (own_marked HO4.out g5 (fun q p hq hp => by have := own_in HO4.out hq; simp at hp; omega))
        have HR5 := hid r5
        have HB5 := hid (below_grown HB4.out g5 (Nat.le_refl _))
        have hs5 : w.heap.size + 1 ≤ w5.heap.size := Nat.le_trans hs4 g5.size
        clear r5 g5
        generalize nxt ys (j + 1) = d at *
        by_cases hd : (0 : Int) < (d : Int) % 3
        · go_wp2_with (first | (at_builtin; refine wpList_append_own _ rfl _ _ 53 rfl (w.heap.size + 1) 3 i0 (.int .i64 0) 1 8 Try.underlying53 hi hz0 hz1 hz2 rfl (by decide) _ k _ rfl (HO5.out.alloc _) ⟨w5.heap.size, 0, none⟩ 1 1 [.int .i64 7] rfl rfl (cell_one_new _ _ _) (one_cell rfl) (by unfold maxLen; omega) (by omega) (by simp; omega) ?_))
          intro v' w9 hown' hgrow _
          have hrow : ∀ p, Value.ownBlock _ = some p → w.heap.size + 1 ≤ p := fun p hp => (own_in HO5.out hp).1
          have HF : Hid (DILoop w w9 v' (k + 1) c1 a1 ys) := hid ⟨vs ++ [7], j + 1 + 1, by simp [HVL.out], (by
              intro y hy
              rcases List.mem_append.1 hy with h | h
              · exact HVS.out y h
              · rw [List.mem_singleton] at h; rw [h]; exact (by constructor <;> decide)), (by rw [ints_append]; exact hown'),
            ((HR5.out.kept (World.grownBy_alloc w5 _ none) (by simp) (by simp)).kept hgrow (fun e => by have := hrow _ e; omega) (fun x hx1 hx2 e => by have := hrow _ e; have := HAB.out x hx1 hx2; omega)),
            (by have := hgrow.size; simp at this; omega), ((HB5.out.alloc HB5.out.size _).grown hgrow (by simp; omega) (fun p hp => by have := hrow p hp; omega))⟩
          clear hown' hgrow hrow
          go_wp2
          go_roundw
          case rel => exact ⟨k + 1, by omega, by go_num, HF.out⟩
          case measure => simp [intOf]; omega
        · go_wp2_with (first | (at_builtin; refine wpList_append_own _ rfl _ _ 53 rfl (w.heap.size + 1) 3 i0 (.int .i64 0) 1 8 Try.underlying53 hi hz0 hz1 hz2 rfl (by decide) _ k _ rfl (HO5.out.alloc _) ⟨w5.heap.size, 0, none⟩ 1 1 [.int .i64 x] rfl rfl (cell_one_new _ _ _) (one_cell rfl) (by unfold maxLen; omega) (by omega) (by simp; omega) ?_))
          intro v' w9 hown' hgrow _
          have hrow : ∀ p, Value.ownBlock _ = some p → w.heap.size + 1 ≤ p := fun p hp => (own_in HO5.out hp).1
          have HF : Hid (DILoop w w9 v' (k + 1) c1 a1 ys) := hid ⟨vs ++ [x], j + 1 + 1, by simp [HVL.out], (by
              intro y hy
              rcases List.mem_append.1 hy with h | h
              · exact HVS.out y h
              · rw [List.mem_singleton] at h; rw [h]; exact HXI.out), (by rw [ints_append]; exact hown'),
            ((HR5.out.kept (World.grownBy_alloc w5 _ none) (by simp) (by simp)).kept hgrow (fun e => by have := hrow _ e; omega) (fun x hx1 hx2 e => by have := hrow _ e; have := HAB.out x hx1 hx2; omega)),
            (by have := hgrow.size; simp at this; omega), ((HB5.out.alloc HB5.out.size _).grown hgrow (by simp; omega) (fun p hp => by have := hrow p hp; omega))⟩
          clear hown' hgrow hrow
          go_wp2
          go_roundw
          case rel => exact ⟨k + 1, by omega, by go_num, HF.out⟩
          case measure => simp [intOf]; omega
    · obtain rfl : k = n := by omega
      obtain ⟨a', c', rfl, _⟩ := rd_own HO.out
      have HP : Hid (DIPost w (.returned (.tuple #[.slice a' k c', .int .i64 wid])) wr) := hid ⟨vs, wid, a', c', by rw [HVL.out], by rw [HVL.out]; exact hn8, HVS.out, HW.out, by rw [HVL.out]; exact own_mono HO.out (by omega), HBE.out⟩
      clear HO
      go_wp2
      go_ret2
      exact HP.out
end Go.Proofs.Ytcljakdcejhfiac
