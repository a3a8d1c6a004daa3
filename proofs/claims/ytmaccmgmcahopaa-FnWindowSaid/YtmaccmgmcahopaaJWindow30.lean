import Derived.Test.YtmaccmgmcahopaaJWindow28
import Derived.Test.YtmaccmgmcahopaaJWindow29
namespace Go.Proofs.Ytmaccmgmcahopaa
open Go.RowKit
def anyO (xs : List Nat) (j : Nat) : PO := if nxt xs j % 10 = 0 then spoilO (dOut xs (j + 1)).1 (nxt xs (dOut xs (j + 1)).2 % 8) (nxt xs ((dOut xs (j + 1)).2 + 1)) else (dOut xs (j + 1)).1
def AnPost (w : World) (gR : Nat) (R : PO) (e : Ending) (w' : World) : Prop :=
  ∃ a c bs, e = .returned (.agg #[.int .i64 R.epoch, .int .i64 R.next, .int .i64 R.now, .slice a R.wait.length c]) ∧ OwnSl cSnt 63 w' R.wait (.slice a R.wait.length c) bs ∧ (∀ b ∈ bs, w.heap.size ≤ b) ∧ w.grownBy w' (some gR)
theorem spoilO_tot {o : PO} {k v : Nat} (h : totL wN o.wait ≤ 1048576) : totL wN (spoilO o k v).wait ≤ 1048576 := by
  unfold spoilO
  repeat' split
  all_goals first
    | exact h
    | skip
  rename_i hz
  dsimp only
  rw [modify_set _ _ _ (Nat.mod_lt _ (by omega))]
  unfold totL at *
  rw [List.length_set]
  have hs : ∀ (l : List PW) (i : Nat) (y : PW) (hi : i < l.length), wN y ≤ wN l[i] → ((l.set i y).map wN).sum ≤ (l.map wN).sum := by
    intro l
    induction l with
    | nil => intro i y hi; simp at hi
    | cons x l ih =>
      intro i y hi hy
      cases i with
      | zero => simp only [List.set_cons_zero, List.map_cons, List.sum_cons, List.getElem_cons_zero] at *; omega
      | succ i =>
        simp only [List.set_cons_succ, List.map_cons, List.sum_cons, List.getElem_cons_succ] at *
        have := ih i y (by simpa using hi) hy
        omega
  have h1 := hs o.wait (v % o.wait.length) (spS o k (o.wait[v % o.wait.length]'(Nat.mod_lt _ (by omega)))) (Nat.mod_lt _ (by omega)) (by
    unfold spS
    repeat' split
    all_goals simp [wN])
  omega
set_option maxRecDepth 100000 in
set_option maxHeartbeats 4000000 in
theorem anyOut_any (gR c j : Nat) (a : Option Addr) (xs : List Nat) (w : World) (h : Rdr w gR a c xs j) (hab : ∀ x, a = some x → xs ≠ [] → x.block < w.heap.size) (hl : xs.length ≤ 1048576) (hx : ∀ x ∈ xs, x < 256) :
    Calls Try.prog 62 #[.pointer (some ⟨gR, 0, none⟩)] w (fun e w' => AnPost w gR (anyO xs j) e w' ∧ totL wN (anyO xs j).wait ≤ 1048576) := by
  have HR := hid h
  have HAB := hid hab
  have HBY := hid hx
  have hgR : gR < w.heap.size := lt_of_block h.cells
  clear h hab hx
  have HB0 := hid (below_new1 w (.cells #[.int .i64 0, .int .i64 0, .int .i64 0, .slice none 0 0] 30))
  have HK0 : Hid ((w.alloc (.cells #[.int .i64 0, .int .i64 0, .int .i64 0, .slice none 0 0] 30)).heap[w.heap.size]? = some (.cells #[.int .i64 0, .int .i64 0, .int .i64 0, .slice none 0 0] 30 (0, 0))) := hid (heap_alloc_new w _)
  have HS0 : Hid ((w.alloc (.cells #[.int .i64 0, .int .i64 0, .int .i64 0, .slice none 0 0] 30)).heap.size = w.heap.size + 1) := hid (by simp)
  go_enter Try.func62, Try.ntmps62
  go_wp2_with fail
  generalize (w.alloc (.cells #[.int .i64 0, .int .i64 0, .int .i64 0, .slice none 0 0] 30)) = w0 at *
  refine (next_any gR c j a xs w0 (rdr_later HR.out HB0.out) hl HBY.out).mono ?_
  rintro e w1 ⟨rfl, r1, g1⟩
  have HR1 := hid r1
  have HG1 : Hid (w.grownBy w1 (some gR)) := hid (grown_next (grown_later (World.grownBy.refl w (some gR)) HB0.out) g1 (fun p hp => by simp at hp; omega))
  have HK1 : Hid (w1.heap[w.heap.size]? = some (.cells #[.int .i64 0, .int .i64 0, .int .i64 0, .slice none 0 0] 30 (0, 0))) := hid ((g1.block _ (by have := HS0.out; omega) (fun e => by simp at e; omega)).trans HK0.out)
  have HW1 : Hid (w.heap.size < w1.heap.size) := hid (by have := HS0.out; have := g1.size; omega)
  obtain ⟨k, hkk⟩ : ∃ k : Nat, k = nxt xs j % 10 := ⟨_, rfl⟩
  have ik : ((nxt xs j : Nat) : Int) % 10 = (k : Int) := by omega
  have tk : ((nxt xs j : Nat) : Int).tmod 10 = (k : Int) := by rw [hkk]; rfl
  have HKK : Hid (nxt xs j % 10 = k) := hid hkk.symm
  clear hkk r1 g1 HB0 HK0 HS0 HR
  go_wp2_with fail
  refine (drawOut_any gR c (j + 1) a xs w1 HR1.out (fun x h1 h2 => by have := HAB.out x h1 h2; have := HW1.out; omega) hl HBY.out).mono ?_
  rintro e w2 ⟨ao, co, bs, rfl, o2, n2, l2, r2, g2, t2⟩
  obtain ⟨Q, hQ⟩ : ∃ Q : PO × Nat, Q = dOut xs (j + 1) := ⟨_, rfl⟩
  have HQE : Hid (anyO xs j = if k = 0 then spoilO Q.1 (nxt xs Q.2 % 8) (nxt xs (Q.2 + 1)) else Q.1) := hid (by rw [hQ]; unfold anyO; rw [HKK.out])
  have HNX : Hid (NxOK Q.1) := hid (by rw [hQ]; exact dOut_nx xs (j + 1))
  rw [← hQ] at o2 r2 t2 ⊢
  clear hQ
  have HB3 := hid (below_new1 w2 (.cells #[.int .i64 Q.1.epoch, .int .i64 Q.1.next, .int .i64 Q.1.now, .slice ao Q.1.wait.length co] 30))
  have HG2 := hid (grown_next HG1.out g2 (fun p hp => by simp at hp; omega))
  have HK3 : Hid ((w2.alloc (.cells #[.int .i64 Q.1.epoch, .int .i64 Q.1.next, .int .i64 Q.1.now, .slice ao Q.1.wait.length co] 30)).heap[w.heap.size]? = some (.cells #[.int .i64 0, .int .i64 0, .int .i64 0, .slice none 0 0] 30 (0, 0))) := hid (box_laterP2 ((g2.block _ HW1.out (fun e => by simp at e; omega)).trans HK1.out) HB3.out)
  have HJ3 := hid (heap_alloc_new w2 (.cells #[.int .i64 Q.1.epoch, .int .i64 Q.1.next, .int .i64 Q.1.now, .slice ao Q.1.wait.length co] 30))
  have HO3 := hid (o2.kept (fun b hb => HB3.out.block b (o2.lt b hb)))
  have HR3 := hid (rdr_later r2 HB3.out)
  have HG3 := hid (grown_later HG2.out HB3.out)
  have HL2 := hid l2
  have HN2 := hid n2
  have HLT := hid o2.lt
  clear o2 n2 l2 r2 g2 HG2 HK1 HR1
  obtain ⟨b0, hb0⟩ : ∃ b0 : Bool, ((k : Int) == 0) = b0 := ⟨_, rfl⟩
  have HB0 := hid hb0
  go_upto_if 11 with fail
  clear hb0 ik tk HB3
  generalize (w2.alloc (.cells #[.int .i64 Q.1.epoch, .int .i64 Q.1.next, .int .i64 Q.1.now, .slice ao Q.1.wait.length co] 30)) = w3 at *
  generalize hg4 : w2.heap.size = g4 at *
  clear hg4
  have HS3 := hid HG3.out.size
  have c0 := cell_of_row _ _ 0 _ _ _ HJ3.out
  have c1 := cell_of_row _ _ 1 _ _ _ HJ3.out
  have c2 := cell_of_row _ _ 2 _ _ _ HJ3.out
  have c3 := cell_of_row _ _ 3 _ _ _ HJ3.out
  have zc0 := frozen_of_row _ _ 0 _ _ HJ3.out
  have zc1 := frozen_of_row _ _ 1 _ _ HJ3.out
  have zc2 := frozen_of_row _ _ 2 _ _ HJ3.out
  have zc3 := frozen_of_row _ _ 3 _ _ HJ3.out
  simp only [List.getElem?_toArray, List.getElem?_cons_zero, List.getElem?_cons_succ] at c0 c1 c2 c3
  have r0 := cell_of_row _ _ 0 _ _ _ HK3.out
  have r1 := cell_of_row _ _ 1 _ _ _ HK3.out
  have r2 := cell_of_row _ _ 2 _ _ _ HK3.out
  have r3 := cell_of_row _ _ 3 _ _ _ HK3.out
  have zr0 := frozen_of_row _ _ 0 _ _ HK3.out
  have zr1 := frozen_of_row _ _ 1 _ _ HK3.out
  have zr2 := frozen_of_row _ _ 2 _ _ HK3.out
  have zr3 := frozen_of_row _ _ 3 _ _ HK3.out
  simp only [List.getElem?_toArray, List.getElem?_cons_zero, List.getElem?_cons_succ] at r0 r1 r2 r3
  cases b0 with
  | true =>
    have HSP := hid (spoilOut_any gR c Q.2 a xs Q.1 ao co bs w3 HR3.out hl HBY.out HO3.out HN2.out (fun hm => by have := HL2.out gR hm; have := HW1.out; omega) HNX.out t2)
    go_wp2_with fail
    refine HSP.out.mono ?_
    rintro e w4 ⟨a4, c4, bs4, rfl, o4, s4, y4⟩
    obtain ⟨R, hR⟩ : ∃ R : PO, R = spoilO Q.1 (nxt xs Q.2 % 8) (nxt xs (Q.2 + 1)) := ⟨_, rfl⟩
    have HRE : Hid (anyO xs j = R) := hid (by rw [HQE.out, if_pos (by have := beq_iff_eq.1 HB0.out; omega), hR])
    have HRT : Hid (totL wN R.wait ≤ 1048576) := hid (by rw [hR]; exact spoilO_tot t2)
    rw [← hR] at o4 ⊢
    clear hR
    have HK4 : Hid (w4.heap[w.heap.size]? = some (.cells #[.int .i64 0, .int .i64 0, .int .i64 0, .slice none 0 0] 30 (0, 0))) := hid ((y4.block _ (Array.getElem?_eq_some_iff.1 HK3.out).1 (fun hm => by rcases List.mem_cons.1 hm with e | hm; omega; have := HL2.out _ hm; have := HW1.out; omega)).trans HK3.out)
    have HO4 := hid o4
    have HS4 := hid s4
    have HY4 := hid y4
    clear o4 s4 y4
    clear c0 zc0 c1 zc1 c2 zc2 c3 zc3
    clear r0 zr0 r1 zr1 r2 zr2 r3 zr3
    have r0 := cell_of_row _ _ 0 _ _ _ HK4.out
    have r1 := cell_of_row _ _ 1 _ _ _ HK4.out
    have r2 := cell_of_row _ _ 2 _ _ _ HK4.out
    have r3 := cell_of_row _ _ 3 _ _ _ HK4.out
    have zr0 := frozen_of_row _ _ 0 _ _ HK4.out
    have zr1 := frozen_of_row _ _ 1 _ _ HK4.out
    have zr2 := frozen_of_row _ _ 2 _ _ HK4.out
    have zr3 := frozen_of_row _ _ 3 _ _ HK4.out
    simp only [List.getElem?_toArray, List.getElem?_cons_zero, List.getElem?_cons_succ] at r0 r1 r2 r3
    go_wp2_with fail
    refine bodyPost_ret (results_cell_row rfl _ _ w.heap.size 30 #[.int .i64 R.epoch, .int .i64 R.next, .int .i64 R.now, .slice a4 R.wait.length c4] (0, 0) _ rfl (set4 HK4.out) Try.underlying30 rfl (by kernel_rfl)) rfl ?_
    rw [HRE.out]
    have hw1 := HW1.out
    have hs3 := HS3.out
    refine ⟨⟨a4, c4, bs4, rfl, HO4.out.kept (fun b hb => set4o (by have := HL2.out b (HS4.out b hb); omega)), fun b hb => by have := HL2.out b (HS4.out b hb); omega, ?_⟩, HRT.out⟩
    exact ⟨HY4.out.os.trans HG3.out.os, HY4.out.tape.trans HG3.out.tape, HY4.out.output.trans HG3.out.output, by simpa using Nat.le_trans HG3.out.size HY4.out.size, fun q hq hne => (set4o (by omega)).trans ((HY4.out.block q (by omega) (fun hm => by rcases List.mem_cons.1 hm with e | hm; exact hne (by rw [e]); have := HL2.out _ hm; omega)).trans (HG3.out.block q hq hne))⟩
  | false =>
    have HRE : Hid (anyO xs j = Q.1) := hid (by rw [HQE.out, if_neg (by have := beq_eq_false_iff_ne.1 HB0.out; omega)])
    go_wp2_with fail
    refine bodyPost_ret (results_cell_row rfl _ _ w.heap.size 30 #[.int .i64 Q.1.epoch, .int .i64 Q.1.next, .int .i64 Q.1.now, .slice ao Q.1.wait.length co] (0, 0) _ rfl (set4 HK3.out) Try.underlying30 rfl (by kernel_rfl)) rfl ?_
    rw [HRE.out]
    have hw1 := HW1.out
    refine ⟨⟨ao, co, bs, rfl, HO3.out.kept (fun b hb => set4o (by have := HL2.out b hb; omega)), fun b hb => by have := HL2.out b hb; omega, ?_⟩, t2⟩
    exact grown_next HG3.out (set4_grown w3 w.heap.size _ _ _ _) (fun p hp => by simp at hp; omega)
def dlt (xs : List Nat) : PO := if nxt (xs.take 600) 0 = 1 then ⟨(anyO (xs.take 600) 1).epoch, (anyO (xs.take 600) 1).next, 1000000000, (anyO (xs.take 600) 1).wait⟩ else anyO (xs.take 600) 1
def DlPost (w : World) (R : PO) (e : Ending) (w' : World) : Prop :=
  ∃ a c bs, e = .returned (.agg #[.int .i64 R.epoch, .int .i64 R.next, .int .i64 R.now, .slice a R.wait.length c]) ∧ OwnSl cSnt 63 w' R.wait (.slice a R.wait.length c) bs ∧ (∀ b ∈ bs, w.heap.size ≤ b) ∧ Below w.heap.size w w' ∧ totL wN R.wait ≤ 1048576
set_option maxRecDepth 100000 in
set_option maxHeartbeats 4000000 in
theorem drawTick_any (a : Option Addr) (cap : Nat) (ys : List Nat) (w : World) (hr : RdSl cByte w ys (.slice a ys.length cap)) (hl : ys.length ≤ 1048576) :
    Calls Try.prog 20 #[.slice a ys.length cap] w (DlPost w (dlt ys)) := by
  have HX := hid hr
  have HBY : Hid (∀ x ∈ ys.take 600, x < 256) := hid (take_lt hr.rdB.2 600)
  have hcap : ys.length ≤ cap := by obtain ⟨_, _, e', h1, _⟩ := hr; simp only [Value.slice.injEq] at e'; omega
  clear hr
  have HB0 := hid (below_new1 w (.cells #[.int .i64 0, .int .i64 0, .int .i64 0, .slice none 0 0] 30))
  have HK0 : Hid ((w.alloc (.cells #[.int .i64 0, .int .i64 0, .int .i64 0, .slice none 0 0] 30)).heap[w.heap.size]? = some (.cells #[.int .i64 0, .int .i64 0, .int .i64 0, .slice none 0 0] 30 (0, 0))) := hid (heap_alloc_new w _)
  have HS0 : Hid ((w.alloc (.cells #[.int .i64 0, .int .i64 0, .int .i64 0, .slice none 0 0] 30)).heap.size = w.heap.size + 1) := hid (by simp)
  go_enter Try.func20, Try.ntmps20
  go_wp2_with fail
  generalize (w.alloc (.cells #[.int .i64 0, .int .i64 0, .int .i64 0, .slice none 0 0] 30)) = w0 at *
  refine (open_any a cap ys w0 (HX.out.later HB0.out).rdB.1 hcap (fun h => (HX.out.nil0 h).2) hl).mono ?_
  rintro e w1 ⟨a', c', rfl, r1, hab, b1, s1⟩
  have HK1 := hid (box_laterP2 HK0.out b1)
  have HB1 := hid (below_chain HB0.out b1)
  have HR1 := hid r1
  have HAB := hid hab
  have HS1 : Hid (w0.heap.size < w1.heap.size) := hid (by omega)
  have hs0 : w.heap.size < w0.heap.size := by have := HS0.out; omega
  clear r1 hab b1 s1 HK0 HB0 HX
  go_wp2_with fail
  refine (next_any w0.heap.size c' 0 a' (ys.take 600) w1 HR1.out (take_len ys) HBY.out).mono ?_
  rintro e w2 ⟨rfl, r2, g2⟩
  have HR2 := hid r2
  have HK2 : Hid (w2.heap[w.heap.size]? = some (.cells #[.int .i64 0, .int .i64 0, .int .i64 0, .slice none 0 0] 30 (0, 0))) := hid ((g2.block _ (Array.getElem?_eq_some_iff.1 HK1.out).1 (fun e => by simp at e; omega)).trans HK1.out)
  have HB2 := hid (HB1.out.grown g2 HB1.out.size (fun p hp => by simp at hp; omega))
  have HS2 : Hid (w0.heap.size < w2.heap.size) := hid (by have := HS1.out; have := g2.size; omega)
  obtain ⟨k, hkk⟩ : ∃ k : Nat, k = nxt (ys.take 600) 0 := ⟨_, rfl⟩
  rw [← hkk]
  have HKK : Hid (nxt (ys.take 600) 0 = k) := hid hkk.symm
  clear hkk r2 g2 HR1 HK1 HB1 HS1
  go_wp2_with fail
  refine (anyOut_any w0.heap.size c' 1 a' (ys.take 600) w2 HR2.out (fun x h1 h2 => by have := HAB.out x h1 h2; have := HS2.out; omega) (take_len ys) HBY.out).mono ?_
  rintro e w3 ⟨⟨a3, c3, bs3, rfl, o3, l3, g3⟩, t3⟩
  obtain ⟨Q, hQ⟩ : ∃ Q : PO, Q = anyO (ys.take 600) 1 := ⟨_, rfl⟩
  have HQE : Hid (dlt ys = if k = 1 then ⟨Q.epoch, Q.next, 1000000000, Q.wait⟩ else Q) := hid (by rw [hQ]; unfold dlt; rw [HKK.out])
  rw [← hQ] at o3 t3 ⊢
  clear hQ
  have HB4 := hid (below_new1 w3 (.cells #[.int .i64 Q.epoch, .int .i64 Q.next, .int .i64 Q.now, .slice a3 Q.wait.length c3] 30))
  have HK4 : Hid ((w3.alloc (.cells #[.int .i64 Q.epoch, .int .i64 Q.next, .int .i64 Q.now, .slice a3 Q.wait.length c3] 30)).heap[w.heap.size]? = some (.cells #[.int .i64 0, .int .i64 0, .int .i64 0, .slice none 0 0] 30 (0, 0))) := hid (box_laterP2 ((g3.block _ (Array.getElem?_eq_some_iff.1 HK2.out).1 (fun e => by simp at e; omega)).trans HK2.out) HB4.out)
  have HJ4 := hid (heap_alloc_new w3 (.cells #[.int .i64 Q.epoch, .int .i64 Q.next, .int .i64 Q.now, .slice a3 Q.wait.length c3] 30))
  have HO4 := hid (o3.kept (fun b hb => HB4.out.block b (o3.lt b hb)))
  have HLT := hid o3.lt
  have HL3 := hid l3
  have HB3 := hid (HB2.out.grown g3 HB2.out.size (fun p hp => by simp at hp; omega))
  have HBB := hid (below_chain HB3.out HB4.out)
  have HSS : Hid (w.heap.size < w3.heap.size) := hid (by have := HS2.out; have := g3.size; omega)
  obtain ⟨b0, hb0⟩ : ∃ b0 : Bool, ((k : Int) == 1) = b0 := ⟨_, rfl⟩
  have HB0 := hid hb0
  clear o3 l3 g3 HB2 HK2 HR2 HB3 HB4
  go_upto_if 13 with fail
  clear hb0
  generalize (w3.alloc (.cells #[.int .i64 Q.epoch, .int .i64 Q.next, .int .i64 Q.now, .slice a3 Q.wait.length c3] 30)) = w4 at *
  generalize hg4 : w3.heap.size = g4 at *
  clear hg4
  have hw2 := HS2.out
  have hss := HSS.out
  have u0 := cell_of_row _ _ 0 _ _ _ HJ4.out
  have u1 := cell_of_row _ _ 1 _ _ _ HJ4.out
  have u2 := cell_of_row _ _ 2 _ _ _ HJ4.out
  have u3 := cell_of_row _ _ 3 _ _ _ HJ4.out
  have zu0 := frozen_of_row _ _ 0 _ _ HJ4.out
  have zu1 := frozen_of_row _ _ 1 _ _ HJ4.out
  have zu2 := frozen_of_row _ _ 2 _ _ HJ4.out
  have zu3 := frozen_of_row _ _ 3 _ _ HJ4.out
  simp only [List.getElem?_toArray, List.getElem?_cons_zero, List.getElem?_cons_succ] at u0 u1 u2 u3
  have r0 := cell_of_row _ _ 0 _ _ _ HK4.out
  have r1 := cell_of_row _ _ 1 _ _ _ HK4.out
  have r2 := cell_of_row _ _ 2 _ _ _ HK4.out
  have r3 := cell_of_row _ _ 3 _ _ _ HK4.out
  have zr0 := frozen_of_row _ _ 0 _ _ HK4.out
  have zr1 := frozen_of_row _ _ 1 _ _ HK4.out
  have zr2 := frozen_of_row _ _ 2 _ _ HK4.out
  have zr3 := frozen_of_row _ _ 3 _ _ HK4.out
  simp only [List.getElem?_toArray, List.getElem?_cons_zero, List.getElem?_cons_succ] at r0 r1 r2 r3
  cases b0 with
  | true =>
    have HRE : Hid (dlt ys = ⟨Q.epoch, Q.next, 1000000000, Q.wait⟩) := hid (by rw [HQE.out, if_pos (by have := beq_iff_eq.1 HB0.out; omega)])
    have HJ5 : Hid ((w4.setCell ⟨g4, 2, none⟩ (.int .i64 1000000000)).heap[g4]? = some (.cells #[.int .i64 Q.epoch, .int .i64 Q.next, .int .i64 1000000000, .slice a3 Q.wait.length c3] 30 (0, 0))) := hid (by have h := heap_setCell_same w4 g4 2 _ _ (.int .i64 1000000000) HJ4.out; exact h)
    have HK5 : Hid ((w4.setCell ⟨g4, 2, none⟩ (.int .i64 1000000000)).heap[w.heap.size]? = some (.cells #[.int .i64 0, .int .i64 0, .int .i64 0, .slice none 0 0] 30 (0, 0))) := hid ((Below.heap_setCell w4 ⟨g4, 2, none⟩ (.int .i64 1000000000) w.heap.size (by simp only []; omega)).trans HK4.out)
    have HO5 := hid (HO4.out.kept (w' := w4.setCell ⟨g4, 2, none⟩ (.int .i64 1000000000)) (fun b hb => Below.heap_setCell w4 ⟨g4, 2, none⟩ (.int .i64 1000000000) b (by have := HLT.out b hb; simp only []; omega)))
    have HB5 := hid (HBB.out.setCell (p := ⟨g4, 2, none⟩) (by simp only []; omega) (.int .i64 1000000000))
    go_upto_region 6 with fail
    generalize (w4.setCell ⟨g4, 2, none⟩ (.int .i64 1000000000)) = w5 at *
    clear u0 zu0 u1 zu1 u2 zu2 u3 zu3
    clear r0 zr0 r1 zr1 r2 zr2 r3 zr3
    have u0 := cell_of_row _ _ 0 _ _ _ HJ5.out
    have u1 := cell_of_row _ _ 1 _ _ _ HJ5.out
    have u2 := cell_of_row _ _ 2 _ _ _ HJ5.out
    have u3 := cell_of_row _ _ 3 _ _ _ HJ5.out
    have zu0 := frozen_of_row _ _ 0 _ _ HJ5.out
    have zu1 := frozen_of_row _ _ 1 _ _ HJ5.out
    have zu2 := frozen_of_row _ _ 2 _ _ HJ5.out
    have zu3 := frozen_of_row _ _ 3 _ _ HJ5.out
    simp only [List.getElem?_toArray, List.getElem?_cons_zero, List.getElem?_cons_succ] at u0 u1 u2 u3
    have r0 := cell_of_row _ _ 0 _ _ _ HK5.out
    have r1 := cell_of_row _ _ 1 _ _ _ HK5.out
    have r2 := cell_of_row _ _ 2 _ _ _ HK5.out
    have r3 := cell_of_row _ _ 3 _ _ _ HK5.out
    have zr0 := frozen_of_row _ _ 0 _ _ HK5.out
    have zr1 := frozen_of_row _ _ 1 _ _ HK5.out
    have zr2 := frozen_of_row _ _ 2 _ _ HK5.out
    have zr3 := frozen_of_row _ _ 3 _ _ HK5.out
    simp only [List.getElem?_toArray, List.getElem?_cons_zero, List.getElem?_cons_succ] at r0 r1 r2 r3
    go_wp2_with fail
    refine bodyPost_ret (results_cell_row rfl _ _ w.heap.size 30 #[.int .i64 Q.epoch, .int .i64 Q.next, .int .i64 1000000000, .slice a3 Q.wait.length c3] (0, 0) _ rfl (set4 HK5.out) Try.underlying30 rfl (by kernel_rfl)) rfl ?_
    rw [HRE.out]
    exact ⟨a3, c3, bs3, rfl, HO5.out.kept (fun b hb => set4o (by have := HL3.out b hb; omega)), fun b hb => by have := HL3.out b hb; omega, set4b HB5.out (Nat.le_refl _), t3⟩
  | false =>
    have HRE : Hid (dlt ys = Q) := hid (by rw [HQE.out, if_neg (by have := beq_eq_false_iff_ne.1 HB0.out; omega)])
    go_wp2_with fail
    refine bodyPost_ret (results_cell_row rfl _ _ w.heap.size 30 #[.int .i64 Q.epoch, .int .i64 Q.next, .int .i64 Q.now, .slice a3 Q.wait.length c3] (0, 0) _ rfl (set4 HK4.out) Try.underlying30 rfl (by kernel_rfl)) rfl ?_
    rw [HRE.out]
    exact ⟨a3, c3, bs3, rfl, HO4.out.kept (fun b hb => set4o (by have := HL3.out b hb; omega)), fun b hb => by have := HL3.out b hb; omega, set4b HBB.out (Nat.le_refl _), t3⟩
end Go.Proofs.Ytmaccmgmcahopaa
