import Derived.Test.YtcljakdcejhfiabJDecodePacket24
import Derived.Test.YtcljakdcejhfiabJDecodePacket26
import Derived.Test.YtcljakdcejhfiabJDecodePacket28
import Derived.Test.YtcljakdcejhfiabJDecodePacket29
namespace Go.Proofs.Ytcljakdcejhfiab
open Go.RowKit
def pdSH (lo K E C : Nat) (SI : Int) (LB : Bool) (D : List Nat) (x : Nat → Bool) (t : Nat → Value) (w : World) : Prop := x 25 = true → ∃ g a c, t 24 = .pointer (some ⟨g, 0, none⟩) ∧ lo ≤ g ∧ w.heap[g]? = some (.cells #[.int .i64 (K : Int), .int .i64 (E : Int), .int .i64 SI, .int .i64 (C : Int), .bool LB, .slice a D.length c] 35 (0, 0)) ∧ w.ownsRow lo 5 1 (.slice a D.length c) D.length (byt D)
set_option linter.unusedVariables false in

def pdST (lo b off cap n d : Nat) (K E S C T : Nat) (SI : Int) (LB : Bool) (D : List Nat) : Nat → FX
  | 0 => FX.eq (.slice (some ⟨b, off, none⟩) n cap)
  | 1 => FX.eq (.pointer (some ⟨b, off + 1, none⟩))
  | 2 => FX.eq (.int .u8 (K : Int))
  | 3 => FX.eq (.int .i64 (K : Int))
  | 4 => FX.eq (.slice (some ⟨b, off, none⟩) n cap)
  | 5 => FX.eq (.slice (some ⟨b, off + 2, none⟩) 4 (cap - 2))
  | 6 => FX.eq (.int .i64 (E : Int))
  | 7 => FX.eq (.slice (some ⟨b, off, none⟩) n cap)
  | 8 => FX.eq (.slice (some ⟨b, off + 6, none⟩) 8 (cap - 6))
  | 9 => FX.eq (.int .i64 SI)
  | 10 => FX.eq (.slice (some ⟨b, off, none⟩) n cap)
  | 11 => FX.eq (.slice (some ⟨b, off + 14, none⟩) 4 (cap - 14))
  | 12 => FX.eq (.int .i64 (C : Int))
  | 13 => FX.eq (.slice (some ⟨b, off, none⟩) n cap)
  | 14 => FX.eq (.pointer (some ⟨b, off + 18, none⟩))
  | 15 => FX.eq (.int .u8 (T : Int))
  | 16 => FX.eq (.bool LB)
  | 17 => FX.eq (.slice (some ⟨b, off, none⟩) n cap)
  | 18 => FX.eq (.slice (some ⟨b, off, none⟩) n cap)
  | 19 => FX.eq (.int .i64 (n : Int))
  | 20 => FX.eq (.int .i64 ((n : Int) - 4))
  | 21 => FX.eq (.slice (some ⟨b, off + 21, none⟩) d (cap - 21))
  | 22 => FX.pre [25] (fcRowD lo D)
  | 23 => FX.pre [25] (fcAggD lo K E C SI LB D)
  | 24 => FX.pre [25] (fcNewD lo)
  | 25 => FX.is Fct.any
  | _ => FX.eq undef
set_option maxRecDepth 100000 in
set_option maxHeartbeats 8000000 in
theorem specPd_any (a : Option Addr) (cap : Nat) (xs : List Nat) (w : World) (hr : RdSl cByte w xs (.slice a xs.length cap)) (hl : xs.length ≤ 1048576) :
    Calls Try.prog 29 #[.slice a xs.length cap] w (PdPost w (pkP xs) (pkC xs)) := by
  have HR := hid hr
  have HB0 := hid (below_new1 w (.cells #[.int .i64 0, .int .i64 0, .int .i64 0, .int .i64 0, .bool false, .slice none 0 0] 35))
  have HK0 : Hid ((w.alloc (.cells #[.int .i64 0, .int .i64 0, .int .i64 0, .int .i64 0, .bool false, .slice none 0 0] 35)).heap[w.heap.size]? = some (.cells #[.int .i64 0, .int .i64 0, .int .i64 0, .int .i64 0, .bool false, .slice none 0 0] 35 (0, 0))) := hid (heap_alloc_new w _)
  clear hr
  by_cases s1 : xs.length < 25
  · have HD := hid (pk_no (okB_short s1))
    go_enter Try.func29, Try.ntmps29
    go_wp2
    refine bodyPost_ret (results_cell_row_tmpD rfl _ _ w.heap.size 35 #[.int .i64 0, .int .i64 0, .int .i64 0, .int .i64 0, .bool false, .slice none 0 0] (0, 0) _ rfl HK0.out Try.underlying35 rfl (by kernel_rfl)) rfl ?_
    exact pdPost_nil HB0.out HD.out.1 HD.out.2
  by_cases s2 : 125 < xs.length
  · have HD := hid (pk_no (okB_long s2))
    go_enter Try.func29, Try.ntmps29
    go_wp2
    refine bodyPost_ret (results_cell_row_tmpD rfl _ _ w.heap.size 35 #[.int .i64 0, .int .i64 0, .int .i64 0, .int .i64 0, .bool false, .slice none 0 0] (0, 0) _ rfl HK0.out Try.underlying35 rfl (by kernel_rfl)) rfl ?_
    exact pdPost_nil HB0.out HD.out.1 HD.out.2
  obtain ⟨b, off, K, rfl, g1, x1, d1⟩ := byte_at HR.out (k := 1) (by omega)
  obtain ⟨_, _, T, e, g18, x18, d18⟩ := byte_at HR.out (k := 18) (by omega)
  simp only [Option.some.injEq, Addr.mk.injEq, and_true] at e
  obtain ⟨rfl, rfl⟩ := e
  have hcap : xs.length ≤ cap := by obtain ⟨_, _, e, h, _⟩ := HR.out; simp at e; omega
  have hcm : cap ≤ maxLen := by obtain ⟨_, _, e, _, h, _⟩ := HR.out; simp at e; obtain ⟨_, rfl⟩ := e; exact h
  have hc2 : ¬ cap = 2 := by omega
  have hc6 : ¬ cap = 6 := by omega
  have hc14 : ¬ cap = 14 := by omega
  have hc21 : ¬ cap = 21 := by omega
  have HBY := hid HR.out.rdB.2
  have kp0 : ∀ p v, w.cell? p = some v → (w.alloc (.cells #[.int .i64 0, .int .i64 0, .int .i64 0, .int .i64 0, .bool false, .slice none 0 0] 35)).cell? p = some v := fun p v h => (HB0.out.cell (World.block_lt_of_cell? _ _ h)).trans h
  have k1 := kp0 _ _ d1
  have k18 := kp0 _ _ d18
  have hlt : ∀ lo n, ∀ x ∈ (xs.drop lo).take n, x < 256 := fun lo n x hx => HBY.out x (List.mem_of_mem_drop (List.mem_of_mem_take hx))
  have hE := num_below (n := 4) (hlt 2 4) (by simp; omega)
  have hS := num_below (n := 8) (hlt 6 8) (by simp; omega)
  have hC := num_below (n := 4) (hlt 14 4) (by simp; omega)
  simp only [Nat.reducePow] at hE hS hC
  have hnum : ∀ lo n, lo + n ≤ xs.length → n ≤ 8 → ∀ w', Below w.heap.size w w' → Calls Try.prog 58 #[.slice (some ⟨b, off + lo, none⟩) n (cap - lo)] w' fun e w2 => e = .returned (.int .i64 (wrap64 ((num ((xs.drop lo).take n) : Nat) : Int))) ∧ w2 = w' := fun lo n h1 h2 w' hb => by
    have hle : ((xs.drop lo).take n).length = n := by simp; omega
    have h := number8_any (some ⟨b, off + lo, none⟩) (cap - lo) ((xs.drop lo).take n) w' (by rw [hle]; exact (rdB_cut HR.out (lo := lo) (n := n) h1).later hb) (by omega)
    rw [hle] at h
    exact h
  have HE0 := hid (hnum 2 4 (by omega) (by omega))
  have HS0 := hid (hnum 6 8 (by omega) (by omega))
  have HC0 := hid (hnum 14 4 (by omega) (by omega))
  rw [wrap64_small _ hE] at HE0
  rw [wrap64_small _ hC] at HC0
  clear hnum
  have HCL0 : Hid (∀ w', Below w.heap.size w w' → Calls Try.prog 59 #[.slice (some ⟨b, off + 21, none⟩) ((xs.drop 21).take (xs.length - 25)).length (cap - 21)] w' fun e w2 => ∃ v, e = .returned v ∧ w2.ownsRow w'.heap.size 5 1 v ((xs.drop 21).take (xs.length - 25)).length (byt ((xs.drop 21).take (xs.length - 25))) ∧ Below w'.heap.size w' w2) := hid (fun w' hb => by
    have hle : ((xs.drop 21).take (xs.length - 25)).length = xs.length - 25 := by simp; omega
    refine l1copy_any (some ⟨b, off + 21, none⟩) (cap - 21) _ w' ?_ (by omega)
    rw [hle]
    exact (rdB_cut HR.out (lo := 21) (n := xs.length - 25) (by omega)).later hb)
  have hDL : ((xs.drop 21).take (xs.length - 25)).length = xs.length - 25 := by simp; omega
  have hDB := hlt 21 (xs.length - 25)
  have HSI : Hid (wrap64 ((num ((xs.drop 6).take 8) : Nat) : Int) = IntKind.i64.wrap ((num ((xs.drop 6).take 8) : Nat) : Int)) := hid (wr64 _)
  have HG : Hid (pktG xs = ⟨(K : Int), ((num ((xs.drop 2).take 4) : Nat) : Int), wrap64 ((num ((xs.drop 6).take 8) : Nat) : Int), ((num ((xs.drop 14).take 4) : Nat) : Int), ((T : Int) == 1), (xs.drop 21).take (xs.length - 25)⟩) := hid (by
    unfold pktG
    rw [g1, g18, HSI.out]
    simp only [Option.getD_some]
    congr 1
    cases hT : T == 1
    · simp at hT ⊢; omega
    · simp at hT ⊢; omega)
  have HIN : Hid (PPIn (pktG xs)) := hid (pktG_in x1 hE hS hC HG.out)
  generalize num ((xs.drop 2).take 4) = E at *
  generalize num ((xs.drop 6).take 8) = S at *
  generalize num ((xs.drop 14).take 4) = C at *
  generalize hSIe : wrap64 (S : Int) = SI at *
  generalize hLB : ((T : Int) == 1) = LB at *
  have HSW : Hid (IntKind.i64.wrap (S : Int) = SI) := hid (by rw [← hSIe, wr64])
  clear hSIe
  have HLB : Hid (LB = ((T : Int) == 1)) := hid hLB.symm
  generalize hDe : (xs.drop 21).take (xs.length - 25) = D at *
  have HDL := hid hDL
  have HDB := hid hDB
  have u1 : IntKind.i64.wrap (K : Int) = K := by rw [← wr64]; exact wrap64_small _ (by omega)
  have uE : IntKind.i64.wrap (E : Int) = E := by rw [← wr64]; exact wrap64_small _ hE
  have uC : IntKind.i64.wrap (C : Int) = C := by rw [← wr64]; exact wrap64_small _ hC
  have uN : IntKind.i64.wrap ((xs.length : Int) - 4) = (xs.length : Int) - 4 := by rw [← wr64]; unfold wrap64; omega
  have i1 : (1 : Int) < (xs.length : Int) := by omega
  have i18 : (18 : Int) < (xs.length : Int) := by omega
  have c6 : (6 : Int) ≤ (cap : Int) := by omega
  have c14 : (14 : Int) ≤ (cap : Int) := by omega
  have c18 : (18 : Int) ≤ (cap : Int) := by omega
  have cN : (xs.length : Int) - 4 ≤ (cap : Int) := by omega
  have cM : (21 : Int) ≤ (xs.length : Int) - 4 := by omega
  clear hLB hDe g1 g18 hlt kp0 d1 d18 hDB HSI
  have hs0 : (w.alloc (.cells #[.int .i64 0, .int .i64 0, .int .i64 0, .int .i64 0, .bool false, .slice none 0 0] 35)).heap.size = w.heap.size + 1 := by simp
  have hs1 : w.heap.size + 1 ≤ (w.alloc (.cells #[.int .i64 0, .int .i64 0, .int .i64 0, .int .i64 0, .bool false, .slice none 0 0] 35)).heap.size := by omega
  clear hs0
  have HE := hid (fun w' (hb : Below (w.alloc (.cells #[.int .i64 0, .int .i64 0, .int .i64 0, .int .i64 0, .bool false, .slice none 0 0] 35)).heap.size (w.alloc (.cells #[.int .i64 0, .int .i64 0, .int .i64 0, .int .i64 0, .bool false, .slice none 0 0] 35)) w') => HE0.out w' (below_chain HB0.out hb))
  have HS := hid (fun w' (hb : Below (w.alloc (.cells #[.int .i64 0, .int .i64 0, .int .i64 0, .int .i64 0, .bool false, .slice none 0 0] 35)).heap.size (w.alloc (.cells #[.int .i64 0, .int .i64 0, .int .i64 0, .int .i64 0, .bool false, .slice none 0 0] 35)) w') => HS0.out w' (below_chain HB0.out hb))
  have HC := hid (fun w' (hb : Below (w.alloc (.cells #[.int .i64 0, .int .i64 0, .int .i64 0, .int .i64 0, .bool false, .slice none 0 0] 35)).heap.size (w.alloc (.cells #[.int .i64 0, .int .i64 0, .int .i64 0, .int .i64 0, .bool false, .slice none 0 0] 35)) w') => HC0.out w' (below_chain HB0.out hb))
  have HCL := hid (fun w' (hb : Below (w.alloc (.cells #[.int .i64 0, .int .i64 0, .int .i64 0, .int .i64 0, .bool false, .slice none 0 0] 35)).heap.size (w.alloc (.cells #[.int .i64 0, .int .i64 0, .int .i64 0, .int .i64 0, .bool false, .slice none 0 0] 35)) w') => HCL0.out w' (below_chain HB0.out hb))
  clear HE0 HS0 HC0 HCL0
  have HDQ : Hid (((xs.length : Int) - 4).toNat - 21 = D.length) := hid (by omega)
  clear hDL
  have d25 : decide ((xs.length : Int) < 25) = false := decide_eq_false (by omega)
  have d125 : decide (125 < (xs.length : Int)) = false := decide_eq_false (by omega)
  go_enter Try.func29, Try.ntmps29
  go_wp2_with fail
  generalize (w.alloc (.cells #[.int .i64 0, .int .i64 0, .int .i64 0, .int .i64 0, .bool false, .slice none 0 0] 35)) = W0 at *
  refine region_turns3 (n := 26) (by kernel_rfl) (by kernel_rfl) ?_ (fun t => { tmps := #[.slice (some ⟨b, off, none⟩) xs.length cap, undef, .pointer (some ⟨w.heap.size, 0, none⟩), .int .i64 0, t 24, .slice (some ⟨b, off, none⟩) xs.length cap, .int .i64 (xs.length : Int), .bool false, .bool false, .slice (some ⟨b, off, none⟩) xs.length cap, .int .i64 (xs.length : Int), .bool false, .bool false, undef, t 0, t 1, t 2, t 3, t 4, t 5, t 6, t 7, t 8, t 9, t 10, t 11, t 12, t 13, t 14, t 15, t 16, t 17, t 18, t 19, t 20, t 21, t 22, t 23, undef, undef, undef, undef, undef, undef, undef], defers := [] }) (pdST W0.heap.size b off cap xs.length D.length K E S C T SI LB D) [25] (Fct.any) (pdSH W0.heap.size K E C SI LB D) W0 W0 (fun k => if k = 22 then [25] else if k = 23 then [25] else if k = 24 then [25] else []) (fun k => !(k == 22 || k == 23 || k == 24 || k == 25)) (fun _ _ _ => True) [25] (fun _ _ => false) (by kernel_rfl) (fun _ _ _ _ h => by cases h) (fun i hi hn => absurd hi hn) (fun j hj => by rcases (by omega : j = 0 ∨ j = 1 ∨ j = 2 ∨ j = 3 ∨ j = 4 ∨ j = 5 ∨ j = 6 ∨ j = 7 ∨ j = 8 ∨ j = 9 ∨ j = 10 ∨ j = 11 ∨ j = 12 ∨ j = 13 ∨ j = 14 ∨ j = 15 ∨ j = 16 ∨ j = 17 ∨ j = 18 ∨ j = 19 ∨ j = 20 ∨ j = 21 ∨ j = 22 ∨ j = 23 ∨ j = 24 ∨ j = 25) with rfl | rfl | rfl | rfl | rfl | rfl | rfl | rfl | rfl | rfl | rfl | rfl | rfl | rfl | rfl | rfl | rfl | rfl | rfl | rfl | rfl | rfl | rfl | rfl | rfl | rfl <;> rfl) (fun j hj hp => by rcases (by omega : j = 0 ∨ j = 1 ∨ j = 2 ∨ j = 3 ∨ j = 4 ∨ j = 5 ∨ j = 6 ∨ j = 7 ∨ j = 8 ∨ j = 9 ∨ j = 10 ∨ j = 11 ∨ j = 12 ∨ j = 13 ∨ j = 14 ∨ j = 15 ∨ j = 16 ∨ j = 17 ∨ j = 18 ∨ j = 19 ∨ j = 20 ∨ j = 21 ∨ j = 22 ∨ j = 23 ∨ j = 24 ∨ j = 25) with rfl | rfl | rfl | rfl | rfl | rfl | rfl | rfl | rfl | rfl | rfl | rfl | rfl | rfl | rfl | rfl | rfl | rfl | rfl | rfl | rfl | rfl | rfl | rfl | rfl | rfl <;> first | rfl | (exact absurd hp (by decide))) (fun j => ([undef, undef, undef, undef, undef, undef, undef, undef, undef, undef, undef, undef, undef, undef, undef, undef, undef, undef, undef, undef, undef, undef, undef, undef, undef, undef] : List Value).getD j undef) (fun h => by cases h) (Below.refl _ W0) (trivial) ?_ ?_
  · rfl
  · intro i hi x t wx hxi hsh h0 hbx hgx hdp hall hHx
    have p1 := (hbx.cell (World.block_lt_of_cell? _ _ k1)).trans k1
    have p18 := (hbx.cell (World.block_lt_of_cell? _ _ k18)).trans k18
    rcases (by omega : i = 0 ∨ i = 1 ∨ i = 2 ∨ i = 3 ∨ i = 4 ∨ i = 5 ∨ i = 6 ∨ i = 7 ∨ i = 8 ∨ i = 9 ∨ i = 10 ∨ i = 11 ∨ i = 12 ∨ i = 13 ∨ i = 14 ∨ i = 15 ∨ i = 16 ∨ i = 17 ∨ i = 18 ∨ i = 19 ∨ i = 20 ∨ i = 21 ∨ i = 22 ∨ i = 23 ∨ i = 24 ∨ i = 25) with rfl | rfl | rfl | rfl | rfl | rfl | rfl | rfl | rfl | rfl | rfl | rfl | rfl | rfl | rfl | rfl | rfl | rfl | rfl | rfl | rfl | rfl | rfl | rfl | rfl | rfl
    · 
      try dsimp only
      have hy := notYet hsh hxi 25 (by kernel_rfl)
      clear h0
      refine wpOp_step rfl (fun K' hK => ?_)
      go_simp
      exact hK _ _ ⟨.slice (some ⟨b, off, none⟩) xs.length cap, (by simp [upd]), FX.eq_mk rfl, fun _ => Below.refl _ _, fun h => absurd h (by decide), hbx, fun h => absurd h (by simp [hy])⟩
    · 
      try dsimp only
      have x0 := depX hdp 0 (by kernel_rfl)
      have d0 := hall 0 (by omega) x0
      have e0 : t 0 = .slice (some ⟨b, off, none⟩) xs.length cap := d0.1
      rw [e0]
      have hy := notYet hsh hxi 25 (by kernel_rfl)
      clear h0
      refine wpOp_step rfl (fun K' hK => ?_)
      go_simp
      exact hK _ _ ⟨.pointer (some ⟨b, off + 1, none⟩), (by simp [upd, e0]), FX.eq_mk rfl, fun _ => Below.refl _ _, fun h => absurd h (by decide), hbx, fun h => absurd h (by simp [hy])⟩
    · 
      try dsimp only
      have x1 := depX hdp 1 (by kernel_rfl)
      have d1 := hall 1 (by omega) x1
      have e1 : t 1 = .pointer (some ⟨b, off + 1, none⟩) := d1.1
      rw [e1]
      have hy := notYet hsh hxi 25 (by kernel_rfl)
      clear h0
      refine wpOp_step rfl (fun K' hK => ?_)
      go_simp
      exact hK _ _ ⟨.int .u8 (K : Int), (by simp [upd, e1]), FX.eq_mk rfl, fun _ => Below.refl _ _, fun h => absurd h (by decide), hbx, fun h => absurd h (by simp [hy])⟩
    · 
      try dsimp only
      have x2 := depX hdp 2 (by kernel_rfl)
      have d2 := hall 2 (by omega) x2
      have e2 : t 2 = .int .u8 (K : Int) := d2.1
      rw [e2]
      have hy := notYet hsh hxi 25 (by kernel_rfl)
      clear h0
      refine wpOp_step rfl (fun K' hK => ?_)
      go_simp
      exact hK _ _ ⟨.int .i64 (K : Int), (by simp [upd, e2]), FX.eq_mk rfl, fun _ => Below.refl _ _, fun h => absurd h (by decide), hbx, fun h => absurd h (by simp [hy])⟩
    · 
      try dsimp only
      have hy := notYet hsh hxi 25 (by kernel_rfl)
      clear h0
      refine wpOp_step rfl (fun K' hK => ?_)
      go_simp
      exact hK _ _ ⟨.slice (some ⟨b, off, none⟩) xs.length cap, (by simp [upd]), FX.eq_mk rfl, fun _ => Below.refl _ _, fun h => absurd h (by decide), hbx, fun h => absurd h (by simp [hy])⟩
    · 
      try dsimp only
      have x4 := depX hdp 4 (by kernel_rfl)
      have d4 := hall 4 (by omega) x4
      have e4 : t 4 = .slice (some ⟨b, off, none⟩) xs.length cap := d4.1
      rw [e4]
      have hy := notYet hsh hxi 25 (by kernel_rfl)
      clear h0
      refine wpOp_step rfl (fun K' hK => ?_)
      go_simp
      exact hK _ _ ⟨.slice (some ⟨b, off + 2, none⟩) 4 (cap - 2), (by simp [upd, e4]), FX.eq_mk rfl, fun _ => Below.refl _ _, fun h => absurd h (by decide), hbx, fun h => absurd h (by simp [hy])⟩
    · 
      try dsimp only
      have x5 := depX hdp 5 (by kernel_rfl)
      have d5 := hall 5 (by omega) x5
      have e5 : t 5 = .slice (some ⟨b, off + 2, none⟩) 4 (cap - 2) := d5.1
      rw [e5]
      have hy := notYet hsh hxi 25 (by kernel_rfl)
      clear h0
      refine wpOp_step rfl (fun K' hK => ?_)
      go_simp
      refine (HE.out wx hbx).mono ?_
      rintro e w2 ⟨rfl, rfl⟩
      exact hK _ _ ⟨.int .i64 (E : Int), (by simp [upd, e5]), FX.eq_mk rfl, fun _ => Below.refl _ _, fun h => absurd h (by decide), hbx, fun h => absurd h (by simp [hy])⟩
    · 
      try dsimp only
      have hy := notYet hsh hxi 25 (by kernel_rfl)
      clear h0
      refine wpOp_step rfl (fun K' hK => ?_)
      go_simp
      exact hK _ _ ⟨.slice (some ⟨b, off, none⟩) xs.length cap, (by simp [upd]), FX.eq_mk rfl, fun _ => Below.refl _ _, fun h => absurd h (by decide), hbx, fun h => absurd h (by simp [hy])⟩
    · 
      try dsimp only
      have x7 := depX hdp 7 (by kernel_rfl)
      have d7 := hall 7 (by omega) x7
      have e7 : t 7 = .slice (some ⟨b, off, none⟩) xs.length cap := d7.1
      rw [e7]
      have hy := notYet hsh hxi 25 (by kernel_rfl)
      clear h0
      refine wpOp_step rfl (fun K' hK => ?_)
      go_simp
      exact hK _ _ ⟨.slice (some ⟨b, off + 6, none⟩) 8 (cap - 6), (by simp [upd, e7]), FX.eq_mk rfl, fun _ => Below.refl _ _, fun h => absurd h (by decide), hbx, fun h => absurd h (by simp [hy])⟩
    · 
      try dsimp only
      have x8 := depX hdp 8 (by kernel_rfl)
      have d8 := hall 8 (by omega) x8
      have e8 : t 8 = .slice (some ⟨b, off + 6, none⟩) 8 (cap - 6) := d8.1
      rw [e8]
      have hy := notYet hsh hxi 25 (by kernel_rfl)
      clear h0
      refine wpOp_step rfl (fun K' hK => ?_)
      go_simp
      refine (HS.out wx hbx).mono ?_
      rintro e w2 ⟨rfl, rfl⟩
      exact hK _ _ ⟨.int .i64 SI, (by simp [upd, e8]), FX.eq_mk rfl, fun _ => Below.refl _ _, fun h => absurd h (by decide), hbx, fun h => absurd h (by simp [hy])⟩
    · 
      try dsimp only
      have hy := notYet hsh hxi 25 (by kernel_rfl)
      clear h0
      refine wpOp_step rfl (fun K' hK => ?_)
      go_simp
      exact hK _ _ ⟨.slice (some ⟨b, off, none⟩) xs.length cap, (by simp [upd]), FX.eq_mk rfl, fun _ => Below.refl _ _, fun h => absurd h (by decide), hbx, fun h => absurd h (by simp [hy])⟩
    · 
      try dsimp only
      have x10 := depX hdp 10 (by kernel_rfl)
      have d10 := hall 10 (by omega) x10
      have e10 : t 10 = .slice (some ⟨b, off, none⟩) xs.length cap := d10.1
      rw [e10]
      have hy := notYet hsh hxi 25 (by kernel_rfl)
      clear h0
      refine wpOp_step rfl (fun K' hK => ?_)
      go_simp
      exact hK _ _ ⟨.slice (some ⟨b, off + 14, none⟩) 4 (cap - 14), (by simp [upd, e10]), FX.eq_mk rfl, fun _ => Below.refl _ _, fun h => absurd h (by decide), hbx, fun h => absurd h (by simp [hy])⟩
    · 
      try dsimp only
      have x11 := depX hdp 11 (by kernel_rfl)
      have d11 := hall 11 (by omega) x11
      have e11 : t 11 = .slice (some ⟨b, off + 14, none⟩) 4 (cap - 14) := d11.1
      rw [e11]
      have hy := notYet hsh hxi 25 (by kernel_rfl)
      clear h0
      refine wpOp_step rfl (fun K' hK => ?_)
      go_simp
      refine (HC.out wx hbx).mono ?_
      rintro e w2 ⟨rfl, rfl⟩
      exact hK _ _ ⟨.int .i64 (C : Int), (by simp [upd, e11]), FX.eq_mk rfl, fun _ => Below.refl _ _, fun h => absurd h (by decide), hbx, fun h => absurd h (by simp [hy])⟩
    · 
      try dsimp only
      have hy := notYet hsh hxi 25 (by kernel_rfl)
      clear h0
      refine wpOp_step rfl (fun K' hK => ?_)
      go_simp
      exact hK _ _ ⟨.slice (some ⟨b, off, none⟩) xs.length cap, (by simp [upd]), FX.eq_mk rfl, fun _ => Below.refl _ _, fun h => absurd h (by decide), hbx, fun h => absurd h (by simp [hy])⟩
    · 
      try dsimp only
      have x13 := depX hdp 13 (by kernel_rfl)
      have d13 := hall 13 (by omega) x13
      have e13 : t 13 = .slice (some ⟨b, off, none⟩) xs.length cap := d13.1
      rw [e13]
      have hy := notYet hsh hxi 25 (by kernel_rfl)
      clear h0
      refine wpOp_step rfl (fun K' hK => ?_)
      go_simp
      exact hK _ _ ⟨.pointer (some ⟨b, off + 18, none⟩), (by simp [upd, e13]), FX.eq_mk rfl, fun _ => Below.refl _ _, fun h => absurd h (by decide), hbx, fun h => absurd h (by simp [hy])⟩
    · 
      try dsimp only
      have x14 := depX hdp 14 (by kernel_rfl)
      have d14 := hall 14 (by omega) x14
      have e14 : t 14 = .pointer (some ⟨b, off + 18, none⟩) := d14.1
      rw [e14]
      have hy := notYet hsh hxi 25 (by kernel_rfl)
      clear h0
      refine wpOp_step rfl (fun K' hK => ?_)
      go_simp
      exact hK _ _ ⟨.int .u8 (T : Int), (by simp [upd, e14]), FX.eq_mk rfl, fun _ => Below.refl _ _, fun h => absurd h (by decide), hbx, fun h => absurd h (by simp [hy])⟩
    · 
      try dsimp only
      have x15 := depX hdp 15 (by kernel_rfl)
      have d15 := hall 15 (by omega) x15
      have e15 : t 15 = .int .u8 (T : Int) := d15.1
      rw [e15]
      have hy := notYet hsh hxi 25 (by kernel_rfl)
      clear h0
      refine wpOp_step rfl (fun K' hK => ?_)
      go_simp
      exact hK _ _ ⟨.bool LB, (by rw [HLB.out]; simp [upd, e15]), FX.eq_mk rfl, fun _ => Below.refl _ _, fun h => absurd h (by decide), hbx, fun h => absurd h (by simp [hy])⟩
    · 
      try dsimp only
      have hy := notYet hsh hxi 25 (by kernel_rfl)
      clear h0
      refine wpOp_step rfl (fun K' hK => ?_)
      go_simp
      exact hK _ _ ⟨.slice (some ⟨b, off, none⟩) xs.length cap, (by simp [upd]), FX.eq_mk rfl, fun _ => Below.refl _ _, fun h => absurd h (by decide), hbx, fun h => absurd h (by simp [hy])⟩
    · 
      try dsimp only
      have hy := notYet hsh hxi 25 (by kernel_rfl)
      clear h0
      refine wpOp_step rfl (fun K' hK => ?_)
      go_simp
      exact hK _ _ ⟨.slice (some ⟨b, off, none⟩) xs.length cap, (by simp [upd]), FX.eq_mk rfl, fun _ => Below.refl _ _, fun h => absurd h (by decide), hbx, fun h => absurd h (by simp [hy])⟩
    · 
      try dsimp only
      have x18 := depX hdp 18 (by kernel_rfl)
      have d18 := hall 18 (by omega) x18
      have e18 : t 18 = .slice (some ⟨b, off, none⟩) xs.length cap := d18.1
      rw [e18]
      have hy := notYet hsh hxi 25 (by kernel_rfl)
      clear h0
      refine wpOp_step rfl (fun K' hK => ?_)
      go_simp
      exact hK _ _ ⟨.int .i64 (xs.length : Int), (by simp [upd, e18]), FX.eq_mk rfl, fun _ => Below.refl _ _, fun h => absurd h (by decide), hbx, fun h => absurd h (by simp [hy])⟩
    · 
      try dsimp only
      have x19 := depX hdp 19 (by kernel_rfl)
      have d19 := hall 19 (by omega) x19
      have e19 : t 19 = .int .i64 (xs.length : Int) := d19.1
      rw [e19]
      have hy := notYet hsh hxi 25 (by kernel_rfl)
      clear h0
      refine wpOp_step rfl (fun K' hK => ?_)
      go_simp
      exact hK _ _ ⟨.int .i64 ((xs.length : Int) - 4), (by simp [upd, e19]), FX.eq_mk rfl, fun _ => Below.refl _ _, fun h => absurd h (by decide), hbx, fun h => absurd h (by simp [hy])⟩
    · 
      try dsimp only
      have x17 := depX hdp 17 (by kernel_rfl)
      have d17 := hall 17 (by omega) x17
      have e17 : t 17 = .slice (some ⟨b, off, none⟩) xs.length cap := d17.1
      have x20 := depX hdp 20 (by kernel_rfl)
      have d20 := hall 20 (by omega) x20
      have e20 : t 20 = .int .i64 ((xs.length : Int) - 4) := d20.1
      rw [e17, e20]
      have hy := notYet hsh hxi 25 (by kernel_rfl)
      clear h0
      refine wpOp_step rfl (fun K' hK => ?_)
      go_simp
      exact hK _ _ ⟨.slice (some ⟨b, off + 21, none⟩) D.length (cap - 21), (by simp [upd, HDQ.out, e17, e20]), FX.eq_mk rfl, fun _ => Below.refl _ _, fun h => absurd h (by decide), hbx, fun h => absurd h (by simp [hy])⟩
    · 
      try dsimp only
      have x21 := depX hdp 21 (by kernel_rfl)
      have d21 := hall 21 (by omega) x21
      have e21 : t 21 = .slice (some ⟨b, off + 21, none⟩) D.length (cap - 21) := d21.1
      rw [e21]
      have hy := notYet hsh hxi 25 (by kernel_rfl)
      clear h0
      refine wpOp_step rfl (fun K' hK => ?_)
      go_simp
      refine (HCL.out wx hbx).mono ?_
      rintro e w2 ⟨v2, rfl, o2, b2⟩
      exact hK _ _ ⟨v2, (by simp [upd, e21]), FX.pre_mk (own_mono o2 hbx.size), fun _ => b2, fun h => absurd h (by decide), below_chain hbx b2, fun h => absurd h (by simp [hy])⟩
    · 
      try dsimp only
      have x3 := depX hdp 3 (by kernel_rfl)
      have d3 := hall 3 (by omega) x3
      have e3 : t 3 = .int .i64 (K : Int) := d3.1
      have x6 := depX hdp 6 (by kernel_rfl)
      have d6 := hall 6 (by omega) x6
      have e6 : t 6 = .int .i64 (E : Int) := d6.1
      have x9 := depX hdp 9 (by kernel_rfl)
      have d9 := hall 9 (by omega) x9
      have e9 : t 9 = .int .i64 SI := d9.1
      have x12 := depX hdp 12 (by kernel_rfl)
      have d12 := hall 12 (by omega) x12
      have e12 : t 12 = .int .i64 (C : Int) := d12.1
      have x16 := depX hdp 16 (by kernel_rfl)
      have d16 := hall 16 (by omega) x16
      have e16 : t 16 = .bool LB := d16.1
      have x22 := depX hdp 22 (by kernel_rfl)
      have d22 := hall 22 (by omega) x22
      rw [e3, e6, e9, e12, e16]
      have hy := notYet hsh hxi 25 (by kernel_rfl)
      have f22 : W0.heap.size ≤ W0.heap.size ∧ wx.ownsRow W0.heap.size 5 1 (t 22) D.length (byt D) := ⟨Nat.le_refl _, FX.pre_of d22 hy⟩
      obtain ⟨ad, cd, ed, -⟩ := rd_own f22.2
      rw [ed]
      clear h0
      refine wpOp_step rfl (fun K' hK => ?_)
      go_simp
      exact hK _ _ ⟨.agg #[.int .i64 (K : Int), .int .i64 (E : Int), .int .i64 SI, .int .i64 (C : Int), .bool LB, .slice ad D.length cd], (by simp [upd, ed, e3, e6, e9, e12, e16]), FX.pre_mk ⟨ad, cd, rfl, ed ▸ f22.2⟩, fun _ => Below.refl _ _, fun h => absurd h (by decide), hbx, fun h => absurd h (by simp [hy])⟩
    · 
      try dsimp only
      have hy := notYet hsh hxi 25 (by kernel_rfl)
      clear h0
      refine wpOp_step rfl (fun K' hK => ?_)
      go_simp
      exact hK _ _ ⟨.pointer (some ⟨wx.heap.size, 0, none⟩), (by simp [upd]), FX.pre_mk ⟨wx.heap.size, rfl, hbx.size, heap_alloc_new wx _⟩, fun _ => below_new1 _ _, fun h => absurd h (by decide), below_chain hbx (below_new1 _ _), fun h => absurd h (by simp [hy])⟩
    · 
      try dsimp only
      have x24 := depX hdp 24 (by kernel_rfl)
      have d24 := hall 24 (by omega) x24
      have x23 := depX hdp 23 (by kernel_rfl)
      have d23 := hall 23 (by omega) x23
      obtain ⟨gs, ea, lg, hbox⟩ : (fcNewD W0.heap.size).p (t 24) wx := FX.pre_of d24 hxi
      obtain ⟨ad, cd, eb, hrow⟩ : (fcAggD W0.heap.size K E C SI LB D).p (t 23) wx := FX.pre_of d23 hxi
      rw [ea, eb]
      have k0 := cell_of_row wx _ 0 _ _ _ hbox
      have k1 := cell_of_row wx _ 1 _ _ _ hbox
      have k2 := cell_of_row wx _ 2 _ _ _ hbox
      have k3 := cell_of_row wx _ 3 _ _ _ hbox
      have k4 := cell_of_row wx _ 4 _ _ _ hbox
      have k5 := cell_of_row wx _ 5 _ _ _ hbox
      have z0 := frozen_of_row wx _ 0 _ _ hbox
      have z1 := frozen_of_row wx _ 1 _ _ hbox
      have z2 := frozen_of_row wx _ 2 _ _ hbox
      have z3 := frozen_of_row wx _ 3 _ _ hbox
      have z4 := frozen_of_row wx _ 4 _ _ hbox
      have z5 := frozen_of_row wx _ 5 _ _ hbox
      simp only [List.getElem?_toArray, List.getElem?_cons_zero, List.getElem?_cons_succ] at k0 k1 k2 k3 k4 k5
      have HBX := hid hbox
      have HRW := hid hrow
      clear hbox hrow
      clear h0
      refine wpOp_step rfl (fun K' hK => ?_)
      go_simp
      exact hK _ _ ⟨undef, (by simp [upd, ea, eb]), FX.is_mk trivial, fun h => absurd (by decide) h, fun _ => trivial, set6b hbx lg, fun _ => ⟨gs, ad, cd, (by simp [upd]; exact ea), lg, set6 HBX.out, ownsRow_kept HRW.out (fun x hx => set6o (box_far HBX.out HRW.out (by decide) hx))⟩⟩
  · intro x t wx hx hbx hall hHx
    obtain ⟨gM, aD, cD, eA, lg, hM, hrow⟩ := hHx (hx 25 (by omega))
    try dsimp only
    rw [eA]
    generalize t 0 = v0
    generalize t 1 = v1
    generalize t 2 = v2
    generalize t 3 = v3
    generalize t 4 = v4
    generalize t 5 = v5
    generalize t 6 = v6
    generalize t 7 = v7
    generalize t 8 = v8
    generalize t 9 = v9
    generalize t 10 = v10
    generalize t 11 = v11
    generalize t 12 = v12
    generalize t 13 = v13
    generalize t 14 = v14
    generalize t 15 = v15
    generalize t 16 = v16
    generalize t 17 = v17
    generalize t 18 = v18
    generalize t 19 = v19
    generalize t 20 = v20
    generalize t 21 = v21
    generalize t 22 = v22
    generalize t 23 = v23
    have HKX := hid ((hbx.block _ (show w.heap.size < W0.heap.size by omega)).trans HK0.out)
    have HM := hid hM
    have HRW := hid hrow
    have HBX := hid hbx
    have HLG := hid lg
    have HQ : Hid (Calls Try.prog 19 #[.agg #[.int .i64 (K : Int), .int .i64 (E : Int), .int .i64 SI, .int .i64 (C : Int), .bool LB, .slice aD D.length cD]] wx (EncPost wx (pktR (pktG xs)))) := hid (by
      have h := specPkt_any ⟨(K : Int), (E : Int), SI, (C : Int), LB, D⟩ aD cD wx (own_rdSl hrow HDB.out)
      dsimp only at h
      rw [← HG.out] at h
      exact h)
    have HPL : Hid (∀ x ∈ pktR (pktG xs), x < 256) := hid (pktR_lt (by rw [HG.out]; exact HDB.out))
    have m0 := cell_of_row _ _ 0 _ _ _ hM
    have m1 := cell_of_row _ _ 1 _ _ _ hM
    have m2 := cell_of_row _ _ 2 _ _ _ hM
    have m3 := cell_of_row _ _ 3 _ _ _ hM
    have m4 := cell_of_row _ _ 4 _ _ _ hM
    have m5 := cell_of_row _ _ 5 _ _ _ hM
    simp only [List.getElem?_toArray, List.getElem?_cons_zero, List.getElem?_cons_succ] at m0 m1 m2 m3 m4 m5
    clear hall hbx hM hrow eA hHx hx lg
    go_wp2_with fail
    refine HQ.out.mono ?_
    rintro e w2 ⟨a2, c2, rfl, o2, b2⟩
    have HO2 := hid o2
    have HB2 := hid b2
    have HSM : Hid (Calls Try.prog 53 #[.slice a2 (pktR (pktG xs)).length c2, .slice (some ⟨b, off, none⟩) xs.length cap] w2 fun e w' => e = .returned (.bool (decide (pktR (pktG xs) = xs))) ∧ w' = w2) := hid (l1same_any a2 (some ⟨b, off, none⟩) c2 cap (pktR (pktG xs)) xs w2 (rd_at o2) (HR.out.later (below_chain (below_chain HB0.out HBX.out) b2)).rdB.1 HPL.out HBY.out)
    have HKY := hid (box_laterP HKX.out b2)
    have HMY := hid (box_laterP HM.out b2)
    clear o2 b2 m0 m1 m2 m3 m4 m5
    go_wp2_with fail
    refine HSM.out.mono ?_
    rintro e w3 ⟨rfl, rfl⟩
    have hk := HKY.out
    have hm := HMY.out
    have q0 := cell_of_row _ _ 0 _ _ _ hk
    have q1 := cell_of_row _ _ 1 _ _ _ hk
    have q2 := cell_of_row _ _ 2 _ _ _ hk
    have q3 := cell_of_row _ _ 3 _ _ _ hk
    have q4 := cell_of_row _ _ 4 _ _ _ hk
    have q5 := cell_of_row _ _ 5 _ _ _ hk
    have f0 := frozen_of_row _ _ 0 _ _ hk
    have f1 := frozen_of_row _ _ 1 _ _ hk
    have f2 := frozen_of_row _ _ 2 _ _ hk
    have f3 := frozen_of_row _ _ 3 _ _ hk
    have f4 := frozen_of_row _ _ 4 _ _ hk
    have f5 := frozen_of_row _ _ 5 _ _ hk
    have m0 := cell_of_row _ _ 0 _ _ _ hm
    have m1 := cell_of_row _ _ 1 _ _ _ hm
    have m2 := cell_of_row _ _ 2 _ _ _ hm
    have m3 := cell_of_row _ _ 3 _ _ _ hm
    have m4 := cell_of_row _ _ 4 _ _ _ hm
    have m5 := cell_of_row _ _ 5 _ _ _ hm
    simp only [List.getElem?_toArray, List.getElem?_cons_zero, List.getElem?_cons_succ] at q0 q1 q2 q3 q4 q5 m0 m1 m2 m3 m4 m5
    clear hk hm
    have HBW := hid (below_chain (below_chain HB0.out HBX.out) HB2.out)
    by_cases hq : pktR (pktG xs) = xs
    · have HD := hid (pk_yes (okB_yes (by omega) hq))
      have HQ1 := hid (decide_eq_true hq)
      rw [HQ1.out]
      clear hq
      go_wp2
      refine bodyPost_ret (results_cell_row_tmpD rfl _ _ w.heap.size 35 #[.int .i64 (K : Int), .int .i64 (E : Int), .int .i64 SI, .int .i64 (C : Int), .bool LB, .slice aD D.length cD] (0, 0) _ rfl (set6 HKY.out) Try.underlying35 rfl (by kernel_rfl)) rfl ?_
      rw [HD.out.1, HD.out.2, HG.out]
      refine ⟨aD, cD, rfl, ?_, set6b HBW.out (Nat.le_refl _)⟩
      have hrow := own_mono (own_later HRW.out HB2.out) (show w.heap.size ≤ W0.heap.size by omega)
      exact ownsRow_kept hrow (fun x hx => set6o (box_far HKY.out hrow (by decide) hx))
    · have HD := hid (pk_no (okB_no hq))
      have HQ1 := hid (decide_eq_false hq)
      rw [HQ1.out]
      clear hq
      go_wp2
      refine bodyPost_ret (results_cell_row_tmpD rfl _ _ w.heap.size 35 #[.int .i64 0, .int .i64 0, .int .i64 0, .int .i64 0, .bool false, .slice none 0 0] (0, 0) _ rfl (set6 HKY.out) Try.underlying35 rfl (by kernel_rfl)) rfl ?_
      exact pdPost_nil (set6b HBW.out (Nat.le_refl _)) HD.out.1 HD.out.2
end Go.Proofs.Ytcljakdcejhfiab
