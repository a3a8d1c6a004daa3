import Derived.Test.YtcljakdcejhfiabJEncodePacket29
import Derived.Test.YtcljakdcejhfiabJEncodePacket32
import Derived.Test.YtcljakdcejhfiabJEncodePacket36
import Derived.Test.YtcljakdcejhfiabJEncodePacket37
import Derived.Test.YtcljakdcejhfiabJEncodePacket38
import Derived.Test.YtcljakdcejhfiabJEncodePacket40
namespace Go.Proofs.Ytcljakdcejhfiab
open Go.RowKit
def Fct.oneB (L : Bool) : Fct := ⟨fun v w => ∃ g, v = .slice (some ⟨g, 0, none⟩) 1 1 ∧ w.cell? ⟨g, 0, none⟩ = some (.bool L), fun _ _ _ ⟨g, e, h⟩ hb => ⟨g, e, (hb.cell (World.block_lt_of_cell? _ _ h)).trans h⟩⟩
theorem oneB_new {w : World} {L : Bool} {e : TypeId} : (Fct.oneB L).p (.slice (some ⟨w.heap.size, 0, none⟩) 1 1) (w.alloc (.cells #[.bool L] e)) := by
  have hh := heap_alloc_new w (.cells #[.bool L] e)
  have p0 := cell_of_row _ _ 0 _ _ _ hh
  simp only [List.getElem?_toArray, List.getElem?_cons_zero] at p0
  exact ⟨w.heap.size, rfl, p0⟩
theorem packed_one (L : Bool) : packed [L] = [lastN L] := by cases L <;> decide
theorem packOne_any (g : Nat) (L : Bool) (w : World) (h : w.cell? ⟨g, 0, none⟩ = some (.bool L)) :
    Calls Try.prog 49 #[.slice (some ⟨g, 0, none⟩) 1 1] w fun e w' => ∃ v, e = .returned v ∧ RdSl cByte w' [lastN L] v ∧ Below w.heap.size w w' := by
  refine (implPack_any (some ⟨g, 0, none⟩) 1 [L] w (.inr ⟨g, 0, rfl, fun i hi => ?_⟩) (by simp)).mono ?_
  · have hi0 : i = 0 := by simpa [bls] using hi
    subst hi0
    simpa [bls] using h
  · rintro e w' ⟨g', rfl, ho, hb⟩
    rw [packed_one] at ho
    exact ⟨_, rfl, own_rdSl ho (by simpa using lastN_lt L), hb⟩
def PkG (K E S C : Nat) (L : Bool) (D : List Nat) (a : Option Addr) (cap : Nat) (w : World) (wx : World) : Prop :=
  wx.heap[w.heap.size]? = some (.cells #[.int .i64 (K : Int), .int .i64 (E : Int), .int .i64 (S : Int), .int .i64 (C : Int), .bool L, .slice a D.length cap] 35 (0, 0)) ∧ Below w.heap.size w wx
theorem PkG.later {K E S C : Nat} {L : Bool} {D : List Nat} {a : Option Addr} {cap : Nat} {w wx wy : World} (h : PkG K E S C L D a cap w wx) (hb : Below wx.heap.size wx wy) : PkG K E S C L D a cap w wy :=
  ⟨(hb.block _ (Array.getElem?_eq_some_iff.1 h.1).1).trans h.1, below_chain h.2 hb⟩
theorem PkG.new {K E S C : Nat} {L : Bool} {D : List Nat} {a : Option Addr} {cap : Nat} {w wx : World} (h : PkG K E S C L D a cap w wx) (o : Obj) : PkG K E S C L D a cap w (wx.alloc o) := h.later (below_new1 _ _)
def pkT (K E S C : Nat) (L : Bool) (D : List Nat) (a : Option Addr) (cap : Nat) (w : World) : Nat → Fct
  | 0 => Fct.eq (.pointer (some ⟨w.heap.size, 0, none⟩))
  | 1 => Fct.eq (.int .i64 (K : Int))
  | 2 => Fct.eq (.int .u8 (K : Int))
  | 3 => Fct.bytes [67, K]
  | 4 => Fct.eq (.pointer (some ⟨w.heap.size, 1, none⟩))
  | 5 => Fct.eq (.int .i64 (E : Int))
  | 6 => Fct.eq (.int .u32 (E : Int))
  | 7 => Fct.bytes (digs E 4)
  | 8 => Fct.eq (.pointer (some ⟨w.heap.size, 2, none⟩))
  | 9 => Fct.eq (.int .i64 (S : Int))
  | 10 => Fct.eq (.int .u64 (S : Int))
  | 11 => Fct.bytes (digs S 8)
  | 12 => Fct.eq (.pointer (some ⟨w.heap.size, 3, none⟩))
  | 13 => Fct.eq (.int .i64 (C : Int))
  | 14 => Fct.eq (.int .u32 (C : Int))
  | 15 => Fct.bytes (digs C 4)
  | 16 => Fct.eq (.pointer (some ⟨w.heap.size, 4, none⟩))
  | 17 => Fct.eq (.bool L)
  | 18 => Fct.oneB L
  | 19 => Fct.bytes [lastN L]
  | 20 => Fct.eq (.pointer (some ⟨w.heap.size, 5, none⟩))
  | 21 => Fct.eq (.slice a D.length cap)
  | 22 => Fct.eq (.int .i64 (D.length : Int))
  | 23 => Fct.eq (.int .u16 (D.length : Int))
  | 24 => Fct.bytes (digs D.length 2)
  | 25 => Fct.eq (.pointer (some ⟨w.heap.size, 5, none⟩))
  | 26 => Fct.eq (.slice a D.length cap)
  | 27 => Fct.texts [[67, K], digs E 4, digs S 8, digs C 4, [lastN L], digs D.length 2, D]
  | 28 => Fct.row w.heap.size (encP K E S C L D)
  | 29 => Fct.row w.heap.size (encP K E S C L D)
  | _ => Fct.any
theorem row_encP {w w' : World} {B : Nat} {v : Value} {K E S C : Nat} {L : Bool} {D : List Nat} (h : w'.ownsRow B 5 1 v ((headP K E S C L D).length + 4) (byt (headP K E S C L D ++ digs (crcM (headP K E S C L D)) 4))) (hb : w.heap.size ≤ B) : (Fct.row w.heap.size (encP K E S C L D)).p v w' := by
  have e : (encP K E S C L D).length = (headP K E S C L D).length + 4 := by simp [encP, digs_len]
  show w'.ownsRow w.heap.size 5 1 v (encP K E S C L D).length (byt (encP K E S C L D))
  rw [e]
  exact own_mono h hb
set_option maxRecDepth 100000 in
set_option maxHeartbeats 8000000 in
theorem implPkt_ok (K E S C : Nat) (L : Bool) (D : List Nat) (a : Option Addr) (cap : Nat) (w : World) (hr : RdSl cByte w D (.slice a D.length cap)) (hD : D.length ≤ 100) (hK : K < 256) (hE : E < 4294967296) (hS : S < 1099511627776) (hC : C < 4294967296)
    (hv : Calls Try.prog 45 #[.agg #[.int .i64 (K : Int), .int .i64 (E : Int), .int .i64 (S : Int), .int .i64 (C : Int), .bool L, .slice a D.length cap]] (w.alloc (.cells #[.int .i64 (K : Int), .int .i64 (E : Int), .int .i64 (S : Int), .int .i64 (C : Int), .bool L, .slice a D.length cap] 35)) fun e w' => e = .returned (.bool true) ∧ Below (w.alloc (.cells #[.int .i64 (K : Int), .int .i64 (E : Int), .int .i64 (S : Int), .int .i64 (C : Int), .bool L, .slice a D.length cap] 35)).heap.size (w.alloc (.cells #[.int .i64 (K : Int), .int .i64 (E : Int), .int .i64 (S : Int), .int .i64 (C : Int), .bool L, .slice a D.length cap] 35)) w') :
    Calls Try.prog 21 #[.agg #[.int .i64 (K : Int), .int .i64 (E : Int), .int .i64 (S : Int), .int .i64 (C : Int), .bool L, .slice a D.length cap]] w (EncPost w (encP K E S C L D)) := by
  have HR := hid hr
  have HV := hid hv
  have HB0 := hid (below_new1 w (.cells #[.int .i64 (K : Int), .int .i64 (E : Int), .int .i64 (S : Int), .int .i64 (C : Int), .bool L, .slice a D.length cap] 35))
  have HK0 : Hid ((w.alloc (.cells #[.int .i64 (K : Int), .int .i64 (E : Int), .int .i64 (S : Int), .int .i64 (C : Int), .bool L, .slice a D.length cap] 35)).heap[w.heap.size]? = some (.cells #[.int .i64 (K : Int), .int .i64 (E : Int), .int .i64 (S : Int), .int .i64 (C : Int), .bool L, .slice a D.length cap] 35 (0, 0))) := hid (heap_alloc_new w _)
  have hwK := wrap_u8 K hK
  have hwE := u32_wrap E hE
  have hwC := u32_wrap C hC
  have hwS : IntKind.u64.wrap (S : Int) = S := by simp [IntKind.wrap, IntKind.bits, IntKind.signed]; omega
  have hwD : IntKind.u16.wrap (D.length : Int) = D.length := by simp [IntKind.wrap, IntKind.bits, IntKind.signed]; omega
  have HUE : Hid (U (E : Int) = E) := hid (U_nat _ (by omega))
  have HUC : Hid (U (C : Int) = C) := hid (U_nat _ (by omega))
  have HUD : Hid (U (D.length : Int) = D.length) := hid (U_nat _ (by omega))
  have HCAT : Hid (catL [[67, K], digs E 4, digs S 8, digs C 4, [lastN L], digs D.length 2, D] = headP K E S C L D) := hid (by simp [catL, headP])
  have HTP : Hid (totL List.length [[67, K], digs E 4, digs S 8, digs C 4, [lastN L], digs D.length 2, D] ≤ 104857600) := hid (by simp [totL, digs_len]; omega)
  clear hr hv
  go_enter Try.func21, Try.ntmps21
  go_wp2_with fail
  refine HV.out.mono ?_
  rintro e w1 ⟨rfl, b1⟩
  have hG1 : PkG K E S C L D a cap w w1 := ⟨(b1.block _ (Array.getElem?_eq_some_iff.1 HK0.out).1).trans HK0.out, below_chain HB0.out b1⟩
  have HG1 := hid hG1
  clear b1 HB0 HK0 hG1
  go_wp2_with fail
  refine region_facts (n := 30) (by kernel_rfl) (by kernel_rfl) rfl (fun t => { tmps := #[.agg #[.int .i64 (K : Int), .int .i64 (E : Int), .int .i64 (S : Int), .int .i64 (C : Int), .bool L, .slice a D.length cap], .pointer (some ⟨w.heap.size, 0, none⟩), t 29, .agg #[.int .i64 (K : Int), .int .i64 (E : Int), .int .i64 (S : Int), .int .i64 (C : Int), .bool L, .slice a D.length cap], .bool true, .bool false, t 0, t 1, t 2, t 3, t 4, t 5, t 6, t 7, t 8, t 9, t 10, t 11, t 12, t 13, t 14, t 15, t 16, t 17, t 18, t 19, t 20, t 21, t 22, t 23, t 24, t 25, t 26, t 27, t 28], defers := [] }) (fun i v wx => (pkT K E S C L D a cap w i).p v wx) (PkG K E S C L D a cap w) w1 (fun i v x y => (pkT K E S C L D a cap w i).mono v x y) (fun k => if k = 29 then .slice none 0 0 else undef) ⟨HG1.out.1, HG1.out.2.drew⟩ ?_ ?_
  · intro i hi t wx hG hd
    have p0 := cell_of_row _ _ 0 _ _ _ hG.1
    have p1 := cell_of_row _ _ 1 _ _ _ hG.1
    have p2 := cell_of_row _ _ 2 _ _ _ hG.1
    have p3 := cell_of_row _ _ 3 _ _ _ hG.1
    have p4 := cell_of_row _ _ 4 _ _ _ hG.1
    have p5 := cell_of_row _ _ 5 _ _ _ hG.1
    simp only [List.getElem?_toArray, List.getElem?_cons_zero, List.getElem?_cons_succ] at p0 p1 p2 p3 p4 p5
    rcases (by omega : i = 0 ∨ i = 1 ∨ i = 2 ∨ i = 3 ∨ i = 4 ∨ i = 5 ∨ i = 6 ∨ i = 7 ∨ i = 8 ∨ i = 9 ∨ i = 10 ∨ i = 11 ∨ i = 12 ∨ i = 13 ∨ i = 14 ∨ i = 15 ∨ i = 16 ∨ i = 17 ∨ i = 18 ∨ i = 19 ∨ i = 20 ∨ i = 21 ∨ i = 22 ∨ i = 23 ∨ i = 24 ∨ i = 25 ∨ i = 26 ∨ i = 27 ∨ i = 28 ∨ i = 29) with rfl | rfl | rfl | rfl | rfl | rfl | rfl | rfl | rfl | rfl | rfl | rfl | rfl | rfl | rfl | rfl | rfl | rfl | rfl | rfl | rfl | rfl | rfl | rfl | rfl | rfl | rfl | rfl | rfl | rfl
    · 
      dsimp only
      refine wpOp_step rfl (fun K' hK => ?_)
      go_simp
      exact hK _ _ ⟨_, (by simp [upd]), rfl, hG, Below.refl _ _⟩
    · 
      dsimp only
      have d0' := depT hd 0 (by kernel_rfl)
      have d0 : t 0 = (.pointer (some ⟨w.heap.size, 0, none⟩)) := d0'
      rw [d0]
      refine wpOp_step rfl (fun K' hK => ?_)
      go_simp
      exact hK _ _ ⟨_, (by simp [upd, d0]), rfl, hG, Below.refl _ _⟩
    · 
      dsimp only
      have d1' := depT hd 1 (by kernel_rfl)
      have d1 : t 1 = (.int .i64 (K : Int)) := d1'
      rw [d1]
      refine wpOp_step rfl (fun K' hK => ?_)
      go_simp
      exact hK _ _ ⟨_, (by simp [upd, d1]), rfl, hG, Below.refl _ _⟩
    · 
      dsimp only
      have d2' := depT hd 2 (by kernel_rfl)
      have d2 : t 2 = (.int .u8 (K : Int)) := d2'
      rw [d2]
      refine wpOp_step rfl (fun K' hK => ?_)
      go_simp
      exact hK _ _ ⟨.slice (some ⟨wx.heap.size, 0, none⟩) 2 2, (by simp [upd, d2]), bytes_new [67, K] rfl (by simp; omega) (by simp), hG.new _, below_new1 _ _⟩
    · 
      dsimp only
      refine wpOp_step rfl (fun K' hK => ?_)
      go_simp
      exact hK _ _ ⟨_, (by simp [upd]), rfl, hG, Below.refl _ _⟩
    · 
      dsimp only
      have d4' := depT hd 4 (by kernel_rfl)
      have d4 : t 4 = (.pointer (some ⟨w.heap.size, 1, none⟩)) := d4'
      rw [d4]
      refine wpOp_step rfl (fun K' hK => ?_)
      go_simp
      exact hK _ _ ⟨_, (by simp [upd, d4]), rfl, hG, Below.refl _ _⟩
    · 
      dsimp only
      have d5' := depT hd 5 (by kernel_rfl)
      have d5 : t 5 = (.int .i64 (E : Int)) := d5'
      rw [d5]
      refine wpOp_step rfl (fun K' hK => ?_)
      go_simp
      exact hK _ _ ⟨_, (by simp [upd, d5]), rfl, hG, Below.refl _ _⟩
    · 
      dsimp only
      have d6' := depT hd 6 (by kernel_rfl)
      have d6 : t 6 = (.int .u32 (E : Int)) := d6'
      rw [d6]
      refine wpOp_step rfl (fun K' hK => ?_)
      go_simp
      refine (app_u32 wx.heap.size (.slice none 0 0) 0 [] (E : Int) wx (World.ownsRow_nil _ _ _ _) (Nat.le_refl _) (by omega) (by unfold IntIn; omega)).mono ?_
      rintro e w2 ⟨v2, rfl, o2, b2⟩
      rw [HUE.out, List.nil_append] at o2
      exact hK _ _ ⟨v2, (by simp [upd, d6]), own_rdSl o2 (digs_lt _ _), hG.later b2, b2⟩
    · 
      dsimp only
      refine wpOp_step rfl (fun K' hK => ?_)
      go_simp
      exact hK _ _ ⟨_, (by simp [upd]), rfl, hG, Below.refl _ _⟩
    · 
      dsimp only
      have d8' := depT hd 8 (by kernel_rfl)
      have d8 : t 8 = (.pointer (some ⟨w.heap.size, 2, none⟩)) := d8'
      rw [d8]
      refine wpOp_step rfl (fun K' hK => ?_)
      go_simp
      exact hK _ _ ⟨_, (by simp [upd, d8]), rfl, hG, Below.refl _ _⟩
    · 
      dsimp only
      have d9' := depT hd 9 (by kernel_rfl)
      have d9 : t 9 = (.int .i64 (S : Int)) := d9'
      rw [d9]
      refine wpOp_step rfl (fun K' hK => ?_)
      go_simp
      exact hK _ _ ⟨_, (by simp [upd, d9]), rfl, hG, Below.refl _ _⟩
    · 
      dsimp only
      have d10' := depT hd 10 (by kernel_rfl)
      have d10 : t 10 = (.int .u64 (S : Int)) := d10'
      rw [d10]
      refine wpOp_step rfl (fun K' hK => ?_)
      go_simp
      refine (app_u64 wx.heap.size (.slice none 0 0) 0 [] S wx (World.ownsRow_nil _ _ _ _) (Nat.le_refl _) (by omega) (by omega)).mono ?_
      rintro e w2 ⟨v2, rfl, o2, b2⟩
      rw [List.nil_append] at o2
      exact hK _ _ ⟨v2, (by simp [upd, d10]), own_rdSl o2 (digs_lt _ _), hG.later b2, b2⟩
    · 
      dsimp only
      refine wpOp_step rfl (fun K' hK => ?_)
      go_simp
      exact hK _ _ ⟨_, (by simp [upd]), rfl, hG, Below.refl _ _⟩
    · 
      dsimp only
      have d12' := depT hd 12 (by kernel_rfl)
      have d12 : t 12 = (.pointer (some ⟨w.heap.size, 3, none⟩)) := d12'
      rw [d12]
      refine wpOp_step rfl (fun K' hK => ?_)
      go_simp
      exact hK _ _ ⟨_, (by simp [upd, d12]), rfl, hG, Below.refl _ _⟩
    · 
      dsimp only
      have d13' := depT hd 13 (by kernel_rfl)
      have d13 : t 13 = (.int .i64 (C : Int)) := d13'
      rw [d13]
      refine wpOp_step rfl (fun K' hK => ?_)
      go_simp
      exact hK _ _ ⟨_, (by simp [upd, d13]), rfl, hG, Below.refl _ _⟩
    · 
      dsimp only
      have d14' := depT hd 14 (by kernel_rfl)
      have d14 : t 14 = (.int .u32 (C : Int)) := d14'
      rw [d14]
      refine wpOp_step rfl (fun K' hK => ?_)
      go_simp
      refine (app_u32 wx.heap.size (.slice none 0 0) 0 [] (C : Int) wx (World.ownsRow_nil _ _ _ _) (Nat.le_refl _) (by omega) (by unfold IntIn; omega)).mono ?_
      rintro e w2 ⟨v2, rfl, o2, b2⟩
      rw [HUC.out, List.nil_append] at o2
      exact hK _ _ ⟨v2, (by simp [upd, d14]), own_rdSl o2 (digs_lt _ _), hG.later b2, b2⟩
    · 
      dsimp only
      refine wpOp_step rfl (fun K' hK => ?_)
      go_simp
      exact hK _ _ ⟨_, (by simp [upd]), rfl, hG, Below.refl _ _⟩
    · 
      dsimp only
      have d16' := depT hd 16 (by kernel_rfl)
      have d16 : t 16 = (.pointer (some ⟨w.heap.size, 4, none⟩)) := d16'
      rw [d16]
      refine wpOp_step rfl (fun K' hK => ?_)
      go_simp
      exact hK _ _ ⟨_, (by simp [upd, d16]), rfl, hG, Below.refl _ _⟩
    · 
      dsimp only
      have d17' := depT hd 17 (by kernel_rfl)
      have d17 : t 17 = (.bool L) := d17'
      rw [d17]
      refine wpOp_step rfl (fun K' hK => ?_)
      go_simp
      exact hK _ _ ⟨.slice (some ⟨wx.heap.size, 0, none⟩) 1 1, (by simp [upd, d17]), oneB_new, hG.new _, below_new1 _ _⟩
    · 
      dsimp only
      have d18' := depT hd 18 (by kernel_rfl)
      have d18 : (Fct.oneB L).p (t 18) wx := d18'
      obtain ⟨g18, e18, c18⟩ := d18
      rw [e18]
      refine wpOp_step rfl (fun K' hK => ?_)
      go_simp
      refine (packOne_any g18 L wx c18).mono ?_
      rintro e w2 ⟨v2, rfl, r2, b2⟩
      exact hK _ _ ⟨v2, (by simp [upd, e18]), r2, hG.later b2, b2⟩
    · 
      dsimp only
      refine wpOp_step rfl (fun K' hK => ?_)
      go_simp
      exact hK _ _ ⟨_, (by simp [upd]), rfl, hG, Below.refl _ _⟩
    · 
      dsimp only
      have d20' := depT hd 20 (by kernel_rfl)
      have d20 : t 20 = (.pointer (some ⟨w.heap.size, 5, none⟩)) := d20'
      rw [d20]
      refine wpOp_step rfl (fun K' hK => ?_)
      go_simp
      exact hK _ _ ⟨_, (by simp [upd, d20]), rfl, hG, Below.refl _ _⟩
    · 
      dsimp only
      have d21' := depT hd 21 (by kernel_rfl)
      have d21 : t 21 = (.slice a D.length cap) := d21'
      rw [d21]
      refine wpOp_step rfl (fun K' hK => ?_)
      go_simp
      exact hK _ _ ⟨_, (by simp [upd, d21]), rfl, hG, Below.refl _ _⟩
    · 
      dsimp only
      have d22' := depT hd 22 (by kernel_rfl)
      have d22 : t 22 = (.int .i64 (D.length : Int)) := d22'
      rw [d22]
      refine wpOp_step rfl (fun K' hK => ?_)
      go_simp
      exact hK _ _ ⟨_, (by simp [upd, d22]), rfl, hG, Below.refl _ _⟩
    · 
      dsimp only
      have d23' := depT hd 23 (by kernel_rfl)
      have d23 : t 23 = (.int .u16 (D.length : Int)) := d23'
      rw [d23]
      refine wpOp_step rfl (fun K' hK => ?_)
      go_simp
      refine (app_u16 wx.heap.size (.slice none 0 0) 0 [] (D.length : Int) wx (World.ownsRow_nil _ _ _ _) (Nat.le_refl _) (by omega) (by unfold IntIn; omega)).mono ?_
      rintro e w2 ⟨v2, rfl, o2, b2⟩
      rw [HUD.out, List.nil_append] at o2
      exact hK _ _ ⟨v2, (by simp [upd, d23]), own_rdSl o2 (digs_lt _ _), hG.later b2, b2⟩
    · 
      dsimp only
      refine wpOp_step rfl (fun K' hK => ?_)
      go_simp
      exact hK _ _ ⟨_, (by simp [upd]), rfl, hG, Below.refl _ _⟩
    · 
      dsimp only
      have d25' := depT hd 25 (by kernel_rfl)
      have d25 : t 25 = (.pointer (some ⟨w.heap.size, 5, none⟩)) := d25'
      rw [d25]
      refine wpOp_step rfl (fun K' hK => ?_)
      go_simp
      exact hK _ _ ⟨_, (by simp [upd, d25]), rfl, hG, Below.refl _ _⟩
    · 
      dsimp only
      have d3' := depT hd 3 (by kernel_rfl)
      have d3 : (Fct.bytes [67, K]).p (t 3) wx := d3'
      have d7' := depT hd 7 (by kernel_rfl)
      have d7 : (Fct.bytes (digs E 4)).p (t 7) wx := d7'
      have d11' := depT hd 11 (by kernel_rfl)
      have d11 : (Fct.bytes (digs S 8)).p (t 11) wx := d11'
      have d15' := depT hd 15 (by kernel_rfl)
      have d15 : (Fct.bytes (digs C 4)).p (t 15) wx := d15'
      have d19' := depT hd 19 (by kernel_rfl)
      have d19 : (Fct.bytes [lastN L]).p (t 19) wx := d19'
      have d24' := depT hd 24 (by kernel_rfl)
      have d24 : (Fct.bytes (digs D.length 2)).p (t 24) wx := d24'
      have d26' := depT hd 26 (by kernel_rfl)
      have d26 : t 26 = (.slice a D.length cap) := d26'
      rw [d26]
      obtain ⟨ax3, cx3, e3, r3⟩ := d3.slice
      obtain ⟨ax7, cx7, e7, r7⟩ := d7.slice
      obtain ⟨ax11, cx11, e11, r11⟩ := d11.slice
      obtain ⟨ax15, cx15, e15, r15⟩ := d15.slice
      obtain ⟨ax19, cx19, e19, r19⟩ := d19.slice
      obtain ⟨ax24, cx24, e24, r24⟩ := d24.slice
      rw [e3, e7, e11, e15, e19, e24]
      refine wpOp_step rfl (fun K' hK => ?_)
      go_simp
      exact hK _ _ ⟨.slice (some ⟨wx.heap.size, 0, none⟩) 7 7, (by simp [upd, e3, e7, e11, e15, e19, e24, d26]), texts_new [.slice ax3 [67, K].length cx3, .slice ax7 (digs E 4).length cx7, .slice ax11 (digs S 8).length cx11, .slice ax15 (digs C 4).length cx15, .slice ax19 [lastN L].length cx19, .slice ax24 (digs D.length 2).length cx24, .slice a D.length cap] [[67, K], digs E 4, digs S 8, digs C 4, [lastN L], digs D.length 2, D] rfl rfl (fun i h => by rcases (show i = 0 ∨ i = 1 ∨ i = 2 ∨ i = 3 ∨ i = 4 ∨ i = 5 ∨ i = 6 from by simp at h; omega) with rfl | rfl | rfl | rfl | rfl | rfl | rfl <;> first | exact ⟨_, rfl, r3⟩ | exact ⟨_, rfl, r7⟩ | exact ⟨_, rfl, r11⟩ | exact ⟨_, rfl, r15⟩ | exact ⟨_, rfl, r19⟩ | exact ⟨_, rfl, r24⟩ | exact ⟨_, rfl, HR.out.later hG.2⟩) (by simp), hG.new _, below_new1 _ _⟩
    · 
      dsimp only
      have d27' := depT hd 27 (by kernel_rfl)
      have d27 : (Fct.texts [[67, K], digs E 4, digs S 8, digs C 4, [lastN L], digs D.length 2, D]).p (t 27) wx := d27'
      obtain ⟨ax, cx, e27, hx⟩ := d27.slice
      rw [e27]
      refine wpOp_step rfl (fun K' hK => ?_)
      go_simp
      refine (withChecksum_any ax cx _ wx hx HTP.out).mono ?_
      rintro e w2 ⟨v2, rfl, o2, b2⟩
      rw [HCAT.out] at o2
      exact hK _ _ ⟨v2, (by simp [upd, e27]), row_encP o2 hG.2.size, hG.later b2, b2⟩
    · 
      dsimp only
      have d28' := depT hd 28 (by kernel_rfl)
      have d28 : (Fct.row w.heap.size (encP K E S C L D)).p (t 28) wx := d28'
      refine wpOp_step rfl (fun K' hK => ?_)
      go_simp
      exact hK _ _ ⟨t 28, (by simp [upd]), d28, hG, Below.refl _ _⟩
  · intro t wx hG hall
    have h29 : (Fct.row w.heap.size (encP K E S C L D)).p (t 29) wx := hall 29 (by omega)
    obtain ⟨a9, c9, e29, -⟩ := rd_own h29
    dsimp only
    rw [e29]
    have HO : Hid (wx.ownsRow w.heap.size 5 1 (.slice a9 (encP K E S C L D).length c9) (encP K E S C L D).length (byt (encP K E S C L D))) := hid (e29 ▸ h29)
    have HB := hid hG.2
    clear hall hG h29 e29
    go_wp2
    go_ret
    exact ⟨a9, c9, rfl, HO.out, HB.out⟩
set_option maxHeartbeats 4000000 in
theorem implPkt_any (p : PP) (a : Option Addr) (cap : Nat) (w : World) (hr : RdSl cByte w p.data (.slice a p.data.length cap)) :
    Calls Try.prog 21 #[.agg #[.int .i64 p.kind, .int .i64 p.epoch, .int .i64 p.seq, .int .i64 p.count, .bool p.last, .slice a p.data.length cap]] w (EncPost w (pktR p)) := by
  obtain ⟨kind, epoch, seq, count, last, D⟩ := p
  dsimp only at *
  have hml : D.length ≤ maxLen := by
    obtain ⟨a', cap', e', h1, h2, _⟩ := hr
    omega
  have HV := hid (validPacket_any ⟨kind, epoch, seq, count, last, D⟩ a cap (w.alloc (.cells #[.int .i64 kind, .int .i64 epoch, .int .i64 seq, .int .i64 count, .bool last, .slice a D.length cap] 35)) hml)
  dsimp only at HV
  have HB0 := hid (below_new1 w (.cells #[.int .i64 kind, .int .i64 epoch, .int .i64 seq, .int .i64 count, .bool last, .slice a D.length cap] 35))
  cases hok : pktOK ⟨kind, epoch, seq, count, last, D⟩ with
  | false =>
    have HR0 := hid (pktR_bad hok)
    rw [hok] at HV
    clear hok hr
    rw [HR0.out]
    go_enter Try.func21, Try.ntmps21
    go_wp2_with fail
    refine HV.out.mono ?_
    rintro e w1 ⟨rfl, b1⟩
    go_wp2
    go_ret
    exact encPost_nil (below_chain HB0.out b1) rfl
  | true =>
    rw [hok] at HV
    rw [pktR_ok hok]
    have h1 : PktOK ⟨kind, epoch, seq, count, last, D⟩ := of_decide_eq_true hok
    unfold PktOK at h1
    dsimp only at h1
    obtain ⟨K, rfl⟩ : ∃ K : Nat, kind = K := ⟨kind.toNat, by omega⟩
    obtain ⟨E, rfl⟩ : ∃ E : Nat, epoch = E := ⟨epoch.toNat, by omega⟩
    obtain ⟨S, rfl⟩ : ∃ S : Nat, seq = S := ⟨seq.toNat, by omega⟩
    obtain ⟨C, rfl⟩ : ∃ C : Nat, count = C := ⟨count.toNat, by omega⟩
    have hB : pktB ⟨(K : Int), (E : Int), (S : Int), (C : Int), last, D⟩ = encP K E S C last D := by simp [pktB]
    rw [hB]
    exact implPkt_ok K E S C last D a cap w hr (by omega) (by omega) (by omega) (by omega) (by omega) HV.out
end Go.Proofs.Ytcljakdcejhfiab
