import Derived.Test.YtfaehioeepolhabGreatJCrashSender35
import Derived.Test.YtfaehioeepolhabGreatJCrashSender37
namespace Go.Proofs.YtfaehioeepolhabGreat
open Go.RowKit
def Fct.two (xss : List (List Nat)) (u : Value) : Fct := ⟨fun v w => ∃ g x, v = .slice (some ⟨g, 0, none⟩) 2 2 ∧ w.cell? ⟨g, 0, none⟩ = some x ∧ RdSl cSS w xss x ∧ w.cell? ⟨g, 1, none⟩ = some u, fun _ _ _ h hb => by
 obtain ⟨g, x, e, c0, r, c1⟩ := h
 exact ⟨g, x, e, (hb.cell (World.block_lt_of_cell? _ _ c0)).trans c0, r.later hb, (hb.cell (World.block_lt_of_cell? _ _ c1)).trans c1⟩⟩
theorem two_new {w : World} {x u : Value} {xss : List (List Nat)} {e : TypeId} (h : RdSl cSS w xss x) : (Fct.two xss u).p (.slice (some ⟨w.heap.size, 0, none⟩) 2 2) (w.alloc (.cells #[x, u] e)) := by
 have hh := heap_alloc_new w (.cells #[x, u] e)
 have p0 := cR _ _ 0 _ _ _ hh
 have p1 := cR _ _ 1 _ _ _ hh
 simp only [gA, gZ, gU] at p0 p1
 exact ⟨w.heap.size, x, rfl, p0, h.later (bN _ _), p1⟩
theorem RdSl.toSS {w : World} {xss : List (List Nat)} {a : Option Addr} {cap : Nat} (h : RdSl cSS w xss (.slice a xss.length cap)) : RdSS w a xss := by
 obtain ⟨vals, h1, h2, -, h3⟩ := h.vals1
 refine ⟨vals, h1, h2, fun i hi => ?_⟩
 obtain ⟨a', c', h4, h5⟩ := h3 i hi
 exact ⟨a', c', h4, h5.rdB.1, h5.nilB⟩
theorem concat_two (g : Nat) (x : Value) (a : Option Addr) (cap : Nat) (xss yss : List (List Nat)) (w : World) (c0 : w.cell? ⟨g, 0, none⟩ = some x) (c1 : w.cell? ⟨g, 1, none⟩ = some (.slice a yss.length cap)) (r0 : RdSl cSS w xss x) (r1 : RdSl cSS w yss (.slice a yss.length cap)) (m1 : xss.length ≤ 1048576) (m2 : yss.length ≤ 1048576) :
  Calls Tryz.prog 164 #[.slice (some ⟨g, 0, none⟩) 2 2] w fun e w' => ∃ v, e = .returned v ∧ RdSl cSS w' (xss ++ yss) v ∧ Below w.heap.size w w' := by
 obtain ⟨ax, cx, rfl, r0'⟩ := r0.slice
 obtain ⟨vs, l1, d1, o1, g1⟩ := r0'.vals
 obtain ⟨us, l2, d2, o2, g2⟩ := r1.vals
 refine (concat_any g ax a xss.length yss.length cx cap vs us w c0 c1 l1 l2 d1 d2 r0'.nil0 r1.nil0 o1 o2 m1 m2).mono ?_
 rintro e w' ⟨v, rfl, ho, hb⟩
 refine ⟨v, rfl, rdSS_of_row (by rw [List.length_append]; exact ho) (fun i h => ?_), hb⟩
 by_cases hi : i < xss.length
 ·obtain ⟨u, h1, h2⟩ := g1 i hi
  exact ⟨u, by rw [List.getElem?_append_left (by omega)]; exact h1, by rw [List.getElem_append_left hi]; exact h2.later hb⟩
 ·obtain ⟨u, h1, h2⟩ := g2 (i - xss.length) (by simp at h; omega)
  exact ⟨u, by rw [List.getElem?_append_right (by omega), l1]; exact h1, by rw [List.getElem_append_right (by omega)]; exact h2.later hb⟩
theorem row_encM {w w' : World} {B : Nat} {v : Value} {K F C : Nat} {bs : List (List Nat)} (h : w'.ownsRow B 5 1 v ((bodyM K F C bs).length + 4) (byt (bodyM K F C bs ++ digs (crcM (bodyM K F C bs)) 4))) (hb : w.heap.size ≤ B) : (Fct.row w.heap.size (encM K F C bs)).p v w' := by
 have e : (encM K F C bs).length = (bodyM K F C bs).length + 4 := by simp [encM, digs_len]
 show w'.ownsRow w.heap.size 5 1 v (encM K F C bs).length (byt (encM K F C bs))
 rw [e]
 exact own_mono h hb
def EncG (K F C : Nat) (bs : List (List Nat)) (a : Option Addr) (cap : Nat) (w wx : World) : Prop :=
 wx.heap[w.heap.size]? = some (.cells #[.int .i64 (K : Int), .int .i64 (F : Int), .int .i64 (C : Int), .slice a bs.length cap] 161 (0, 0)) ∧ Below w.heap.size w wx
theorem EncG.later {K F C : Nat} {bs : List (List Nat)} {a : Option Addr} {cap : Nat} {w wx wy : World} (h : EncG K F C bs a cap w wx) (hb : Below wx.heap.size wx wy) : EncG K F C bs a cap w wy :=
 ⟨(hb.block _ (Array.getElem?_eq_some_iff.1 h.1).1).trans h.1, bC h.2 hb⟩
theorem EncG.new {K F C : Nat} {bs : List (List Nat)} {a : Option Addr} {cap : Nat} {w wx : World} (h : EncG K F C bs a cap w wx) (o : Obj) : EncG K F C bs a cap w (wx.alloc o) := h.later (bN _ _)
def encT (K F C : Nat) (bs : List (List Nat)) (a : Option Addr) (cap : Nat) (w : World) : Nat → Fct
 | 0 => Fct.eq (.pointer (some ⟨w.heap.size, 0, none⟩))
 | 1 => Fct.eq (.int .i64 (K : Int))
 | 2 => Fct.eq (.int .u8 (K : Int))
 | 3 => Fct.eq (.pointer (some ⟨w.heap.size, 1, none⟩))
 | 4 => Fct.eq (.int .i64 (F : Int))
 | 5 => Fct.eq (.int .u8 (F : Int))
 | 6 => Fct.bytes [67, 77, K, F]
 | 7 => Fct.eq (.pointer (some ⟨w.heap.size, 2, none⟩))
 | 8 => Fct.eq (.int .i64 (C : Int))
 | 9 => Fct.eq (.int .u16 (C : Int))
 | 10 => Fct.bytes (digs C 2)
 | 11 => Fct.eq (.pointer (some ⟨w.heap.size, 3, none⟩))
 | 12 => Fct.eq (.slice a bs.length cap)
 | 13 => Fct.eq (.int .i64 (bs.length : Int))
 | 14 => Fct.eq (.int .u8 (bs.length : Int))
 | 15 => Fct.bytes [bs.length, 0]
 | 16 => Fct.eq (.pointer (some ⟨w.heap.size, 3, none⟩))
 | 17 => Fct.eq (.slice a bs.length cap)
 | 18 => Fct.bytes (lensM bs)
 | 19 => Fct.texts [lensM bs]
 | 20 => Fct.eq (.pointer (some ⟨w.heap.size, 3, none⟩))
 | 21 => Fct.eq (.slice a bs.length cap)
 | 22 => Fct.two [lensM bs] (.slice a bs.length cap)
 | 23 => Fct.texts (lensM bs :: bs)
 | 24 => Fct.bytes (join (lensM bs :: bs))
 | 25 => Fct.texts [[67, 77, K, F], digs C 2, [bs.length, 0], join (lensM bs :: bs)]
 | 26 => Fct.row w.heap.size (encM K F C bs)
 | 27 => Fct.row w.heap.size (encM K F C bs)
 | _ => Fct.any
set_option maxRecDepth 100000 in
set_option maxHeartbeats 8000000 in
theorem implEnc_ok (K F C : Nat) (bs : List (List Nat)) (a : Option Addr) (cap : Nat) (w : World) (hr : RdSl cSS w bs (.slice a bs.length cap)) (ht : totL List.length bs ≤ 1048576) (hK : K < 256) (hF : F < 256) (hC : C < 65536) (hn : bs.length < 256) (hE : (encM K F C bs).length ≤ 20000)
  (hv : Calls Tryz.prog 160 #[.agg #[.int .i64 (K : Int), .int .i64 (F : Int), .int .i64 (C : Int), .slice a bs.length cap]] (w.alloc (.cells #[.int .i64 (K : Int), .int .i64 (F : Int), .int .i64 (C : Int), .slice a bs.length cap] 161)) fun e w' => e = .returned (.bool true) ∧ Below (w.alloc (.cells #[.int .i64 (K : Int), .int .i64 (F : Int), .int .i64 (C : Int), .slice a bs.length cap] 161)).heap.size (w.alloc (.cells #[.int .i64 (K : Int), .int .i64 (F : Int), .int .i64 (C : Int), .slice a bs.length cap] 161)) w') :
  Calls Tryz.prog 153 #[.agg #[.int .i64 (K : Int), .int .i64 (F : Int), .int .i64 (C : Int), .slice a bs.length cap]] w (EncPost w (encM K F C bs)) := by
 have HR := hid hr
 have HV := hid hv
 have hlen : bs.length ≤ 1048576 ∧ tot bs ≤ 1048576 := by rw [totL_tot] at ht; omega
 have HB0 := hid (bN w (.cells #[.int .i64 (K : Int), .int .i64 (F : Int), .int .i64 (C : Int), .slice a bs.length cap] 161))
 have HKA0 : Hid ((w.alloc (.cells #[.int .i64 (K : Int), .int .i64 (F : Int), .int .i64 (C : Int), .slice a bs.length cap] 161)).heap[w.heap.size]? = some (.cells #[.int .i64 (K : Int), .int .i64 (F : Int), .int .i64 (C : Int), .slice a bs.length cap] 161 (0, 0))) := hid (heap_alloc_new w _)
 have hwK := wrap_u8 K hK
 have hwF := wrap_u8 F hF
 have hwN := wrap_u8 bs.length hn
 have hwC : IntKind.u16.wrap (C : Int) = C := by simp [IntKind.wrap, IntKind.bits, IntKind.signed]; omega
 have HUC : Hid (U (C : Int) = C) := hid (U_nat C (by omega))
 have hAL := hr.allOK
 have HJL : Hid (∀ x ∈ join (lensM bs :: bs), x < 256) := hid (join_lt _ (fun t h => (List.mem_cons.1 h).elim (fun e => e ▸ lensM_lt bs) (hAL t)))
 have hT2 : tot (lensM bs :: bs) = 4 * bs.length + tot bs := by simp [tot, lensM_len]
 have hEB : (encM K F C bs).length = 12 + (join (lensM bs :: bs)).length := by simp [encM, bodyM, headM_len, digs_len]; omega
 have hJT := tot_le_join (lensM bs :: bs)
 have HTJ : Hid (tot (lensM bs :: bs) ≤ 1048576) := hid (by omega)
 have HCAT : Hid (catL [[67, 77, K, F], digs C 2, [bs.length, 0], join (lensM bs :: bs)] = bodyM K F C bs) := hid (by simp [catL, bodyM, headM])
 have HTP : Hid (totL List.length [[67, 77, K, F], digs C 2, [bs.length, 0], join (lensM bs :: bs)] ≤ 104857600) := hid (by simp [totL, digs_len]; omega)
 clear hr hv hAL hT2 hEB hJT hE
 go_enter Tryz.func153, Tryz.ntmps153
 go_wp2_with fail
 refine HV.out.mono ?_
 rintro e w1 ⟨rfl, b1⟩
 have hG1 : EncG K F C bs a cap w w1 := ⟨(b1.block _ (Array.getElem?_eq_some_iff.1 HKA0.out).1).trans HKA0.out, bC HB0.out b1⟩
 have HG1 := hid hG1
 clear b1 HB0 HKA0 hG1
 go_wp2_with fail
 refine region_facts (n := 28) (by kernel_rfl) (by kernel_rfl) rfl (fun t => { tmps := #[.agg #[.int .i64 (K : Int), .int .i64 (F : Int), .int .i64 (C : Int), .slice a bs.length cap], .pointer (some ⟨w.heap.size, 0, none⟩), t 27, .agg #[.int .i64 (K : Int), .int .i64 (F : Int), .int .i64 (C : Int), .slice a bs.length cap], .bool true, .bool false, t 0, t 1, t 2, t 3, t 4, t 5, t 6, t 7, t 8, t 9, t 10, t 11, t 12, t 13, t 14, t 15, t 16, t 17, t 18, t 19, t 20, t 21, t 22, t 23, t 24, t 25, t 26], defers := [] }) (fun i v wx => (encT K F C bs a cap w i).p v wx) (EncG K F C bs a cap w) w1 (fun i v x y => (encT K F C bs a cap w i).mono v x y) (fun k => if k = 27 then .slice none 0 0 else undef) ⟨HG1.out.1, HG1.out.2.drew⟩ ?_ ?_
 ·intro i hi t wx hG hd
  have p0 := cR _ _ 0 _ _ _ hG.1
  have p1 := cR _ _ 1 _ _ _ hG.1
  have p2 := cR _ _ 2 _ _ _ hG.1
  have p3 := cR _ _ 3 _ _ _ hG.1
  simp only [gA, gZ, gU] at p0 p1 p2 p3
  rcases (by omega : i = 0 ∨ i = 1 ∨ i = 2 ∨ i = 3 ∨ i = 4 ∨ i = 5 ∨ i = 6 ∨ i = 7 ∨ i = 8 ∨ i = 9 ∨ i = 10 ∨ i = 11 ∨ i = 12 ∨ i = 13 ∨ i = 14 ∨ i = 15 ∨ i = 16 ∨ i = 17 ∨ i = 18 ∨ i = 19 ∨ i = 20 ∨ i = 21 ∨ i = 22 ∨ i = 23 ∨ i = 24 ∨ i = 25 ∨ i = 26 ∨ i = 27) with rfl | rfl | rfl | rfl | rfl | rfl | rfl | rfl | rfl | rfl | rfl | rfl | rfl | rfl | rfl | rfl | rfl | rfl | rfl | rfl | rfl | rfl | rfl | rfl | rfl | rfl | rfl | rfl
  ·
   dsimp only
   refine wpOp_step rfl (fun K' hK => ?_)
   go_simp
   exact hK _ _ ⟨_, (by simp [upd]), rfl, hG, Below.refl _ _⟩
  ·
   dsimp only
   have d0' := depT hd 0 (by kernel_rfl)
   have d0 : t 0 = (.pointer (some ⟨w.heap.size, 0, none⟩)) := d0'
   rw [d0]
   refine wpOp_step rfl (fun K' hK => ?_)
   go_simp
   exact hK _ _ ⟨_, (by simp [upd, d0]), rfl, hG, Below.refl _ _⟩
  ·
   dsimp only
   have d1' := depT hd 1 (by kernel_rfl)
   have d1 : t 1 = (.int .i64 (K : Int)) := d1'
   rw [d1]
   refine wpOp_step rfl (fun K' hK => ?_)
   go_simp
   exact hK _ _ ⟨_, (by simp [upd, d1]), rfl, hG, Below.refl _ _⟩
  ·
   dsimp only
   refine wpOp_step rfl (fun K' hK => ?_)
   go_simp
   exact hK _ _ ⟨_, (by simp [upd]), rfl, hG, Below.refl _ _⟩
  ·
   dsimp only
   have d3' := depT hd 3 (by kernel_rfl)
   have d3 : t 3 = (.pointer (some ⟨w.heap.size, 1, none⟩)) := d3'
   rw [d3]
   refine wpOp_step rfl (fun K' hK => ?_)
   go_simp
   exact hK _ _ ⟨_, (by simp [upd, d3]), rfl, hG, Below.refl _ _⟩
  ·
   dsimp only
   have d4' := depT hd 4 (by kernel_rfl)
   have d4 : t 4 = (.int .i64 (F : Int)) := d4'
   rw [d4]
   refine wpOp_step rfl (fun K' hK => ?_)
   go_simp
   exact hK _ _ ⟨_, (by simp [upd, d4]), rfl, hG, Below.refl _ _⟩
  ·
   dsimp only
   have d2' := depT hd 2 (by kernel_rfl)
   have d2 : t 2 = (.int .u8 (K : Int)) := d2'
   have d5' := depT hd 5 (by kernel_rfl)
   have d5 : t 5 = (.int .u8 (F : Int)) := d5'
   rw [d2, d5]
   refine wpOp_step rfl (fun K' hK => ?_)
   go_simp
   exact hK _ _ ⟨.slice (some ⟨wx.heap.size, 0, none⟩) 4 4, (by simp [upd, d2, d5]), bytes_new [67, 77, K, F] rfl (by simp; omega) (by simp), hG.new _, bN _ _⟩
  ·
   dsimp only
   refine wpOp_step rfl (fun K' hK => ?_)
   go_simp
   exact hK _ _ ⟨_, (by simp [upd]), rfl, hG, Below.refl _ _⟩
  ·
   dsimp only
   have d7' := depT hd 7 (by kernel_rfl)
   have d7 : t 7 = (.pointer (some ⟨w.heap.size, 2, none⟩)) := d7'
   rw [d7]
   refine wpOp_step rfl (fun K' hK => ?_)
   go_simp
   exact hK _ _ ⟨_, (by simp [upd, d7]), rfl, hG, Below.refl _ _⟩
  ·
   dsimp only
   have d8' := depT hd 8 (by kernel_rfl)
   have d8 : t 8 = (.int .i64 (C : Int)) := d8'
   rw [d8]
   refine wpOp_step rfl (fun K' hK => ?_)
   go_simp
   exact hK _ _ ⟨_, (by simp [upd, d8]), rfl, hG, Below.refl _ _⟩
  ·
   dsimp only
   have d9' := depT hd 9 (by kernel_rfl)
   have d9 : t 9 = (.int .u16 (C : Int)) := d9'
   rw [d9]
   refine wpOp_step rfl (fun K' hK => ?_)
   go_simp
   refine (app_u16 wx.heap.size (.slice none 0 0) 0 [] (C : Int) wx (World.ownsRow_nil _ _ _ _) (Nat.le_refl _) (by omega) (by unfold IntIn; omega)).mono ?_
   rintro e w2 ⟨v2, rfl, o2, b2⟩
   rw [HUC.out, List.nil_append] at o2
   exact hK _ _ ⟨v2, (by simp [upd, d9]), own_rdSl o2 (digs_lt _ _), hG.later b2, b2⟩
  ·
   dsimp only
   refine wpOp_step rfl (fun K' hK => ?_)
   go_simp
   exact hK _ _ ⟨_, (by simp [upd]), rfl, hG, Below.refl _ _⟩
  ·
   dsimp only
   have d11' := depT hd 11 (by kernel_rfl)
   have d11 : t 11 = (.pointer (some ⟨w.heap.size, 3, none⟩)) := d11'
   rw [d11]
   refine wpOp_step rfl (fun K' hK => ?_)
   go_simp
   exact hK _ _ ⟨_, (by simp [upd, d11]), rfl, hG, Below.refl _ _⟩
  ·
   dsimp only
   have d12' := depT hd 12 (by kernel_rfl)
   have d12 : t 12 = (.slice a bs.length cap) := d12'
   rw [d12]
   refine wpOp_step rfl (fun K' hK => ?_)
   go_simp
   exact hK _ _ ⟨_, (by simp [upd, d12]), rfl, hG, Below.refl _ _⟩
  ·
   dsimp only
   have d13' := depT hd 13 (by kernel_rfl)
   have d13 : t 13 = (.int .i64 (bs.length : Int)) := d13'
   rw [d13]
   refine wpOp_step rfl (fun K' hK => ?_)
   go_simp
   exact hK _ _ ⟨_, (by simp [upd, d13]), rfl, hG, Below.refl _ _⟩
  ·
   dsimp only
   have d14' := depT hd 14 (by kernel_rfl)
   have d14 : t 14 = (.int .u8 (bs.length : Int)) := d14'
   rw [d14]
   refine wpOp_step rfl (fun K' hK => ?_)
   go_simp
   exact hK _ _ ⟨.slice (some ⟨wx.heap.size, 0, none⟩) 2 2, (by simp [upd, d14]), bytes_new [bs.length, 0] rfl (by simp; omega) (by simp), hG.new _, bN _ _⟩
  ·
   dsimp only
   refine wpOp_step rfl (fun K' hK => ?_)
   go_simp
   exact hK _ _ ⟨_, (by simp [upd]), rfl, hG, Below.refl _ _⟩
  ·
   dsimp only
   have d16' := depT hd 16 (by kernel_rfl)
   have d16 : t 16 = (.pointer (some ⟨w.heap.size, 3, none⟩)) := d16'
   rw [d16]
   refine wpOp_step rfl (fun K' hK => ?_)
   go_simp
   exact hK _ _ ⟨_, (by simp [upd, d16]), rfl, hG, Below.refl _ _⟩
  ·
   dsimp only
   have d17' := depT hd 17 (by kernel_rfl)
   have d17 : t 17 = (.slice a bs.length cap) := d17'
   rw [d17]
   refine wpOp_step rfl (fun K' hK => ?_)
   go_simp
   refine (lengthsOf_any a cap bs wx (HR.out.later hG.2) ht).mono ?_
   rintro e w2 ⟨v2, rfl, o2, b2⟩
   exact hK _ _ ⟨v2, (by simp [upd, d17]), own_rdSl o2 (lensM_lt _), hG.later b2, b2⟩
  ·
   dsimp only
   have d18' := depT hd 18 (by kernel_rfl)
   have d18 : (Fct.bytes (lensM bs)).p (t 18) wx := d18'
   obtain ⟨ax18, cx18, e18, r18⟩ := d18.slice
   rw [e18]
   refine wpOp_step rfl (fun K' hK => ?_)
   go_simp
   exact hK _ _ ⟨.slice (some ⟨wx.heap.size, 0, none⟩) 1 1, (by simp [upd, e18]), texts_new [.slice ax18 (lensM bs).length cx18] [lensM bs] rfl rfl (fun i h => by obtain rfl : i = 0 := (by simpa using h); exact ⟨_, rfl, r18⟩) (by simp), hG.new _, bN _ _⟩
  ·
   dsimp only
   refine wpOp_step rfl (fun K' hK => ?_)
   go_simp
   exact hK _ _ ⟨_, (by simp [upd]), rfl, hG, Below.refl _ _⟩
  ·
   dsimp only
   have d20' := depT hd 20 (by kernel_rfl)
   have d20 : t 20 = (.pointer (some ⟨w.heap.size, 3, none⟩)) := d20'
   rw [d20]
   refine wpOp_step rfl (fun K' hK => ?_)
   go_simp
   exact hK _ _ ⟨_, (by simp [upd, d20]), rfl, hG, Below.refl _ _⟩
  ·
   dsimp only
   have d19' := depT hd 19 (by kernel_rfl)
   have d19 : (Fct.texts [lensM bs]).p (t 19) wx := d19'
   have d21' := depT hd 21 (by kernel_rfl)
   have d21 : t 21 = (.slice a bs.length cap) := d21'
   rw [d21]
   obtain ⟨ax19, cx19, e19, r19⟩ := d19.slice
   rw [e19]
   refine wpOp_step rfl (fun K' hK => ?_)
   go_simp
   exact hK _ _ ⟨.slice (some ⟨wx.heap.size, 0, none⟩) 2 2, (by simp [upd, e19, d21]), two_new r19, hG.new _, bN _ _⟩
  ·
   dsimp only
   have d22' := depT hd 22 (by kernel_rfl)
   have d22 : (Fct.two [lensM bs] (.slice a bs.length cap)).p (t 22) wx := d22'
   obtain ⟨g, x, e22, c0, r0, c1⟩ := d22
   rw [e22]
   refine wpOp_step rfl (fun K' hK => ?_)
   go_simp
   refine (concat_two g x a cap [lensM bs] bs wx c0 c1 r0 (HR.out.later hG.2) (by simp) (by omega)).mono ?_
   rintro e w2 ⟨v2, rfl, o2, b2⟩
   exact hK _ _ ⟨v2, (by simp [upd, e22]), o2, hG.later b2, b2⟩
  ·
   dsimp only
   have d23' := depT hd 23 (by kernel_rfl)
   have d23 : (Fct.texts (lensM bs :: bs)).p (t 23) wx := d23'
   obtain ⟨ax, cx, e23, hx⟩ := d23.slice
   rw [e23]
   refine wpOp_step rfl (fun K' hK => ?_)
   go_simp
   refine (implJoin_any ax cx (lensM bs :: bs) wx hx.toSS (by simp; omega) HTJ.out).mono ?_
   rintro e w2 ⟨a2, c2, rfl, o2, b2⟩
   exact hK _ _ ⟨.slice a2 (join (lensM bs :: bs)).length c2, (by simp [upd, e23]), own_rdSl o2 HJL.out, hG.later b2, b2⟩
  ·
   dsimp only
   have d6' := depT hd 6 (by kernel_rfl)
   have d6 : (Fct.bytes [67, 77, K, F]).p (t 6) wx := d6'
   have d10' := depT hd 10 (by kernel_rfl)
   have d10 : (Fct.bytes (digs C 2)).p (t 10) wx := d10'
   have d15' := depT hd 15 (by kernel_rfl)
   have d15 : (Fct.bytes [bs.length, 0]).p (t 15) wx := d15'
   have d24' := depT hd 24 (by kernel_rfl)
   have d24 : (Fct.bytes (join (lensM bs :: bs))).p (t 24) wx := d24'
   obtain ⟨ax6, cx6, e6, r6⟩ := d6.slice
   obtain ⟨ax10, cx10, e10, r10⟩ := d10.slice
   obtain ⟨ax15, cx15, e15, r15⟩ := d15.slice
   obtain ⟨ax24, cx24, e24, r24⟩ := d24.slice
   rw [e6, e10, e15, e24]
   refine wpOp_step rfl (fun K' hK => ?_)
   go_simp
   exact hK _ _ ⟨.slice (some ⟨wx.heap.size, 0, none⟩) 4 4, (by simp [upd, e6, e10, e15, e24]), texts_new [.slice ax6 [67, 77, K, F].length cx6, .slice ax10 (digs C 2).length cx10, .slice ax15 [bs.length, 0].length cx15, .slice ax24 (join (lensM bs :: bs)).length cx24] [[67, 77, K, F], digs C 2, [bs.length, 0], join (lensM bs :: bs)] rfl rfl (fun i h => by rcases (show i = 0 ∨ i = 1 ∨ i = 2 ∨ i = 3 from by simp at h; omega) with rfl | rfl | rfl | rfl <;> first | exact ⟨_, rfl, r6⟩ | exact ⟨_, rfl, r10⟩ | exact ⟨_, rfl, r15⟩ | exact ⟨_, rfl, r24⟩) (by simp), hG.new _, bN _ _⟩
  ·
   dsimp only
   have d25' := depT hd 25 (by kernel_rfl)
   have d25 : (Fct.texts [[67, 77, K, F], digs C 2, [bs.length, 0], join (lensM bs :: bs)]).p (t 25) wx := d25'
   obtain ⟨ax, cx, e25, hx⟩ := d25.slice
   rw [e25]
   refine wpOp_step rfl (fun K' hK => ?_)
   go_simp
   refine (withChecksum_any ax cx _ wx hx HTP.out).mono ?_
   rintro e w2 ⟨v2, rfl, o2, b2⟩
   rw [HCAT.out] at o2
   exact hK _ _ ⟨v2, (by simp [upd, e25]), row_encM o2 hG.2.size, hG.later b2, b2⟩
  ·
   dsimp only
   have d26' := depT hd 26 (by kernel_rfl)
   have d26 : (Fct.row w.heap.size (encM K F C bs)).p (t 26) wx := d26'
   refine wpOp_step rfl (fun K' hK => ?_)
   go_simp
   exact hK _ _ ⟨t 26, (by simp [upd]), d26, hG, Below.refl _ _⟩
 ·intro t wx hG hall
  have h27 : (Fct.row w.heap.size (encM K F C bs)).p (t 27) wx := hall 27 (by omega)
  obtain ⟨a9, c9, e27, -⟩ := rd_own h27
  dsimp only
  rw [e27]
  have HO : Hid (wx.ownsRow w.heap.size 5 1 (.slice a9 (encM K F C bs).length c9) (encM K F C bs).length (byt (encM K F C bs))) := hid (e27 ▸ h27)
  have HB := hid hG.2
  clear hall hG h27 e27
  go_wp2
  go_ret
  exact ⟨a9, c9, rfl, HO.out, HB.out⟩
set_option maxRecDepth 100000 in
set_option maxHeartbeats 4000000 in
theorem implEnc_any (m : PM) (a : Option Addr) (cap : Nat) (w : World) (hr : RdSl cSS w m.bufs (.slice a m.bufs.length cap)) (ht : totL List.length m.bufs ≤ 1048576) :
  Calls Tryz.prog 153 #[.agg #[.int .i64 m.kind, .int .i64 m.field, .int .i64 m.count, .slice a m.bufs.length cap]] w (EncPost w (encR m)) := by
 obtain ⟨kind, field, count, bs⟩ := m
 dsimp only at *
 have HR := hid hr
 have hb0 := bN w (.cells #[.int .i64 kind, .int .i64 field, .int .i64 count, .slice a bs.length cap] 161)
 have HV := hid (validMessage_any ⟨kind, field, count, bs⟩ a cap _ (hr.later hb0) ht)
 dsimp only at HV
 have HB0 := hid hb0
 have HE := hid (encR_eq ⟨kind, field, count, bs⟩)
 clear hb0
 cases hok : encOK ⟨kind, field, count, bs⟩ with
 | false =>
  have HR0 : Hid (encR ⟨kind, field, count, bs⟩ = []) := hid (by rw [HE.out, hok]; rfl)
  rw [hok] at HV
  clear hok HE hr
  rw [HR0.out]
  go_enter Tryz.func153, Tryz.ntmps153
  go_wp2_with fail
  refine HV.out.mono ?_
  rintro e w1 ⟨rfl, b1⟩
  go_wp2
  go_ret
  exact encPost_nil (bC HB0.out b1) rfl
 | true =>
  have hR0 : encR ⟨kind, field, count, bs⟩ = encB ⟨kind, field, count, bs⟩ := by rw [HE.out, hok]; rfl
  rw [hok] at HV
  rw [hR0]
  have h1 := hok
  unfold encOK at h1
  simp only [Bool.and_eq_true, decide_eq_true_eq, msgOK] at h1
  obtain ⟨h2, h3⟩ := h1
  obtain ⟨K, rfl⟩ : ∃ K : Nat, kind = K := ⟨kind.toNat, by omega⟩
  obtain ⟨F, rfl⟩ : ∃ F : Nat, field = F := ⟨field.toNat, by omega⟩
  obtain ⟨C, rfl⟩ : ∃ C : Nat, count = C := ⟨count.toNat, by omega⟩
  have hB : encB ⟨(K : Int), (F : Int), (C : Int), bs⟩ = encM K F C bs := by simp [encB]
  rw [hB] at h3 ⊢
  exact implEnc_ok K F C bs a cap w hr ht (by omega) (by omega) (by omega) (by omega) h3 HV.out
end Go.Proofs.YtfaehioeepolhabGreat
