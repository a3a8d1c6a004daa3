import Derived.Test.YtfaehioeepolhabGreatJCrashSender23
namespace Go.Proofs.YtfaehioeepolhabGreat
open Go.RowKit
def s8T (B lo gm gf : Nat) (f : PF) (an : Option Addr) (cn : Nat) (acc : Value) (n : Nat) (bs : List (List Nat)) : Nat → FX
 | 0 => FX.eq (.pointer (some ⟨gm, 3, none⟩))
 | 1 => FX.eq (acc)
 | 2 => FX.eq (.pointer (some ⟨gf, 1, none⟩))
 | 3 => FX.eq (.int .i64 f.kind)
 | 4 => FX.eq (.int .u8 f.kind)
 | 5 => FX.eq (.pointer (some ⟨gf, 2, none⟩))
 | 6 => FX.eq (.int .i64 f.width)
 | 7 => FX.eq (.int .u8 f.width)
 | 8 => FX.pre [11, 13, 15] (fcTwo B lo f)
 | 9 => FX.eq (.pointer (some ⟨gf, 0, none⟩))
 | 10 => FX.eq (.slice an f.name.length cn)
 | 11 => FX.pre [13, 15] (fcHdr B f)
 | 12 => FX.pre [13, 15] (fcOneT B f)
 | 13 => FX.pre [15] (fcGot B gm acc n bs f)
 | 14 => FX.eq (.pointer (some ⟨gm, 3, none⟩))
 | 15 => FX.is (fcPut B gm n bs f)
 | _ => FX.eq undef
def fcRowB (B : Nat) (R : List Nat) : Fct := ⟨fun v w => w.ownsRow B 5 1 v R.length (byt R), fun _ _ _ h hb => own_later h hb⟩
theorem NRow.mono {B B' n : Nat} {w : World} {v : Value} (h : NRow B w v n) (hb : B' ≤ B) : NRow B' w v n := by
 obtain ⟨g, e, h⟩ := h
 exact ⟨g, e, own_mono h hb⟩
theorem encM_lt {K F C : Nat} {bs : List (List Nat)} (hK : K < 256) (hF : F < 256) (hn : bs.length < 256) (h : ∀ t ∈ bs, ∀ x ∈ t, x < 256) : ∀ x ∈ encM K F C bs, x < 256 := by
 intro x hx
 simp only [encM, bodyM, headM, List.mem_append, List.mem_cons, List.not_mem_nil, or_false] at hx
 rcases hx with ((((hx | hx | hx | hx) | hx) | hx | hx) | hx) | hx
 ·omega
 ·omega
 ·omega
 ·omega
 ·exact digs_lt _ _ x hx
 ·omega
 ·omega
 ·exact join_lt _ (fun t ht => (List.mem_cons.1 ht).elim (fun e => e ▸ lensM_lt bs) (h t)) x hx
 ·exact digs_lt _ _ x hx
def s9T (g : Nat) (fs : List PF) (N : Nat) (a : Option Addr) (c : Nat) (aM : Option Addr) (cM : Nat) (R : List Nat) : Nat → FX
 | 0 => FX.eq (.slice a fs.length c)
 | 1 => FX.eq (.int .i64 (N : Int))
 | 2 => FX.pre [5] (fcBegun g fs (N : Int))
 | 3 => FX.eq (.agg #[.int .i64 1, .int .i64 0, .int .i64 (fs.length : Int), .slice aM (fs.length + 1) cM])
 | 4 => FX.is (fcRowB (g + 1) R)
 | 5 => FX.is (fcBox g fs (N : Int))
 | 6 => FX.is (fcRowB (g + 1) R)
 | 7 => FX.eq (.int .i64 0)
 | _ => FX.eq undef
def StartPost2 (w : World) (s : PStr) (R : List Nat) (C : Int) (e : Ending) (w' : World) : Prop :=
 ∃ a c b d ar cr, e = .returned (.tuple #[.agg #[.bool s.opened, .slice a s.fields.length c, .int .i64 s.next, .slice b s.dicts.length d], .slice ar R.length cr, .int .i64 C]) ∧ (∀ W : World, (∀ x, w.heap.size ≤ x → x < w'.heap.size → W.heap[x]? = w'.heap[x]?) → RdStr W s a c b d ∧ RdSl cByte W R (.slice ar R.length cr)) ∧ Below w.heap.size w w'
set_option maxHeartbeats 8000000 in
theorem specStart2_any (a : Option Addr) (c : Nat) (fs : List PF) (next : Int) (w : World) (hr : RdSl cField w fs (.slice a fs.length c)) (ht : totL (fun f : PF => f.name.length) fs ≤ 1048576) (hin : IntIn next) :
  Calls Tryz.prog 101 #[.slice a fs.length c, .int .i64 next] w (StartPost2 w (startS fs next) (startB fs next) (startC fs next)) := by
 obtain ⟨i0, hi0, hz0, hz1, hz2⟩ := info_parts infoByteM
 obtain ⟨j0, hj0, hy0, hy1, hy2⟩ := info_parts infoSlM
 have HR := hid hr
 have HB0 := hid (bN w (.cells #[.bool false, .slice none 0 0, .int .i64 0, .slice none 0 0] 43))
 have HK0 : Hid ((w.alloc (.cells #[.bool false, .slice none 0 0, .int .i64 0, .slice none 0 0] 43)).heap[w.heap.size]? = some (.cells #[.bool false, .slice none 0 0, .int .i64 0, .slice none 0 0] 43 (0, 0))) := hid (heap_alloc_new w _)
 have hs0 : (w.alloc (.cells #[.bool false, .slice none 0 0, .int .i64 0, .slice none 0 0] 43)).heap.size = w.heap.size + 1 := by simp
 have HV := hid (specFields_any a c fs _ (hr.later HB0.out))
 clear hr
 have HBAD : Hid (startOK fs next = false → startS fs next = ⟨false, [], 0, []⟩ ∧ startB fs next = [] ∧ startC fs next = 1) := hid (fun h => by unfold startS startB startC; rw [h]; exact ⟨rfl, rfl, rfl⟩)
 have HOKE : Hid (startOK fs next = (fieldsOK fs && decide (0 ≤ next ∧ next ≤ 1000000000))) := hid rfl
 cases hf : fieldsOK fs with
 | false =>
  obtain ⟨e1, e2, e3⟩ := HBAD.out (by rw [HOKE.out, hf]; rfl)
  rw [hf] at HV
  rw [e1, e2, e3]
  clear hf e1 e2 e3 HOKE HBAD
  go_enter Tryz.func101, Tryz.ntmps101
  go_wp2_with fail
  generalize (w.alloc (.cells #[.bool false, .slice none 0 0, .int .i64 0, .slice none 0 0] 43)) = W0 at *
  refine HV.out.mono ?_
  rintro e w1 ⟨rfl, b1⟩
  have hk := (b1.block _ (by omega)).trans HK0.out
  have c0 := cR w1 _ 0 _ _ _ hk
  have c1 := cR w1 _ 1 _ _ _ hk
  have c2 := cR w1 _ 2 _ _ _ hk
  have c3 := cR w1 _ 3 _ _ _ hk
  have f0 := fR w1 _ 0 _ _ hk
  have f1 := fR w1 _ 1 _ _ hk
  have f2 := fR w1 _ 2 _ _ hk
  have f3 := fR w1 _ 3 _ _ hk
  simp only [gA, gZ, gU] at c0 c1 c2 c3
  have HK := hid hk
  have HB1 := hid (bC HB0.out b1)
  clear b1 hk
  go_wp2
  refine bodyPost_ret (results_cell3 rfl _ _ w.heap.size 43 #[.bool false, .slice none 0 0, .int .i64 0, .slice none 0 0] (0, 0) _ rfl (set4 HK.out) Tryz.underlying43 rfl (by kernel_rfl)) rfl ?_
  exact ⟨none, 0, none, 0, none, 0, rfl, fun W _ => ⟨⟨RdSl.empty none, RdSl.empty none⟩, RdSl.empty none⟩, set4b HB1.out (Nat.le_refl _)⟩
 | true =>
  rw [hf] at HV
  by_cases n1 : 0 ≤ next ∧ next ≤ 1000000000
  ·obtain ⟨N, rfl⟩ : ∃ N : Nat, next = N := ⟨next.toNat, by omega⟩
   have hOK : startOK fs (N : Int) = true := by rw [HOKE.out, hf, decide_eq_true n1]; rfl
   have e1 : startS fs (N : Int) = ⟨true, fs, (N : Int), List.replicate fs.length []⟩ := by unfold startS; rw [hOK]; rfl
   have e2 : startB fs (N : Int) = encM 1 0 fs.length (hdrB fs N) := by unfold startB; rw [hOK]; simp
   have e3 : startC fs (N : Int) = 0 := by unfold startC; rw [hOK]; rfl
   rw [e1, e2, e3]
   have HBD := hid (fieldsOK_bounds hf)
   have HTH := hid (hdr_tot N hf)
   have hfl : fs.length ≤ 12 := HBD.out.1
   have n1' : decide ((N : Int) < 0) = false := decide_eq_false (by omega)
   have n2' : decide (1000000000 < (N : Int)) = false := decide_eq_false (by omega)
   have n3' : N < 18446744073709551616 := by omega
   clear e1 e2 e3 hOK hf HBAD HOKE n1
   go_enter Tryz.func101, Tryz.ntmps101
   go_wp2_with fail
   generalize (w.alloc (.cells #[.bool false, .slice none 0 0, .int .i64 0, .slice none 0 0] 43)) = W0 at *
   refine HV.out.mono ?_
   rintro e w1 ⟨rfl, b1⟩
   have HB1 := hid b1
   clear b1
   go_wp2_with fail
   have HUN : Hid (U (N : Int) = N) := hid (U_nat N n3')
   refine (little_row (N : Int) 8 w1 (by omega) (by omega) hin).mono ?_
   rintro e w2 ⟨g2, c2, rfl, o2, b2⟩
   rw [HUN.out] at o2
   have HB2 := hid (bC HB1.out b2)
   have HO2 := hid (own_mono o2 HB1.out.size)
   clear o2 b2
   have HMB : Hid (((w2.alloc (.cells #[.slice (some ⟨g2, 0, none⟩) 8 c2] 87)).alloc (.cells #[.int .i64 1, .int .i64 0, .int .i64 (fs.length : Int), .slice (some ⟨w2.heap.size, 0, none⟩) 1 1] 161)).heap[w2.heap.size + 1]? = some (mbox fs.length (.slice (some ⟨w2.heap.size, 0, none⟩) 1 1))) := hid (by
    have h := heap_alloc_new (w2.alloc (.cells #[.slice (some ⟨g2, 0, none⟩) 8 c2] 87)) (.cells #[.int .i64 1, .int .i64 0, .int .i64 (fs.length : Int), .slice (some ⟨w2.heap.size, 0, none⟩) 1 1] 161)
    rw [show (w2.alloc (.cells #[.slice (some ⟨g2, 0, none⟩) 8 c2] 87)).heap.size = w2.heap.size + 1 from by simp] at h
    exact h)
   have HTX : Hid (Txts W0.heap.size ((w2.alloc (.cells #[.slice (some ⟨g2, 0, none⟩) 8 c2] 87)).alloc (.cells #[.int .i64 1, .int .i64 0, .int .i64 (fs.length : Int), .slice (some ⟨w2.heap.size, 0, none⟩) 1 1] 161)) (.slice (some ⟨w2.heap.size, 0, none⟩) 1 1) ((hdrB fs N).take (0 + 1))) := hid (by
    have h := own_built (w := w2) (B := W0.heap.size) (e := 87) (cs := #[.slice (some ⟨g2, 0, none⟩) 8 c2]) HB2.out.size (by unfold maxLen; simp)
    refine ⟨[.slice (some ⟨g2, 0, none⟩) 8 c2], own_later h (bN _ _), fun i hi => ?_⟩
    obtain rfl : i = 0 := by simp [hdrB] at hi; omega
    have e : ((hdrB fs N).take (0 + 1))[0]'hi = digs N 8 := by simp [hdrB]
    rw [e]
    refine ⟨_, rfl, ?_, digs_lt _ _⟩
    rw [digs_len]
    exact own_later (own_later HO2.out (bN _ _)) (bN _ _))
   have HBL : Hid (Below W0.heap.size W0 ((w2.alloc (.cells #[.slice (some ⟨g2, 0, none⟩) 8 c2] 87)).alloc (.cells #[.int .i64 1, .int .i64 0, .int .i64 (fs.length : Int), .slice (some ⟨w2.heap.size, 0, none⟩) 1 1] 161))) := hid (bC (bC HB2.out (bN _ _)) (bN _ _))
   have HGB : Hid (W0.heap.size ≤ w2.heap.size + 1) := hid (by have := HB2.out.size; omega)
   go_wp2
   go_loopw [8] (fun i wr => ∃ k : Nat, k ≤ fs.length ∧ i = .int .i64 k ∧ ∃ v, wr.heap[w2.heap.size + 1]? = some (mbox fs.length v) ∧ Txts W0.heap.size wr v ((hdrB fs N).take (k + 1)) ∧ Below W0.heap.size W0 wr) (fun i _ => fs.length - (intOf i).toNat)
   case atStart => exact ⟨0, Nat.zero_le _, rfl, _, HMB.out, HTX.out, HBL.out⟩
   case round =>
    obtain ⟨k, hk, rfl, acc, hkm, htx, hbe⟩ := hrel
    have HKM := hid hkm
    have HX := hid htx
    have HBW := hid hbe
    clear hkm htx hbe HMB HTX HBL
    by_cases hlt : k < fs.length
    ·obtain ⟨b, off, x0, x1, x2, rfl, hes, d0, d1, d2⟩ := (HR.out.later (bC HB0.out HBW.out)).at3 rfl hlt
     obtain ⟨an, cn, e3⟩ := cField_shape hes
     simp only [List.cons.injEq, and_true] at e3
     obtain ⟨rfl, rfl, rfl⟩ := e3
     have hki : (k : Int) < (fs.length : Int) := by omega
     obtain ⟨hp1, hp2, hk0, hk3, hw0, hw8⟩ := HBD.out.2 k hlt
     have hwk : IntKind.u8.wrap fs[k].kind = fs[k].kind := by simp [IntKind.wrap, IntKind.bits, IntKind.signed]; omega
     have hww : IntKind.u8.wrap fs[k].width = fs[k].width := by simp [IntKind.wrap, IntKind.bits, IntKind.signed]; omega
     have hgm : w2.heap.size + 1 < wr.heap.size := (Array.getElem?_eq_some_iff.1 HKM.out).1
     have HGM : Hid (w2.heap.size + 1 < (wr.alloc (.cells #[.slice an fs[k].name.length cn, .int .i64 fs[k].kind, .int .i64 fs[k].width] 101)).heap.size) := hid (by simp; omega)
     have HKM1 : Hid ((wr.alloc (.cells #[.slice an fs[k].name.length cn, .int .i64 fs[k].kind, .int .i64 fs[k].width] 101)).heap[w2.heap.size + 1]? = some (mbox fs.length acc)) := hid (((bN wr _).block _ hgm).trans HKM.out)
     have HGF : Hid (wr.heap.size < (wr.alloc (.cells #[.slice an fs[k].name.length cn, .int .i64 fs[k].kind, .int .i64 fs[k].width] 101)).heap.size) := hid (by simp)
     have HKF : Hid ((wr.alloc (.cells #[.slice an fs[k].name.length cn, .int .i64 fs[k].kind, .int .i64 fs[k].width] 101)).heap[wr.heap.size]? = some (.cells #[.slice an fs[k].name.length cn, .int .i64 fs[k].kind, .int .i64 fs[k].width] 101 (0, 0))) := hid (heap_alloc_new wr _)
     have HTL : Hid (((hdrB fs N).take (k + 1)).length = k + 1) := hid (by simp [hdrB_len]; omega)
     obtain ⟨vn, en, hnm, hik, hiw⟩ := cField_rd hes
     simp only [List.cons.injEq, and_true] at en
     obtain ⟨rfl, -⟩ := en
     have HNM := hid hnm
     have HBT : Hid (∀ x ∈ hdrF fs[k], x < 256) := hid (by
      intro x hx
      simp only [hdrF, List.mem_cons] at hx
      rcases hx with rfl | rfl | hx
      ·omega
      ·omega
      ·exact rdSl_ok HNM.out x hx)
     clear hes hnm hik hiw
     have HL2 : Hid (((hdrB fs N).take (k + 1) ++ [hdrF fs[k]]).length = k + 2) := hid (by rw [List.length_append, HTL.out]; rfl)
     go_wp2_with fail
     refine region_turns2 (n := 16) (by kernel_rfl) (by kernel_rfl) ?_ (fun t => { tmps := #[.slice (some ⟨b, off, none⟩) fs.length c, .int .i64 (N : Int), undef, undef, .pointer (some ⟨w.heap.size, 0, none⟩), .slice none 0 0, .int .i64 0, .pointer (some ⟨w2.heap.size + 1, 0, none⟩), .int .i64 (k : Int), .pointer (some ⟨wr.heap.size, 0, none⟩), .slice (some ⟨b, off, none⟩) fs.length c, .bool true, .bool false, .bool false, .int .i64 (N : Int), .bool false, .bool false, .bool false, .int .i64 (N : Int), .bool false, .bool false, undef, .slice (some ⟨b, off, none⟩) fs.length c, .int .i64 (fs.length : Int), .int .i64 (N : Int), .slice (some ⟨g2, 0, none⟩) 8 c2, .slice (some ⟨w2.heap.size, 0, none⟩) 1 1, .agg #[.int .i64 1, .int .i64 0, .int .i64 (fs.length : Int), .slice (some ⟨w2.heap.size, 0, none⟩) 1 1], .int .i64 (k : Int), .slice (some ⟨b, off, none⟩) fs.length c, .int .i64 (fs.length : Int), .bool true, u32, u33, .slice (some ⟨b, off, none⟩) fs.length c, .int .i64 (k : Int), .pointer (some ⟨b, off + k * 3, none⟩), .agg #[.slice an fs[k].name.length cn, .int .i64 fs[k].kind, .int .i64 fs[k].width], t 0, t 1, t 2, t 3, t 4, t 5, t 6, t 7, t 8, t 9, t 10, t 11, t 12, t 13, t 14, undef, undef, undef, undef, undef], defers := [] }) (s8T W0.heap.size (wr.alloc (.cells #[.slice an fs[k].name.length cn, .int .i64 fs[k].kind, .int .i64 fs[k].width] 101)).heap.size (w2.heap.size + 1) wr.heap.size fs[k] an cn acc fs.length ((hdrB fs N).take (k + 1))) [11, 13, 15] (fcSame (wr.alloc (.cells #[.slice an fs[k].name.length cn, .int .i64 fs[k].kind, .int .i64 fs[k].width] 101))) W0 (wr.alloc (.cells #[.slice an fs[k].name.length cn, .int .i64 fs[k].kind, .int .i64 fs[k].width] 101)) (fun k => if k = 8 then [11, 13, 15] else if k = 11 then [13, 15] else if k = 12 then [13, 15] else if k = 13 then [15] else []) (fun k => !(k == 8 || k == 11 || k == 12 || k == 13 || k == 15)) (fun i x y => i = 11 → Below (wr.alloc (.cells #[.slice an fs[k].name.length cn, .int .i64 fs[k].kind, .int .i64 fs[k].width] 101)).heap.size x y) [13, 15] (fun _ _ => false) (by kernel_rfl) (fun _ _ _ _ h => by cases h) (fun i hi hn x y hR h => Below.trans h (hR (by simp at hi hn; omega))) (fun j hj => by rcases (by omega : j = 0 ∨ j = 1 ∨ j = 2 ∨ j = 3 ∨ j = 4 ∨ j = 5 ∨ j = 6 ∨ j = 7 ∨ j = 8 ∨ j = 9 ∨ j = 10 ∨ j = 11 ∨ j = 12 ∨ j = 13 ∨ j = 14 ∨ j = 15) with rfl | rfl | rfl | rfl | rfl | rfl | rfl | rfl | rfl | rfl | rfl | rfl | rfl | rfl | rfl | rfl <;> rfl) (fun j hj hp => by rcases (by omega : j = 0 ∨ j = 1 ∨ j = 2 ∨ j = 3 ∨ j = 4 ∨ j = 5 ∨ j = 6 ∨ j = 7 ∨ j = 8 ∨ j = 9 ∨ j = 10 ∨ j = 11 ∨ j = 12 ∨ j = 13 ∨ j = 14 ∨ j = 15) with rfl | rfl | rfl | rfl | rfl | rfl | rfl | rfl | rfl | rfl | rfl | rfl | rfl | rfl | rfl | rfl <;> first | rfl | (exact absurd hp (by decide))) (fun j => ([u38, u39, u40, u41, u42, u43, u44, u45, u46, u47, u48, u49, u50, u51, u52, undef] : List Value).getD j undef) (bC HBW.out (bN _ _)) (Below.refl _ _) ?_ ?_
     ·rfl
     ·intro i hi x t wx hxi hsh h0 hbx hgx hdp hall
      rcases (by omega : i = 0 ∨ i = 1 ∨ i = 2 ∨ i = 3 ∨ i = 4 ∨ i = 5 ∨ i = 6 ∨ i = 7 ∨ i = 8 ∨ i = 9 ∨ i = 10 ∨ i = 11 ∨ i = 12 ∨ i = 13 ∨ i = 14 ∨ i = 15) with rfl | rfl | rfl | rfl | rfl | rfl | rfl | rfl | rfl | rfl | rfl | rfl | rfl | rfl | rfl | rfl
      ·
       try dsimp only
       clear h0
       refine wpOp_step rfl (fun K' hK => ?_)
       go_simp
       exact hK _ _ ⟨.pointer (some ⟨w2.heap.size + 1, 3, none⟩), (by simp [upd]), FX.eq_mk rfl, fun _ => Below.refl _ _, fun h => absurd h (by decide), hbx⟩
      ·
       try dsimp only
       have x0 := depX hdp 0 (by kernel_rfl)
       have d0 := hall 0 (by omega) x0
       have e0 : t 0 = .pointer (some ⟨w2.heap.size + 1, 3, none⟩) := d0.1
       rw [e0]
       have y13 := notYet hsh hxi 13 (by kernel_rfl)
       have y15 := notYet hsh hxi 15 (by kernel_rfl)
       have hz : Below (wr.alloc (.cells #[.slice an fs[k].name.length cn, .int .i64 fs[k].kind, .int .i64 fs[k].width] 101)).heap.size (wr.alloc (.cells #[.slice an fs[k].name.length cn, .int .i64 fs[k].kind, .int .i64 fs[k].width] 101)) wx := hgx (by simp [y13, y15])
       have k3 := cR _ _ 3 _ _ _ ((hz.block _ HGM.out).trans HKM1.out)
       simp only [gA, gZ, gU] at k3
       clear y13 y15 hz
       clear h0
       refine wpOp_step rfl (fun K' hK => ?_)
       go_simp
       exact hK _ _ ⟨acc, (by simp [upd, e0]), FX.eq_mk rfl, fun _ => Below.refl _ _, fun h => absurd h (by decide), hbx⟩
      ·
       try dsimp only
       clear h0
       refine wpOp_step rfl (fun K' hK => ?_)
       go_simp
       exact hK _ _ ⟨.pointer (some ⟨wr.heap.size, 1, none⟩), (by simp [upd]), FX.eq_mk rfl, fun _ => Below.refl _ _, fun h => absurd h (by decide), hbx⟩
      ·
       try dsimp only
       have x2 := depX hdp 2 (by kernel_rfl)
       have d2 := hall 2 (by omega) x2
       have e2 : t 2 = .pointer (some ⟨wr.heap.size, 1, none⟩) := d2.1
       rw [e2]
       have y13 := notYet hsh hxi 13 (by kernel_rfl)
       have y15 := notYet hsh hxi 15 (by kernel_rfl)
       have hz : Below (wr.alloc (.cells #[.slice an fs[k].name.length cn, .int .i64 fs[k].kind, .int .i64 fs[k].width] 101)).heap.size (wr.alloc (.cells #[.slice an fs[k].name.length cn, .int .i64 fs[k].kind, .int .i64 fs[k].width] 101)) wx := hgx (by simp [y13, y15])
       have kf := cR _ _ 1 _ _ _ ((hz.block _ HGF.out).trans HKF.out)
       simp only [gA, gZ, gU] at kf
       clear y13 y15 hz
       clear h0
       refine wpOp_step rfl (fun K' hK => ?_)
       go_simp
       exact hK _ _ ⟨.int .i64 fs[k].kind, (by simp [upd, e2]), FX.eq_mk rfl, fun _ => Below.refl _ _, fun h => absurd h (by decide), hbx⟩
      ·
       try dsimp only
       have x3 := depX hdp 3 (by kernel_rfl)
       have d3 := hall 3 (by omega) x3
       have e3 : t 3 = .int .i64 fs[k].kind := d3.1
       rw [e3]
       clear h0
       refine wpOp_step rfl (fun K' hK => ?_)
       go_simp
       exact hK _ _ ⟨.int .u8 fs[k].kind, (by simp [upd, e3]), FX.eq_mk rfl, fun _ => Below.refl _ _, fun h => absurd h (by decide), hbx⟩
      ·
       try dsimp only
       clear h0
       refine wpOp_step rfl (fun K' hK => ?_)
       go_simp
       exact hK _ _ ⟨.pointer (some ⟨wr.heap.size, 2, none⟩), (by simp [upd]), FX.eq_mk rfl, fun _ => Below.refl _ _, fun h => absurd h (by decide), hbx⟩
      ·
       try dsimp only
       have x5 := depX hdp 5 (by kernel_rfl)
       have d5 := hall 5 (by omega) x5
       have e5 : t 5 = .pointer (some ⟨wr.heap.size, 2, none⟩) := d5.1
       rw [e5]
       have y13 := notYet hsh hxi 13 (by kernel_rfl)
       have y15 := notYet hsh hxi 15 (by kernel_rfl)
       have hz : Below (wr.alloc (.cells #[.slice an fs[k].name.length cn, .int .i64 fs[k].kind, .int .i64 fs[k].width] 101)).heap.size (wr.alloc (.cells #[.slice an fs[k].name.length cn, .int .i64 fs[k].kind, .int .i64 fs[k].width] 101)) wx := hgx (by simp [y13, y15])
       have kf := cR _ _ 2 _ _ _ ((hz.block _ HGF.out).trans HKF.out)
       simp only [gA, gZ, gU] at kf
       clear y13 y15 hz
       clear h0
       refine wpOp_step rfl (fun K' hK => ?_)
       go_simp
       exact hK _ _ ⟨.int .i64 fs[k].width, (by simp [upd, e5]), FX.eq_mk rfl, fun _ => Below.refl _ _, fun h => absurd h (by decide), hbx⟩
      ·
       try dsimp only
       have x6 := depX hdp 6 (by kernel_rfl)
       have d6 := hall 6 (by omega) x6
       have e6 : t 6 = .int .i64 fs[k].width := d6.1
       rw [e6]
       clear h0
       refine wpOp_step rfl (fun K' hK => ?_)
       go_simp
       exact hK _ _ ⟨.int .u8 fs[k].width, (by simp [upd, e6]), FX.eq_mk rfl, fun _ => Below.refl _ _, fun h => absurd h (by decide), hbx⟩
      ·
       try dsimp only
       have x4 := depX hdp 4 (by kernel_rfl)
       have d4 := hall 4 (by omega) x4
       have e4 : t 4 = .int .u8 fs[k].kind := d4.1
       have x7 := depX hdp 7 (by kernel_rfl)
       have d7 := hall 7 (by omega) x7
       have e7 : t 7 = .int .u8 fs[k].width := d7.1
       rw [e4, e7]
       have y13 := notYet hsh hxi 13 (by kernel_rfl)
       have y15 := notYet hsh hxi 15 (by kernel_rfl)
       have hz : Below (wr.alloc (.cells #[.slice an fs[k].name.length cn, .int .i64 fs[k].kind, .int .i64 fs[k].width] 101)).heap.size (wr.alloc (.cells #[.slice an fs[k].name.length cn, .int .i64 fs[k].kind, .int .i64 fs[k].width] 101)) wx := hgx (by simp [y13, y15])
       have hz2 := hz.size
       clear hz y13 y15
       clear h0
       refine wpOp_step rfl (fun K' hK => ?_)
       go_simp
       exact hK _ _ ⟨.slice (some ⟨wx.heap.size, 0, none⟩) 2 2, (by simp [upd, e4, e7]), FX.pre_mk (two_new8 ⟨hk0, hk3⟩ ⟨hw0, hw8⟩ hz2 hbx.size), fun _ => bN _ _, fun h => absurd h (by decide), bC hbx (bN _ _)⟩
      ·
       try dsimp only
       clear h0
       refine wpOp_step rfl (fun K' hK => ?_)
       go_simp
       exact hK _ _ ⟨.pointer (some ⟨wr.heap.size, 0, none⟩), (by simp [upd]), FX.eq_mk rfl, fun _ => Below.refl _ _, fun h => absurd h (by decide), hbx⟩
      ·
       try dsimp only
       have x9 := depX hdp 9 (by kernel_rfl)
       have d9 := hall 9 (by omega) x9
       have e9 : t 9 = .pointer (some ⟨wr.heap.size, 0, none⟩) := d9.1
       rw [e9]
       have y13 := notYet hsh hxi 13 (by kernel_rfl)
       have y15 := notYet hsh hxi 15 (by kernel_rfl)
       have hz : Below (wr.alloc (.cells #[.slice an fs[k].name.length cn, .int .i64 fs[k].kind, .int .i64 fs[k].width] 101)).heap.size (wr.alloc (.cells #[.slice an fs[k].name.length cn, .int .i64 fs[k].kind, .int .i64 fs[k].width] 101)) wx := hgx (by simp [y13, y15])
       have kf := cR _ _ 0 _ _ _ ((hz.block _ HGF.out).trans HKF.out)
       simp only [gA, gZ] at kf
       clear y13 y15 hz
       clear h0
       refine wpOp_step rfl (fun K' hK => ?_)
       go_simp
       exact hK _ _ ⟨.slice an fs[k].name.length cn, (by simp [upd, e9]), FX.eq_mk rfl, fun _ => Below.refl _ _, fun h => absurd h (by decide), hbx⟩
      ·
       try dsimp only
       have x8 := depX hdp 8 (by kernel_rfl)
       have d8 := hall 8 (by omega) x8
       have x10 := depX hdp 10 (by kernel_rfl)
       have d10 := hall 10 (by omega) x10
       have e10 : t 10 = .slice an fs[k].name.length cn := d10.1
       rw [e10]
       have y13 := notYet hsh hxi 13 (by kernel_rfl)
       have y15 := notYet hsh hxi 15 (by kernel_rfl)
       have hz : Below (wr.alloc (.cells #[.slice an fs[k].name.length cn, .int .i64 fs[k].kind, .int .i64 fs[k].width] 101)).heap.size (wr.alloc (.cells #[.slice an fs[k].name.length cn, .int .i64 fs[k].kind, .int .i64 fs[k].width] 101)) wx := hgx (by simp [y13, y15])
       obtain ⟨g8, e8, hg8, o8⟩ : (fcTwo W0.heap.size (wr.alloc (.cells #[.slice an fs[k].name.length cn, .int .i64 fs[k].kind, .int .i64 fs[k].width] 101)).heap.size fs[k]).p (t 8) wx := d8.2 (by intro u hu; simp [s8T, FX.pre] at hu; rcases hu with rfl | rfl | rfl; exact hxi; exact y13; exact y15)
       rw [e8]
       obtain ⟨ad, had, hcells⟩ := name_cells ((HNM.out.later (bN wr _)).later hz) hp1
       clear h0
       refine wpOp_step rfl (fun K' hK => ?_)
       refine step_append_lies _ rfl (.tmp 46) (.tmp 48) 87 rfl W0.heap.size 5 i0 (.int .u8 0) 1 1 Tryz.underlying87 hi0 hz0 hz1 hz2 rfl (by decide) (.slice (some ⟨g8, 0, none⟩) 2 2) 2 (byt [fs[k].kind.toNat, fs[k].width.toNat]) rfl o8 ad fs[k].name.length cn (byt fs[k].name) (by rw [← had]; rfl) (by rw [byt_len, Nat.mul_one]) hcells (byt_one _) (by omega) (by unfold maxLen; omega) (by omega) hbx.size _ rfl ?_
       intro g' cap' w9 hown hgrow hat hlt9
       exact hK _ _ ⟨.slice (some ⟨g', 0, none⟩) (2 + fs[k].name.length) cap', (by simp [upd, e8, e10, Act.put]), FX.pre_mk (hdr_own hown), fun h => absurd (by decide) h, fun _ _ => (Below.refl _ wx).grown hgrow hz.size (fun p hp => by cases hp; exact hg8), hbx.grown hgrow hbx.size (fun p hp => (own_in o8 hp).1)⟩
      ·
       try dsimp only
       have x11 := depX hdp 11 (by kernel_rfl)
       have d11 := hall 11 (by omega) x11
       have y13 := notYet hsh hxi 13 (by kernel_rfl)
       have y15 := notYet hsh hxi 15 (by kernel_rfl)
       obtain ⟨g, cp, e11, o11⟩ : (fcHdr W0.heap.size fs[k]).p (t 11) wx := FX.pre_of2 d11 y13 y15
       rw [e11]
       clear h0
       refine wpOp_step rfl (fun K' hK => ?_)
       go_simp
       exact hK _ _ ⟨.slice (some ⟨wx.heap.size, 0, none⟩) 1 1, (by simp [upd, e11]), FX.pre_mk (oneT_new o11), fun _ => bN _ _, fun h => absurd h (by decide), bC hbx (bN _ _)⟩
      ·
       try dsimp only
       have x1 := depX hdp 1 (by kernel_rfl)
       have d1 := hall 1 (by omega) x1
       have e1 : t 1 = acc := d1.1
       have x12 := depX hdp 12 (by kernel_rfl)
       have d12 := hall 12 (by omega) x12
       rw [e1]
       have y15 := notYet hsh hxi 15 (by kernel_rfl)
       obtain ⟨g12, u, e12, c12, o11⟩ : (fcOneT W0.heap.size fs[k]).p (t 12) wx := FX.pre_of2 d12 hxi y15
       rw [e12]
       have hz : Below (wr.alloc (.cells #[.slice an fs[k].name.length cn, .int .i64 fs[k].kind, .int .i64 fs[k].width] 101)).heap.size (wr.alloc (.cells #[.slice an fs[k].name.length cn, .int .i64 fs[k].kind, .int .i64 fs[k].width] 101)) wx := hgx (by simp [hxi, y15])
       obtain ⟨vals, ho, hi'⟩ := (HX.out.later (bN wr _)).later hz
       rw [HTL.out] at ho
       have hbm := (hz.block _ HGM.out).trans HKM1.out
       clear h0
       refine wpOp_step rfl (fun K' hK => ?_)
       refine step_append_lies _ rfl (.tmp 39) (.tmp 50) 103 rfl W0.heap.size 87 j0 (.slice none 0 0) 1 24 Tryz.underlying103 hj0 hy0 hy1 hy2 rfl (by decide) acc (k + 1) vals rfl ho ⟨g12, 0, none⟩ 1 1 [u] rfl rfl (one_at c12) (one_cell (own_one o11)) (by omega) (by unfold maxLen; omega) (by omega) hbx.size _ rfl ?_
       intro g' cap' w9 hown hgrow hat hlt9
       exact hK _ _ ⟨.slice (some ⟨g', 0, none⟩) (k + 1 + 1) cap', (by simp [upd, e1, e12, Act.put]), FX.pre_mk ⟨Txts.snoc (by rw [HTL.out]; exact ho) hi' o11 HBT.out (by rw [HTL.out]; exact hown) hgrow, (hgrow.block _ (Array.getElem?_eq_some_iff.1 hbm).1 (fun e => box_farH hbm ho (by decide) e.symm)).trans hbm⟩, fun h => absurd (by decide) h, fun _ h => absurd h (by decide), hbx.grown hgrow hbx.size (fun p hp => (own_in ho hp).1)⟩
      ·
       try dsimp only
       clear h0
       refine wpOp_step rfl (fun K' hK => ?_)
       go_simp
       exact hK _ _ ⟨.pointer (some ⟨w2.heap.size + 1, 3, none⟩), (by simp [upd]), FX.eq_mk rfl, fun _ => Below.refl _ _, fun h => absurd h (by decide), hbx⟩
      ·
       try dsimp only
       have x14 := depX hdp 14 (by kernel_rfl)
       have d14 := hall 14 (by omega) x14
       have e14 : t 14 = .pointer (some ⟨w2.heap.size + 1, 3, none⟩) := d14.1
       have x13 := depX hdp 13 (by kernel_rfl)
       have d13 := hall 13 (by omega) x13
       rw [e14]
       obtain ⟨f13, hbm⟩ : (fcGot W0.heap.size (w2.heap.size + 1) acc fs.length ((hdrB fs N).take (k + 1)) fs[k]).p (t 13) wx := FX.pre_of d13 hxi
       obtain ⟨a13, c13, e13⟩ := f13.len
       rw [HL2.out] at e13
       rw [e13]
       have k3 := cR wx _ 3 _ _ _ hbm
       have z3 := fR wx _ 3 _ _ hbm
       simp only [gA, gZ, gU] at k3
       have HBM := hid hbm
       clear hbm
       clear h0
       refine wpOp_step rfl (fun K' hK => ?_)
       go_simp
       exact hK _ _ ⟨undef, (by simp [upd, e14, e13]), FX.is_mk (put_box HBM.out (e13 ▸ f13)), fun h => absurd (by decide) h, fun _ h => absurd h (by decide), hbx.setCell (p := ⟨w2.heap.size + 1, 3, none⟩) HGB.out _⟩
     ·intro x t wx hx hbx hall
      obtain ⟨v, hkm, htx⟩ : (fcPut W0.heap.size (w2.heap.size + 1) fs.length ((hdrB fs N).take (k + 1)) fs[k]).p (t 15) wx := FX.is_of (hall 15 (by omega))
      have HKM9 := hid hkm
      have HX9 : Hid (Txts W0.heap.size wx v ((hdrB fs N).take (k + 1 + 1))) := hid (by rw [show k + 1 + 1 = k + 2 from rfl, hdrB_take fs N k hlt]; exact htx)
      have HBX := hid hbx
      clear hall hbx hkm htx
      try dsimp only
      go_wp2
      go_roundw
      case rel => exact ⟨k + 1, by omega, by go_num, v, HKM9.out, HX9.out, HBX.out⟩
      case measure => simp [intOf]; omega
    ·obtain rfl : k = fs.length := by omega
     have hX := HX.out
     rw [List.take_of_length_le (by rw [hdrB_len]; exact Nat.le_refl _)] at hX
     obtain ⟨aM, cM, e⟩ := hX.len
     rw [hdrB_len] at e
     subst e
     have HXM := hid hX
     have HENC : Hid (∀ wx, Below wr.heap.size wr wx → Calls Tryz.prog 136 #[.agg #[.int .i64 1, .int .i64 0, .int .i64 (fs.length : Int), .slice aM (fs.length + 1) cM]] wx fun e w' => ∃ a' c', e = .returned (.slice a' (encM 1 0 fs.length (hdrB fs N)).length c') ∧ w'.ownsRow wx.heap.size 5 1 (.slice a' (encM 1 0 fs.length (hdrB fs N)).length c') (encM 1 0 fs.length (hdrB fs N)).length (byt (encM 1 0 fs.length (hdrB fs N))) ∧ Below wx.heap.size wx w') := hid (fun wx hz => by
      have h := l4enc_any 1 0 fs.length (hdrB fs N) aM cM wx (by rw [hdrB_len]; exact (HXM.out.later hz).rd) (by omega) (by omega) (by omega) (by rw [hdrB_len]; omega) (by have := HTH.out; omega)
      rw [hdrB_len] at h
      exact h)
     have HEB : Hid (∀ x ∈ encM 1 0 fs.length (hdrB fs N), x < 256) := hid (encM_lt (by omega) (by omega) (by rw [hdrB_len]; omega) HXM.out.rd.allOK)
     have hgm : w2.heap.size + 1 < wr.heap.size := (Array.getElem?_eq_some_iff.1 HKM.out).1
     have HGM := hid hgm
     have hW1 : w.heap.size + 1 ≤ wr.heap.size := by have := HBW.out.size; omega
     have HGR : Hid (w.heap.size < wr.heap.size) := hid (by omega)
     have HKR := hid ((HBW.out.block w.heap.size (by omega)).trans HK0.out)
     clear hX hgm HX
     go_wp2_with fail
     refine region_turns2 (n := 8) (by kernel_rfl) (by kernel_rfl) ?_ (fun t => { tmps := #[.slice a fs.length c, .int .i64 (N : Int), undef, undef, .pointer (some ⟨w.heap.size, 0, none⟩), t 6, t 7, .pointer (some ⟨w2.heap.size + 1, 0, none⟩), .int .i64 (fs.length : Int), u9, .slice a fs.length c, .bool true, .bool false, .bool false, .int .i64 (N : Int), .bool false, .bool false, .bool false, .int .i64 (N : Int), .bool false, .bool false, undef, .slice a fs.length c, .int .i64 (fs.length : Int), .int .i64 (N : Int), .slice (some ⟨g2, 0, none⟩) 8 c2, .slice (some ⟨w2.heap.size, 0, none⟩) 1 1, .agg #[.int .i64 1, .int .i64 0, .int .i64 (fs.length : Int), .slice (some ⟨w2.heap.size, 0, none⟩) 1 1], .int .i64 (fs.length : Int), .slice a fs.length c, .int .i64 (fs.length : Int), .bool false, u32, u33, u34, u35, u36, u37, u38, u39, u40, u41, u42, u43, u44, u45, u46, u47, u48, u49, u50, u51, u52, t 0, t 1, t 2, t 3, t 4], defers := [] }) (s9T w.heap.size fs N a c aM cM (encM 1 0 fs.length (hdrB fs N))) [5] (fcSame wr) w wr (fun k => if k = 2 then [5] else []) (fun k => !(k == 2 || k == 4 || k == 5 || k == 6)) (fun _ x y => ∀ p, p ≠ w.heap.size → y.heap[p]? = x.heap[p]?) [5] (fun _ k => k == 4) (by kernel_rfl) (fun i hi k hk hs v x y hR h => by obtain rfl : k = 4 := (by simpa using hs); exact ownsRow_kept (show x.ownsRow _ _ _ _ _ _ from h) (fun p hp => hR p (by have := (own_in (show x.ownsRow _ _ _ _ _ _ from h) hp).1; omega))) (fun i hi hn => absurd hi hn) (fun j hj => by rcases (by omega : j = 0 ∨ j = 1 ∨ j = 2 ∨ j = 3 ∨ j = 4 ∨ j = 5 ∨ j = 6 ∨ j = 7) with rfl | rfl | rfl | rfl | rfl | rfl | rfl | rfl <;> rfl) (fun j hj hp => by rcases (by omega : j = 0 ∨ j = 1 ∨ j = 2 ∨ j = 3 ∨ j = 4 ∨ j = 5 ∨ j = 6 ∨ j = 7) with rfl | rfl | rfl | rfl | rfl | rfl | rfl | rfl <;> first | rfl | (exact absurd hp (by decide))) (fun j => ([undef, undef, undef, undef, undef, undef, .slice none 0 0, .int .i64 0] : List Value).getD j undef) (bC HB0.out HBW.out) (Below.refl _ _) ?_ ?_
     ·rfl
     ·intro i hi x t wx hxi hsh h0 hbx hgx hdp hall
      rcases (by omega : i = 0 ∨ i = 1 ∨ i = 2 ∨ i = 3 ∨ i = 4 ∨ i = 5 ∨ i = 6 ∨ i = 7) with rfl | rfl | rfl | rfl | rfl | rfl | rfl | rfl
      ·
       try dsimp only
       clear h0
       refine wpOp_step rfl (fun K' hK => ?_)
       go_simp
       exact hK _ _ ⟨.slice a fs.length c, (by simp [upd]), FX.eq_mk rfl, fun _ => Below.refl _ _, fun h => absurd h (by decide), hbx⟩
      ·
       try dsimp only
       clear h0
       refine wpOp_step rfl (fun K' hK => ?_)
       go_simp
       exact hK _ _ ⟨.int .i64 (N : Int), (by simp [upd]), FX.eq_mk rfl, fun _ => Below.refl _ _, fun h => absurd h (by decide), hbx⟩
      ·
       try dsimp only
       have x0 := depX hdp 0 (by kernel_rfl)
       have d0 := hall 0 (by omega) x0
       have e0 : t 0 = .slice a fs.length c := d0.1
       have x1 := depX hdp 1 (by kernel_rfl)
       have d1 := hall 1 (by omega) x1
       have e1 : t 1 = .int .i64 (N : Int) := d1.1
       rw [e0, e1]
       clear h0
       refine wpOp_step rfl (fun K' hK => ?_)
       go_simp
       refine (l4begin_any a c fs (N : Int) wx (HR.out.later hbx) ht).mono ?_
       rintro e w3 ⟨a3, c3, b3, d3, rfl, h1, h2, bl3⟩
       exact hK _ _ ⟨.agg #[.bool true, .slice a3 fs.length c3, .int .i64 (N : Int), .slice b3 fs.length d3], (by simp [upd, e0, e1]), FX.pre_mk ⟨_, _, _, _, rfl, h1.mono hbx.size, h2.mono hbx.size⟩, fun _ => bl3, fun h => absurd h (by decide), bC hbx bl3⟩
      ·
       try dsimp only
       have y5 := notYet hsh hxi 5 (by kernel_rfl)
       have hz : Below wr.heap.size wr wx := hgx (by simp [y5])
       have hbm := (hz.block _ HGM.out).trans HKM.out
       have k0 := cR wx _ 0 _ _ _ hbm
       have k1 := cR wx _ 1 _ _ _ hbm
       have k2 := cR wx _ 2 _ _ _ hbm
       have k3 := cR wx _ 3 _ _ _ hbm
       simp only [gA, gZ, gU] at k0 k1 k2 k3
       clear hbm hz y5
       clear h0
       refine wpOp_step rfl (fun K' hK => ?_)
       go_simp
       exact hK _ _ ⟨.agg #[.int .i64 1, .int .i64 0, .int .i64 (fs.length : Int), .slice aM (fs.length + 1) cM], (by simp [upd]), FX.eq_mk rfl, fun _ => Below.refl _ _, fun h => absurd h (by decide), hbx⟩
      ·
       try dsimp only
       have x3 := depX hdp 3 (by kernel_rfl)
       have d3 := hall 3 (by omega) x3
       have e3 : t 3 = .agg #[.int .i64 1, .int .i64 0, .int .i64 (fs.length : Int), .slice aM (fs.length + 1) cM] := d3.1
       rw [e3]
       have y5 := notYet hsh hxi 5 (by kernel_rfl)
       have hz : Below wr.heap.size wr wx := hgx (by simp [y5])
       clear y5
       clear h0
       refine wpOp_step rfl (fun K' hK => ?_)
       go_simp
       refine (HENC.out wx hz).mono ?_
       rintro e w3 ⟨a3, c3, rfl, o3, bl3⟩
       exact hK _ _ ⟨.slice a3 (encM 1 0 fs.length (hdrB fs N)).length c3, (by simp [upd, e3]), FX.is_mk (own_mono o3 (Nat.le_trans hW1 hz.size)), fun _ => bl3, fun h => absurd h (by decide), bC hbx bl3⟩
      ·
       try dsimp only
       have x2 := depX hdp 2 (by kernel_rfl)
       have d2 := hall 2 (by omega) x2
       obtain ⟨a1, c1, a5, c5, e2, f1, f5⟩ : (fcBegun w.heap.size fs (N : Int)).p (t 2) wx := FX.pre_of d2 hxi
       have hz : Below wr.heap.size wr wx := hgx (by simp [hxi])
       have hbox := (hz.block _ HGR.out).trans HKR.out
       rw [e2]
       have k0 := cR wx _ 0 _ _ _ hbox
       have k1 := cR wx _ 1 _ _ _ hbox
       have k2 := cR wx _ 2 _ _ _ hbox
       have k3 := cR wx _ 3 _ _ _ hbox
       have z0 := fR wx _ 0 _ _ hbox
       have z1 := fR wx _ 1 _ _ hbox
       have z2 := fR wx _ 2 _ _ hbox
       have z3 := fR wx _ 3 _ _ hbox
       simp only [gA, gZ, gU] at k0 k1 k2 k3
       have HBX := hid hbox
       clear hbox hz
       clear h0
       refine wpOp_step rfl (fun K' hK => ?_)
       go_simp
       exact hK _ _ ⟨undef, (by simp [upd, e2]), FX.is_mk (begun_box HBX.out f1 f5), fun h => absurd (by decide) h, fun _ p hp => set4o hp, set4b hbx (Nat.le_refl _)⟩
      ·
       try dsimp only
       have x4 := depX hdp 4 (by kernel_rfl)
       have d4 := hall 4 (by omega) x4
       clear h0
       refine wpOp_step rfl (fun K' hK => ?_)
       go_simp
       exact hK _ _ ⟨t 4, (by simp [upd]), FX.is_mk (FX.is_of d4), fun _ => Below.refl _ _, fun h => absurd h (by decide), hbx⟩
      ·
       try dsimp only
       clear h0
       refine wpOp_step rfl (fun K' hK => ?_)
       go_simp
       exact hK _ _ ⟨.int .i64 0, (by simp [upd]), FX.eq_mk rfl, fun _ => Below.refl _ _, fun h => absurd h (by decide), hbx⟩
     ·intro x t wx hx hbx hall
      obtain ⟨a1, c1, a5, c5, hbox, f1, f5⟩ : (fcBox w.heap.size fs (N : Int)).p (t 5) wx := FX.is_of (hall 5 (by omega))
      have f6 : wx.ownsRow (w.heap.size + 1) 5 1 (t 6) (encM 1 0 fs.length (hdrB fs N)).length (byt (encM 1 0 fs.length (hdrB fs N))) := FX.is_of (hall 6 (by omega))
      have e7 : t 7 = .int .i64 0 := (hall 7 (by omega)).1
      obtain ⟨a6, c6, e6, -⟩ := rd_own f6
      try dsimp only
      rw [e6, e7]
      have HBX := hid hbox
      have HF1 := hid f1
      have HF5 := hid f5
      have HF6 : Hid (wx.ownsRow (w.heap.size + 1) 5 1 (.slice a6 (encM 1 0 fs.length (hdrB fs N)).length c6) (encM 1 0 fs.length (hdrB fs N)).length (byt (encM 1 0 fs.length (hdrB fs N)))) := hid (e6 ▸ f6)
      have HB := hid hbx
      clear hall hbx hbox f1 f5 f6 e6 e7
      go_wp2
      refine bodyPost_ret (results_cell3 rfl _ _ w.heap.size 43 #[.bool true, .slice a1 fs.length c1, .int .i64 (N : Int), .slice a5 fs.length c5] (0, 0) _ rfl HBX.out Tryz.underlying43 rfl (by kernel_rfl)) rfl ?_
      refine ⟨a1, c1, a5, c5, a6, c6, (by simp), fun W hW => ⟨⟨(HF1.out.kept (fun b e s n vs u ho _ hp => hW b (World.ownsRow.lt ho b hp).1 (World.ownsRow.lt ho b hp).2)).rd, ?_⟩, own_rdSl (ownsRow_kept HF6.out (fun b hp => hW b (Nat.le_of_succ_le (World.ownsRow.lt HF6.out b hp).1) (World.ownsRow.lt HF6.out b hp).2)) HEB.out⟩, HB.out⟩
      obtain ⟨g5, e5, h5⟩ := HF5.out
      have h5' : NRow w.heap.size W (.slice a5 fs.length c5) fs.length := ⟨g5, e5, ownsRow_kept h5 (fun b hp => hW b (World.ownsRow.lt h5 b hp).1 (World.ownsRow.lt h5 b hp).2)⟩
      simpa using h5'.rd
  ·obtain ⟨e1, e2, e3⟩ := HBAD.out (by rw [HOKE.out, decide_eq_false n1]; simp)
   rw [e1, e2, e3]
   clear hf e1 e2 e3 HOKE HBAD
   have hn : next < 0 ∨ 1000000000 < next := by omega
   rcases hn with hn | hn
   ·go_enter Tryz.func101, Tryz.ntmps101
    go_wp2_with fail
    generalize (w.alloc (.cells #[.bool false, .slice none 0 0, .int .i64 0, .slice none 0 0] 43)) = W0 at *
    refine HV.out.mono ?_
    rintro e w1 ⟨rfl, b1⟩
    have hk := (b1.block _ (by omega)).trans HK0.out
    have c0 := cR w1 _ 0 _ _ _ hk
    have c1 := cR w1 _ 1 _ _ _ hk
    have c2 := cR w1 _ 2 _ _ _ hk
    have c3 := cR w1 _ 3 _ _ _ hk
    have f0 := fR w1 _ 0 _ _ hk
    have f1 := fR w1 _ 1 _ _ hk
    have f2 := fR w1 _ 2 _ _ hk
    have f3 := fR w1 _ 3 _ _ hk
    simp only [gA, gZ, gU] at c0 c1 c2 c3
    have HK := hid hk
    have HB1 := hid (bC HB0.out b1)
    clear b1 hk n1
    go_wp2
    refine bodyPost_ret (results_cell3 rfl _ _ w.heap.size 43 #[.bool false, .slice none 0 0, .int .i64 0, .slice none 0 0] (0, 0) _ rfl (set4 HK.out) Tryz.underlying43 rfl (by kernel_rfl)) rfl ?_
    exact ⟨none, 0, none, 0, none, 0, rfl, fun W _ => ⟨⟨RdSl.empty none, RdSl.empty none⟩, RdSl.empty none⟩, set4b HB1.out (Nat.le_refl _)⟩
   ·have hn0 : 0 ≤ next := by omega
    go_enter Tryz.func101, Tryz.ntmps101
    go_wp2_with fail
    generalize (w.alloc (.cells #[.bool false, .slice none 0 0, .int .i64 0, .slice none 0 0] 43)) = W0 at *
    refine HV.out.mono ?_
    rintro e w1 ⟨rfl, b1⟩
    have hk := (b1.block _ (by omega)).trans HK0.out
    have c0 := cR w1 _ 0 _ _ _ hk
    have c1 := cR w1 _ 1 _ _ _ hk
    have c2 := cR w1 _ 2 _ _ _ hk
    have c3 := cR w1 _ 3 _ _ _ hk
    have f0 := fR w1 _ 0 _ _ hk
    have f1 := fR w1 _ 1 _ _ hk
    have f2 := fR w1 _ 2 _ _ hk
    have f3 := fR w1 _ 3 _ _ hk
    simp only [gA, gZ, gU] at c0 c1 c2 c3
    have HK := hid hk
    have HB1 := hid (bC HB0.out b1)
    clear b1 hk n1
    go_wp2
    refine bodyPost_ret (results_cell3 rfl _ _ w.heap.size 43 #[.bool false, .slice none 0 0, .int .i64 0, .slice none 0 0] (0, 0) _ rfl (set4 HK.out) Tryz.underlying43 rfl (by kernel_rfl)) rfl ?_
    exact ⟨none, 0, none, 0, none, 0, rfl, fun W _ => ⟨⟨RdSl.empty none, RdSl.empty none⟩, RdSl.empty none⟩, set4b HB1.out (Nat.le_refl _)⟩
end Go.Proofs.YtfaehioeepolhabGreat
