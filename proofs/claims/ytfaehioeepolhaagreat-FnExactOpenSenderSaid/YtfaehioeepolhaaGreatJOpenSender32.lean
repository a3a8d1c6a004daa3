import Derived.Test.YtfaehioeepolhaaGreatJOpenSender12
import Derived.Test.YtfaehioeepolhaaGreatJOpenSender14
import Derived.Test.YtfaehioeepolhaaGreatJOpenSender15
import Derived.Test.YtfaehioeepolhaaGreatJOpenSender23
import Derived.Test.YtfaehioeepolhaaGreatJOpenSender31
namespace Go.Proofs.YtfaehioeepolhaaGreat
open Go.RowKit
def fcTsB (lo : Nat) (ts : List PT) : Fct := ⟨fun v w => RowT tkTable 111 lo w v ts, fun _ _ _ h hb => h.later hb⟩
abbrev cellsB (fs : List PF) (ts : List PT) (ep bs : Int) (ov sv : List Value) (a0 : Option Addr) (c0 : Nat) (a3 : Option Addr) (c3 : Nat) : Array Value := (([.slice a0 fs.length c0, .int .i64 ep, .int .i64 bs, .slice a3 ts.length c3, .int .i64 0] : List Value) ++ ov ++ sv).toArray
def fcAgB (lo : Nat) (fs : List PF) (ts : List PT) (ep bs : Int) (ov sv : List Value) : Fct := ⟨fun v w => ∃ a0 c0 a3 c3, v = .agg (cellsB fs ts ep bs ov sv a0 c0 a3 c3) ∧ FRow lo w (.slice a0 fs.length c0) fs ∧ RowT tkTable 111 lo w (.slice a3 ts.length c3) ts, fun _ _ _ ⟨a0, c0, a3, c3, e, h1, h2⟩ hb => ⟨a0, c0, a3, c3, e, h1.later hb, h2.later hb⟩⟩
def fcBxB (W : World) (lo gR : Nat) (fs : List PF) (ts : List PT) (ep bs : Int) (ov sv : List Value) : Fct := ⟨fun _ w => W.heap.size ≤ w.heap.size ∧ (∀ k, k ≠ gR → k < W.heap.size → w.heap[k]? = W.heap[k]?) ∧ ∃ a0 c0 a3 c3, w.heap[gR]? = some (.cells (cellsB fs ts ep bs ov sv a0 c0 a3 c3) 58 (0, 0)) ∧ FRow lo w (.slice a0 fs.length c0) fs ∧ RowT tkTable 111 lo w (.slice a3 ts.length c3) ts, fun _ _ _ ⟨h0, hk, a0, c0, a3, c3, e, h1, h2⟩ hb => ⟨Nat.le_trans h0 hb.size, fun k h1 h2 => (hb.block k (Nat.lt_of_lt_of_le h2 h0)).trans (hk k h1 h2), a0, c0, a3, c3, (hb.block _ (Array.getElem?_eq_some_iff.1 e).1).trans e, h1.later hb, h2.later hb⟩⟩
set_option linter.unusedVariables false in
def lbgT (W : World) (lo gR : Nat) (fs : List PF) (ts : List PT) (ep bs : Int) (a : Option Addr) (c : Nat) (a3 : Option Addr) (c3 : Nat) (ov sv : List Value) : Nat → FX
  | 0 => FX.eq (.slice a fs.length c)
  | 1 => FX.pre [9] (fcRow lo fs)
  | 2 => FX.eq (.int .i64 ep)
  | 3 => FX.eq (.int .i64 bs)
  | 4 => FX.eq (.slice a3 ts.length c3)
  | 5 => FX.pre [9] (fcTsB lo ts)
  | 6 => FX.eq (.agg ov.toArray)
  | 7 => FX.eq (.agg sv.toArray)
  | 8 => FX.pre [9] (fcAgB lo fs ts ep bs ov sv)
  | 9 => FX.is (fcBxB W lo gR fs ts ep bs ov sv)
  | _ => FX.eq undef
set_option maxRecDepth 100000 in
set_option maxHeartbeats 8000000 in
theorem l6begin2_any (a : Option Addr) (c : Nat) (fs : List PF) (ep bs : Int) (a3 : Option Addr) (c3 : Nat) (ts : List PT) (w : World) (hr : RdSl cField w fs (.slice a fs.length c)) (ht : totL (fun f : PF => f.name.length) fs ≤ 1048576) (hrt : RdSl cTable w ts (.slice a3 ts.length c3)) (htt : totL totT ts ≤ 1048576) (hbs : IntIn bs) :
    Calls Tryz.prog 63 #[.slice a fs.length c, .int .i64 ep, .int .i64 bs, .slice a3 ts.length c3] w fun e w' => ∃ a0x c0x a3x c3x a1x c1x a2x c2x b2x d2x, e = .returned (.agg #[.slice a0x (bgR fs ep bs ts).fields.length c0x, .int .i64 (bgR fs ep bs ts).epoch, .int .i64 (bgR fs ep bs ts).base, .slice a3x (bgR fs ep bs ts).tables.length c3x, .int .i64 (bgR fs ep bs ts).pushed, .int .i64 (bgR fs ep bs ts).out.epoch, .int .i64 (bgR fs ep bs ts).out.next, .int .i64 (bgR fs ep bs ts).out.now, .slice a1x (bgR fs ep bs ts).out.wait.length c1x, .bool (bgR fs ep bs ts).str.opened, .slice a2x (bgR fs ep bs ts).str.fields.length c2x, .int .i64 (bgR fs ep bs ts).str.next, .slice b2x (bgR fs ep bs ts).str.dicts.length d2x]) ∧ (∀ W : World, (∀ x, w.heap.size ≤ x → x < w'.heap.size → W.heap[x]? = w'.heap[x]?) → RdSnd W (bgR fs ep bs ts) a0x c0x a3x c3x a1x c1x a2x c2x b2x d2x) ∧ Below w.heap.size w w' := by
  have HRF := hid hr
  have HRT := hid hrt
  clear hr hrt
  obtain ⟨S, hS⟩ : ∃ S : PStr, S = startS fs bs := ⟨_, rfl⟩
  obtain ⟨H, hH⟩ : ∃ H : List Nat, H = startB fs bs := ⟨_, rfl⟩
  obtain ⟨C, hC⟩ : ∃ C : Int, C = startC fs bs := ⟨_, rfl⟩
  obtain ⟨O, hO⟩ : ∃ O : PO, O = pushO ⟨ep, 0, 0, []⟩ H := ⟨_, rfl⟩
  obtain ⟨K, hK⟩ : ∃ K : Int, K = pushC ⟨ep, 0, 0, []⟩ H := ⟨_, rfl⟩
  have hHl : H.length ≤ 1048576 := by rw [hH]; exact Nat.le_trans (startB_len fs bs) (by decide)
  have HSS := hid (fun (w' : World) h => specStart2_any a c fs bs w' h ht hbs)
  have HPS := hid (fun (am : Option Addr) (cm : Nat) (w' : World) h => specPush2_any ⟨ep, 0, 0, []⟩ none 0 H am cm w' (RdSl.empty none) h hHl (by simp [totL]))
  have HPE : Hid (bgR fs ep bs ts = ⟨fs, ep, bs, ts, 0, O, S⟩) := hid (by rw [hO, hS, hH]; rfl)
  rw [← hS, ← hH, ← hC] at HSS
  rw [← hO, ← hK] at HPS
  clear hS hH hC hO hK
  have HL0 : Hid ((w.alloc (.cells #[.slice none 0 0, .int .i64 0, .int .i64 0, .slice none 0 0, .int .i64 0, .int .i64 0, .int .i64 0, .int .i64 0, .slice none 0 0, .bool false, .slice none 0 0, .int .i64 0, .slice none 0 0] 58)).heap[w.heap.size]? = some (.cells #[.slice none 0 0, .int .i64 0, .int .i64 0, .slice none 0 0, .int .i64 0, .int .i64 0, .int .i64 0, .int .i64 0, .slice none 0 0, .bool false, .slice none 0 0, .int .i64 0, .slice none 0 0] 58 (0, 0))) := hid (heap_alloc_new w _)
  have HB0 := hid (below_new1 w (.cells #[.slice none 0 0, .int .i64 0, .int .i64 0, .slice none 0 0, .int .i64 0, .int .i64 0, .int .i64 0, .int .i64 0, .slice none 0 0, .bool false, .slice none 0 0, .int .i64 0, .slice none 0 0] 58))
  have HSZ : Hid ((w.alloc (.cells #[.slice none 0 0, .int .i64 0, .int .i64 0, .slice none 0 0, .int .i64 0, .int .i64 0, .int .i64 0, .int .i64 0, .slice none 0 0, .bool false, .slice none 0 0, .int .i64 0, .slice none 0 0] 58)).heap.size = w.heap.size + 1) := hid (by simp)
  go_enter Tryz.func63, Tryz.ntmps63
  go_upto_region 1 with fail
  generalize (w.alloc (.cells #[.slice none 0 0, .int .i64 0, .int .i64 0, .slice none 0 0, .int .i64 0, .int .i64 0, .int .i64 0, .int .i64 0, .slice none 0 0, .bool false, .slice none 0 0, .int .i64 0, .slice none 0 0] 58)) = W0 at *
  go_wp2_with fail
  refine (HSS.out W0 (HRF.out.later HB0.out)).mono ?_
  rintro e w1 ⟨a2x, c2x, b2x, d2x, ar, cr, rfl, rob1, bl1⟩
  have hb2 := below_new1 w1 (.cells #[.bool S.opened, .slice a2x S.fields.length c2x, .int .i64 S.next, .slice b2x S.dicts.length d2x] 40)
  have HGS2 : Hid ((w1.alloc (.cells #[.bool S.opened, .slice a2x S.fields.length c2x, .int .i64 S.next, .slice b2x S.dicts.length d2x] 40)).heap[w1.heap.size]? = some (.cells #[.bool S.opened, .slice a2x S.fields.length c2x, .int .i64 S.next, .slice b2x S.dicts.length d2x] 40 (0, 0))) := hid (heap_alloc_new w1 _)
  have F02 := below_chain bl1 hb2
  have HRH := hid (rob1 (w1.alloc (.cells #[.bool S.opened, .slice a2x S.fields.length c2x, .int .i64 S.next, .slice b2x S.dicts.length d2x] 40)) (fun x _ h2 => hb2.block x h2)).2
  have HROB := hid rob1
  have hs1 := bl1.size
  have HB12 := hid hb2
  clear rob1 bl1 hb2
  go_upto_region 2 with fail
  generalize (w1.alloc (.cells #[.bool S.opened, .slice a2x S.fields.length c2x, .int .i64 S.next, .slice b2x S.dicts.length d2x] 40)) = W2 at *
  go_wp2_with fail
  refine (HPS.out ar cr W2 HRH.out).mono ?_
  rintro e w4 ⟨a1x, c1x, rfl, rob4, bl4⟩
  have hb5 := below_new1 w4 (.cells #[.int .i64 O.epoch, .int .i64 O.next, .int .i64 O.now, .slice a1x O.wait.length c1x] 56)
  have HGO : Hid ((w4.alloc (.cells #[.int .i64 O.epoch, .int .i64 O.next, .int .i64 O.now, .slice a1x O.wait.length c1x] 56)).heap[w4.heap.size]? = some (.cells #[.int .i64 O.epoch, .int .i64 O.next, .int .i64 O.now, .slice a1x O.wait.length c1x] 56 (0, 0))) := hid (heap_alloc_new w4 _)
  have F25 := below_chain bl4 hb5
  have HGS := hid (boxSd HGS2.out F25)
  have HL5 := hid (boxSd HL0.out (below_chain F02 F25))
  have HB5 := hid (below_chain HB0.out (below_chain F02 F25))
  have HRS : Hid (∀ wx : World, (∀ b, W0.heap.size ≤ b → b < (w4.alloc (.cells #[.int .i64 O.epoch, .int .i64 O.next, .int .i64 O.now, .slice a1x O.wait.length c1x] 56)).heap.size → wx.heap[b]? = (w4.alloc (.cells #[.int .i64 O.epoch, .int .i64 O.next, .int .i64 O.now, .slice a1x O.wait.length c1x] 56)).heap[b]?) → RdSl cSnt wx O.wait (.slice a1x O.wait.length c1x) ∧ RdStr wx S a2x c2x b2x d2x) := hid (fun wx hk => by
    have h5 := hb5.size
    have h4 := bl4.size
    have h2 := HB12.out.size
    refine ⟨rob4 wx (fun x h1 h2 => (hk x (by omega) (by omega)).trans (hb5.block x h2)), (HROB.out wx (fun x h1 h2 => ?_)).1⟩
    exact (hk x h1 (by omega)).trans ((F25.block x (by omega)).trans (HB12.out.block x h2)))
  have hsz := HSZ.out
  clear rob4 bl4 hb5 F25 F02 HGS2
  go_upto_region 3 with fail
  generalize (w4.alloc (.cells #[.int .i64 O.epoch, .int .i64 O.next, .int .i64 O.now, .slice a1x O.wait.length c1x] 56)) = W5 at *
  have HG1 : Hid (w.heap.size < W5.heap.size) := hid (Array.getElem?_eq_some_iff.1 HL5.out).1
  refine region_turns (n := 10) (by kernel_rfl) (by kernel_rfl) ?_ (fun t => { tmps := #[.slice a fs.length c, .int .i64 ep, .int .i64 bs, .slice a3 ts.length c3, undef, undef, undef, undef, .pointer (some ⟨w.heap.size, 0, none⟩), .pointer (some ⟨w1.heap.size, 0, none⟩), .slice ar H.length cr, .int .i64 C, .pointer (some ⟨w4.heap.size, 0, none⟩), .int .i64 K, .tuple #[.agg #[.bool S.opened, .slice a2x S.fields.length c2x, .int .i64 S.next, .slice b2x S.dicts.length d2x], .slice ar H.length cr, .int .i64 C], .slice a fs.length c, .int .i64 bs, .tuple #[.agg #[.bool S.opened, .slice a2x S.fields.length c2x, .int .i64 S.next, .slice b2x S.dicts.length d2x], .slice ar H.length cr, .int .i64 C], .agg #[.bool S.opened, .slice a2x S.fields.length c2x, .int .i64 S.next, .slice b2x S.dicts.length d2x], .slice ar H.length cr, .int .i64 C, .tuple #[.agg #[.int .i64 O.epoch, .int .i64 O.next, .int .i64 O.now, .slice a1x O.wait.length c1x], .int .i64 K], .int .i64 ep, .agg #[.int .i64 ep, .int .i64 0, .int .i64 0, .slice none 0 0], .slice ar H.length cr, .tuple #[.agg #[.int .i64 O.epoch, .int .i64 O.next, .int .i64 O.now, .slice a1x O.wait.length c1x], .int .i64 K], .agg #[.int .i64 O.epoch, .int .i64 O.next, .int .i64 O.now, .slice a1x O.wait.length c1x], .int .i64 K, t 0, t 1, t 2, t 3, t 4, t 5, t 6, t 7, t 8], defers := [] }) (lbgT W5 W5.heap.size w.heap.size fs ts ep bs a c a3 c3 [.int .i64 O.epoch, .int .i64 O.next, .int .i64 O.now, .slice a1x O.wait.length c1x] [.bool S.opened, .slice a2x S.fields.length c2x, .int .i64 S.next, .slice b2x S.dicts.length d2x]) [9] (fcSame4 W5) w W5 (fun k => if k = 1 then [9] else if k = 5 then [9] else if k = 8 then [9] else []) (fun k => !(k == 1 || k == 5 || k == 8 || k == 9)) (by kernel_rfl) (fun j hj => by rcases (by omega : j = 0 ∨ j = 1 ∨ j = 2 ∨ j = 3 ∨ j = 4 ∨ j = 5 ∨ j = 6 ∨ j = 7 ∨ j = 8 ∨ j = 9) with rfl | rfl | rfl | rfl | rfl | rfl | rfl | rfl | rfl | rfl <;> rfl) (fun j hj hp => by rcases (by omega : j = 0 ∨ j = 1 ∨ j = 2 ∨ j = 3 ∨ j = 4 ∨ j = 5 ∨ j = 6 ∨ j = 7 ∨ j = 8 ∨ j = 9) with rfl | rfl | rfl | rfl | rfl | rfl | rfl | rfl | rfl | rfl <;> first | rfl | (exact absurd hp (by decide))) (fun j => ([undef, undef, undef, undef, undef, undef, undef, undef, undef, undef] : List Value).getD j undef) HB5.out (Below.refl _ _) ?_ ?_
  · rfl
  · intro i hi x t wx hxi hsh h0 hbx hgx hdp hall
    rcases (by omega : i = 0 ∨ i = 1 ∨ i = 2 ∨ i = 3 ∨ i = 4 ∨ i = 5 ∨ i = 6 ∨ i = 7 ∨ i = 8 ∨ i = 9) with rfl | rfl | rfl | rfl | rfl | rfl | rfl | rfl | rfl | rfl
    · 
      try dsimp only
      clear h0
      refine wpOp_step rfl (fun K' hK => ?_)
      go_simp
      exact hK _ _ ⟨.slice a fs.length c, (by simp [upd]), FX.eq_mk rfl, fun _ => Below.refl _ _, hbx⟩
    · 
      try dsimp only
      have x0 := depX hdp 0 (by kernel_rfl)
      have d0 := hall 0 (by omega) x0
      have e0 : t 0 = .slice a fs.length c := d0.1
      rw [e0]
      have y9 := notYet hsh hxi 9 (by kernel_rfl)
      have hz : Below W5.heap.size W5 wx := hgx (by simp [y9])
      have hsz := hz.size
      clear h0
      refine wpOp_step rfl (fun K' hK => ?_)
      go_simp
      refine (l4fields_any a c fs wx ((HRF.out.later HB5.out).later hz) ht).mono ?_
      rintro e w2 ⟨v2, rfl, o2, b2⟩
      exact hK _ _ ⟨v2, (by simp [upd, e0]), FX.pre_mk (frow_mono o2 hsz), fun _ => b2, below_chain hbx b2⟩
    · 
      try dsimp only
      clear h0
      refine wpOp_step rfl (fun K' hK => ?_)
      go_simp
      exact hK _ _ ⟨.int .i64 ep, (by simp [upd]), FX.eq_mk rfl, fun _ => Below.refl _ _, hbx⟩
    · 
      try dsimp only
      clear h0
      refine wpOp_step rfl (fun K' hK => ?_)
      go_simp
      exact hK _ _ ⟨.int .i64 bs, (by simp [upd]), FX.eq_mk rfl, fun _ => Below.refl _ _, hbx⟩
    · 
      try dsimp only
      clear h0
      refine wpOp_step rfl (fun K' hK => ?_)
      go_simp
      exact hK _ _ ⟨.slice a3 ts.length c3, (by simp [upd]), FX.eq_mk rfl, fun _ => Below.refl _ _, hbx⟩
    · 
      try dsimp only
      have x4 := depX hdp 4 (by kernel_rfl)
      have d4 := hall 4 (by omega) x4
      have e4 : t 4 = .slice a3 ts.length c3 := d4.1
      rw [e4]
      have y9 := notYet hsh hxi 9 (by kernel_rfl)
      have hz : Below W5.heap.size W5 wx := hgx (by simp [y9])
      have hsz := hz.size
      clear h0
      refine wpOp_step rfl (fun K' hK => ?_)
      go_simp
      refine (l6tables_any a3 c3 ts wx ((HRT.out.later HB5.out).later hz) htt).mono ?_
      rintro e w2 ⟨v2, rfl, o2, b2⟩
      exact hK _ _ ⟨v2, (by simp [upd, e4]), FX.pre_mk (o2.mono hsz), fun _ => b2, below_chain hbx b2⟩
    · 
      try dsimp only
      have y9 := notYet hsh hxi 9 (by kernel_rfl)
      have hz : Below W5.heap.size W5 wx := hgx (by simp [y9])
      have hbo := (hz.block _ (Array.getElem?_eq_some_iff.1 HGO.out).1).trans HGO.out
      have k0 := cell_of_row wx _ 0 _ _ _ hbo
      have k1 := cell_of_row wx _ 1 _ _ _ hbo
      have k2 := cell_of_row wx _ 2 _ _ _ hbo
      have k3 := cell_of_row wx _ 3 _ _ _ hbo
      simp only [List.getElem?_toArray, List.getElem?_cons_zero, List.getElem?_cons_succ] at k0 k1 k2 k3
      clear hbo y9 hz
      clear h0
      refine wpOp_step rfl (fun K' hK => ?_)
      go_simp
      exact hK _ _ ⟨.agg #[.int .i64 O.epoch, .int .i64 O.next, .int .i64 O.now, .slice a1x O.wait.length c1x], (by simp [upd]), FX.eq_mk rfl, fun _ => Below.refl _ _, hbx⟩
    · 
      try dsimp only
      have y9 := notYet hsh hxi 9 (by kernel_rfl)
      have hz : Below W5.heap.size W5 wx := hgx (by simp [y9])
      have hbo := (hz.block _ (Array.getElem?_eq_some_iff.1 HGS.out).1).trans HGS.out
      have k0 := cell_of_row wx _ 0 _ _ _ hbo
      have k1 := cell_of_row wx _ 1 _ _ _ hbo
      have k2 := cell_of_row wx _ 2 _ _ _ hbo
      have k3 := cell_of_row wx _ 3 _ _ _ hbo
      simp only [List.getElem?_toArray, List.getElem?_cons_zero, List.getElem?_cons_succ] at k0 k1 k2 k3
      clear hbo y9 hz
      clear h0
      refine wpOp_step rfl (fun K' hK => ?_)
      go_simp
      exact hK _ _ ⟨.agg #[.bool S.opened, .slice a2x S.fields.length c2x, .int .i64 S.next, .slice b2x S.dicts.length d2x], (by simp [upd]), FX.eq_mk rfl, fun _ => Below.refl _ _, hbx⟩
    · 
      try dsimp only
      have x1 := depX hdp 1 (by kernel_rfl)
      have d1 := hall 1 (by omega) x1
      have x2 := depX hdp 2 (by kernel_rfl)
      have d2 := hall 2 (by omega) x2
      have e2 : t 2 = .int .i64 ep := d2.1
      have x3 := depX hdp 3 (by kernel_rfl)
      have d3 := hall 3 (by omega) x3
      have e3 : t 3 = .int .i64 bs := d3.1
      have x5 := depX hdp 5 (by kernel_rfl)
      have d5 := hall 5 (by omega) x5
      have x6 := depX hdp 6 (by kernel_rfl)
      have d6 := hall 6 (by omega) x6
      have e6 : t 6 = .agg #[.int .i64 O.epoch, .int .i64 O.next, .int .i64 O.now, .slice a1x O.wait.length c1x] := d6.1
      have x7 := depX hdp 7 (by kernel_rfl)
      have d7 := hall 7 (by omega) x7
      have e7 : t 7 = .agg #[.bool S.opened, .slice a2x S.fields.length c2x, .int .i64 S.next, .slice b2x S.dicts.length d2x] := d7.1
      rw [e2, e3, e6, e7]
      have y9 := notYet hsh hxi 9 (by kernel_rfl)
      have o1 : FRow W5.heap.size wx (t 1) fs := FX.pre_of d1 y9
      obtain ⟨a0x, c0x, f1⟩ := o1.slice
      have o5 : RowT tkTable 111 W5.heap.size wx (t 5) ts := FX.pre_of d5 y9
      obtain ⟨a3x, c3x, f5⟩ := o5.slice
      rw [f1] at o1
      rw [f5] at o5
      rw [f1, f5]
      clear y9
      clear h0
      refine wpOp_step rfl (fun K' hK => ?_)
      go_simp
      exact hK _ _ ⟨.agg #[.slice a0x fs.length c0x, .int .i64 ep, .int .i64 bs, .slice a3x ts.length c3x, .int .i64 0, .int .i64 O.epoch, .int .i64 O.next, .int .i64 O.now, .slice a1x O.wait.length c1x, .bool S.opened, .slice a2x S.fields.length c2x, .int .i64 S.next, .slice b2x S.dicts.length d2x], (by simp [upd, f1, f5, e2, e3, e6, e7]), FX.pre_mk ⟨a0x, c0x, a3x, c3x, rfl, o1, o5⟩, fun _ => Below.refl _ _, hbx⟩
    · 
      try dsimp only
      have x8 := depX hdp 8 (by kernel_rfl)
      have d8 := hall 8 (by omega) x8
      obtain ⟨a0x, c0x, a3x, c3x, eb, o1, o5⟩ : (fcAgB W5.heap.size fs ts ep bs [.int .i64 O.epoch, .int .i64 O.next, .int .i64 O.now, .slice a1x O.wait.length c1x] [.bool S.opened, .slice a2x S.fields.length c2x, .int .i64 S.next, .slice b2x S.dicts.length d2x]).p (t 8) wx := FX.pre_of d8 hxi
      have hz : Below W5.heap.size W5 wx := hgx (by simp [hxi])
      have eb' : t 8 = .agg #[.slice a0x fs.length c0x, .int .i64 ep, .int .i64 bs, .slice a3x ts.length c3x, .int .i64 0, .int .i64 O.epoch, .int .i64 O.next, .int .i64 O.now, .slice a1x O.wait.length c1x, .bool S.opened, .slice a2x S.fields.length c2x, .int .i64 S.next, .slice b2x S.dicts.length d2x] := eb
      rw [eb']
      have hb1 := (hz.block _ HG1.out).trans HL5.out
      have g0 := cell_of_row wx _ 0 _ _ _ hb1
      have g1 := cell_of_row wx _ 1 _ _ _ hb1
      have g2 := cell_of_row wx _ 2 _ _ _ hb1
      have g3 := cell_of_row wx _ 3 _ _ _ hb1
      have g4 := cell_of_row wx _ 4 _ _ _ hb1
      have g5 := cell_of_row wx _ 5 _ _ _ hb1
      have g6 := cell_of_row wx _ 6 _ _ _ hb1
      have g7 := cell_of_row wx _ 7 _ _ _ hb1
      have g8 := cell_of_row wx _ 8 _ _ _ hb1
      have g9 := cell_of_row wx _ 9 _ _ _ hb1
      have g10 := cell_of_row wx _ 10 _ _ _ hb1
      have g11 := cell_of_row wx _ 11 _ _ _ hb1
      have g12 := cell_of_row wx _ 12 _ _ _ hb1
      have z0 := frozen_of_row wx _ 0 _ _ hb1
      have z1 := frozen_of_row wx _ 1 _ _ hb1
      have z2 := frozen_of_row wx _ 2 _ _ hb1
      have z3 := frozen_of_row wx _ 3 _ _ hb1
      have z4 := frozen_of_row wx _ 4 _ _ hb1
      have z5 := frozen_of_row wx _ 5 _ _ hb1
      have z6 := frozen_of_row wx _ 6 _ _ hb1
      have z7 := frozen_of_row wx _ 7 _ _ hb1
      have z8 := frozen_of_row wx _ 8 _ _ hb1
      have z9 := frozen_of_row wx _ 9 _ _ hb1
      have z10 := frozen_of_row wx _ 10 _ _ hb1
      have z11 := frozen_of_row wx _ 11 _ _ hb1
      have z12 := frozen_of_row wx _ 12 _ _ hb1
      simp only [List.getElem?_toArray, List.getElem?_cons_zero, List.getElem?_cons_succ] at g0 g1 g2 g3 g4 g5 g6 g7 g8 g9 g10 g11 g12
      have HB1X := hid hb1
      have HO1 := hid o1
      have HO5 := hid o5
      have HZ := hid hz
      clear hb1 o1 o5 hz eb
      clear h0
      refine wpOp_step rfl (fun K' hK => ?_)
      go_simp
      exact hK _ _ ⟨undef, (by simp [upd, eb']), FX.is_mk ⟨by simp; exact HZ.out.size, fun k h1 h2 => (set13o h1).trans (HZ.out.block k h2), a0x, c0x, a3x, c3x, set13 HB1X.out, RowT.keptB (tk := tkField) HO1.out (fun b hb _ => set13o (by have := HG1.out; omega)), HO5.out.keptB (fun b hb _ => set13o (by have := HG1.out; omega))⟩, fun h => absurd (by simp) h, set13b hbx (by omega)⟩
  · intro x t wx hx hbx hall
    obtain ⟨h9s, h9k, a0x, c0x, a3x, c3x, h9b, h9f, h9t⟩ : (fcBxB W5 W5.heap.size w.heap.size fs ts ep bs [.int .i64 O.epoch, .int .i64 O.next, .int .i64 O.now, .slice a1x O.wait.length c1x] [.bool S.opened, .slice a2x S.fields.length c2x, .int .i64 S.next, .slice b2x S.dicts.length d2x]).p (t 9) wx := FX.is_of (hall 9 (by omega))
    have HB9 : Hid (wx.heap[w.heap.size]? = some (.cells #[.slice a0x fs.length c0x, .int .i64 ep, .int .i64 bs, .slice a3x ts.length c3x, .int .i64 0, .int .i64 O.epoch, .int .i64 O.next, .int .i64 O.now, .slice a1x O.wait.length c1x, .bool S.opened, .slice a2x S.fields.length c2x, .int .i64 S.next, .slice b2x S.dicts.length d2x] 58 (0, 0))) := hid h9b
    have HF9 := hid h9f
    have HT9 := hid h9t
    have H9K := hid h9k
    have h9z := h9s
    have HBX := hid hbx
    clear hall hbx h9b h9f h9t h9k hx
    try dsimp only
    repeat go_step
    refine bodyPost_ret (results_cell_row rfl _ _ w.heap.size 58 #[.slice a0x fs.length c0x, .int .i64 ep, .int .i64 bs, .slice a3x ts.length c3x, .int .i64 0, .int .i64 O.epoch, .int .i64 O.next, .int .i64 O.now, .slice a1x O.wait.length c1x, .bool S.opened, .slice a2x S.fields.length c2x, .int .i64 S.next, .slice b2x S.dicts.length d2x] (0, 0) _ rfl HB9.out Tryz.underlying58 rfl (by kernel_rfl)) rfl ?_
    rw [HPE.out]
    have hg1 := HG1.out
    refine ⟨a0x, c0x, a3x, c3x, a1x, c1x, a2x, c2x, b2x, d2x, rfl, fun W hW => ?_, HBX.out⟩
    have hS := HRS.out W (fun b h1 h2 => (hW b (by omega) (by omega)).trans (H9K.out b (by omega) h2))
    exact ⟨FRow.rd (RowT.keptB (tk := tkField) HF9.out (fun b h1 h2 => hW b (by omega) h2)), (HT9.out.keptB (fun b h1 h2 => hW b (by omega) h2)).rd, hS.1, hS.2⟩
end Go.Proofs.YtfaehioeepolhaaGreat
