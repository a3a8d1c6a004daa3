import Derived.Test.YtfaehioeepolhabGreatJCrashSender35
import Derived.Test.YtfaehioeepolhabGreatJCrashSender24
import Derived.Test.YtfaehioeepolhabGreatJCrashSender31
import Derived.Test.YtfaehioeepolhabGreatJCrashSender38
namespace Go.Proofs.YtfaehioeepolhabGreat
open Go.RowKit
def fcOwnF (lo : Nat) (fs : List PF) : Fct := ⟨fun v w => ∃ bs, OwnSl cField 101 w fs v bs ∧ (∀ b ∈ bs, lo ≤ b) ∧ bs.Nodup, fun _ _ _ ⟨bs, h, l, n⟩ hb => ⟨bs, h.kept (fun p hp => hb.block p (h.lt p hp)), l, n⟩⟩
def fcOwnN (lo n : Nat) : Fct := ⟨fun v w => ∃ g, lo ≤ g ∧ OwnSl cSSS 103 w (List.replicate n []) v [g], fun _ _ _ ⟨g, l, h⟩ hb => ⟨g, l, h.kept (fun p hp => hb.block p (h.lt p hp))⟩⟩
def fcOwnS (lo : Nat) (fs : List PF) (N : Nat) : Fct := ⟨fun v w => ∃ a c b d bs g, v = .agg #[.bool true, .slice a fs.length c, .int .i64 (N : Int), .slice b fs.length d] ∧ OwnSl cField 101 w fs (.slice a fs.length c) bs ∧ OwnSl cSSS 103 w (List.replicate fs.length []) (.slice b fs.length d) [g] ∧ (∀ b ∈ bs, lo ≤ b) ∧ bs.Nodup ∧ lo ≤ g, fun _ _ _ ⟨a, c, b, d, bs, g, e, h1, h2, l, n, l2⟩ hb => ⟨a, c, b, d, bs, g, e, h1.kept (fun p hp => hb.block p (h1.lt p hp)), h2.kept (fun p hp => hb.block p (h2.lt p hp)), l, n, l2⟩⟩
def fcNewB (lo : Nat) : Fct := ⟨fun v w => ∃ g, v = .pointer (some ⟨g, 0, none⟩) ∧ lo ≤ g ∧ w.heap[g]? = some (.cells #[.bool false, .slice none 0 0, .int .i64 0, .slice none 0 0] 43 (0, 0)), fun _ _ _ ⟨g, e, l, h⟩ hb => ⟨g, e, l, (hb.block _ (Array.getElem?_eq_some_iff.1 h).1).trans h⟩⟩
def fcMsg (B n : Nat) (bs : List (List Nat)) : Fct := ⟨fun v w => ∃ a c, v = .agg #[.int .i64 1, .int .i64 0, .int .i64 (n : Int), .slice a bs.length c] ∧ Txts B w (.slice a bs.length c) bs, fun _ _ _ ⟨a, c, e, h⟩ hb => ⟨a, c, e, h.later hb⟩⟩
def fcGr (g : Nat) (cs : Array Value) : Fct := ⟨fun _ w => w.heap[g]? = some (.cells cs 43 (0, 0)), fun _ _ _ h hb => (hb.block _ (Array.getElem?_eq_some_iff.1 h).1).trans h⟩
def i3H (lo : Nat) (fs : List PF) (N : Nat) (x : Nat → Bool) (t : Nat → Value) (w : World) : Prop := x 8 = true → ∃ gs a c b d bs g, t 7 = .pointer (some ⟨gs, 0, none⟩) ∧ lo ≤ gs ∧ w.heap[gs]? = some (.cells #[.bool true, .slice a fs.length c, .int .i64 (N : Int), .slice b fs.length d] 43 (0, 0)) ∧ OwnSl cField 101 w fs (.slice a fs.length c) bs ∧ OwnSl cSSS 103 w (List.replicate fs.length []) (.slice b fs.length d) [g] ∧ (∀ b ∈ bs, lo ≤ b) ∧ bs.Nodup ∧ lo ≤ g
def i4H (W : World) (g : Nat) (w : World) : Prop := W.heap.size ≤ w.heap.size ∧ ∀ p, p < W.heap.size → p ≠ g → w.heap[p]? = W.heap[p]?
theorem keptH {W w w' : World} {g : Nat} (h : i4H W g w) (hb : Below w.heap.size w w') : i4H W g w' := ⟨Nat.le_trans h.1 hb.size, fun p hp hn => (hb.block p (Nat.lt_of_lt_of_le hp h.1)).trans (h.2 p hp hn)⟩
theorem ownF_types {w : World} {fs : List PF} {v : Value} {bs : List Nat} (h : OwnSl cField 101 w fs v bs) : ∀ p ∈ bs, ∃ cs e, w.heap[p]? = some (.cells cs e (0, 0)) ∧ (e = 101 ∨ e = 5) := by
 intro p hp
 rcases h with ⟨h0, h1⟩ | ⟨g, cap, vs, bss, rfl, ho, hb, hbl, hown⟩
 ·simp_all
 ·subst hb
  rcases List.mem_cons.1 hp with rfl | hp
  ·rcases ho.2 with ⟨h0, _⟩ | ⟨g', cap', cur, h0, _, hh, _⟩
   ·cases h0
   ·simp at h0
    obtain ⟨rfl, -⟩ := h0
    exact ⟨_, _, hh, .inl rfl⟩
  ·obtain ⟨l, hl, hpl⟩ := List.mem_flatten.1 hp
   obtain ⟨i, hi, rfl⟩ := List.getElem_of_mem hl
   obtain ⟨u, -, hu, -, -⟩ := cField_owned (hown i (by omega) hi)
   obtain ⟨hrow, hbs, -⟩ := hu.bytes
   rw [hbs] at hpl
   have hpl' : u.ownBlock = some p := by simpa using hpl
   rcases hrow.2 with ⟨rfl, _⟩ | ⟨g', cap', cur, rfl, _, hh, _⟩
   ·simp [Value.ownBlock] at hpl'
   ·simp [Value.ownBlock] at hpl'
    subst hpl'
    exact ⟨_, _, hh, .inr rfl⟩
theorem ownN_type {w : World} {n g : Nat} {v : Value} (h : OwnSl cSSS 103 w (List.replicate n []) v [g]) : ∃ cs, w.heap[g]? = some (.cells cs 103 (0, 0)) := by
 rcases h with ⟨h0, h1⟩ | ⟨g', cap, vs, bss, rfl, ho, hb, hbl, hown⟩
 ·simp_all
 ·simp at hb
  obtain ⟨rfl, -⟩ := hb
  rcases ho.2 with ⟨h0, _⟩ | ⟨g', cap', cur, h0, _, hh, _⟩
  ·cases h0
  ·simp at h0
   obtain ⟨rfl, -⟩ := h0
   exact ⟨_, hh⟩
theorem ownF_far {w : World} {fs : List PF} {v : Value} {bs : List Nat} {g : Nat} {cs : Array Value} (hb : w.heap[g]? = some (.cells cs 43 (0, 0))) (h : OwnSl cField 101 w fs v bs) : g ∉ bs := fun hm => by
 obtain ⟨cs', e, h1, h2⟩ := ownF_types h g hm
 rw [hb] at h1
 simp at h1
 rw [← h1.2] at h2
 rcases h2 with h2 | h2 <;> exact absurd h2 (by decide)
theorem ownN_far {w : World} {n g' : Nat} {v : Value} {g : Nat} {cs : Array Value} (hb : w.heap[g]? = some (.cells cs 43 (0, 0))) (h : OwnSl cSSS 103 w (List.replicate n []) v [g']) : g ∉ [g'] := fun hm => by
 obtain ⟨cs', h1⟩ := ownN_type h
 simp at hm
 subst hm
 rw [hb] at h1
 simp at h1
theorem ownFN_apart {w : World} {fs : List PF} {v u : Value} {bs : List Nat} {n g : Nat} (h : OwnSl cField 101 w fs v bs) (h2 : OwnSl cSSS 103 w (List.replicate n []) u [g]) : g ∉ bs := fun hm => by
 obtain ⟨cs', e, h1, h3⟩ := ownF_types h g hm
 obtain ⟨cs2, h4⟩ := ownN_type h2
 rw [h4] at h1
 simp at h1
 rw [← h1.2] at h3
 rcases h3 with h3 | h3 <;> exact absurd h3 (by decide)
theorem nils_own {B n g : Nat} {w : World} (h : w.ownsRow B 103 1 (.slice (some ⟨g, 0, none⟩) n n) n (madeCells (Value.slice none 0 0).cells (n * 1)).toList) : OwnSl cSSS 103 w (List.replicate n []) (.slice (some ⟨g, 0, none⟩) n n) [g] := by
 rw [Nat.mul_one, show (Value.slice none 0 0).cells = #[Value.slice none 0 0] from rfl, toList_madeCells_one] at h
 have hf : List.flatten (List.replicate n ([] : List Nat)) = [] := by simp
 refine .inr ⟨g, n, List.replicate n (.slice none 0 0), List.replicate n [], by simp, ?_, by rw [hf], by simp, fun i h1 h2 => ?_⟩
 ·rw [show cSSS.n = 1 from rfl, List.length_replicate]
  exact own_mono h (Nat.zero_le _)
 ·have hin : i < n := by simpa using h1
  have hp : part (List.replicate n (Value.slice none 0 0)) cSSS.n i = [.slice none 0 0] := by
   rw [show cSSS.n = 1 from rfl]
   apply List.ext_getElem?
   intro t
   by_cases ht : t < 1
   ·obtain rfl : t = 0 := by omega
    rw [part_at (by omega)]
    simp [hin]
   ·rw [List.getElem?_eq_none (by simp [part]; omega), List.getElem?_eq_none (by simp; omega)]
  rw [hp]
  refine ⟨_, rfl, ?_⟩
  simp only [List.getElem_replicate]
  exact .inl ⟨rfl, rfl, rfl⟩
def StartOwn (w : World) (s : PStr) (R : List Nat) (C : Int) (e : Ending) (w' : World) : Prop :=
 ∃ a c b d bs ds ar cr, e = .returned (.tuple #[.agg #[.bool s.opened, .slice a s.fields.length c, .int .i64 s.next, .slice b s.dicts.length d], .slice ar R.length cr, .int .i64 C]) ∧ OwnStr w' s a c b d bs ds ∧ w'.ownsRow w.heap.size 5 1 (.slice ar R.length cr) R.length (byt R) ∧ (∀ x ∈ bs ++ ds, w.heap.size ≤ x) ∧ (bs ++ ds).Nodup ∧ (∀ p, (Value.slice ar R.length cr).ownBlock = some p → p ∉ bs ++ ds) ∧ Below w.heap.size w w'
theorem startOwn_bad {w w' : World} (hb : Below w.heap.size w w') : StartOwn w ⟨false, [], 0, []⟩ [] 1 (.returned (.tuple #[.agg #[.bool false, .slice none 0 0, .int .i64 0, .slice none 0 0], .slice none 0 0, .int .i64 1])) w' :=
 ⟨none, 0, none, 0, [], [], none, 0, rfl, ⟨.inl ⟨rfl, rfl, rfl⟩, .inl ⟨rfl, rfl, rfl⟩⟩, World.ownsRow_nil _ _ _ _, by simp, by simp, by simp, hb⟩
def i3T (lo : Nat) (fs : List PF) (N : Nat) (a : Option Addr) (c : Nat) : Nat → FX
 | 0 => FX.eq (.slice a fs.length c)
 | 1 => FX.pre [8] (fcOwnF lo fs)
 | 2 => FX.eq (.int .i64 (N : Int))
 | 3 => FX.eq (.slice a fs.length c)
 | 4 => FX.eq (.int .i64 (fs.length : Int))
 | 5 => FX.pre [8] (fcOwnN lo fs.length)
 | 6 => FX.pre [8] (fcOwnS lo fs N)
 | 7 => FX.pre [8] (fcNewB lo)
 | 8 => FX.is Fct.any
 | _ => FX.eq undef
def i4T (B lo g n : Nat) (bs : List (List Nat)) (R : List Nat) (s u : Value) (cs : Array Value) : Nat → FX
 | 0 => FX.eq (s)
 | 1 => FX.eq (u)
 | 2 => FX.pre [4] (fcMsg B n bs)
 | 3 => FX.is (fcRowB lo R)
 | 4 => FX.is (fcGr g cs)
 | 5 => FX.is (fcRowB lo R)
 | 6 => FX.eq (.int .i64 0)
 | _ => FX.eq undef
set_option maxRecDepth 100000 in
set_option maxHeartbeats 8000000 in
theorem implStart_any (a : Option Addr) (c : Nat) (fs : List PF) (next : Int) (w : World) (hr : RdSl cField w fs (.slice a fs.length c)) (ht : totL (fun f : PF => f.name.length) fs ≤ 1048576) :
  Calls Tryz.prog 137 #[.slice a fs.length c, .int .i64 next] w (StartOwn w (startS fs next) (startB fs next) (startC fs next)) := by
 obtain ⟨i0, hi0, hz0, hz1, hz2⟩ := info_parts infoSSb
 have HR := hid hr
 have HB0 := hid (bN w (.cells #[.bool false, .slice none 0 0, .int .i64 0, .slice none 0 0] 43))
 have HK0 : Hid ((w.alloc (.cells #[.bool false, .slice none 0 0, .int .i64 0, .slice none 0 0] 43)).heap[w.heap.size]? = some (.cells #[.bool false, .slice none 0 0, .int .i64 0, .slice none 0 0] 43 (0, 0))) := hid (heap_alloc_new w _)
 have hs0 : w.heap.size + 1 ≤ (w.alloc (.cells #[.bool false, .slice none 0 0, .int .i64 0, .slice none 0 0] 43)).heap.size := by simp
 have HV := hid (implFields_any a c fs _ (hr.later HB0.out))
 clear hr
 have HBAD : Hid (startOK fs next = false → startS fs next = ⟨false, [], 0, []⟩ ∧ startB fs next = [] ∧ startC fs next = 1) := hid (fun h => by unfold startS startB startC; rw [h]; exact ⟨rfl, rfl, rfl⟩)
 have HOKE : Hid (startOK fs next = (fieldsOK fs && decide (0 ≤ next ∧ next ≤ 1000000000))) := hid rfl
 cases hf : fieldsOK fs with
 | false =>
  obtain ⟨e1, e2, e3⟩ := HBAD.out (by rw [HOKE.out, hf]; rfl)
  rw [hf] at HV
  rw [e1, e2, e3]
  clear hf e1 e2 e3 HOKE HBAD
  go_enter Tryz.func137, Tryz.ntmps137
  go_wp2_with fail
  generalize (w.alloc (.cells #[.bool false, .slice none 0 0, .int .i64 0, .slice none 0 0] 43)) = W0 at *
  refine HV.out.mono ?_
  rintro e w1 ⟨rfl, b1⟩
  have hk := (b1.block _ (by omega)).trans HK0.out
  have c0 := cR w1 _ 0 _ _ _ hk
  have c1 := cR w1 _ 1 _ _ _ hk
  have c2 := cR w1 _ 2 _ _ _ hk
  have c3 := cR w1 _ 3 _ _ _ hk
  have f0 := fR w1 _ 0 _ _ hk
  have f1 := fR w1 _ 1 _ _ hk
  have f2 := fR w1 _ 2 _ _ hk
  have f3 := fR w1 _ 3 _ _ hk
  simp only [gA, gZ, gU] at c0 c1 c2 c3
  have HK := hid hk
  have HB1 := hid (bC HB0.out b1)
  clear b1 hk
  go_wp2
  refine bodyPost_ret (results_cell3 rfl _ _ w.heap.size 43 #[.bool false, .slice none 0 0, .int .i64 0, .slice none 0 0] (0, 0) _ rfl (set4 HK.out) Tryz.underlying43 rfl (by kernel_rfl)) rfl ?_
  exact startOwn_bad (set4b HB1.out (Nat.le_refl _))
 | true =>
  rw [hf] at HV
  have HFO := hid hf
  by_cases n1 : 0 ≤ next ∧ next ≤ 1000000000
  ·obtain ⟨N, rfl⟩ : ∃ N : Nat, next = N := ⟨next.toNat, by omega⟩
   have hOK : startOK fs (N : Int) = true := by rw [HOKE.out, hf, decide_eq_true n1]; rfl
   have e1 : startS fs (N : Int) = ⟨true, fs, (N : Int), List.replicate fs.length []⟩ := by unfold startS; rw [hOK]; rfl
   have e2 : startB fs (N : Int) = encM 1 0 fs.length (hdrB fs N) := by unfold startB; rw [hOK]; simp
   have e3 : startC fs (N : Int) = 0 := by unfold startC; rw [hOK]; rfl
   rw [e1, e2, e3]
   have HTH := hid (hdr_tot N hf)
   have HFT := hid (hdr_fits N hf)
   have hfl : fs.length ≤ 12 := (fieldsOK_bounds hf).1
   have HNX := hid (fun w' => validNext_any (N : Int) w')
   rw [decide_eq_true n1] at HNX
   have hN9 : N ≤ 1000000000 := by omega
   clear e1 e2 e3 hOK hf HBAD HOKE n1
   go_enter Tryz.func137, Tryz.ntmps137
   go_wp2_with fail
   generalize (w.alloc (.cells #[.bool false, .slice none 0 0, .int .i64 0, .slice none 0 0] 43)) = W0 at *
   refine HV.out.mono ?_
   rintro e wq ⟨rfl, b1⟩
   have HB1 := hid b1
   clear b1
   go_wp2_with fail
   refine (HNX.out wq).mono ?_
   rintro e w1 ⟨rfl, rfl⟩
   go_wp2_with fail
   refine region_turns3 (n := 9) (by kernel_rfl) (by kernel_rfl) ?_ (fun t => { tmps := #[.slice a fs.length c, .int .i64 (N : Int), undef, undef, .pointer (some ⟨w.heap.size, 0, none⟩), .slice none 0 0, .int .i64 0, t 7, .slice a fs.length c, .bool true, .bool false, .bool false, .int .i64 (N : Int), .bool true, .bool false, .bool false, undef, t 0, t 1, t 2, t 3, t 4, t 5, t 6, undef, undef, undef, undef], defers := [] }) (i3T W0.heap.size fs N a c) [8] (Fct.any) (i3H W0.heap.size fs N) W0 w1 (fun k => if k = 1 then [8] else if k = 5 then [8] else if k = 6 then [8] else if k = 7 then [8] else []) (fun k => !(k == 1 || k == 5 || k == 6 || k == 7 || k == 8)) (fun _ _ _ => True) [8] (fun _ _ => false) (by kernel_rfl) (fun _ _ _ _ h => by cases h) (fun i hi hn => absurd hi hn) (fun j hj => by rcases (by omega : j = 0 ∨ j = 1 ∨ j = 2 ∨ j = 3 ∨ j = 4 ∨ j = 5 ∨ j = 6 ∨ j = 7 ∨ j = 8) with rfl | rfl | rfl | rfl | rfl | rfl | rfl | rfl | rfl <;> rfl) (fun j hj hp => by rcases (by omega : j = 0 ∨ j = 1 ∨ j = 2 ∨ j = 3 ∨ j = 4 ∨ j = 5 ∨ j = 6 ∨ j = 7 ∨ j = 8) with rfl | rfl | rfl | rfl | rfl | rfl | rfl | rfl | rfl <;> first | rfl | (exact absurd hp (by decide))) (fun j => ([undef, undef, undef, undef, undef, undef, undef, undef, undef] : List Value).getD j undef) (fun h => by cases h) HB1.out (trivial) ?_ ?_
   ·rfl
   ·intro i hi x t wx hxi hsh h0 hbx hgx hdp hall hHx
    rcases (by omega : i = 0 ∨ i = 1 ∨ i = 2 ∨ i = 3 ∨ i = 4 ∨ i = 5 ∨ i = 6 ∨ i = 7 ∨ i = 8) with rfl | rfl | rfl | rfl | rfl | rfl | rfl | rfl | rfl
    ·
     try dsimp only
     have hy := notYet hsh hxi 8 (by kernel_rfl)
     clear h0
     refine wpOp_step rfl (fun K' hK => ?_)
     go_simp
     exact hK _ _ ⟨.slice a fs.length c, (by simp [upd]), FX.eq_mk rfl, fun _ => Below.refl _ _, fun h => absurd h (by decide), hbx, fun h => absurd h (by simp [hy])⟩
    ·
     try dsimp only
     have x0 := depX hdp 0 (by kernel_rfl)
     have d0 := hall 0 (by omega) x0
     have e0 : t 0 = .slice a fs.length c := d0.1
     rw [e0]
     have hy := notYet hsh hxi 8 (by kernel_rfl)
     clear h0
     refine wpOp_step rfl (fun K' hK => ?_)
     go_simp
     refine (copyFields_any a c fs wx (HR.out.later (bC HB0.out hbx)) ht).mono ?_
     rintro e w3 ⟨v3, bs3, rfl, o3, l3, n3, bl3⟩
     exact hK _ _ ⟨v3, (by simp [upd, e0]), FX.pre_mk ⟨bs3, o3, fun p hp => Nat.le_trans hbx.size (l3 p hp), n3⟩, fun _ => bl3, fun h => absurd h (by decide), bC hbx bl3, fun h => absurd h (by simp [hy])⟩
    ·
     try dsimp only
     have hy := notYet hsh hxi 8 (by kernel_rfl)
     clear h0
     refine wpOp_step rfl (fun K' hK => ?_)
     go_simp
     exact hK _ _ ⟨.int .i64 (N : Int), (by simp [upd]), FX.eq_mk rfl, fun _ => Below.refl _ _, fun h => absurd h (by decide), hbx, fun h => absurd h (by simp [hy])⟩
    ·
     try dsimp only
     have hy := notYet hsh hxi 8 (by kernel_rfl)
     clear h0
     refine wpOp_step rfl (fun K' hK => ?_)
     go_simp
     exact hK _ _ ⟨.slice a fs.length c, (by simp [upd]), FX.eq_mk rfl, fun _ => Below.refl _ _, fun h => absurd h (by decide), hbx, fun h => absurd h (by simp [hy])⟩
    ·
     try dsimp only
     have x3 := depX hdp 3 (by kernel_rfl)
     have d3 := hall 3 (by omega) x3
     have e3 : t 3 = .slice a fs.length c := d3.1
     rw [e3]
     have hy := notYet hsh hxi 8 (by kernel_rfl)
     clear h0
     refine wpOp_step rfl (fun K' hK => ?_)
     go_simp
     exact hK _ _ ⟨.int .i64 (fs.length : Int), (by simp [upd, e3]), FX.eq_mk rfl, fun _ => Below.refl _ _, fun h => absurd h (by decide), hbx, fun h => absurd h (by simp [hy])⟩
    ·
     try dsimp only
     have x4 := depX hdp 4 (by kernel_rfl)
     have d4 := hall 4 (by omega) x4
     have e4 : t 4 = .int .i64 (fs.length : Int) := d4.1
     rw [e4]
     have hy := notYet hsh hxi 8 (by kernel_rfl)
     clear h0
     refine wpOp_step rfl (fun K' hK => ?_)
     refine step_make_full wx rfl (.tmp 21) (.tmp 21) 27 rfl wx.heap.size 103 i0 (.slice none 0 0) 1 Tryz.underlying27 hi0 hz0 hz1 .i64 .i64 _ _ fs.length rfl rfl rfl rfl (by rw [hz2]; omega) (by unfold maxLen; omega) (Nat.le_refl _) ?_
     intro w3 o3 g3
     have b3 : Below wx.heap.size wx w3 := (Below.refl _ wx).grown g3 (Nat.le_refl _) (by intro k h; cases h)
     exact hK _ _ ⟨.slice (some ⟨wx.heap.size, 0, none⟩) fs.length fs.length, (by simp [upd, e4, Act.put]), FX.pre_mk ⟨wx.heap.size, hbx.size, nils_own o3⟩, fun _ => b3, fun h => absurd h (by decide), bC hbx b3, fun h => absurd h (by simp [hy])⟩
    ·
     try dsimp only
     have x1 := depX hdp 1 (by kernel_rfl)
     have d1 := hall 1 (by omega) x1
     have x2 := depX hdp 2 (by kernel_rfl)
     have d2 := hall 2 (by omega) x2
     have e2 : t 2 = .int .i64 (N : Int) := d2.1
     have x5 := depX hdp 5 (by kernel_rfl)
     have d5 := hall 5 (by omega) x5
     rw [e2]
     have hy := notYet hsh hxi 8 (by kernel_rfl)
     obtain ⟨bs1, f1, l1, n1⟩ : (fcOwnF W0.heap.size fs).p (t 1) wx := FX.pre_of d1 hy
     obtain ⟨g5, l5, f5⟩ : (fcOwnN W0.heap.size fs.length).p (t 5) wx := FX.pre_of d5 hy
     obtain ⟨a1, c1, e1, -⟩ := id f1.rd
     obtain ⟨a5, c5, e5, -⟩ := id f5.rd
     rw [List.length_replicate] at e5
     rw [e1, e5]
     clear h0
     refine wpOp_step rfl (fun K' hK => ?_)
     go_simp
     exact hK _ _ ⟨.agg #[.bool true, .slice a1 fs.length c1, .int .i64 (N : Int), .slice a5 fs.length c5], (by simp [upd, e1, e2, e5]), FX.pre_mk ⟨a1, c1, a5, c5, bs1, g5, rfl, e1 ▸ f1, e5 ▸ f5, l1, n1, l5⟩, fun _ => Below.refl _ _, fun h => absurd h (by decide), hbx, fun h => absurd h (by simp [hy])⟩
    ·
     try dsimp only
     have hy := notYet hsh hxi 8 (by kernel_rfl)
     clear h0
     refine wpOp_step rfl (fun K' hK => ?_)
     go_simp
     exact hK _ _ ⟨.pointer (some ⟨wx.heap.size, 0, none⟩), (by simp [upd]), FX.pre_mk ⟨wx.heap.size, rfl, hbx.size, heap_alloc_new wx _⟩, fun _ => bN _ _, fun h => absurd h (by decide), bC hbx (bN _ _), fun h => absurd h (by simp [hy])⟩
    ·
     try dsimp only
     have x7 := depX hdp 7 (by kernel_rfl)
     have d7 := hall 7 (by omega) x7
     have x6 := depX hdp 6 (by kernel_rfl)
     have d6 := hall 6 (by omega) x6
     obtain ⟨a1, c1, a5, c5, bs1, g5, e6, f1, f5, l1, n1, l5⟩ : (fcOwnS W0.heap.size fs N).p (t 6) wx := FX.pre_of d6 hxi
     obtain ⟨gs, e7, lg, hbox⟩ : (fcNewB W0.heap.size).p (t 7) wx := FX.pre_of d7 hxi
     rw [e6, e7]
     have k0 := cR wx _ 0 _ _ _ hbox
     have k1 := cR wx _ 1 _ _ _ hbox
     have k2 := cR wx _ 2 _ _ _ hbox
     have k3 := cR wx _ 3 _ _ _ hbox
     have z0 := fR wx _ 0 _ _ hbox
     have z1 := fR wx _ 1 _ _ hbox
     have z2 := fR wx _ 2 _ _ hbox
     have z3 := fR wx _ 3 _ _ hbox
     simp only [gA, gZ, gU] at k0 k1 k2 k3
     have HBX := hid hbox
     clear hbox
     clear h0
     refine wpOp_step rfl (fun K' hK => ?_)
     go_simp
     exact hK _ _ ⟨undef, (by simp [upd, e6, e7]), FX.is_mk trivial, fun h => absurd (by decide) h, fun _ => trivial, set4b hbx lg, fun _ => ⟨gs, a1, c1, a5, c5, bs1, g5, (by simp [upd]; exact e7), lg, set4 HBX.out, f1.kept (fun p hp => set4o (fun e => ownF_far HBX.out f1 (e ▸ hp))), f5.kept (fun p hp => set4o (fun e => ownN_far HBX.out f5 (e ▸ hp))), l1, n1, l5⟩⟩
   ·intro x t3 w3 hx hbx hall hHx
    obtain ⟨gs, a1, c1, a5, c5, bs1, g5, e7, lg, hbs, f1, f5, l1, n1, l5⟩ := hHx (hx 8 (by omega))
    try dsimp only
    rw [e7]
    have HBS := hid hbs
    have HF1 := hid f1
    have HF5 := hid f5
    have HBX := hid hbx
    clear hall hbx hbs f1 f5 e7 hHx hx
    have HKZ : Hid (w3.heap[w.heap.size]? = some (.cells #[.bool false, .slice none 0 0, .int .i64 0, .slice none 0 0] 43 (0, 0))) := hid ((HBX.out.block w.heap.size (by omega)).trans HK0.out)
    have hs3 : W0.heap.size ≤ w3.heap.size := HBX.out.size
    have HGS : Hid (gs < w3.heap.size ∧ gs ≠ w.heap.size) := hid ⟨(Array.getElem?_eq_some_iff.1 HBS.out).1, by omega⟩
    have HBA := hid (bC HB0.out HBX.out)
    have HRF : Hid (∀ wx, i4H w3 w.heap.size wx → RdSl cField wx fs (.slice a1 fs.length c1)) := hid (fun wx h => (HF1.out.kept (fun p hp => h.2 p (HF1.out.lt p hp) (by have := l1 p hp; omega))).rd)
    have HENC : Hid (∀ wx a9 c9, RdSl cSS wx (hdrB fs N) (.slice a9 (hdrB fs N).length c9) → Calls Tryz.prog 153 #[.agg #[.int .i64 1, .int .i64 0, .int .i64 (fs.length : Int), .slice a9 (hdrB fs N).length c9]] wx (EncPost wx (encM 1 0 fs.length (hdrB fs N)))) := hid (fun wx a9 c9 h => by
     have h2 := implEnc_any ⟨1, 0, (fs.length : Int), hdrB fs N⟩ a9 c9 wx h (by show totL List.length (hdrB fs N) ≤ 1048576; rw [totL_tot, hdrB_len]; have := HTH.out; omega)
     have hB : encB ⟨1, 0, (fs.length : Int), hdrB fs N⟩ = encM 1 0 fs.length (hdrB fs N) := by simp [encB]
     have hR : encR ⟨1, 0, (fs.length : Int), hdrB fs N⟩ = encM 1 0 fs.length (hdrB fs N) := by
      rw [← hB]
      exact encR_ok (by unfold msgOK; exact decide_eq_true (by show (1 : Int) ≤ 1 ∧ (1 : Int) ≤ 4 ∧ (0 : Int) ≤ 0 ∧ (0 : Int) < 12 ∧ (0 : Int) ≤ (fs.length : Int) ∧ (fs.length : Int) ≤ 1000 ∧ (hdrB fs N).length ≤ 40 ∧ ((0 : Int) = 0 ∨ (1 : Int) = 2 ∨ (1 : Int) = 3); rw [hdrB_len]; omega)) (by rw [hB]; exact HFT.out)
     rw [hR] at h2
     exact h2)
    go_wp2_with fail
    refine region_turns3 (n := 7) (by kernel_rfl) (by kernel_rfl) ?_ (fun t => { tmps := #[.slice a fs.length c, .int .i64 (N : Int), undef, undef, .pointer (some ⟨w.heap.size, 0, none⟩), t 5, t 6, .pointer (some ⟨gs, 0, none⟩), .slice a fs.length c, .bool true, .bool false, .bool false, .int .i64 (N : Int), .bool true, .bool false, .bool false, undef, t3 0, t3 1, t3 2, t3 3, t3 4, t3 5, t3 6, t 0, t 1, t 2, t 3], defers := [] }) (i4T w.heap.size w3.heap.size w.heap.size fs.length (hdrB fs N) (encM 1 0 fs.length (hdrB fs N)) (.agg #[.bool true, .slice a1 fs.length c1, .int .i64 (N : Int), .slice a5 fs.length c5]) (.agg #[.bool true, .slice a1 fs.length c1, .int .i64 (N : Int), .slice a5 fs.length c5]) #[.bool true, .slice a1 fs.length c1, .int .i64 (N : Int), .slice a5 fs.length c5]) [4] (fcZero w.heap.size) (fun _ _ wx => i4H w3 w.heap.size wx) w w3 (fun k => if k = 2 then [4] else []) (fun k => !(k == 2 || k == 3 || k == 4 || k == 5)) (fun _ x y => ∀ p, p ≠ w.heap.size → y.heap[p]? = x.heap[p]?) [4] (fun _ k => k == 3) (by kernel_rfl) (fun i hi k hk hs v x y hR h => by obtain rfl : k = 3 := (by simpa using hs); exact ownsRow_kept (show x.ownsRow _ _ _ _ _ _ from h) (fun p hp => hR p (by have := (own_in (show x.ownsRow _ _ _ _ _ _ from h) hp).1; omega))) (fun i hi hn => absurd hi hn) (fun j hj => by rcases (by omega : j = 0 ∨ j = 1 ∨ j = 2 ∨ j = 3 ∨ j = 4 ∨ j = 5 ∨ j = 6) with rfl | rfl | rfl | rfl | rfl | rfl | rfl <;> rfl) (fun j hj hp => by rcases (by omega : j = 0 ∨ j = 1 ∨ j = 2 ∨ j = 3 ∨ j = 4 ∨ j = 5 ∨ j = 6) with rfl | rfl | rfl | rfl | rfl | rfl | rfl <;> first | rfl | (exact absurd hp (by decide))) (fun j => ([undef, undef, undef, undef, undef, .slice none 0 0, .int .i64 0] : List Value).getD j undef) (⟨Nat.le_refl _, fun _ _ _ => rfl⟩) HBA.out (HKZ.out) ?_ ?_
    ·rfl
    ·intro i hi x t wx hxi hsh h0 hbx hgx hdp hall hHx
     rcases (by omega : i = 0 ∨ i = 1 ∨ i = 2 ∨ i = 3 ∨ i = 4 ∨ i = 5 ∨ i = 6) with rfl | rfl | rfl | rfl | rfl | rfl | rfl
     ·
      try dsimp only
      have hbs := (hHx.2 gs HGS.out.1 HGS.out.2).trans HBS.out
      have k0 := cR _ _ 0 _ _ _ hbs
      have k1 := cR _ _ 1 _ _ _ hbs
      have k2 := cR _ _ 2 _ _ _ hbs
      have k3 := cR _ _ 3 _ _ _ hbs
      simp only [gA, gZ, gU] at k0 k1 k2 k3
      have HH := hid hHx
      clear hbs hHx
      clear h0
      refine wpOp_step rfl (fun K' hK => ?_)
      go_simp
      exact hK _ _ ⟨.agg #[.bool true, .slice a1 fs.length c1, .int .i64 (N : Int), .slice a5 fs.length c5], (by simp [upd]), FX.eq_mk rfl, fun _ => Below.refl _ _, fun h => absurd h (by decide), hbx, HH.out⟩
     ·
      try dsimp only
      have hbs := (hHx.2 gs HGS.out.1 HGS.out.2).trans HBS.out
      have k0 := cR _ _ 0 _ _ _ hbs
      have k1 := cR _ _ 1 _ _ _ hbs
      have k2 := cR _ _ 2 _ _ _ hbs
      have k3 := cR _ _ 3 _ _ _ hbs
      simp only [gA, gZ, gU] at k0 k1 k2 k3
      have HH := hid hHx
      clear hbs hHx
      clear h0
      refine wpOp_step rfl (fun K' hK => ?_)
      go_simp
      exact hK _ _ ⟨.agg #[.bool true, .slice a1 fs.length c1, .int .i64 (N : Int), .slice a5 fs.length c5], (by simp [upd]), FX.eq_mk rfl, fun _ => Below.refl _ _, fun h => absurd h (by decide), hbx, HH.out⟩
     ·
      try dsimp only
      have x1 := depX hdp 1 (by kernel_rfl)
      have d1 := hall 1 (by omega) x1
      have e1 : t 1 = .agg #[.bool true, .slice a1 fs.length c1, .int .i64 (N : Int), .slice a5 fs.length c5] := d1.1
      rw [e1]
      have HH := hid hHx
      clear hHx
      clear h0
      refine wpOp_step rfl (fun K' hK => ?_)
      go_simp
      refine (headerOf_any a1 a5 c1 c5 fs.length fs N wx (HRF.out wx HH.out) HFO.out hN9).mono ?_
      rintro e w3 ⟨v3, rfl, h3, bl3⟩
      obtain ⟨a9, c9, rfl⟩ := h3.len
      exact hK _ _ ⟨.agg #[.int .i64 1, .int .i64 0, .int .i64 (fs.length : Int), .slice a9 (hdrB fs N).length c9], (by simp [upd, e1]), FX.pre_mk ⟨a9, c9, rfl, h3.mono (Nat.le_trans (Nat.le_refl _) hbx.size)⟩, fun _ => bl3, fun h => absurd h (by decide), bC hbx bl3, keptH HH.out bl3⟩
     ·
      try dsimp only
      have x2 := depX hdp 2 (by kernel_rfl)
      have d2 := hall 2 (by omega) x2
      have y4 := notYet hsh hxi 4 (by kernel_rfl)
      obtain ⟨a9, c9, e2, h2⟩ : (fcMsg w.heap.size fs.length (hdrB fs N)).p (t 2) wx := FX.pre_of d2 y4
      rw [e2]
      have HH := hid hHx
      clear hHx y4
      clear h0
      refine wpOp_step rfl (fun K' hK => ?_)
      go_simp
      refine (HENC.out wx a9 c9 h2.rd).mono ?_
      rintro e w3 ⟨a3, c3, rfl, o3, bl3⟩
      exact hK _ _ ⟨.slice a3 (encM 1 0 fs.length (hdrB fs N)).length c3, (by simp [upd, e2]), FX.is_mk (own_mono o3 HH.out.1), fun _ => bl3, fun h => absurd h (by decide), bC hbx bl3, keptH HH.out bl3⟩
     ·
      try dsimp only
      have x0 := depX hdp 0 (by kernel_rfl)
      have d0 := hall 0 (by omega) x0
      have e0 : t 0 = .agg #[.bool true, .slice a1 fs.length c1, .int .i64 (N : Int), .slice a5 fs.length c5] := d0.1
      rw [e0]
      have hbox : wx.heap[w.heap.size]? = some (.cells #[.bool false, .slice none 0 0, .int .i64 0, .slice none 0 0] 43 (0, 0)) := hgx (by simp [hxi])
      have k0 := cR wx _ 0 _ _ _ hbox
      have k1 := cR wx _ 1 _ _ _ hbox
      have k2 := cR wx _ 2 _ _ _ hbox
      have k3 := cR wx _ 3 _ _ _ hbox
      have z0 := fR wx _ 0 _ _ hbox
      have z1 := fR wx _ 1 _ _ hbox
      have z2 := fR wx _ 2 _ _ hbox
      have z3 := fR wx _ 3 _ _ hbox
      simp only [gA, gZ, gU] at k0 k1 k2 k3
      have HBZ := hid hbox
      have HH := hid hHx
      clear hbox hHx
      clear h0
      refine wpOp_step rfl (fun K' hK => ?_)
      go_simp
      exact hK _ _ ⟨undef, (by simp [upd, e0]), FX.is_mk (set4 HBZ.out), fun h => absurd (by decide) h, fun _ p hp => set4o hp, set4b hbx (Nat.le_refl _), ⟨by simpa using HH.out.1, fun p hp hne => (set4o hne).trans (HH.out.2 p hp hne)⟩⟩
     ·
      try dsimp only
      have x3 := depX hdp 3 (by kernel_rfl)
      have d3 := hall 3 (by omega) x3
      clear h0
      refine wpOp_step rfl (fun K' hK => ?_)
      go_simp
      exact hK _ _ ⟨t 3, (by simp [upd]), FX.is_mk (FX.is_of d3), fun _ => Below.refl _ _, fun h => absurd h (by decide), hbx, hHx⟩
     ·
      try dsimp only
      clear h0
      refine wpOp_step rfl (fun K' hK => ?_)
      go_simp
      exact hK _ _ ⟨.int .i64 0, (by simp [upd]), FX.eq_mk rfl, fun _ => Below.refl _ _, fun h => absurd h (by decide), hbx, hHx⟩
    ·intro x t wx hx hbx hall hHx
     have hgr : wx.heap[w.heap.size]? = some (.cells #[.bool true, .slice a1 fs.length c1, .int .i64 (N : Int), .slice a5 fs.length c5] 43 (0, 0)) := FX.is_of (hall 4 (by omega))
     have f5' : wx.ownsRow w3.heap.size 5 1 (t 5) (encM 1 0 fs.length (hdrB fs N)).length (byt (encM 1 0 fs.length (hdrB fs N))) := FX.is_of (hall 5 (by omega))
     have e6 : t 6 = .int .i64 0 := (hall 6 (by omega)).1
     obtain ⟨a6, c6, e5, -⟩ := rd_own f5'
     try dsimp only
     rw [e5, e6]
     have HGR := hid hgr
     have HF6 : Hid (wx.ownsRow w3.heap.size 5 1 (.slice a6 (encM 1 0 fs.length (hdrB fs N)).length c6) (encM 1 0 fs.length (hdrB fs N)).length (byt (encM 1 0 fs.length (hdrB fs N)))) := hid (e5 ▸ f5')
     have HB := hid hbx
     have HH := hid hHx
     clear hall hbx hgr f5' e5 e6 hHx hx
     go_wp2
     refine bodyPost_ret (results_cell3 rfl _ _ w.heap.size 43 #[.bool true, .slice a1 fs.length c1, .int .i64 (N : Int), .slice a5 fs.length c5] (0, 0) _ rfl HGR.out Tryz.underlying43 rfl (by kernel_rfl)) rfl ?_
     have hlt1 := HF1.out.lt
     have hlt5 := HF5.out.lt
     refine ⟨a1, c1, a5, c5, bs1, [g5], a6, c6, (by simp), ⟨HF1.out.kept (fun p hp => HH.out.2 p (hlt1 p hp) (by have := l1 p hp; omega)), (by simpa using HF5.out.kept (fun p hp => HH.out.2 p (hlt5 p hp) (by simp at hp; omega)))⟩, own_mono HF6.out (by omega), ?_, ?_, ?_, HB.out⟩
     ·intro p hp
      rcases List.mem_append.1 hp with h | h
      ·have := l1 p h; omega
      ·simp at h; omega
     ·exact List.nodup_append.2 ⟨n1, by simp, fun p hp q hq e => by simp at hq; subst hq; subst e; exact ownFN_apart HF1.out HF5.out hp⟩
     ·intro p hp hm
      have h6 := (own_in HF6.out hp).1
      rcases List.mem_append.1 hm with h | h
      ·have := hlt1 p h; omega
      ·have := hlt5 p h; omega
  ·obtain ⟨e1, e2, e3⟩ := HBAD.out (by rw [HOKE.out, decide_eq_false n1]; simp)
   have HNX := hid (fun w' => validNext_any next w')
   rw [decide_eq_false n1] at HNX
   rw [e1, e2, e3]
   clear hf e1 e2 e3 HOKE HBAD n1
   go_enter Tryz.func137, Tryz.ntmps137
   go_wp2_with fail
   generalize (w.alloc (.cells #[.bool false, .slice none 0 0, .int .i64 0, .slice none 0 0] 43)) = W0 at *
   refine HV.out.mono ?_
   rintro e w1 ⟨rfl, b1⟩
   have hk := (b1.block _ (by omega)).trans HK0.out
   have c0 := cR w1 _ 0 _ _ _ hk
   have c1 := cR w1 _ 1 _ _ _ hk
   have c2 := cR w1 _ 2 _ _ _ hk
   have c3 := cR w1 _ 3 _ _ _ hk
   have f0 := fR w1 _ 0 _ _ hk
   have f1 := fR w1 _ 1 _ _ hk
   have f2 := fR w1 _ 2 _ _ hk
   have f3 := fR w1 _ 3 _ _ hk
   simp only [gA, gZ, gU] at c0 c1 c2 c3
   have HK := hid hk
   have HB1 := hid (bC HB0.out b1)
   clear b1 hk
   go_wp2_with fail
   refine (HNX.out w1).mono ?_
   rintro e w1' ⟨rfl, rfl⟩
   go_wp2
   refine bodyPost_ret (results_cell3 rfl _ _ w.heap.size 43 #[.bool false, .slice none 0 0, .int .i64 0, .slice none 0 0] (0, 0) _ rfl (set4 HK.out) Tryz.underlying43 rfl (by kernel_rfl)) rfl ?_
   exact startOwn_bad (set4b HB1.out (Nat.le_refl _))
end Go.Proofs.YtfaehioeepolhabGreat
