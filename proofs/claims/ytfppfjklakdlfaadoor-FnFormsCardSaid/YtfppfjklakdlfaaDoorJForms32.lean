import Derived.Test.YtfppfjklakdlfaaDoorJForms31
import Derived.Test.YtfppfjklakdlfaaDoorJForms16
namespace Go.Proofs.YtfppfjklakdlfaaDoor
open Go.RowKit
theorem drawnB_lt {xs : List Nat} (h : ∀ x ∈ xs, x < 256) (j n : Nat) : ∀ t ∈ (drawnB xs j n).1, ∀ x ∈ t, x < 256 := by
  induction n with
  | zero => simp [drawnB]
  | succ n ih =>
    intro t ht x hx
    simp only [drawnB] at ht
    rcases List.mem_append.1 ht with h1 | h1
    · exact ih t h1 x hx
    · simp only [List.mem_singleton] at h1
      subst h1
      exact drawn_lt h _ _ x hx
theorem dmsg_bufs {xs : List Nat} (h : ∀ x ∈ xs, x < 256) : ∀ t ∈ (dmsg xs).bufs, ∀ x ∈ t, x < 256 := by
  have hb := drawnB_lt h (dmJ xs + 1) (dmN xs)
  unfold dmsg
  repeat' split
  all_goals (try exact hb)
  · intro t ht x hx
    rcases List.mem_append.1 ht with h1 | h1
    · exact hb t h1 x hx
    · have := (List.mem_replicate.1 h1).2
      subst this
      simp at hx
  · intro t ht x hx
    simp only [List.mem_singleton] at ht
    subst ht
    have := (List.mem_replicate.1 hx).2
    omega
theorem dmsg_lt {xs : List Nat} {m : PM} (h : ∀ x ∈ xs, x < 256) (hm : m = dmsg xs) : ∀ x ∈ encR m, x < 256 := by
  intro x hx
  by_cases h0 : encR m = []
  · rw [h0] at hx; simp at hx
  obtain ⟨h1, -, -⟩ := encR_some rfl h0
  simp only [msgOK, decide_eq_true_eq] at h1
  have hK : ∃ K : Nat, m.kind = K ∧ K < 256 := ⟨m.kind.toNat, by omega, by omega⟩
  have hF : ∃ F : Nat, m.field = F ∧ F < 256 := ⟨m.field.toNat, by omega, by omega⟩
  obtain ⟨K, eK, hK⟩ := hK
  obtain ⟨F, eF, hF⟩ := hF
  exact encR_lt m hK hF (by rw [hm]; exact dmsg_bufs h) eK eF x hx
def fcMsgD (m : PM) : Fct := ⟨fun val w => ∃ v c, val = .agg #[.int .i64 m.kind, .int .i64 m.field, .int .i64 m.count, .slice v m.bufs.length c] ∧ RdSl cSS w m.bufs (.slice v m.bufs.length c), fun _ _ _ ⟨v, c, e, h⟩ hb => ⟨v, c, e, h.later hb⟩⟩
def fcByD (B : Nat) (R : List Nat) : Fct := ⟨fun val w => ∃ v c, val = .slice v R.length c ∧ w.ownsRow B 5 1 (.slice v R.length c) R.length (byt R), fun _ _ _ ⟨v, c, e, h⟩ hb => ⟨v, c, e, own_later h hb⟩⟩
set_option linter.unusedVariables false in
def df3T (g : Nat) (va v8 : Value) (i : Nat) (m : PM) (B : Nat) (R : List Nat) : Nat → FX
  | 0 => FX.eq (.pointer (some ⟨g, 0, none⟩))
  | 1 => FX.eq (.pointer (some ⟨g, 0, none⟩))
  | 2 => FX.eq (.pointer (some ⟨g, 0, none⟩))
  | 3 => FX.eq va
  | 4 => FX.eq (.pointer (some ⟨g, 0, none⟩))
  | 5 => FX.eq (.pointer (some ⟨g, 0, none⟩))
  | 6 => FX.eq (.pointer (some ⟨g, 1, none⟩))
  | 7 => FX.eq (.int .i64 (i : Int))
  | 8 => FX.eq v8
  | 9 => FX.is (fcMsgD m)
  | 10 => FX.is (fcByD B R)
  | 11 => FX.is (fcByD B R)
  | _ => FX.eq undef
def fcSameF (W : World) : Fct := ⟨fun _ w => Below W.heap.size W w, fun _ _ _ h hb => below_chain h hb⟩
def fcRdF (lo : Nat) (cs : Array Value) : Fct := ⟨fun v w => ∃ g, v = .pointer (some ⟨g, 0, none⟩) ∧ lo ≤ g ∧ w.heap[g]? = some (.cells cs 66 (0, 0)), fun _ _ _ ⟨g, e, l, h⟩ hb => ⟨g, e, l, (hb.block _ (Array.getElem?_eq_some_iff.1 h).1).trans h⟩⟩
def fcSomeF (n : Nat) : Fct := ⟨fun val w => ∃ ys v c, val = .slice v ys.length c ∧ RdSl cByte w ys (.slice v ys.length c) ∧ ys.length ≤ n, fun _ _ _ h hb => by
  obtain ⟨ys, v, c, e, h, l⟩ := h
  exact ⟨ys, v, c, e, h.later hb, l⟩⟩
set_option linter.unusedVariables false in
def df5T (g : Nat) (vb va : Value) (n : Nat) (lo : Nat) : Nat → FX
  | 0 => FX.eq vb
  | 1 => FX.eq (.pointer (some ⟨g, 0, none⟩))
  | 2 => FX.eq (.pointer (some ⟨g, 0, none⟩))
  | 3 => FX.eq (.pointer (some ⟨g, 0, none⟩))
  | 4 => FX.eq va
  | 5 => FX.eq (.pointer (some ⟨g, 0, none⟩))
  | 6 => FX.eq (.pointer (some ⟨g, 0, none⟩))
  | 7 => FX.eq (.pointer (some ⟨g, 0, none⟩))
  | 8 => FX.eq va
  | 9 => FX.eq (.int .i64 (n : Int))
  | 10 => FX.eq (.int .i64 ((n : Int) / 2))
  | 11 => FX.eq (.agg #[va, .int .i64 ((n : Int) / 2)])
  | 12 => FX.pre [13] (fcRdF lo #[va, .int .i64 ((n : Int) / 2)])
  | 13 => FX.is (fcSomeF 20004)
  | 14 => FX.is (fcSomeF 20004)
  | _ => FX.eq undef
set_option maxRecDepth 100000 in
set_option maxHeartbeats 8000000 in
theorem drawDP_any (a : Option Addr) (cap : Nat) (ys : List Nat) (w : World) (hr : RdSl cByte w ys (.slice a ys.length cap)) (hl : ys.length ≤ 1048576) :
    Calls Tryd.prog 26 #[.slice a ys.length cap] w (SomeB w.heap.size 20004 w) := by
  have HR := hid hr
  have HBY := hid (take_lt hr.rdB.2 600)
  have hxl := take_len ys
  clear hr
  go_enter Tryd.func26, Tryd.ntmps26
  go_wp2_with fail
  refine (open2_any a cap ys w HR.out hl).mono ?_
  rintro e w1 ⟨a', c', rfl, hrd, hrs, hab, bl1, hs1⟩
  have HRD := hid hrd
  have HAB := hid hab
  have HS1 := hid hs1
  clear hrd hab hrs hs1 HR
  generalize ys.take 600 = xs at *
  go_wp2_with fail
  refine (next_any _ c' 0 a' xs w1 HRD.out hxl HBY.out).mono ?_
  rintro e w2 ⟨rfl, r2, g2⟩
  have hk : nxt xs 0 < 256 := nxt_lt HBY.out 0
  generalize nxt xs 0 = k at *
  have HR2 := hid r2
  have B2 : Below w.heap.size w w2 := bl1.grown g2 bl1.size (fun p hp => by simp at hp; omega)
  have hs2 := g2.size
  clear r2 g2
  go_wp2_with fail
  refine (drawPk_any _ c' 1 a' xs w2 HR2.out (fun x h1 h2 => by have := HAB.out x h1 h2; have := HS1.out; omega) hxl HBY.out).mono ?_
  rintro e w3 ⟨aD, cD, rfl, oD, ⟨j3, r3⟩, g3⟩
  have hplt := dpk_lt HBY.out 1
  generalize dpk xs 1 = p at *
  have HR3 := hid r3
  have B3 : Below w.heap.size w w3 := B2.grown g3 B2.size (fun p hp => by simp at hp; omega)
  have HPL := hid hplt
  clear r3 g3 hplt
  go_wp2_with fail
  refine (specPkt_any p aD cD w3 (own_rdSl oD HPL.out.1)).mono ?_
  rintro e w4 ⟨aE, cE, rfl, oE, b4⟩
  have hRl := pktR_len p
  have HRB := hid (pktR_lt HPL.out.1)
  have B4 := below_chain B3 b4
  have HR4 : Hid (Rdr w4 w.heap.size a' c' xs j3) := hid ⟨(b4.block _ (lt_of_block HR3.out.cells)).trans HR3.out.cells, HR3.out.rd.later b4, HR3.out.apart⟩
  have hs4 := b4.size
  have HO4 := hid oE
  have HS3 : Hid (w.heap.size ≤ w3.heap.size) := hid B3.size
  generalize pktR p = R at *
  clear oE b4 oD
  obtain ⟨r, hr2⟩ : ∃ r : Nat, r = k % 2 := ⟨_, rfl⟩
  have hri : (k : Int) % 2 = (r : Int) := by rw [hr2]; simp
  have hrb : r < 2 := by omega
  clear hr2
  by_cases c0 : r = 0
  · have e0 : ((r : Int) == 0) = true := by rw [c0]; rfl
    clear c0
    go_wp2_with fail
    refine (spoil_any w.heap.size w3.heap.size aE cE R w.heap.size c' j3 a' xs w4 HO4.out HS3.out hs4 HRB.out (by omega) HR4.out (Nat.le_refl _) hxl HBY.out).mono ?_
    rintro e w5 hp
    obtain ⟨zs, v5, c5, rfl, r5, l5, b5⟩ := hp
    have HR5 := hid r5
    have HB5 := hid (B4.trans b5)
    clear r5 b5
    go_wp2
    go_ret
    exact ⟨zs, v5, c5, rfl, HR5.out, by omega, HB5.out⟩
  · have e0 : ((r : Int) == 0) = false := beq_eq_false_iff_ne.2 (by omega)
    clear c0
    go_wp2
    go_ret
    exact someB_own HO4.out HRB.out (by omega) B4
set_option maxRecDepth 100000 in
set_option maxHeartbeats 8000000 in
theorem drawDM_any (a : Option Addr) (cap : Nat) (ys : List Nat) (w : World) (hr : RdSl cByte w ys (.slice a ys.length cap)) (hl : ys.length ≤ 1048576) :
    Calls Tryd.prog 20 #[.slice a ys.length cap] w (SomeB w.heap.size 20004 w) := by
  have HR := hid hr
  have HBY := hid (take_lt hr.rdB.2 600)
  have hxl := take_len ys
  have hx6 : (ys.take 600).length ≤ 600 := by rw [List.length_take]; omega
  clear hr
  go_enter Tryd.func20, Tryd.ntmps20
  go_wp2_with fail
  refine (open2_any a cap ys w HR.out hl).mono ?_
  rintro e w1 ⟨a', c', rfl, hrd, hrs, hab, bl1, hs1⟩
  have HRD := hid hrd
  have HRS := hid hrs
  have HAB := hid hab
  have HS1 := hid hs1
  clear hrd hab hrs hs1 HR
  generalize ys.take 600 = xs at *
  go_wp2_with fail
  refine (next_any _ c' 0 a' xs w1 HRD.out hxl HBY.out).mono ?_
  rintro e w2 ⟨rfl, r2, g2⟩
  have hk : nxt xs 0 < 256 := nxt_lt HBY.out 0
  generalize nxt xs 0 = k at *
  have HR2 := hid r2
  have B2 : Below w.heap.size w w2 := bl1.grown g2 bl1.size (fun p hp => by simp at hp; omega)
  have HS2 : Hid (w.heap.size < w2.heap.size) := hid (by have := g2.size; have := HS1.out; omega)
  have HCAP : Hid (xs.length ≤ c' ∧ c' ≤ 9223372036854775807 ∧ (a' = none → c' = 0)) := hid (by
    have h0 := HRS.out.nil0
    obtain ⟨a2, c2, e2, h1, h2, h3, -⟩ := HRS.out
    simp only [Value.slice.injEq] at e2
    unfold maxLen at h2
    exact ⟨by omega, by omega, fun h => (h0 h).2⟩)
  have HRS2 : Hid (RdSl cByte w2 xs (.slice a' xs.length c')) := hid (rdSl_bytes (xs := xs) (cap := c') HCAP.out.1 (by unfold maxLen; exact HCAP.out.2.1) (fun h => HCAP.out.2.2 h) r2.rd HBY.out)
  clear r2 g2
  obtain ⟨i, hi⟩ : ∃ i : Nat, i = min 1 xs.length := ⟨_, rfl⟩
  have hil : i ≤ xs.length ∧ i ≤ 1 := by omega
  have hbx := HR2.out.cells
  rw [show min (0 + 1) xs.length = i from by rw [hi]] at hbx
  have HBX := hid hbx
  have p0 := cell2_0 HBX.out
  have p1 := cell2_1 HBX.out
  clear hi hbx
  have hcap := HCAP.out
  clear p0 p1
  obtain ⟨m, hm⟩ : ∃ m : PM, m = dmsg ((xs.drop i).take 600) := ⟨_, rfl⟩
  have hfit := dmsg_fits ((xs.drop i).take 600)
  rw [← hm] at hfit
  have HEN : Hid (∀ v c w', RdSl cSS w' m.bufs (.slice v m.bufs.length c) → Calls Tryd.prog 14 #[.agg #[.int .i64 m.kind, .int .i64 m.field, .int .i64 m.count, .slice v m.bufs.length c]] w' (EncPost w' (encR m))) := hid (fun v c w' h => specEnc_any m v c w' h (by rw [totL_tot]; omega))
  have HRB : Hid (∀ x ∈ encR m, x < 256) := hid (dmsg_lt (fun x hx => HBY.out x (List.mem_of_mem_drop (List.mem_of_mem_take hx))) hm)
  have hRl : (encR m).length ≤ 20000 := encR_len m
  obtain ⟨R, hR⟩ : ∃ R, R = encR m := ⟨_, rfl⟩
  rw [← hR] at HEN HRB hRl
  clear hR
  have hdl : (xs.drop i).length = xs.length - i := by simp
  have HDMx : Hid (∀ A C w', RdSl cByte w' (xs.drop i) (.slice A (xs.length - i) C) → Calls Tryd.prog 13 #[.slice A (xs.length - i) C] w' fun e w9 => ∃ v c, e = .returned (.agg #[.int .i64 m.kind, .int .i64 m.field, .int .i64 m.count, .slice v m.bufs.length c]) ∧ RdSl cSS w9 m.bufs (.slice v m.bufs.length c) ∧ Below w'.heap.size w' w9) := hid (fun A C w' h => by
    have h2 := drawM_any A C (xs.drop i) w' (by rw [hdl]; exact h) (by omega)
    rw [hdl, ← hm] at h2
    exact h2)
  have HMD := hid hm
  clear hm hdl
  obtain ⟨r, hr2⟩ : ∃ r : Nat, r = k % 2 := ⟨_, rfl⟩
  have hri : (k : Int) % 2 = (r : Int) := by rw [hr2]; simp
  have hrb : r < 2 := by omega
  clear hr2
  go_upto_region 3 with fail
  cases a' with
  | none =>
    have HC0 : Hid (c' = 0) := hid (hcap.2.2 rfl)
    have hcap1 := hcap.1
    clear hcap HCAP
    have HX0 : Hid (xs.length = 0) := hid (by have := HC0.out; omega)
    have HI0 : Hid (i = 0) := hid (by have := HX0.out; omega)
    have hi1 : (i : Int) ≤ (xs.length : Int) := by omega
    have hi2 : (xs.length : Int) ≤ (c' : Int) := by omega
    have hciT : (c' = i) = True := eq_true (by have := HC0.out; have := HI0.out; omega)
    have HDM : Hid (∀ wx : World, Below w2.heap.size w2 wx → Calls Tryd.prog 13 #[(.slice none 0 0)] wx fun e w9 => ∃ v c, e = .returned (.agg #[.int .i64 m.kind, .int .i64 m.field, .int .i64 m.count, .slice v m.bufs.length c]) ∧ RdSl cSS w9 m.bufs (.slice v m.bufs.length c) ∧ Below wx.heap.size wx w9) := hid (fun wx hbx => by
      have h : _ := HDMx.out none 0 wx
      have hx0 : xs.drop i = [] := List.drop_eq_nil_of_le (by have := HX0.out; omega)
      rw [hx0, show xs.length - i = 0 from by have := HX0.out; omega] at h
      exact h (RdSl.empty none))
    refine region_turns (n := 12) (by kernel_rfl) (by kernel_rfl) ?_ (fun t => { tmps := #[.slice a ys.length cap, undef, .slice none 0 0, .pointer (some ⟨w.heap.size, 0, none⟩), .int .i64 ((k : Nat) : Int), t 11, .slice a ys.length cap, .pointer (some ⟨w.heap.size, 0, none⟩), .pointer (some ⟨w.heap.size, 0, none⟩), .int .i64 ((k : Nat) : Int), t 0, t 1, t 2, t 3, t 4, t 5, t 6, t 7, t 8, t 9, t 10, undef, undef, undef, undef, undef, undef, undef, undef, undef, undef, undef, undef, undef, undef, undef, undef, undef, undef], defers := [] }) (df3T w.heap.size ((.slice none xs.length c')) ((.slice none 0 0)) i m w2.heap.size R) [] (Fct.any) w2 w2 (fun k => []) (fun k => !(k == 9 || k == 10 || k == 11)) (by kernel_rfl) (fun j hj => by rcases (by omega : j = 0 ∨ j = 1 ∨ j = 2 ∨ j = 3 ∨ j = 4 ∨ j = 5 ∨ j = 6 ∨ j = 7 ∨ j = 8 ∨ j = 9 ∨ j = 10 ∨ j = 11) with rfl | rfl | rfl | rfl | rfl | rfl | rfl | rfl | rfl | rfl | rfl | rfl <;> rfl) (fun j hj hp => by rcases (by omega : j = 0 ∨ j = 1 ∨ j = 2 ∨ j = 3 ∨ j = 4 ∨ j = 5 ∨ j = 6 ∨ j = 7 ∨ j = 8 ∨ j = 9 ∨ j = 10 ∨ j = 11) with rfl | rfl | rfl | rfl | rfl | rfl | rfl | rfl | rfl | rfl | rfl | rfl <;> first | rfl | (exact absurd hp (by decide))) (fun j => ([undef, undef, undef, undef, undef, undef, undef, undef, undef, undef, undef, undef] : List Value).getD j undef) (Below.refl _ w2) (trivial) ?_ ?_
    · rfl
    · intro i hi x t wx hxi hsh h0 hbx hgx hdp hall
      rcases (by omega : i = 0 ∨ i = 1 ∨ i = 2 ∨ i = 3 ∨ i = 4 ∨ i = 5 ∨ i = 6 ∨ i = 7 ∨ i = 8 ∨ i = 9 ∨ i = 10 ∨ i = 11) with rfl | rfl | rfl | rfl | rfl | rfl | rfl | rfl | rfl | rfl | rfl | rfl
      · 
        try dsimp only
        clear h0
        refine wpOp_step rfl (fun K' hK => ?_)
        go_simp
        exact hK _ _ ⟨.pointer (some ⟨w.heap.size, 0, none⟩), (by simp [upd]), FX.eq_mk rfl, fun _ => Below.refl _ _, hbx⟩
      · 
        try dsimp only
        have x0 := depX hdp 0 (by kernel_rfl)
        have d0 := hall 0 (by omega) x0
        have e0 : t 0 = .pointer (some ⟨w.heap.size, 0, none⟩) := d0.1
        rw [e0]
        clear h0
        refine wpOp_step rfl (fun K' hK => ?_)
        go_simp
        exact hK _ _ ⟨.pointer (some ⟨w.heap.size, 0, none⟩), (by simp [upd, e0]), FX.eq_mk rfl, fun _ => Below.refl _ _, hbx⟩
      · 
        try dsimp only
        have x1 := depX hdp 1 (by kernel_rfl)
        have d1 := hall 1 (by omega) x1
        have e1 : t 1 = .pointer (some ⟨w.heap.size, 0, none⟩) := d1.1
        rw [e1]
        clear h0
        refine wpOp_step rfl (fun K' hK => ?_)
        go_simp
        exact hK _ _ ⟨.pointer (some ⟨w.heap.size, 0, none⟩), (by simp [upd, e1]), FX.eq_mk rfl, fun _ => Below.refl _ _, hbx⟩
      · 
        try dsimp only
        have x2 := depX hdp 2 (by kernel_rfl)
        have d2 := hall 2 (by omega) x2
        have e2 : t 2 = .pointer (some ⟨w.heap.size, 0, none⟩) := d2.1
        rw [e2]
        have hbq := (hbx.block _ HS2.out).trans HBX.out
        have gq := cell2_0 hbq
        clear hbq
        clear h0
        refine wpOp_step rfl (fun K' hK => ?_)
        go_simp
        exact hK _ _ ⟨(.slice none xs.length c'), (by simp [upd, e2]), FX.eq_mk rfl, fun _ => Below.refl _ _, hbx⟩
      · 
        try dsimp only
        clear h0
        refine wpOp_step rfl (fun K' hK => ?_)
        go_simp
        exact hK _ _ ⟨.pointer (some ⟨w.heap.size, 0, none⟩), (by simp [upd]), FX.eq_mk rfl, fun _ => Below.refl _ _, hbx⟩
      · 
        try dsimp only
        have x4 := depX hdp 4 (by kernel_rfl)
        have d4 := hall 4 (by omega) x4
        have e4 : t 4 = .pointer (some ⟨w.heap.size, 0, none⟩) := d4.1
        rw [e4]
        clear h0
        refine wpOp_step rfl (fun K' hK => ?_)
        go_simp
        exact hK _ _ ⟨.pointer (some ⟨w.heap.size, 0, none⟩), (by simp [upd, e4]), FX.eq_mk rfl, fun _ => Below.refl _ _, hbx⟩
      · 
        try dsimp only
        have x5 := depX hdp 5 (by kernel_rfl)
        have d5 := hall 5 (by omega) x5
        have e5 : t 5 = .pointer (some ⟨w.heap.size, 0, none⟩) := d5.1
        rw [e5]
        clear h0
        refine wpOp_step rfl (fun K' hK => ?_)
        go_simp
        exact hK _ _ ⟨.pointer (some ⟨w.heap.size, 1, none⟩), (by simp [upd, e5]), FX.eq_mk rfl, fun _ => Below.refl _ _, hbx⟩
      · 
        try dsimp only
        have x6 := depX hdp 6 (by kernel_rfl)
        have d6 := hall 6 (by omega) x6
        have e6 : t 6 = .pointer (some ⟨w.heap.size, 1, none⟩) := d6.1
        rw [e6]
        have hbq := (hbx.block _ HS2.out).trans HBX.out
        have gq := cell2_1 hbq
        clear hbq
        clear h0
        refine wpOp_step rfl (fun K' hK => ?_)
        go_simp
        exact hK _ _ ⟨.int .i64 (i : Int), (by simp [upd, e6]), FX.eq_mk rfl, fun _ => Below.refl _ _, hbx⟩
      · 
        try dsimp only
        have x3 := depX hdp 3 (by kernel_rfl)
        have d3 := hall 3 (by omega) x3
        have e3 : t 3 = (.slice none xs.length c') := d3.1
        have x7 := depX hdp 7 (by kernel_rfl)
        have d7 := hall 7 (by omega) x7
        have e7 : t 7 = .int .i64 (i : Int) := d7.1
        rw [e3, e7]
        clear h0
        refine wpOp_step rfl (fun K' hK => ?_)
        go_simp
        exact hK _ _ ⟨(.slice none 0 0), (by simp [upd, e3, e7]; have := HX0.out; have := HC0.out; omega), FX.eq_mk rfl, fun _ => Below.refl _ _, hbx⟩
      · 
        try dsimp only
        have x8 := depX hdp 8 (by kernel_rfl)
        have d8 := hall 8 (by omega) x8
        have e8 : t 8 = (.slice none 0 0) := d8.1
        rw [e8]
        clear h0
        refine wpOp_step rfl (fun K' hK => ?_)
        go_simp
        refine (HDM.out wx hbx).mono ?_
        rintro e w9 ⟨v9, c9, rfl, r9, b9⟩
        exact hK _ _ ⟨_, (by simp [upd, e8]), FX.is_mk ⟨v9, c9, rfl, r9⟩, fun _ => b9, below_chain hbx b9⟩
      · 
        try dsimp only
        have x9 := depX hdp 9 (by kernel_rfl)
        have d9 := hall 9 (by omega) x9
        obtain ⟨v9, c9, e9, r9⟩ : (fcMsgD m).p (t 9) wx := FX.is_of d9
        rw [e9]
        clear h0
        refine wpOp_step rfl (fun K' hK => ?_)
        go_simp
        refine (HEN.out v9 c9 wx r9).mono ?_
        rintro e w9 ⟨v10, c10, rfl, o10, b9⟩
        exact hK _ _ ⟨_, (by simp [upd, e9]), FX.is_mk ⟨v10, c10, rfl, own_mono o10 hbx.size⟩, fun _ => b9, below_chain hbx b9⟩
      · 
        try dsimp only
        have x10 := depX hdp 10 (by kernel_rfl)
        have d10 := hall 10 (by omega) x10
        have h10 : (fcByD w2.heap.size R).p (t 10) wx := FX.is_of d10
        clear h0
        refine wpOp_step rfl (fun K' hK => ?_)
        go_simp
        exact hK _ _ ⟨t 10, (by simp [upd]), FX.is_mk h10, fun _ => Below.refl _ _, hbx⟩
    · intro x t wx hx hbx hall
      obtain ⟨aE, cE, e11, oE⟩ : (fcByD w2.heap.size R).p (t 11) wx := FX.is_of (hall 11 (by omega))
      try dsimp only
      rw [e11]
      generalize t 0 = y0
      generalize t 1 = y1
      generalize t 2 = y2
      generalize t 3 = y3
      generalize t 4 = y4
      generalize t 5 = y5
      generalize t 6 = y6
      generalize t 7 = y7
      generalize t 8 = y8
      generalize t 9 = y9
      generalize t 10 = y10
      have HO4 := hid oE
      have HB3 := hid hbx
      obtain ⟨w4, hw4⟩ : ∃ V, V = wx := ⟨_, rfl⟩
      subst hw4
      clear hall hbx hx e11 oE
      have hs24 := HB3.out.size
      have B4 := below_chain B2 HB3.out
      have HBX4 := hid ((HB3.out.block _ HS2.out).trans HBX.out)
      have HS4 : Hid (w.heap.size < w4.heap.size) := hid (by have := HS2.out; omega)
      by_cases c0 : r = 0
      · have e0 : ((r : Int) == 0) = true := by rw [c0]; rfl
        clear c0
        go_wp2_with fail
        clear hri e0
        have hw2 : IntKind.i64.wrap ((xs.length : Int) / 2) = (xs.length : Int) / 2 := by simp [IntKind.wrap, IntKind.bits, IntKind.signed]; omega
        refine region_turns2 (n := 15) (by kernel_rfl) (by kernel_rfl) ?_ (fun t => { tmps := #[.slice a ys.length cap, undef, t 14, .pointer (some ⟨w.heap.size, 0, none⟩), .int .i64 ((k : Nat) : Int), .slice aE R.length cE, .slice a ys.length cap, .pointer (some ⟨w.heap.size, 0, none⟩), .pointer (some ⟨w.heap.size, 0, none⟩), .int .i64 ((k : Nat) : Int), y0, y1, y2, y3, y4, y5, y6, y7, y8, y9, y10, .int .i64 ((k : Nat) : Int), .int .i64 (((k : Nat) : Int) % 2), .bool true, t 0, t 1, t 2, t 3, t 4, t 5, t 6, t 7, t 8, t 9, t 10, t 11, t 12, t 13, undef], defers := [] }) (df5T w.heap.size (.slice aE R.length cE) ((.slice none xs.length c')) xs.length w.heap.size) [13] (fcSameF w4) w w4 (fun k => if k = 12 then [13] else []) (fun k => !(k == 12 || k == 13 || k == 14)) (fun _ _ _ => True) [13] (fun _ _ => false) (by kernel_rfl) (fun _ _ _ _ h => by cases h) (fun i hi hn => absurd hi hn) (fun j hj => by rcases (by omega : j = 0 ∨ j = 1 ∨ j = 2 ∨ j = 3 ∨ j = 4 ∨ j = 5 ∨ j = 6 ∨ j = 7 ∨ j = 8 ∨ j = 9 ∨ j = 10 ∨ j = 11 ∨ j = 12 ∨ j = 13 ∨ j = 14) with rfl | rfl | rfl | rfl | rfl | rfl | rfl | rfl | rfl | rfl | rfl | rfl | rfl | rfl | rfl <;> rfl) (fun j hj hp => by rcases (by omega : j = 0 ∨ j = 1 ∨ j = 2 ∨ j = 3 ∨ j = 4 ∨ j = 5 ∨ j = 6 ∨ j = 7 ∨ j = 8 ∨ j = 9 ∨ j = 10 ∨ j = 11 ∨ j = 12 ∨ j = 13 ∨ j = 14) with rfl | rfl | rfl | rfl | rfl | rfl | rfl | rfl | rfl | rfl | rfl | rfl | rfl | rfl | rfl <;> first | rfl | (exact absurd hp (by decide))) (fun j => ([undef, undef, undef, undef, undef, undef, undef, undef, undef, undef, undef, undef, undef, undef, .slice none 0 0] : List Value).getD j undef) B4 (Below.refl _ _) ?_ ?_
        · rfl
        · intro i hi x t wx hxi hsh h0 hbx hgx hdp hall
          rcases (by omega : i = 0 ∨ i = 1 ∨ i = 2 ∨ i = 3 ∨ i = 4 ∨ i = 5 ∨ i = 6 ∨ i = 7 ∨ i = 8 ∨ i = 9 ∨ i = 10 ∨ i = 11 ∨ i = 12 ∨ i = 13 ∨ i = 14) with rfl | rfl | rfl | rfl | rfl | rfl | rfl | rfl | rfl | rfl | rfl | rfl | rfl | rfl | rfl
          · 
            try dsimp only
            clear h0
            refine wpOp_step rfl (fun K' hK => ?_)
            go_simp
            exact hK _ _ ⟨.slice aE R.length cE, (by simp [upd]), FX.eq_mk rfl, fun _ => Below.refl _ _, fun h => absurd h (by decide), hbx⟩
          · 
            try dsimp only
            clear h0
            refine wpOp_step rfl (fun K' hK => ?_)
            go_simp
            exact hK _ _ ⟨.pointer (some ⟨w.heap.size, 0, none⟩), (by simp [upd]), FX.eq_mk rfl, fun _ => Below.refl _ _, fun h => absurd h (by decide), hbx⟩
          · 
            try dsimp only
            have x1 := depX hdp 1 (by kernel_rfl)
            have d1 := hall 1 (by omega) x1
            have e1 : t 1 = .pointer (some ⟨w.heap.size, 0, none⟩) := d1.1
            rw [e1]
            clear h0
            refine wpOp_step rfl (fun K' hK => ?_)
            go_simp
            exact hK _ _ ⟨.pointer (some ⟨w.heap.size, 0, none⟩), (by simp [upd, e1]), FX.eq_mk rfl, fun _ => Below.refl _ _, fun h => absurd h (by decide), hbx⟩
          · 
            try dsimp only
            have x2 := depX hdp 2 (by kernel_rfl)
            have d2 := hall 2 (by omega) x2
            have e2 : t 2 = .pointer (some ⟨w.heap.size, 0, none⟩) := d2.1
            rw [e2]
            clear h0
            refine wpOp_step rfl (fun K' hK => ?_)
            go_simp
            exact hK _ _ ⟨.pointer (some ⟨w.heap.size, 0, none⟩), (by simp [upd, e2]), FX.eq_mk rfl, fun _ => Below.refl _ _, fun h => absurd h (by decide), hbx⟩
          · 
            try dsimp only
            have x3 := depX hdp 3 (by kernel_rfl)
            have d3 := hall 3 (by omega) x3
            have e3 : t 3 = .pointer (some ⟨w.heap.size, 0, none⟩) := d3.1
            rw [e3]
            have y13 := notYet hsh hxi 13 (by kernel_rfl)
            have hz : Below w4.heap.size w4 wx := hgx (by simp [y13])
            have gq := cell2_0 ((hz.block _ HS4.out).trans HBX4.out)
            clear y13 hz
            clear h0
            refine wpOp_step rfl (fun K' hK => ?_)
            go_simp
            exact hK _ _ ⟨(.slice none xs.length c'), (by simp [upd, e3]), FX.eq_mk rfl, fun _ => Below.refl _ _, fun h => absurd h (by decide), hbx⟩
          · 
            try dsimp only
            clear h0
            refine wpOp_step rfl (fun K' hK => ?_)
            go_simp
            exact hK _ _ ⟨.pointer (some ⟨w.heap.size, 0, none⟩), (by simp [upd]), FX.eq_mk rfl, fun _ => Below.refl _ _, fun h => absurd h (by decide), hbx⟩
          · 
            try dsimp only
            have x5 := depX hdp 5 (by kernel_rfl)
            have d5 := hall 5 (by omega) x5
            have e5 : t 5 = .pointer (some ⟨w.heap.size, 0, none⟩) := d5.1
            rw [e5]
            clear h0
            refine wpOp_step rfl (fun K' hK => ?_)
            go_simp
            exact hK _ _ ⟨.pointer (some ⟨w.heap.size, 0, none⟩), (by simp [upd, e5]), FX.eq_mk rfl, fun _ => Below.refl _ _, fun h => absurd h (by decide), hbx⟩
          · 
            try dsimp only
            have x6 := depX hdp 6 (by kernel_rfl)
            have d6 := hall 6 (by omega) x6
            have e6 : t 6 = .pointer (some ⟨w.heap.size, 0, none⟩) := d6.1
            rw [e6]
            clear h0
            refine wpOp_step rfl (fun K' hK => ?_)
            go_simp
            exact hK _ _ ⟨.pointer (some ⟨w.heap.size, 0, none⟩), (by simp [upd, e6]), FX.eq_mk rfl, fun _ => Below.refl _ _, fun h => absurd h (by decide), hbx⟩
          · 
            try dsimp only
            have x7 := depX hdp 7 (by kernel_rfl)
            have d7 := hall 7 (by omega) x7
            have e7 : t 7 = .pointer (some ⟨w.heap.size, 0, none⟩) := d7.1
            rw [e7]
            have y13 := notYet hsh hxi 13 (by kernel_rfl)
            have hz : Below w4.heap.size w4 wx := hgx (by simp [y13])
            have gq := cell2_0 ((hz.block _ HS4.out).trans HBX4.out)
            clear y13 hz
            clear h0
            refine wpOp_step rfl (fun K' hK => ?_)
            go_simp
            exact hK _ _ ⟨(.slice none xs.length c'), (by simp [upd, e7]), FX.eq_mk rfl, fun _ => Below.refl _ _, fun h => absurd h (by decide), hbx⟩
          · 
            try dsimp only
            have x8 := depX hdp 8 (by kernel_rfl)
            have d8 := hall 8 (by omega) x8
            have e8 : t 8 = (.slice none xs.length c') := d8.1
            rw [e8]
            clear h0
            refine wpOp_step rfl (fun K' hK => ?_)
            go_simp
            exact hK _ _ ⟨.int .i64 (xs.length : Int), (by simp [upd, e8]), FX.eq_mk rfl, fun _ => Below.refl _ _, fun h => absurd h (by decide), hbx⟩
          · 
            try dsimp only
            have x9 := depX hdp 9 (by kernel_rfl)
            have d9 := hall 9 (by omega) x9
            have e9 : t 9 = .int .i64 (xs.length : Int) := d9.1
            rw [e9]
            clear h0
            refine wpOp_step rfl (fun K' hK => ?_)
            go_simp
            exact hK _ _ ⟨.int .i64 ((xs.length : Int) / 2), (by simp [upd, e9]), FX.eq_mk rfl, fun _ => Below.refl _ _, fun h => absurd h (by decide), hbx⟩
          · 
            try dsimp only
            have x4 := depX hdp 4 (by kernel_rfl)
            have d4 := hall 4 (by omega) x4
            have e4 : t 4 = (.slice none xs.length c') := d4.1
            have x10 := depX hdp 10 (by kernel_rfl)
            have d10 := hall 10 (by omega) x10
            have e10 : t 10 = .int .i64 ((xs.length : Int) / 2) := d10.1
            rw [e4, e10]
            clear h0
            refine wpOp_step rfl (fun K' hK => ?_)
            go_simp
            exact hK _ _ ⟨.agg #[(.slice none xs.length c'), .int .i64 ((xs.length : Int) / 2)], (by simp [upd, e4, e10]), FX.eq_mk rfl, fun _ => Below.refl _ _, fun h => absurd h (by decide), hbx⟩
          · 
            try dsimp only
            have x11 := depX hdp 11 (by kernel_rfl)
            have d11 := hall 11 (by omega) x11
            have e11 : t 11 = .agg #[(.slice none xs.length c'), .int .i64 ((xs.length : Int) / 2)] := d11.1
            rw [e11]
            clear h0
            refine wpOp_step rfl (fun K' hK => ?_)
            go_simp
            exact hK _ _ ⟨.pointer (some ⟨wx.heap.size, 0, none⟩), (by simp [upd, e11]), FX.pre_mk ⟨wx.heap.size, rfl, hbx.size, heap_alloc_new wx _⟩, fun _ => below_new1 _ _, fun h => absurd h (by decide), below_chain hbx (below_new1 _ _)⟩
          · 
            try dsimp only
            have x0 := depX hdp 0 (by kernel_rfl)
            have d0 := hall 0 (by omega) x0
            have e0 : t 0 = .slice aE R.length cE := d0.1
            have x12 := depX hdp 12 (by kernel_rfl)
            have d12 := hall 12 (by omega) x12
            rw [e0]
            have hz : Below w4.heap.size w4 wx := hgx (by simp [hxi])
            obtain ⟨g9, e12, l9, hbox⟩ : (fcRdF w.heap.size #[(.slice none xs.length c'), .int .i64 ((xs.length : Int) / 2)]).p (t 12) wx := FX.pre_of d12 hxi
            rw [e12]
            have hRdr : Rdr wx g9 none c' xs (xs.length / 2) := ⟨by rw [show ((min (xs.length / 2) xs.length : Nat) : Int) = (xs.length : Int) / 2 from by omega]; exact hbox, HRS2.out.rdB.1.later (below_chain HB3.out hz), fun x h1 h2 e => by have := HAB.out x h1 h2; omega⟩
            clear h0
            refine wpOp_step rfl (fun K' hK => ?_)
            go_simp
            refine (spoil_any w.heap.size w2.heap.size aE cE R g9 c' (xs.length / 2) none xs wx (own_later HO4.out hz) (Nat.le_of_lt HS2.out) (by have := hz.size; omega) HRB.out (by omega) hRdr l9 hxl HBY.out).mono ?_
            rintro e w9 ⟨zs, v9, c9, rfl, r9, n9, b9⟩
            exact hK _ _ ⟨_, (by simp [upd, e0, e12]), FX.is_mk ⟨zs, v9, c9, rfl, r9, by omega⟩, fun h => absurd (by decide) h, fun _ => trivial, hbx.trans b9⟩
          · 
            try dsimp only
            have x13 := depX hdp 13 (by kernel_rfl)
            have d13 := hall 13 (by omega) x13
            have h13 : (fcSomeF 20004).p (t 13) wx := FX.is_of d13
            clear h0
            refine wpOp_step rfl (fun K' hK => ?_)
            go_simp
            exact hK _ _ ⟨t 13, (by simp [upd]), FX.is_mk h13, fun _ => Below.refl _ _, fun h => absurd h (by decide), hbx⟩
        · intro x t wx hx hbx hall
          obtain ⟨zs, v9, c9, e14, r9, n9⟩ : (fcSomeF 20004).p (t 14) wx := FX.is_of (hall 14 (by omega))
          try dsimp only
          rw [e14]
          generalize t 0 = q0
          generalize t 1 = q1
          generalize t 2 = q2
          generalize t 3 = q3
          generalize t 4 = q4
          generalize t 5 = q5
          generalize t 6 = q6
          generalize t 7 = q7
          generalize t 8 = q8
          generalize t 9 = q9
          generalize t 10 = q10
          generalize t 11 = q11
          generalize t 12 = q12
          generalize t 13 = q13
          have HR9 := hid r9
          have HB9 := hid hbx
          clear hall hbx hx e14 r9
          go_wp2
          go_ret
          exact ⟨zs, v9, c9, rfl, HR9.out, n9, HB9.out⟩
      · have e0 : ((r : Int) == 0) = false := beq_eq_false_iff_ne.2 (by omega)
        clear c0
        go_wp2
        go_ret
        exact someB_own HO4.out HRB.out (by omega) B4
  | some x =>
    obtain ⟨b, off, tl⟩ := x
    have hi1 : (i : Int) ≤ (xs.length : Int) := by omega
    have hi2 : (xs.length : Int) ≤ (c' : Int) := by omega
    by_cases hci : c' = i
    · have hciT : (c' = i) = True := eq_true hci
      have HCI := hid hci
      clear hci
      have HDM : Hid (∀ wx : World, Below w2.heap.size w2 wx → Calls Tryd.prog 13 #[.slice (some ⟨b, off, tl⟩) (xs.length - i) (c' - i)] wx fun e w9 => ∃ v c, e = .returned (.agg #[.int .i64 m.kind, .int .i64 m.field, .int .i64 m.count, .slice v m.bufs.length c]) ∧ RdSl cSS w9 m.bufs (.slice v m.bufs.length c) ∧ Below wx.heap.size wx w9) := hid (fun wx hbx => by
        refine HDMx.out _ _ wx ?_
        have hx0 : xs.drop i = [] := List.drop_eq_nil_of_le (by have := HCI.out; omega)
        rw [hx0, show xs.length - i = 0 from by have := HCI.out; omega]
        exact ⟨some ⟨b, off, tl⟩, _, rfl, Nat.zero_le _, by unfold maxLen; omega, (fun h => by cases h), .inl rfl⟩)
      refine region_turns (n := 12) (by kernel_rfl) (by kernel_rfl) ?_ (fun t => { tmps := #[.slice a ys.length cap, undef, .slice none 0 0, .pointer (some ⟨w.heap.size, 0, none⟩), .int .i64 ((k : Nat) : Int), t 11, .slice a ys.length cap, .pointer (some ⟨w.heap.size, 0, none⟩), .pointer (some ⟨w.heap.size, 0, none⟩), .int .i64 ((k : Nat) : Int), t 0, t 1, t 2, t 3, t 4, t 5, t 6, t 7, t 8, t 9, t 10, undef, undef, undef, undef, undef, undef, undef, undef, undef, undef, undef, undef, undef, undef, undef, undef, undef, undef], defers := [] }) (df3T w.heap.size (.slice (some ⟨b, off, tl⟩) xs.length c') (.slice (some ⟨b, off, tl⟩) (xs.length - i) (c' - i)) i m w2.heap.size R) [] (Fct.any) w2 w2 (fun k => []) (fun k => !(k == 9 || k == 10 || k == 11)) (by kernel_rfl) (fun j hj => by rcases (by omega : j = 0 ∨ j = 1 ∨ j = 2 ∨ j = 3 ∨ j = 4 ∨ j = 5 ∨ j = 6 ∨ j = 7 ∨ j = 8 ∨ j = 9 ∨ j = 10 ∨ j = 11) with rfl | rfl | rfl | rfl | rfl | rfl | rfl | rfl | rfl | rfl | rfl | rfl <;> rfl) (fun j hj hp => by rcases (by omega : j = 0 ∨ j = 1 ∨ j = 2 ∨ j = 3 ∨ j = 4 ∨ j = 5 ∨ j = 6 ∨ j = 7 ∨ j = 8 ∨ j = 9 ∨ j = 10 ∨ j = 11) with rfl | rfl | rfl | rfl | rfl | rfl | rfl | rfl | rfl | rfl | rfl | rfl <;> first | rfl | (exact absurd hp (by decide))) (fun j => ([undef, undef, undef, undef, undef, undef, undef, undef, undef, undef, undef, undef] : List Value).getD j undef) (Below.refl _ w2) (trivial) ?_ ?_
      · rfl
      · intro i hi x t wx hxi hsh h0 hbx hgx hdp hall
        rcases (by omega : i = 0 ∨ i = 1 ∨ i = 2 ∨ i = 3 ∨ i = 4 ∨ i = 5 ∨ i = 6 ∨ i = 7 ∨ i = 8 ∨ i = 9 ∨ i = 10 ∨ i = 11) with rfl | rfl | rfl | rfl | rfl | rfl | rfl | rfl | rfl | rfl | rfl | rfl
        · 
          try dsimp only
          clear h0
          refine wpOp_step rfl (fun K' hK => ?_)
          go_simp
          exact hK _ _ ⟨.pointer (some ⟨w.heap.size, 0, none⟩), (by simp [upd]), FX.eq_mk rfl, fun _ => Below.refl _ _, hbx⟩
        · 
          try dsimp only
          have x0 := depX hdp 0 (by kernel_rfl)
          have d0 := hall 0 (by omega) x0
          have e0 : t 0 = .pointer (some ⟨w.heap.size, 0, none⟩) := d0.1
          rw [e0]
          clear h0
          refine wpOp_step rfl (fun K' hK => ?_)
          go_simp
          exact hK _ _ ⟨.pointer (some ⟨w.heap.size, 0, none⟩), (by simp [upd, e0]), FX.eq_mk rfl, fun _ => Below.refl _ _, hbx⟩
        · 
          try dsimp only
          have x1 := depX hdp 1 (by kernel_rfl)
          have d1 := hall 1 (by omega) x1
          have e1 : t 1 = .pointer (some ⟨w.heap.size, 0, none⟩) := d1.1
          rw [e1]
          clear h0
          refine wpOp_step rfl (fun K' hK => ?_)
          go_simp
          exact hK _ _ ⟨.pointer (some ⟨w.heap.size, 0, none⟩), (by simp [upd, e1]), FX.eq_mk rfl, fun _ => Below.refl _ _, hbx⟩
        · 
          try dsimp only
          have x2 := depX hdp 2 (by kernel_rfl)
          have d2 := hall 2 (by omega) x2
          have e2 : t 2 = .pointer (some ⟨w.heap.size, 0, none⟩) := d2.1
          rw [e2]
          have hbq := (hbx.block _ HS2.out).trans HBX.out
          have gq := cell2_0 hbq
          clear hbq
          clear h0
          refine wpOp_step rfl (fun K' hK => ?_)
          go_simp
          exact hK _ _ ⟨.slice (some ⟨b, off, tl⟩) xs.length c', (by simp [upd, e2]), FX.eq_mk rfl, fun _ => Below.refl _ _, hbx⟩
        · 
          try dsimp only
          clear h0
          refine wpOp_step rfl (fun K' hK => ?_)
          go_simp
          exact hK _ _ ⟨.pointer (some ⟨w.heap.size, 0, none⟩), (by simp [upd]), FX.eq_mk rfl, fun _ => Below.refl _ _, hbx⟩
        · 
          try dsimp only
          have x4 := depX hdp 4 (by kernel_rfl)
          have d4 := hall 4 (by omega) x4
          have e4 : t 4 = .pointer (some ⟨w.heap.size, 0, none⟩) := d4.1
          rw [e4]
          clear h0
          refine wpOp_step rfl (fun K' hK => ?_)
          go_simp
          exact hK _ _ ⟨.pointer (some ⟨w.heap.size, 0, none⟩), (by simp [upd, e4]), FX.eq_mk rfl, fun _ => Below.refl _ _, hbx⟩
        · 
          try dsimp only
          have x5 := depX hdp 5 (by kernel_rfl)
          have d5 := hall 5 (by omega) x5
          have e5 : t 5 = .pointer (some ⟨w.heap.size, 0, none⟩) := d5.1
          rw [e5]
          clear h0
          refine wpOp_step rfl (fun K' hK => ?_)
          go_simp
          exact hK _ _ ⟨.pointer (some ⟨w.heap.size, 1, none⟩), (by simp [upd, e5]), FX.eq_mk rfl, fun _ => Below.refl _ _, hbx⟩
        · 
          try dsimp only
          have x6 := depX hdp 6 (by kernel_rfl)
          have d6 := hall 6 (by omega) x6
          have e6 : t 6 = .pointer (some ⟨w.heap.size, 1, none⟩) := d6.1
          rw [e6]
          have hbq := (hbx.block _ HS2.out).trans HBX.out
          have gq := cell2_1 hbq
          clear hbq
          clear h0
          refine wpOp_step rfl (fun K' hK => ?_)
          go_simp
          exact hK _ _ ⟨.int .i64 (i : Int), (by simp [upd, e6]), FX.eq_mk rfl, fun _ => Below.refl _ _, hbx⟩
        · 
          try dsimp only
          have x3 := depX hdp 3 (by kernel_rfl)
          have d3 := hall 3 (by omega) x3
          have e3 : t 3 = .slice (some ⟨b, off, tl⟩) xs.length c' := d3.1
          have x7 := depX hdp 7 (by kernel_rfl)
          have d7 := hall 7 (by omega) x7
          have e7 : t 7 = .int .i64 (i : Int) := d7.1
          rw [e3, e7]
          clear h0
          refine wpOp_step rfl (fun K' hK => ?_)
          go_simp
          exact hK _ _ ⟨.slice (some ⟨b, off, tl⟩) (xs.length - i) (c' - i), (by simp [upd, e3, e7]), FX.eq_mk rfl, fun _ => Below.refl _ _, hbx⟩
        · 
          try dsimp only
          have x8 := depX hdp 8 (by kernel_rfl)
          have d8 := hall 8 (by omega) x8
          have e8 : t 8 = .slice (some ⟨b, off, tl⟩) (xs.length - i) (c' - i) := d8.1
          rw [e8]
          clear h0
          refine wpOp_step rfl (fun K' hK => ?_)
          go_simp
          refine (HDM.out wx hbx).mono ?_
          rintro e w9 ⟨v9, c9, rfl, r9, b9⟩
          exact hK _ _ ⟨_, (by simp [upd, e8]), FX.is_mk ⟨v9, c9, rfl, r9⟩, fun _ => b9, below_chain hbx b9⟩
        · 
          try dsimp only
          have x9 := depX hdp 9 (by kernel_rfl)
          have d9 := hall 9 (by omega) x9
          obtain ⟨v9, c9, e9, r9⟩ : (fcMsgD m).p (t 9) wx := FX.is_of d9
          rw [e9]
          clear h0
          refine wpOp_step rfl (fun K' hK => ?_)
          go_simp
          refine (HEN.out v9 c9 wx r9).mono ?_
          rintro e w9 ⟨v10, c10, rfl, o10, b9⟩
          exact hK _ _ ⟨_, (by simp [upd, e9]), FX.is_mk ⟨v10, c10, rfl, own_mono o10 hbx.size⟩, fun _ => b9, below_chain hbx b9⟩
        · 
          try dsimp only
          have x10 := depX hdp 10 (by kernel_rfl)
          have d10 := hall 10 (by omega) x10
          have h10 : (fcByD w2.heap.size R).p (t 10) wx := FX.is_of d10
          clear h0
          refine wpOp_step rfl (fun K' hK => ?_)
          go_simp
          exact hK _ _ ⟨t 10, (by simp [upd]), FX.is_mk h10, fun _ => Below.refl _ _, hbx⟩
      · intro x t wx hx hbx hall
        obtain ⟨aE, cE, e11, oE⟩ : (fcByD w2.heap.size R).p (t 11) wx := FX.is_of (hall 11 (by omega))
        try dsimp only
        rw [e11]
        generalize t 0 = y0
        generalize t 1 = y1
        generalize t 2 = y2
        generalize t 3 = y3
        generalize t 4 = y4
        generalize t 5 = y5
        generalize t 6 = y6
        generalize t 7 = y7
        generalize t 8 = y8
        generalize t 9 = y9
        generalize t 10 = y10
        have HO4 := hid oE
        have HB3 := hid hbx
        obtain ⟨w4, hw4⟩ : ∃ V, V = wx := ⟨_, rfl⟩
        subst hw4
        clear hall hbx hx e11 oE
        have hs24 := HB3.out.size
        have B4 := below_chain B2 HB3.out
        have HBX4 := hid ((HB3.out.block _ HS2.out).trans HBX.out)
        have HS4 : Hid (w.heap.size < w4.heap.size) := hid (by have := HS2.out; omega)
        by_cases c0 : r = 0
        · have e0 : ((r : Int) == 0) = true := by rw [c0]; rfl
          clear c0
          go_wp2_with fail
          clear hri e0
          have hw2 : IntKind.i64.wrap ((xs.length : Int) / 2) = (xs.length : Int) / 2 := by simp [IntKind.wrap, IntKind.bits, IntKind.signed]; omega
          refine region_turns2 (n := 15) (by kernel_rfl) (by kernel_rfl) ?_ (fun t => { tmps := #[.slice a ys.length cap, undef, t 14, .pointer (some ⟨w.heap.size, 0, none⟩), .int .i64 ((k : Nat) : Int), .slice aE R.length cE, .slice a ys.length cap, .pointer (some ⟨w.heap.size, 0, none⟩), .pointer (some ⟨w.heap.size, 0, none⟩), .int .i64 ((k : Nat) : Int), y0, y1, y2, y3, y4, y5, y6, y7, y8, y9, y10, .int .i64 ((k : Nat) : Int), .int .i64 (((k : Nat) : Int) % 2), .bool true, t 0, t 1, t 2, t 3, t 4, t 5, t 6, t 7, t 8, t 9, t 10, t 11, t 12, t 13, undef], defers := [] }) (df5T w.heap.size (.slice aE R.length cE) (.slice (some ⟨b, off, tl⟩) xs.length c') xs.length w.heap.size) [13] (fcSameF w4) w w4 (fun k => if k = 12 then [13] else []) (fun k => !(k == 12 || k == 13 || k == 14)) (fun _ _ _ => True) [13] (fun _ _ => false) (by kernel_rfl) (fun _ _ _ _ h => by cases h) (fun i hi hn => absurd hi hn) (fun j hj => by rcases (by omega : j = 0 ∨ j = 1 ∨ j = 2 ∨ j = 3 ∨ j = 4 ∨ j = 5 ∨ j = 6 ∨ j = 7 ∨ j = 8 ∨ j = 9 ∨ j = 10 ∨ j = 11 ∨ j = 12 ∨ j = 13 ∨ j = 14) with rfl | rfl | rfl | rfl | rfl | rfl | rfl | rfl | rfl | rfl | rfl | rfl | rfl | rfl | rfl <;> rfl) (fun j hj hp => by rcases (by omega : j = 0 ∨ j = 1 ∨ j = 2 ∨ j = 3 ∨ j = 4 ∨ j = 5 ∨ j = 6 ∨ j = 7 ∨ j = 8 ∨ j = 9 ∨ j = 10 ∨ j = 11 ∨ j = 12 ∨ j = 13 ∨ j = 14) with rfl | rfl | rfl | rfl | rfl | rfl | rfl | rfl | rfl | rfl | rfl | rfl | rfl | rfl | rfl <;> first | rfl | (exact absurd hp (by decide))) (fun j => ([undef, undef, undef, undef, undef, undef, undef, undef, undef, undef, undef, undef, undef, undef, .slice none 0 0] : List Value).getD j undef) B4 (Below.refl _ _) ?_ ?_
          · rfl
          · intro i hi x t wx hxi hsh h0 hbx hgx hdp hall
            rcases (by omega : i = 0 ∨ i = 1 ∨ i = 2 ∨ i = 3 ∨ i = 4 ∨ i = 5 ∨ i = 6 ∨ i = 7 ∨ i = 8 ∨ i = 9 ∨ i = 10 ∨ i = 11 ∨ i = 12 ∨ i = 13 ∨ i = 14) with rfl | rfl | rfl | rfl | rfl | rfl | rfl | rfl | rfl | rfl | rfl | rfl | rfl | rfl | rfl
            · 
              try dsimp only
              clear h0
              refine wpOp_step rfl (fun K' hK => ?_)
              go_simp
              exact hK _ _ ⟨.slice aE R.length cE, (by simp [upd]), FX.eq_mk rfl, fun _ => Below.refl _ _, fun h => absurd h (by decide), hbx⟩
            · 
              try dsimp only
              clear h0
              refine wpOp_step rfl (fun K' hK => ?_)
              go_simp
              exact hK _ _ ⟨.pointer (some ⟨w.heap.size, 0, none⟩), (by simp [upd]), FX.eq_mk rfl, fun _ => Below.refl _ _, fun h => absurd h (by decide), hbx⟩
            · 
              try dsimp only
              have x1 := depX hdp 1 (by kernel_rfl)
              have d1 := hall 1 (by omega) x1
              have e1 : t 1 = .pointer (some ⟨w.heap.size, 0, none⟩) := d1.1
              rw [e1]
              clear h0
              refine wpOp_step rfl (fun K' hK => ?_)
              go_simp
              exact hK _ _ ⟨.pointer (some ⟨w.heap.size, 0, none⟩), (by simp [upd, e1]), FX.eq_mk rfl, fun _ => Below.refl _ _, fun h => absurd h (by decide), hbx⟩
            · 
              try dsimp only
              have x2 := depX hdp 2 (by kernel_rfl)
              have d2 := hall 2 (by omega) x2
              have e2 : t 2 = .pointer (some ⟨w.heap.size, 0, none⟩) := d2.1
              rw [e2]
              clear h0
              refine wpOp_step rfl (fun K' hK => ?_)
              go_simp
              exact hK _ _ ⟨.pointer (some ⟨w.heap.size, 0, none⟩), (by simp [upd, e2]), FX.eq_mk rfl, fun _ => Below.refl _ _, fun h => absurd h (by decide), hbx⟩
            · 
              try dsimp only
              have x3 := depX hdp 3 (by kernel_rfl)
              have d3 := hall 3 (by omega) x3
              have e3 : t 3 = .pointer (some ⟨w.heap.size, 0, none⟩) := d3.1
              rw [e3]
              have y13 := notYet hsh hxi 13 (by kernel_rfl)
              have hz : Below w4.heap.size w4 wx := hgx (by simp [y13])
              have gq := cell2_0 ((hz.block _ HS4.out).trans HBX4.out)
              clear y13 hz
              clear h0
              refine wpOp_step rfl (fun K' hK => ?_)
              go_simp
              exact hK _ _ ⟨.slice (some ⟨b, off, tl⟩) xs.length c', (by simp [upd, e3]), FX.eq_mk rfl, fun _ => Below.refl _ _, fun h => absurd h (by decide), hbx⟩
            · 
              try dsimp only
              clear h0
              refine wpOp_step rfl (fun K' hK => ?_)
              go_simp
              exact hK _ _ ⟨.pointer (some ⟨w.heap.size, 0, none⟩), (by simp [upd]), FX.eq_mk rfl, fun _ => Below.refl _ _, fun h => absurd h (by decide), hbx⟩
            · 
              try dsimp only
              have x5 := depX hdp 5 (by kernel_rfl)
              have d5 := hall 5 (by omega) x5
              have e5 : t 5 = .pointer (some ⟨w.heap.size, 0, none⟩) := d5.1
              rw [e5]
              clear h0
              refine wpOp_step rfl (fun K' hK => ?_)
              go_simp
              exact hK _ _ ⟨.pointer (some ⟨w.heap.size, 0, none⟩), (by simp [upd, e5]), FX.eq_mk rfl, fun _ => Below.refl _ _, fun h => absurd h (by decide), hbx⟩
            · 
              try dsimp only
              have x6 := depX hdp 6 (by kernel_rfl)
              have d6 := hall 6 (by omega) x6
              have e6 : t 6 = .pointer (some ⟨w.heap.size, 0, none⟩) := d6.1
              rw [e6]
              clear h0
              refine wpOp_step rfl (fun K' hK => ?_)
              go_simp
              exact hK _ _ ⟨.pointer (some ⟨w.heap.size, 0, none⟩), (by simp [upd, e6]), FX.eq_mk rfl, fun _ => Below.refl _ _, fun h => absurd h (by decide), hbx⟩
            · 
              try dsimp only
              have x7 := depX hdp 7 (by kernel_rfl)
              have d7 := hall 7 (by omega) x7
              have e7 : t 7 = .pointer (some ⟨w.heap.size, 0, none⟩) := d7.1
              rw [e7]
              have y13 := notYet hsh hxi 13 (by kernel_rfl)
              have hz : Below w4.heap.size w4 wx := hgx (by simp [y13])
              have gq := cell2_0 ((hz.block _ HS4.out).trans HBX4.out)
              clear y13 hz
              clear h0
              refine wpOp_step rfl (fun K' hK => ?_)
              go_simp
              exact hK _ _ ⟨.slice (some ⟨b, off, tl⟩) xs.length c', (by simp [upd, e7]), FX.eq_mk rfl, fun _ => Below.refl _ _, fun h => absurd h (by decide), hbx⟩
            · 
              try dsimp only
              have x8 := depX hdp 8 (by kernel_rfl)
              have d8 := hall 8 (by omega) x8
              have e8 : t 8 = .slice (some ⟨b, off, tl⟩) xs.length c' := d8.1
              rw [e8]
              clear h0
              refine wpOp_step rfl (fun K' hK => ?_)
              go_simp
              exact hK _ _ ⟨.int .i64 (xs.length : Int), (by simp [upd, e8]), FX.eq_mk rfl, fun _ => Below.refl _ _, fun h => absurd h (by decide), hbx⟩
            · 
              try dsimp only
              have x9 := depX hdp 9 (by kernel_rfl)
              have d9 := hall 9 (by omega) x9
              have e9 : t 9 = .int .i64 (xs.length : Int) := d9.1
              rw [e9]
              clear h0
              refine wpOp_step rfl (fun K' hK => ?_)
              go_simp
              exact hK _ _ ⟨.int .i64 ((xs.length : Int) / 2), (by simp [upd, e9]), FX.eq_mk rfl, fun _ => Below.refl _ _, fun h => absurd h (by decide), hbx⟩
            · 
              try dsimp only
              have x4 := depX hdp 4 (by kernel_rfl)
              have d4 := hall 4 (by omega) x4
              have e4 : t 4 = .slice (some ⟨b, off, tl⟩) xs.length c' := d4.1
              have x10 := depX hdp 10 (by kernel_rfl)
              have d10 := hall 10 (by omega) x10
              have e10 : t 10 = .int .i64 ((xs.length : Int) / 2) := d10.1
              rw [e4, e10]
              clear h0
              refine wpOp_step rfl (fun K' hK => ?_)
              go_simp
              exact hK _ _ ⟨.agg #[.slice (some ⟨b, off, tl⟩) xs.length c', .int .i64 ((xs.length : Int) / 2)], (by simp [upd, e4, e10]), FX.eq_mk rfl, fun _ => Below.refl _ _, fun h => absurd h (by decide), hbx⟩
            · 
              try dsimp only
              have x11 := depX hdp 11 (by kernel_rfl)
              have d11 := hall 11 (by omega) x11
              have e11 : t 11 = .agg #[.slice (some ⟨b, off, tl⟩) xs.length c', .int .i64 ((xs.length : Int) / 2)] := d11.1
              rw [e11]
              clear h0
              refine wpOp_step rfl (fun K' hK => ?_)
              go_simp
              exact hK _ _ ⟨.pointer (some ⟨wx.heap.size, 0, none⟩), (by simp [upd, e11]), FX.pre_mk ⟨wx.heap.size, rfl, hbx.size, heap_alloc_new wx _⟩, fun _ => below_new1 _ _, fun h => absurd h (by decide), below_chain hbx (below_new1 _ _)⟩
            · 
              try dsimp only
              have x0 := depX hdp 0 (by kernel_rfl)
              have d0 := hall 0 (by omega) x0
              have e0 : t 0 = .slice aE R.length cE := d0.1
              have x12 := depX hdp 12 (by kernel_rfl)
              have d12 := hall 12 (by omega) x12
              rw [e0]
              have hz : Below w4.heap.size w4 wx := hgx (by simp [hxi])
              obtain ⟨g9, e12, l9, hbox⟩ : (fcRdF w.heap.size #[.slice (some ⟨b, off, tl⟩) xs.length c', .int .i64 ((xs.length : Int) / 2)]).p (t 12) wx := FX.pre_of d12 hxi
              rw [e12]
              have hRdr : Rdr wx g9 (some ⟨b, off, tl⟩) c' xs (xs.length / 2) := ⟨by rw [show ((min (xs.length / 2) xs.length : Nat) : Int) = (xs.length : Int) / 2 from by omega]; exact hbox, HRS2.out.rdB.1.later (below_chain HB3.out hz), fun x h1 h2 e => by have := HAB.out x h1 h2; omega⟩
              clear h0
              refine wpOp_step rfl (fun K' hK => ?_)
              go_simp
              refine (spoil_any w.heap.size w2.heap.size aE cE R g9 c' (xs.length / 2) (some ⟨b, off, tl⟩) xs wx (own_later HO4.out hz) (Nat.le_of_lt HS2.out) (by have := hz.size; omega) HRB.out (by omega) hRdr l9 hxl HBY.out).mono ?_
              rintro e w9 ⟨zs, v9, c9, rfl, r9, n9, b9⟩
              exact hK _ _ ⟨_, (by simp [upd, e0, e12]), FX.is_mk ⟨zs, v9, c9, rfl, r9, by omega⟩, fun h => absurd (by decide) h, fun _ => trivial, hbx.trans b9⟩
            · 
              try dsimp only
              have x13 := depX hdp 13 (by kernel_rfl)
              have d13 := hall 13 (by omega) x13
              have h13 : (fcSomeF 20004).p (t 13) wx := FX.is_of d13
              clear h0
              refine wpOp_step rfl (fun K' hK => ?_)
              go_simp
              exact hK _ _ ⟨t 13, (by simp [upd]), FX.is_mk h13, fun _ => Below.refl _ _, fun h => absurd h (by decide), hbx⟩
          · intro x t wx hx hbx hall
            obtain ⟨zs, v9, c9, e14, r9, n9⟩ : (fcSomeF 20004).p (t 14) wx := FX.is_of (hall 14 (by omega))
            try dsimp only
            rw [e14]
            generalize t 0 = q0
            generalize t 1 = q1
            generalize t 2 = q2
            generalize t 3 = q3
            generalize t 4 = q4
            generalize t 5 = q5
            generalize t 6 = q6
            generalize t 7 = q7
            generalize t 8 = q8
            generalize t 9 = q9
            generalize t 10 = q10
            generalize t 11 = q11
            generalize t 12 = q12
            generalize t 13 = q13
            have HR9 := hid r9
            have HB9 := hid hbx
            clear hall hbx hx e14 r9
            go_wp2
            go_ret
            exact ⟨zs, v9, c9, rfl, HR9.out, n9, HB9.out⟩
        · have e0 : ((r : Int) == 0) = false := beq_eq_false_iff_ne.2 (by omega)
          clear c0
          go_wp2
          go_ret
          exact someB_own HO4.out HRB.out (by omega) B4
    · have HDM : Hid (∀ wx : World, Below w2.heap.size w2 wx → Calls Tryd.prog 13 #[.slice (some (Addr.add ⟨b, off, tl⟩ i)) (xs.length - i) (c' - i)] wx fun e w9 => ∃ v c, e = .returned (.agg #[.int .i64 m.kind, .int .i64 m.field, .int .i64 m.count, .slice v m.bufs.length c]) ∧ RdSl cSS w9 m.bufs (.slice v m.bufs.length c) ∧ Below wx.heap.size wx w9) := hid (fun wx hbx => by
        refine HDMx.out _ _ wx (RdSl.later ?_ hbx)
        have h := HRS2.out.cut (lo := i) (R := xs.length - i) (by omega)
        rw [List.take_of_length_le (by simp)] at h
        simp only [Option.map_some, show i * cByte.n = i from Nat.mul_one i] at h
        exact h)
      refine region_turns (n := 12) (by kernel_rfl) (by kernel_rfl) ?_ (fun t => { tmps := #[.slice a ys.length cap, undef, .slice none 0 0, .pointer (some ⟨w.heap.size, 0, none⟩), .int .i64 ((k : Nat) : Int), t 11, .slice a ys.length cap, .pointer (some ⟨w.heap.size, 0, none⟩), .pointer (some ⟨w.heap.size, 0, none⟩), .int .i64 ((k : Nat) : Int), t 0, t 1, t 2, t 3, t 4, t 5, t 6, t 7, t 8, t 9, t 10, undef, undef, undef, undef, undef, undef, undef, undef, undef, undef, undef, undef, undef, undef, undef, undef, undef, undef], defers := [] }) (df3T w.heap.size (.slice (some ⟨b, off, tl⟩) xs.length c') (.slice (some (Addr.add ⟨b, off, tl⟩ i)) (xs.length - i) (c' - i)) i m w2.heap.size R) [] (Fct.any) w2 w2 (fun k => []) (fun k => !(k == 9 || k == 10 || k == 11)) (by kernel_rfl) (fun j hj => by rcases (by omega : j = 0 ∨ j = 1 ∨ j = 2 ∨ j = 3 ∨ j = 4 ∨ j = 5 ∨ j = 6 ∨ j = 7 ∨ j = 8 ∨ j = 9 ∨ j = 10 ∨ j = 11) with rfl | rfl | rfl | rfl | rfl | rfl | rfl | rfl | rfl | rfl | rfl | rfl <;> rfl) (fun j hj hp => by rcases (by omega : j = 0 ∨ j = 1 ∨ j = 2 ∨ j = 3 ∨ j = 4 ∨ j = 5 ∨ j = 6 ∨ j = 7 ∨ j = 8 ∨ j = 9 ∨ j = 10 ∨ j = 11) with rfl | rfl | rfl | rfl | rfl | rfl | rfl | rfl | rfl | rfl | rfl | rfl <;> first | rfl | (exact absurd hp (by decide))) (fun j => ([undef, undef, undef, undef, undef, undef, undef, undef, undef, undef, undef, undef] : List Value).getD j undef) (Below.refl _ w2) (trivial) ?_ ?_
      · rfl
      · intro i hi x t wx hxi hsh h0 hbx hgx hdp hall
        rcases (by omega : i = 0 ∨ i = 1 ∨ i = 2 ∨ i = 3 ∨ i = 4 ∨ i = 5 ∨ i = 6 ∨ i = 7 ∨ i = 8 ∨ i = 9 ∨ i = 10 ∨ i = 11) with rfl | rfl | rfl | rfl | rfl | rfl | rfl | rfl | rfl | rfl | rfl | rfl
        · 
          try dsimp only
          clear h0
          refine wpOp_step rfl (fun K' hK => ?_)
          go_simp
          exact hK _ _ ⟨.pointer (some ⟨w.heap.size, 0, none⟩), (by simp [upd]), FX.eq_mk rfl, fun _ => Below.refl _ _, hbx⟩
        · 
          try dsimp only
          have x0 := depX hdp 0 (by kernel_rfl)
          have d0 := hall 0 (by omega) x0
          have e0 : t 0 = .pointer (some ⟨w.heap.size, 0, none⟩) := d0.1
          rw [e0]
          clear h0
          refine wpOp_step rfl (fun K' hK => ?_)
          go_simp
          exact hK _ _ ⟨.pointer (some ⟨w.heap.size, 0, none⟩), (by simp [upd, e0]), FX.eq_mk rfl, fun _ => Below.refl _ _, hbx⟩
        · 
          try dsimp only
          have x1 := depX hdp 1 (by kernel_rfl)
          have d1 := hall 1 (by omega) x1
          have e1 : t 1 = .pointer (some ⟨w.heap.size, 0, none⟩) := d1.1
          rw [e1]
          clear h0
          refine wpOp_step rfl (fun K' hK => ?_)
          go_simp
          exact hK _ _ ⟨.pointer (some ⟨w.heap.size, 0, none⟩), (by simp [upd, e1]), FX.eq_mk rfl, fun _ => Below.refl _ _, hbx⟩
        · 
          try dsimp only
          have x2 := depX hdp 2 (by kernel_rfl)
          have d2 := hall 2 (by omega) x2
          have e2 : t 2 = .pointer (some ⟨w.heap.size, 0, none⟩) := d2.1
          rw [e2]
          have hbq := (hbx.block _ HS2.out).trans HBX.out
          have gq := cell2_0 hbq
          clear hbq
          clear h0
          refine wpOp_step rfl (fun K' hK => ?_)
          go_simp
          exact hK _ _ ⟨.slice (some ⟨b, off, tl⟩) xs.length c', (by simp [upd, e2]), FX.eq_mk rfl, fun _ => Below.refl _ _, hbx⟩
        · 
          try dsimp only
          clear h0
          refine wpOp_step rfl (fun K' hK => ?_)
          go_simp
          exact hK _ _ ⟨.pointer (some ⟨w.heap.size, 0, none⟩), (by simp [upd]), FX.eq_mk rfl, fun _ => Below.refl _ _, hbx⟩
        · 
          try dsimp only
          have x4 := depX hdp 4 (by kernel_rfl)
          have d4 := hall 4 (by omega) x4
          have e4 : t 4 = .pointer (some ⟨w.heap.size, 0, none⟩) := d4.1
          rw [e4]
          clear h0
          refine wpOp_step rfl (fun K' hK => ?_)
          go_simp
          exact hK _ _ ⟨.pointer (some ⟨w.heap.size, 0, none⟩), (by simp [upd, e4]), FX.eq_mk rfl, fun _ => Below.refl _ _, hbx⟩
        · 
          try dsimp only
          have x5 := depX hdp 5 (by kernel_rfl)
          have d5 := hall 5 (by omega) x5
          have e5 : t 5 = .pointer (some ⟨w.heap.size, 0, none⟩) := d5.1
          rw [e5]
          clear h0
          refine wpOp_step rfl (fun K' hK => ?_)
          go_simp
          exact hK _ _ ⟨.pointer (some ⟨w.heap.size, 1, none⟩), (by simp [upd, e5]), FX.eq_mk rfl, fun _ => Below.refl _ _, hbx⟩
        · 
          try dsimp only
          have x6 := depX hdp 6 (by kernel_rfl)
          have d6 := hall 6 (by omega) x6
          have e6 : t 6 = .pointer (some ⟨w.heap.size, 1, none⟩) := d6.1
          rw [e6]
          have hbq := (hbx.block _ HS2.out).trans HBX.out
          have gq := cell2_1 hbq
          clear hbq
          clear h0
          refine wpOp_step rfl (fun K' hK => ?_)
          go_simp
          exact hK _ _ ⟨.int .i64 (i : Int), (by simp [upd, e6]), FX.eq_mk rfl, fun _ => Below.refl _ _, hbx⟩
        · 
          try dsimp only
          have x3 := depX hdp 3 (by kernel_rfl)
          have d3 := hall 3 (by omega) x3
          have e3 : t 3 = .slice (some ⟨b, off, tl⟩) xs.length c' := d3.1
          have x7 := depX hdp 7 (by kernel_rfl)
          have d7 := hall 7 (by omega) x7
          have e7 : t 7 = .int .i64 (i : Int) := d7.1
          rw [e3, e7]
          clear h0
          refine wpOp_step rfl (fun K' hK => ?_)
          go_simp
          exact hK _ _ ⟨.slice (some (Addr.add ⟨b, off, tl⟩ i)) (xs.length - i) (c' - i), (by simp [upd, e3, e7]), FX.eq_mk rfl, fun _ => Below.refl _ _, hbx⟩
        · 
          try dsimp only
          have x8 := depX hdp 8 (by kernel_rfl)
          have d8 := hall 8 (by omega) x8
          have e8 : t 8 = .slice (some (Addr.add ⟨b, off, tl⟩ i)) (xs.length - i) (c' - i) := d8.1
          rw [e8]
          clear h0
          refine wpOp_step rfl (fun K' hK => ?_)
          go_simp
          refine (HDM.out wx hbx).mono ?_
          rintro e w9 ⟨v9, c9, rfl, r9, b9⟩
          exact hK _ _ ⟨_, (by simp [upd, e8]), FX.is_mk ⟨v9, c9, rfl, r9⟩, fun _ => b9, below_chain hbx b9⟩
        · 
          try dsimp only
          have x9 := depX hdp 9 (by kernel_rfl)
          have d9 := hall 9 (by omega) x9
          obtain ⟨v9, c9, e9, r9⟩ : (fcMsgD m).p (t 9) wx := FX.is_of d9
          rw [e9]
          clear h0
          refine wpOp_step rfl (fun K' hK => ?_)
          go_simp
          refine (HEN.out v9 c9 wx r9).mono ?_
          rintro e w9 ⟨v10, c10, rfl, o10, b9⟩
          exact hK _ _ ⟨_, (by simp [upd, e9]), FX.is_mk ⟨v10, c10, rfl, own_mono o10 hbx.size⟩, fun _ => b9, below_chain hbx b9⟩
        · 
          try dsimp only
          have x10 := depX hdp 10 (by kernel_rfl)
          have d10 := hall 10 (by omega) x10
          have h10 : (fcByD w2.heap.size R).p (t 10) wx := FX.is_of d10
          clear h0
          refine wpOp_step rfl (fun K' hK => ?_)
          go_simp
          exact hK _ _ ⟨t 10, (by simp [upd]), FX.is_mk h10, fun _ => Below.refl _ _, hbx⟩
      · intro x t wx hx hbx hall
        obtain ⟨aE, cE, e11, oE⟩ : (fcByD w2.heap.size R).p (t 11) wx := FX.is_of (hall 11 (by omega))
        try dsimp only
        rw [e11]
        generalize t 0 = y0
        generalize t 1 = y1
        generalize t 2 = y2
        generalize t 3 = y3
        generalize t 4 = y4
        generalize t 5 = y5
        generalize t 6 = y6
        generalize t 7 = y7
        generalize t 8 = y8
        generalize t 9 = y9
        generalize t 10 = y10
        have HO4 := hid oE
        have HB3 := hid hbx
        obtain ⟨w4, hw4⟩ : ∃ V, V = wx := ⟨_, rfl⟩
        subst hw4
        clear hall hbx hx e11 oE
        have hs24 := HB3.out.size
        have B4 := below_chain B2 HB3.out
        have HBX4 := hid ((HB3.out.block _ HS2.out).trans HBX.out)
        have HS4 : Hid (w.heap.size < w4.heap.size) := hid (by have := HS2.out; omega)
        by_cases c0 : r = 0
        · have e0 : ((r : Int) == 0) = true := by rw [c0]; rfl
          clear c0
          go_wp2_with fail
          clear hri e0
          have hw2 : IntKind.i64.wrap ((xs.length : Int) / 2) = (xs.length : Int) / 2 := by simp [IntKind.wrap, IntKind.bits, IntKind.signed]; omega
          refine region_turns2 (n := 15) (by kernel_rfl) (by kernel_rfl) ?_ (fun t => { tmps := #[.slice a ys.length cap, undef, t 14, .pointer (some ⟨w.heap.size, 0, none⟩), .int .i64 ((k : Nat) : Int), .slice aE R.length cE, .slice a ys.length cap, .pointer (some ⟨w.heap.size, 0, none⟩), .pointer (some ⟨w.heap.size, 0, none⟩), .int .i64 ((k : Nat) : Int), y0, y1, y2, y3, y4, y5, y6, y7, y8, y9, y10, .int .i64 ((k : Nat) : Int), .int .i64 (((k : Nat) : Int) % 2), .bool true, t 0, t 1, t 2, t 3, t 4, t 5, t 6, t 7, t 8, t 9, t 10, t 11, t 12, t 13, undef], defers := [] }) (df5T w.heap.size (.slice aE R.length cE) (.slice (some ⟨b, off, tl⟩) xs.length c') xs.length w.heap.size) [13] (fcSameF w4) w w4 (fun k => if k = 12 then [13] else []) (fun k => !(k == 12 || k == 13 || k == 14)) (fun _ _ _ => True) [13] (fun _ _ => false) (by kernel_rfl) (fun _ _ _ _ h => by cases h) (fun i hi hn => absurd hi hn) (fun j hj => by rcases (by omega : j = 0 ∨ j = 1 ∨ j = 2 ∨ j = 3 ∨ j = 4 ∨ j = 5 ∨ j = 6 ∨ j = 7 ∨ j = 8 ∨ j = 9 ∨ j = 10 ∨ j = 11 ∨ j = 12 ∨ j = 13 ∨ j = 14) with rfl | rfl | rfl | rfl | rfl | rfl | rfl | rfl | rfl | rfl | rfl | rfl | rfl | rfl | rfl <;> rfl) (fun j hj hp => by rcases (by omega : j = 0 ∨ j = 1 ∨ j = 2 ∨ j = 3 ∨ j = 4 ∨ j = 5 ∨ j = 6 ∨ j = 7 ∨ j = 8 ∨ j = 9 ∨ j = 10 ∨ j = 11 ∨ j = 12 ∨ j = 13 ∨ j = 14) with rfl | rfl | rfl | rfl | rfl | rfl | rfl | rfl | rfl | rfl | rfl | rfl | rfl | rfl | rfl <;> first | rfl | (exact absurd hp (by decide))) (fun j => ([undef, undef, undef, undef, undef, undef, undef, undef, undef, undef, undef, undef, undef, undef, .slice none 0 0] : List Value).getD j undef) B4 (Below.refl _ _) ?_ ?_
          · rfl
          · intro i hi x t wx hxi hsh h0 hbx hgx hdp hall
            rcases (by omega : i = 0 ∨ i = 1 ∨ i = 2 ∨ i = 3 ∨ i = 4 ∨ i = 5 ∨ i = 6 ∨ i = 7 ∨ i = 8 ∨ i = 9 ∨ i = 10 ∨ i = 11 ∨ i = 12 ∨ i = 13 ∨ i = 14) with rfl | rfl | rfl | rfl | rfl | rfl | rfl | rfl | rfl | rfl | rfl | rfl | rfl | rfl | rfl
            · 
              try dsimp only
              clear h0
              refine wpOp_step rfl (fun K' hK => ?_)
              go_simp
              exact hK _ _ ⟨.slice aE R.length cE, (by simp [upd]), FX.eq_mk rfl, fun _ => Below.refl _ _, fun h => absurd h (by decide), hbx⟩
            · 
              try dsimp only
              clear h0
              refine wpOp_step rfl (fun K' hK => ?_)
              go_simp
              exact hK _ _ ⟨.pointer (some ⟨w.heap.size, 0, none⟩), (by simp [upd]), FX.eq_mk rfl, fun _ => Below.refl _ _, fun h => absurd h (by decide), hbx⟩
            · 
              try dsimp only
              have x1 := depX hdp 1 (by kernel_rfl)
              have d1 := hall 1 (by omega) x1
              have e1 : t 1 = .pointer (some ⟨w.heap.size, 0, none⟩) := d1.1
              rw [e1]
              clear h0
              refine wpOp_step rfl (fun K' hK => ?_)
              go_simp
              exact hK _ _ ⟨.pointer (some ⟨w.heap.size, 0, none⟩), (by simp [upd, e1]), FX.eq_mk rfl, fun _ => Below.refl _ _, fun h => absurd h (by decide), hbx⟩
            · 
              try dsimp only
              have x2 := depX hdp 2 (by kernel_rfl)
              have d2 := hall 2 (by omega) x2
              have e2 : t 2 = .pointer (some ⟨w.heap.size, 0, none⟩) := d2.1
              rw [e2]
              clear h0
              refine wpOp_step rfl (fun K' hK => ?_)
              go_simp
              exact hK _ _ ⟨.pointer (some ⟨w.heap.size, 0, none⟩), (by simp [upd, e2]), FX.eq_mk rfl, fun _ => Below.refl _ _, fun h => absurd h (by decide), hbx⟩
            · 
              try dsimp only
              have x3 := depX hdp 3 (by kernel_rfl)
              have d3 := hall 3 (by omega) x3
              have e3 : t 3 = .pointer (some ⟨w.heap.size, 0, none⟩) := d3.1
              rw [e3]
              have y13 := notYet hsh hxi 13 (by kernel_rfl)
              have hz : Below w4.heap.size w4 wx := hgx (by simp [y13])
              have gq := cell2_0 ((hz.block _ HS4.out).trans HBX4.out)
              clear y13 hz
              clear h0
              refine wpOp_step rfl (fun K' hK => ?_)
              go_simp
              exact hK _ _ ⟨.slice (some ⟨b, off, tl⟩) xs.length c', (by simp [upd, e3]), FX.eq_mk rfl, fun _ => Below.refl _ _, fun h => absurd h (by decide), hbx⟩
            · 
              try dsimp only
              clear h0
              refine wpOp_step rfl (fun K' hK => ?_)
              go_simp
              exact hK _ _ ⟨.pointer (some ⟨w.heap.size, 0, none⟩), (by simp [upd]), FX.eq_mk rfl, fun _ => Below.refl _ _, fun h => absurd h (by decide), hbx⟩
            · 
              try dsimp only
              have x5 := depX hdp 5 (by kernel_rfl)
              have d5 := hall 5 (by omega) x5
              have e5 : t 5 = .pointer (some ⟨w.heap.size, 0, none⟩) := d5.1
              rw [e5]
              clear h0
              refine wpOp_step rfl (fun K' hK => ?_)
              go_simp
              exact hK _ _ ⟨.pointer (some ⟨w.heap.size, 0, none⟩), (by simp [upd, e5]), FX.eq_mk rfl, fun _ => Below.refl _ _, fun h => absurd h (by decide), hbx⟩
            · 
              try dsimp only
              have x6 := depX hdp 6 (by kernel_rfl)
              have d6 := hall 6 (by omega) x6
              have e6 : t 6 = .pointer (some ⟨w.heap.size, 0, none⟩) := d6.1
              rw [e6]
              clear h0
              refine wpOp_step rfl (fun K' hK => ?_)
              go_simp
              exact hK _ _ ⟨.pointer (some ⟨w.heap.size, 0, none⟩), (by simp [upd, e6]), FX.eq_mk rfl, fun _ => Below.refl _ _, fun h => absurd h (by decide), hbx⟩
            · 
              try dsimp only
              have x7 := depX hdp 7 (by kernel_rfl)
              have d7 := hall 7 (by omega) x7
              have e7 : t 7 = .pointer (some ⟨w.heap.size, 0, none⟩) := d7.1
              rw [e7]
              have y13 := notYet hsh hxi 13 (by kernel_rfl)
              have hz : Below w4.heap.size w4 wx := hgx (by simp [y13])
              have gq := cell2_0 ((hz.block _ HS4.out).trans HBX4.out)
              clear y13 hz
              clear h0
              refine wpOp_step rfl (fun K' hK => ?_)
              go_simp
              exact hK _ _ ⟨.slice (some ⟨b, off, tl⟩) xs.length c', (by simp [upd, e7]), FX.eq_mk rfl, fun _ => Below.refl _ _, fun h => absurd h (by decide), hbx⟩
            · 
              try dsimp only
              have x8 := depX hdp 8 (by kernel_rfl)
              have d8 := hall 8 (by omega) x8
              have e8 : t 8 = .slice (some ⟨b, off, tl⟩) xs.length c' := d8.1
              rw [e8]
              clear h0
              refine wpOp_step rfl (fun K' hK => ?_)
              go_simp
              exact hK _ _ ⟨.int .i64 (xs.length : Int), (by simp [upd, e8]), FX.eq_mk rfl, fun _ => Below.refl _ _, fun h => absurd h (by decide), hbx⟩
            · 
              try dsimp only
              have x9 := depX hdp 9 (by kernel_rfl)
              have d9 := hall 9 (by omega) x9
              have e9 : t 9 = .int .i64 (xs.length : Int) := d9.1
              rw [e9]
              clear h0
              refine wpOp_step rfl (fun K' hK => ?_)
              go_simp
              exact hK _ _ ⟨.int .i64 ((xs.length : Int) / 2), (by simp [upd, e9]), FX.eq_mk rfl, fun _ => Below.refl _ _, fun h => absurd h (by decide), hbx⟩
            · 
              try dsimp only
              have x4 := depX hdp 4 (by kernel_rfl)
              have d4 := hall 4 (by omega) x4
              have e4 : t 4 = .slice (some ⟨b, off, tl⟩) xs.length c' := d4.1
              have x10 := depX hdp 10 (by kernel_rfl)
              have d10 := hall 10 (by omega) x10
              have e10 : t 10 = .int .i64 ((xs.length : Int) / 2) := d10.1
              rw [e4, e10]
              clear h0
              refine wpOp_step rfl (fun K' hK => ?_)
              go_simp
              exact hK _ _ ⟨.agg #[.slice (some ⟨b, off, tl⟩) xs.length c', .int .i64 ((xs.length : Int) / 2)], (by simp [upd, e4, e10]), FX.eq_mk rfl, fun _ => Below.refl _ _, fun h => absurd h (by decide), hbx⟩
            · 
              try dsimp only
              have x11 := depX hdp 11 (by kernel_rfl)
              have d11 := hall 11 (by omega) x11
              have e11 : t 11 = .agg #[.slice (some ⟨b, off, tl⟩) xs.length c', .int .i64 ((xs.length : Int) / 2)] := d11.1
              rw [e11]
              clear h0
              refine wpOp_step rfl (fun K' hK => ?_)
              go_simp
              exact hK _ _ ⟨.pointer (some ⟨wx.heap.size, 0, none⟩), (by simp [upd, e11]), FX.pre_mk ⟨wx.heap.size, rfl, hbx.size, heap_alloc_new wx _⟩, fun _ => below_new1 _ _, fun h => absurd h (by decide), below_chain hbx (below_new1 _ _)⟩
            · 
              try dsimp only
              have x0 := depX hdp 0 (by kernel_rfl)
              have d0 := hall 0 (by omega) x0
              have e0 : t 0 = .slice aE R.length cE := d0.1
              have x12 := depX hdp 12 (by kernel_rfl)
              have d12 := hall 12 (by omega) x12
              rw [e0]
              have hz : Below w4.heap.size w4 wx := hgx (by simp [hxi])
              obtain ⟨g9, e12, l9, hbox⟩ : (fcRdF w.heap.size #[.slice (some ⟨b, off, tl⟩) xs.length c', .int .i64 ((xs.length : Int) / 2)]).p (t 12) wx := FX.pre_of d12 hxi
              rw [e12]
              have hRdr : Rdr wx g9 (some ⟨b, off, tl⟩) c' xs (xs.length / 2) := ⟨by rw [show ((min (xs.length / 2) xs.length : Nat) : Int) = (xs.length : Int) / 2 from by omega]; exact hbox, HRS2.out.rdB.1.later (below_chain HB3.out hz), fun x h1 h2 e => by have := HAB.out x h1 h2; omega⟩
              clear h0
              refine wpOp_step rfl (fun K' hK => ?_)
              go_simp
              refine (spoil_any w.heap.size w2.heap.size aE cE R g9 c' (xs.length / 2) (some ⟨b, off, tl⟩) xs wx (own_later HO4.out hz) (Nat.le_of_lt HS2.out) (by have := hz.size; omega) HRB.out (by omega) hRdr l9 hxl HBY.out).mono ?_
              rintro e w9 ⟨zs, v9, c9, rfl, r9, n9, b9⟩
              exact hK _ _ ⟨_, (by simp [upd, e0, e12]), FX.is_mk ⟨zs, v9, c9, rfl, r9, by omega⟩, fun h => absurd (by decide) h, fun _ => trivial, hbx.trans b9⟩
            · 
              try dsimp only
              have x13 := depX hdp 13 (by kernel_rfl)
              have d13 := hall 13 (by omega) x13
              have h13 : (fcSomeF 20004).p (t 13) wx := FX.is_of d13
              clear h0
              refine wpOp_step rfl (fun K' hK => ?_)
              go_simp
              exact hK _ _ ⟨t 13, (by simp [upd]), FX.is_mk h13, fun _ => Below.refl _ _, fun h => absurd h (by decide), hbx⟩
          · intro x t wx hx hbx hall
            obtain ⟨zs, v9, c9, e14, r9, n9⟩ : (fcSomeF 20004).p (t 14) wx := FX.is_of (hall 14 (by omega))
            try dsimp only
            rw [e14]
            generalize t 0 = q0
            generalize t 1 = q1
            generalize t 2 = q2
            generalize t 3 = q3
            generalize t 4 = q4
            generalize t 5 = q5
            generalize t 6 = q6
            generalize t 7 = q7
            generalize t 8 = q8
            generalize t 9 = q9
            generalize t 10 = q10
            generalize t 11 = q11
            generalize t 12 = q12
            generalize t 13 = q13
            have HR9 := hid r9
            have HB9 := hid hbx
            clear hall hbx hx e14 r9
            go_wp2
            go_ret
            exact ⟨zs, v9, c9, rfl, HR9.out, n9, HB9.out⟩
        · have e0 : ((r : Int) == 0) = false := beq_eq_false_iff_ne.2 (by omega)
          clear c0
          go_wp2
          go_ret
          exact someB_own HO4.out HRB.out (by omega) B4
end Go.Proofs.YtfppfjklakdlfaaDoor
