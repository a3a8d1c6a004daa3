import Derived.Test.YtfaehioeepolhabGreatJCrashSender1
import Derived.Laws.ResultCell
import Derived.Test.YtfaehioeepolhabGreatJCrashSender12
import Derived.Test.YtfaehioeepolhabGreatJCrashSender0
import Derived.Test.YtfaehioeepolhabGreatJCrashSender5
import Derived.Test.YtfaehioeepolhabGreatJCrashSender7
import Derived.Test.YtfaehioeepolhabGreatJCrashSender13
import Derived.Test.YtfaehioeepolhabGreatJCrashSender4
import Derived.Test.YtfaehioeepolhabGreatJCrashSender9
import Derived.Test.YtfaehioeepolhabGreatJCrashSender17
import Derived.Handy
namespace Go.Proofs.YtfaehioeepolhabGreat
open Go.RowKit
theorem results_cell_row_tmpD {P : Program} {fn : Func} {p u : Tmp} {ty : TypeId} (h : fn.results = #[.cell p ty, .tmp u]) (tmps : Array Value) (w : World) (g : Nat) (t : TypeId) (cs : Array Value) (fr : Nat × Nat) (d : TypeDesc)
  (hp : tmps.getD p undef = .pointer (some ⟨g, 0, none⟩)) (hg : w.heap[g]? = some (.cells cs t fr))
  (hu : P.underlying ty = some d) (hd : (match d with | .struct _ | .array _ _ => true | _ => false) = true) (hi : (P.info? ty).map (·.size) = some cs.size) :
  (results fn tmps).run P w = .ok (.tuple #[.agg cs, tmps.getD u undef]) w := by
 rw [results_cell_tmp h, hp]
 simp [asAddr, run_loadVar_row w g t ty cs fr d hg hu hd hi]
theorem rdB_cut {w : World} {xs : List Nat} {b off cap lo n : Nat} (h : RdSl cByte w xs (.slice (some ⟨b, off, none⟩) xs.length cap)) (hk : lo + n ≤ xs.length) : RdSl cByte w ((xs.drop lo).take n) (.slice (some ⟨b, off + lo, none⟩) n (cap - lo)) := by
 have := h.cut (lo := lo) (R := n) hk
 rw [show cByte.n = 1 from rfl, Nat.mul_one] at this
 simpa [addr_add0] using this
theorem infoByteP : (Tryz.prog.info? 5).map (fun i => (i.zero, i.size, i.bytes)) = some (some (.int .u8 0), 1, 1) := by kernel_rfl
def PkiPost (w : World) (R : List Nat × Int) (e : Ending) (w' : World) : Prop :=
 ∃ a c, e = .returned (.tuple #[.slice a R.1.length c, .int .i64 R.2]) ∧ w'.ownsRow w.heap.size 5 1 (.slice a R.1.length c) R.1.length (byt R.1) ∧ Below w.heap.size w w'
theorem pkiPost_mk {w w' : World} {R : List Nat} {n c : Nat} {C : Int} {a : Option Addr} (hl : R.length = n) (ho : w'.ownsRow w.heap.size 5 1 (.slice a n c) n (byt R)) (hb : Below w.heap.size w w') :
  PkiPost w (R, C) (.returned (.tuple #[.slice a n c, .int .i64 C])) w' := by
 subst hl
 exact ⟨a, c, rfl, ho, hb⟩
theorem pkiPost_nil {w w' : World} (C : Int) (hb : Below w.heap.size w w') : PkiPost w ([], C) (.returned (.tuple #[.slice none 0 0, .int .i64 C])) w' :=
 ⟨none, 0, rfl, World.ownsRow_nil _ _ _ _, hb⟩
theorem byt_snoc (xs : List Nat) (d : Nat) : byt (xs ++ [d]) = byt xs ++ [.int .u8 (d : Int)] := by simp [byt]
set_option maxHeartbeats 1000000 in
set_option maxRecDepth 100000 in
theorem little_any (v : Int) (W : Nat) (w : World) (hW : W ≤ 8) (hv : IntIn v) :
  Calls Tryz.prog 134 #[.int .i64 v, .int .i64 (W : Int)] w fun e w' => ∃ v', e = .returned v' ∧ w'.ownsRow w.heap.size 5 1 v' W (byt (digs (U v) W)) ∧ Below w.heap.size w w' := by
 obtain ⟨i0, hi, hz0, hz1, hz2⟩ := info_parts infoByteP
 have hU := U_eq v
 have HV := hid hv
 clear hv
 have HL := hid (U_lt v)
 generalize U v = u at *
 go_enter Tryz.func134, Tryz.ntmps134
 go_wp2
 go_loopw [5, 6, 7] (fun r o i wr => ∃ k : Nat, k ≤ W ∧ i = .int .i64 k ∧ r = .int .u64 ((u / 256 ^ k : Nat) : Int) ∧ wr.ownsRow w.heap.size 5 1 o k (byt ((digs u W).take k)) ∧ Below w.heap.size w wr) (fun _ _ i _ => W - (intOf i).toNat)
 case atStart => exact ⟨0, Nat.zero_le _, rfl, by simp, by simpa [byt] using World.ownsRow_nil _ _ _ _, Below.refl _ _⟩
 case round =>
  obtain ⟨k, hk, rfl, rfl, how, hbe⟩ := hrel
  have HO := hid how
  have HB := hid hbe
  clear how hbe hU
  by_cases hlt : k < W
  ·have HD := hid (digs_snoc u W k hlt)
   have HN := hid (div_next u k)
   have HR := hid (div_lt u k HL.out)
   generalize u / 256 ^ k = R at *
   have hki : (k : Int) < (W : Int) := by omega
   go_wp2_with (first | (at_builtin; refine wpList_append_own _ rfl _ _ 87 rfl w.heap.size 5 i0 (.int .u8 0) 1 1 Tryz.underlying87 hi hz0 hz1 hz2 rfl (by decide) _ k _ rfl (HO.out.alloc _) ⟨wr.heap.size, 0, none⟩ 1 1 [.int .u8 ((R : Int) % 256)] rfl rfl (cell_one_new _ _ _) (one_cell rfl) (by unfold maxLen; omega) (by omega) (by have := HB.out.size; simp; omega) ?_))
   intro v' w1 hown' hgrow _
   have HB1 : Hid (Below w.heap.size w w1) := hid ((HB.out.alloc HB.out.size _).grown hgrow (by have := HB.out.size; simp; omega) (fun k h => (World.ownsRow.lt HO.out k h).1))
   have HO1 : Hid (w1.ownsRow w.heap.size 5 1 v' (k + 1) (byt ((digs u W).take (k + 1)))) := hid (by
    rw [HD.out, byt_snoc]
    simpa using hown')
   clear hown' hgrow
   go_wp2
   go_roundw
   case rel => exact ⟨k + 1, by omega, by go_num, by rw [← HN.out, wrapU_div R HR.out], HO1.out, HB1.out⟩
   case measure => simp [intOf]; omega
  ·obtain rfl : k = W := by omega
   have hO := HO.out
   rw [List.take_of_length_le (by rw [digs_len]; exact Nat.le_refl _)] at hO
   go_wp2
   go_ret
   exact ⟨_, rfl, hO, HB.out⟩
theorem little_row (v : Int) (W : Nat) (w : World) (h1 : 1 ≤ W) (hW : W ≤ 8) (hv : IntIn v) :
  Calls Tryz.prog 134 #[.int .i64 v, .int .i64 (W : Int)] w fun e w' => ∃ g c, e = .returned (.slice (some ⟨g, 0, none⟩) W c) ∧ w'.ownsRow w.heap.size 5 1 (.slice (some ⟨g, 0, none⟩) W c) W (byt (digs (U v) W)) ∧ Below w.heap.size w w' := by
 refine (little_any v W w hW hv).mono ?_
 rintro e w' ⟨v', rfl, ho, hb⟩
 rcases ho.2 with ⟨_, h0⟩ | ⟨g, cap, cur, rfl, _⟩
 ·omega
 ·exact ⟨g, cap, rfl, ho, hb⟩
set_option maxHeartbeats 800000 in
theorem specCrc_some (b off cap : Nat) (xs : List Nat) (w : World) (hx : ∀ i, (h : i < xs.length) → w.cell? ⟨b, off + i, none⟩ = some (.int .u8 (xs[i] : Int))) (hb : ∀ x ∈ xs, x < 256) (hn : xs.length ≤ 1099511627776) :
  Calls Tryz.prog 152 #[.slice (some ⟨b, off, none⟩) xs.length cap] w fun e w' => e = .returned (.int .u32 ((crcFold xs ^^^ 4294967295 : Nat) : Int)) ∧ w' = w := by
 go_enter Tryz.func152, Tryz.ntmps152
 go_wp2
 go_loop [3, 4] (fun h i => ∃ k : Nat, k ≤ xs.length ∧ i = .int .i64 k ∧ h = .int .u32 ((crcFold (xs.take k) : Nat) : Int)) (fun _ i => xs.length - (intOf i).toNat)
 case atStart => exact ⟨0, Nat.zero_le _, rfl, rfl⟩
 case round =>
  obtain ⟨k, hk, rfl, rfl⟩ := hrel
  have hfl := crcTake_lt xs hb k
  by_cases hlt : k < xs.length
  ·have g1 := hx k hlt
   have hxk : xs[k] < 256 := hb _ (List.getElem_mem _)
   have hki : (k : Int) < (xs.length : Int) := by omega
   have HS : Hid (crcFold (xs.take (k + 1)) = crcIn (crcFold (xs.take k)) xs[k]) := foldl_snoc xs k hlt
   clear hx
   generalize crcFold (xs.take k) = h0 at *
   have hX := bits_xor_u32 h0 xs[k] hfl (by omega)
   have hs0 : h0 ^^^ xs[k] < 4294967296 := Nat.xor_lt_two_pow (n := 32) (by omega) (by omega)
   have HC : Hid (crcIn h0 xs[k] = csteps 8 (h0 ^^^ xs[k])) := rfl
   generalize h0 ^^^ xs[k] = s0 at *
   go_wp2
   go_loop [3, 5] (fun h i => ∃ j : Nat, j ≤ 8 ∧ i = .int .i64 j ∧ h = .int .u32 ((csteps j s0 : Nat) : Int)) (fun _ i => 8 - (intOf i).toNat)
   case atStart => exact ⟨0, Nat.zero_le _, rfl, rfl⟩
   case round =>
    obtain ⟨j, hj, rfl, rfl⟩ := hrel
    have hsl := csteps_lt j hs0
    have HJ : Hid (csteps (j + 1) s0 = cstep (csteps j s0)) := rfl
    by_cases hj8 : j < 8
    ·clear hX
     generalize csteps j s0 = s at *
     by_cases hod : s % 2 = 1
     ·have ht : ((s : Int) % 2 == 1) = true := by simp; omega
      have HX : Hid (bits .xor .u32 ((s : Int) / 2) 3988292384 = ((cstep s : Nat) : Int)) := xor_odd hsl hod
      have hod' : Hid (s % 2 = 1) := hod
      clear hod
      go_wp2
      go_round
      case rel => exact ⟨j + 1, by omega, by go_num, by rw [HJ.out, ← HX.out]⟩
      case measure => simp [intOf]; omega
     ·have ht : ((s : Int) % 2 == 1) = false := by simp; omega
      have HX : Hid (((s : Int) / 2) = ((cstep s : Nat) : Int)) := hid (by rw [cstep_not hod]; simp)
      clear hod
      go_wp2
      go_round
      case rel => exact ⟨j + 1, by omega, by go_num, by rw [HJ.out, ← HX.out]⟩
      case measure => simp [intOf]; omega
    ·obtain rfl : j = 8 := by omega
     have HE : Hid (csteps 8 s0 = crcFold (xs.take (k + 1))) := hid (by rw [HS.out, HC.out])
     generalize csteps 8 s0 = s8 at *
     clear hX
     go_wp2
     go_round
     case rel => exact ⟨k + 1, by omega, by go_num, by rw [HE.out]⟩
     case measure => simp [intOf]; omega
  ·obtain rfl : k = xs.length := by omega
   rw [List.take_length] at *
   have HX := hid (bits_xor_full (crcFold xs) hfl)
   go_wp2
   go_ret
   exact ⟨ret_int HX.out, rfl⟩
set_option maxHeartbeats 400000 in
theorem specCrc_zero (a : Option Addr) (cap : Nat) (w : World) :
  Calls Tryz.prog 152 #[.slice a 0 cap] w fun e w' => e = .returned (.int .u32 ((crcFold [] ^^^ 4294967295 : Nat) : Int)) ∧ w' = w := by
 have hX := bits_xor_full 4294967295 (by decide)
 go_enter Tryz.func152, Tryz.ntmps152
 go_wp2
 refine wp_loop_rounds 1 ?_; rw [rounds_succ]
 go_wp2
 go_ret
 exact ⟨by simpa [crcFold] using hX, rfl⟩
theorem specCrc_any (a : Option Addr) (cap : Nat) (xs : List Nat) (w : World) (hr : Rd w a (byt xs)) (hb : ∀ x ∈ xs, x < 256) (hn : xs.length ≤ 1099511627776) :
  Calls Tryz.prog 152 #[.slice a xs.length cap] w fun e w' => e = .returned (.int .u32 ((crcFold xs ^^^ 4294967295 : Nat) : Int)) ∧ w' = w := by
 rcases hr with h0 | ⟨b, off, rfl, hc⟩
 ·obtain rfl : xs = [] := by simpa [byt] using h0
  exact specCrc_zero a cap w
 ·exact specCrc_some b off cap xs w (rdByte hc) hb hn
theorem RdSl.vals1 {w : World} {xss : List (List Nat)} {a : Option Addr} {n cap : Nat} (h : RdSl cSS w xss (.slice a n cap)) :
  ∃ vals : List Value, vals.length = xss.length ∧ Rd w a vals ∧ (∀ u ∈ vals, u.oneCell' = true) ∧ ∀ i, (h : i < xss.length) → ∃ a' c', vals[i]? = some (.slice a' xss[i].length c') ∧ RdSl cByte w xss[i] (.slice a' xss[i].length c') := by
 obtain ⟨a', cap', e', _, _, _, h4⟩ := id h
 simp only [Value.slice.injEq] at e'
 obtain ⟨rfl, rfl, rfl⟩ := e'
 rcases h4 with rfl | ⟨b, off, rfl, hat⟩
 ·exact ⟨[], rfl, .inl rfl, by simp, fun i h => by simp at h⟩
 ·have hx : ∀ i : Fin xss.length, ∃ u : Value, w.cell? ⟨b, off + i.1, none⟩ = some u ∧ ∃ a' c', u = .slice a' xss[i.1].length c' ∧ RdSl cByte w xss[i.1] (.slice a' xss[i.1].length c') := fun i => by
   obtain ⟨b', off', a', c', e, hc, hr⟩ := h.row i.2
   simp at e
   obtain ⟨rfl, rfl⟩ := e
   exact ⟨_, hc, a', c', rfl, hr⟩
  refine ⟨(List.finRange xss.length).map fun i => Classical.choose (hx i), by simp, .inr ⟨b, off, rfl, fun i hi => ?_⟩, fun u hu => ?_, fun i hi => ?_⟩
  ·have hi' : i < xss.length := by simpa using hi
   have := (Classical.choose_spec (hx ⟨i, hi'⟩)).1
   rw [this]; simp
  ·simp only [List.mem_map] at hu
   obtain ⟨i, _, rfl⟩ := hu
   obtain ⟨_, _, e, _⟩ := (Classical.choose_spec (hx i)).2
   rw [e]; rfl
  ·obtain ⟨a', c', e, hr⟩ := (Classical.choose_spec (hx ⟨i, hi⟩)).2
   exact ⟨a', c', by rw [List.getElem?_map]; simp [hi]; exact e, hr⟩
theorem RdSl.nilB {w : World} {xs : List Nat} {a : Option Addr} {cap : Nat} (h : RdSl cByte w xs (.slice a xs.length cap)) : a = none → cap = 0 := fun ha => (h.nil0 ha).2
theorem rdSS_cons {w : World} {a al : Option Addr} {cl : Nat} {xs : List Nat} {xss : List (List Nat)} {vals : List Value} (hr : Rd w a (.slice al xs.length cl :: vals)) (hl : RdSl cByte w xs (.slice al xs.length cl)) (hv : vals.length = xss.length)
  (hi : ∀ i, (h : i < xss.length) → ∃ a' c', vals[i]? = some (.slice a' xss[i].length c') ∧ RdSl cByte w xss[i] (.slice a' xss[i].length c')) : RdSS w a (xs :: xss) := by
 refine ⟨.slice al xs.length cl :: vals, by simp [hv], hr, fun i h => ?_⟩
 cases i with
 | zero => exact ⟨al, cl, rfl, hl.rdB.1, hl.nilB⟩
 | succ i =>
  obtain ⟨a', c', h1, h2⟩ := hi i (by simpa using h)
  exact ⟨a', c', by simpa using h1, h2.rdB.1, h2.nilB⟩
theorem own_built {w : World} {B : Nat} {e : TypeId} {cs : Array Value} (hB : B ≤ w.heap.size) (hm : cs.size ≤ maxLen) : (w.alloc (.cells cs e)).ownsRow B e 1 (.slice (some ⟨w.heap.size, 0, none⟩) cs.size cs.size) cs.size cs.toList :=
 ⟨by simp, .inr ⟨w.heap.size, cs.size, cs, rfl, hB, heap_alloc_new w _, Nat.le_refl _, hm, by simp, by rw [Nat.mul_one]; exact List.take_of_length_le (by simp)⟩⟩
theorem U_nat (n : Nat) (h : n < 18446744073709551616) : U (n : Int) = n := by
 unfold U
 have : IntKind.u64.wrap (n : Int) = n := by
  rw [U_eq, U]
  simp [IntKind.wrap, IntKind.bits, IntKind.signed]
  omega
 rw [this]; simp
theorem wrap_u8 (n : Nat) (h : n < 256) : IntKind.u8.wrap (n : Int) = n := by
 simp [IntKind.wrap, IntKind.bits, IntKind.signed]; omega
theorem crcM_lt (xs : List Nat) (h : ∀ x ∈ xs, x < 256) : crcM xs < 4294967296 := by
 have h1 := crcTake_lt xs h xs.length
 rw [List.take_length] at h1
 unfold crcM
 have : crcFold xs ^^^ 4294967295 < 2 ^ 32 := Nat.xor_lt_two_pow (by omega) (by omega)
 omega
theorem join_lt (xss : List (List Nat)) (h : ∀ t ∈ xss, ∀ x ∈ t, x < 256) : ∀ x ∈ join xss, x < 256 := by
 have key : ∀ (l : List (List Nat)) (acc : List Nat), (∀ t ∈ l, ∀ x ∈ t, x < 256) → (∀ x ∈ acc, x < 256) → ∀ x ∈ l.foldl joinStep acc, x < 256 := by
  intro l
  induction l with
  | nil => intro acc _ h2; exact h2
  | cons t l ih => intro acc h1 h2; exact ih _ (fun u hu => h1 u (List.mem_cons_of_mem _ hu)) (joinStep_lt h2 (h1 t (by simp)))
 exact key xss [] h (by simp)
theorem infoByteM : (Tryz.prog.info? 5).map (fun i => (i.zero, i.size, i.bytes)) = some (some (.int .u8 0), 1, 1) := by kernel_rfl
theorem infoSlM : (Tryz.prog.info? 87).map (fun i => (i.zero, i.size, i.bytes)) = some (some (.slice none 0 0), 1, 24) := by kernel_rfl
def EncPost (w : World) (R : List Nat) (e : Ending) (w' : World) : Prop :=
 ∃ a c, e = .returned (.slice a R.length c) ∧ w'.ownsRow w.heap.size 5 1 (.slice a R.length c) R.length (byt R) ∧ Below w.heap.size w w'
theorem encPost_nil {w w' : World} {R : List Nat} (hb : Below w.heap.size w w') (hR : R = []) : EncPost w R (.returned (.slice none 0 0)) w' := by
 subst hR
 exact ⟨none, 0, rfl, World.ownsRow_nil _ _ _ _, hb⟩
def fcRowD (lo : Nat) (D : List Nat) : Fct := ⟨fun v w => w.ownsRow lo 5 1 v D.length (byt D), fun _ _ _ h hb => own_later h hb⟩
def fcNewD (lo : Nat) : Fct := ⟨fun v w => ∃ g, v = .pointer (some ⟨g, 0, none⟩) ∧ lo ≤ g ∧ w.heap[g]? = some (.cells #[.int .i64 0, .int .i64 0, .int .i64 0, .int .i64 0, .bool false, .slice none 0 0] 139 (0, 0)), fun _ _ _ ⟨g, e, l, h⟩ hb => ⟨g, e, l, (hb.block _ (Array.getElem?_eq_some_iff.1 h).1).trans h⟩⟩
theorem box_far {w : World} {gm : Nat} {cs : Array Value} {t : TypeId} {B n s : Nat} {e : TypeId} {u : Value} {vs : List Value} {k : Nat} (hb : w.heap[gm]? = some (.cells cs t (0, 0))) (ho : w.ownsRow B e s u n vs) (hne : e ≠ t) (hk : u.ownBlock = some k) : k ≠ gm := by
 intro he
 subst he
 rcases ho.2 with ⟨rfl, _⟩ | ⟨g, cap, cur, rfl, _, hh, _⟩
 ·simp [Value.ownBlock] at hk
 ·simp [Value.ownBlock] at hk
  subst hk
  rw [hb] at hh
  simp at hh
  exact hne hh.2.symm
end Go.Proofs.YtfaehioeepolhabGreat
namespace Go.Proofs.YtfaehioeepolhabGreat
def dataB (p : PP) (e : Int) : Bool := pktOK p && (decide (p.kind = 1) && decide (p.epoch = e))
end Go.Proofs.YtfaehioeepolhabGreat
namespace Go.Proofs.YtfaehioeepolhabGreat
open Go.RowKit
def outW (o : PO) (i : Nat) (s : PW) : Bool := dataB s.pkt o.epoch && decide (s.pkt.seq = o.next - o.wait.length + i ∧ -1 ≤ s.at_ ∧ s.at_ ≤ o.now)
abbrev OutH (o : PO) : Prop := 1 ≤ o.epoch ∧ o.epoch ≤ 1000000000 ∧ 0 ≤ o.next ∧ o.next ≤ 1000000000000 ∧ 0 ≤ o.now ∧ o.now ≤ 1000000000 ∧ o.wait.length ≤ 300
def outOK (o : PO) : Bool := decide (OutH o) && (List.range o.wait.length).all fun i => match o.wait[i]? with | some s => outW o i s | none => true
theorem outOK_head {o : PO} (h : ¬ OutH o) : outOK o = false := by unfold outOK; rw [decide_eq_false h]; rfl
theorem outOK_at {o : PO} {k : Nat} (hk : k < o.wait.length) (h : outW o k o.wait[k] = false) : outOK o = false := by
 unfold outOK
 rw [Bool.and_eq_false_iff]
 refine .inr ?_
 rw [List.all_eq_false]
 refine ⟨k, List.mem_range.2 hk, ?_⟩
 simp [hk, h]
theorem outOK_all {o : PO} (h : OutH o) (ha : ∀ k, (hk : k < o.wait.length) → outW o k o.wait[k] = true) : outOK o = true := by
 unfold outOK
 rw [decide_eq_true h, Bool.true_and, List.all_eq_true]
 intro i hi
 have hi' := List.mem_range.1 hi
 simp [hi', ha i hi']
theorem outOK_of {o : PO} (h : outOK o = true) : OutH o ∧ ∀ k, (hk : k < o.wait.length) → outW o k o.wait[k] = true := by
 unfold outOK at h
 rw [Bool.and_eq_true, List.all_eq_true] at h
 refine ⟨of_decide_eq_true h.1, fun k hk => ?_⟩
 have := h.2 k (List.mem_range.2 hk)
 simpa [hk] using this
def noOut : PO := ⟨0, 0, 0, []⟩
def nPc (xs : List Nat) : Nat := (xs.length + 99) / 100
def pcs (xs : List Nat) (i : Nat) : List Nat := (xs.drop (i * 100)).take 100
def pkW (o : PO) (xs : List Nat) (i : Nat) : PW := ⟨⟨1, o.epoch, o.next + (i : Int), 0, ((i : Int) == (nPc xs : Int) - 1), pcs xs i⟩, -1⟩
def pushK (o : PO) (xs : List Nat) (k : Nat) : List PW := o.wait ++ (List.range k).map (pkW o xs)
theorem pushK_zero (o : PO) (xs : List Nat) : pushK o xs 0 = o.wait := by simp [pushK]
theorem pushK_succ (o : PO) (xs : List Nat) (k : Nat) : pushK o xs (k + 1) = pushK o xs k ++ [pkW o xs k] := by simp [pushK, List.range_succ]
theorem pushK_len (o : PO) (xs : List Nat) (k : Nat) : (pushK o xs k).length = o.wait.length + k := by simp [pushK]
theorem pcs_len (xs : List Nat) (i : Nat) : (pcs xs i).length = min 100 (xs.length - i * 100) := by simp [pcs]
theorem pcs_take (xs : List Nat) (k : Nat) : (xs.drop (k * 100)).take (pcs xs k).length = pcs xs k := by
 rw [pcs_len]
 unfold pcs
 apply List.ext_getElem?
 intro i
 simp only [List.getElem?_take, List.getElem?_drop]
 by_cases h1 : i < min 100 (xs.length - k * 100)
 ·rw [if_pos h1, if_pos (by omega)]
 ·rw [if_neg h1]
  split
  ·rw [List.getElem?_eq_none (by omega)]
  ·rfl
abbrev PushOK (o : PO) (xs : List Nat) : Prop := outOK o = true ∧ 1 ≤ xs.length ∧ xs.length ≤ 20000
abbrev PushFull (o : PO) (xs : List Nat) : Prop := 300 < o.wait.length + nPc xs
abbrev PushEnd (o : PO) (xs : List Nat) : Prop := 1000000000000 < o.next + (nPc xs : Int)
def pushO (o : PO) (xs : List Nat) : PO := if PushOK o xs then (if PushFull o xs then o else if PushEnd o xs then o else ⟨o.epoch, o.next + (nPc xs : Int), o.now, pushK o xs (nPc xs)⟩) else noOut
def pushC (o : PO) (xs : List Nat) : Int := if PushOK o xs then (if PushFull o xs then 2 else if PushEnd o xs then 6 else 0) else 1
theorem push_no {o : PO} {xs : List Nat} (h : ¬ PushOK o xs) : pushO o xs = noOut ∧ pushC o xs = 1 := by unfold pushO pushC; rw [if_neg h, if_neg h]; exact ⟨rfl, rfl⟩
theorem push_full {o : PO} {xs : List Nat} (h : PushOK o xs) (h1 : PushFull o xs) : pushO o xs = o ∧ pushC o xs = 2 := by unfold pushO pushC; rw [if_pos h, if_pos h, if_pos h1, if_pos h1]; exact ⟨rfl, rfl⟩
theorem push_end {o : PO} {xs : List Nat} (h : PushOK o xs) (h1 : ¬ PushFull o xs) (h2 : PushEnd o xs) : pushO o xs = o ∧ pushC o xs = 6 := by unfold pushO pushC; rw [if_pos h, if_pos h, if_neg h1, if_neg h1, if_pos h2, if_pos h2]; exact ⟨rfl, rfl⟩
theorem push_yes {o : PO} {xs : List Nat} (h : PushOK o xs) (h1 : ¬ PushFull o xs) (h2 : ¬ PushEnd o xs) : pushO o xs = ⟨o.epoch, o.next + (nPc xs : Int), o.now, pushK o xs (nPc xs)⟩ ∧ pushC o xs = 0 := by unfold pushO pushC; rw [if_pos h, if_pos h, if_neg h1, if_neg h1, if_neg h2, if_neg h2]; exact ⟨rfl, rfl⟩
theorem sum_le_mul {α : Type} (f : α → Nat) (m : Nat) : ∀ (l : List α), (∀ x ∈ l, f x ≤ m) → (l.map f).sum ≤ m * l.length
 | [], _ => by simp
 | x :: l, h => by
  have h1 := sum_le_mul f m l (fun y hy => h y (List.mem_cons_of_mem _ hy))
  have h2 := h x (by simp)
  simp only [List.map_cons, List.sum_cons, List.length_cons]
  rw [Nat.mul_add, Nat.mul_one]
  omega
theorem out_data {o : PO} (h : outOK o = true) : ∀ s ∈ o.wait, wN s ≤ 100 := by
 intro s hs
 obtain ⟨i, hi, rfl⟩ := List.getElem_of_mem hs
 have h1 := (outOK_of h).2 i hi
 unfold outW dataB at h1
 rw [Bool.and_eq_true, Bool.and_eq_true] at h1
 exact pktOK_data h1.1.1
theorem pushK_tot {o : PO} {xs : List Nat} (h : outOK o = true) (k : Nat) (hk : k ≤ 200) : totL wN (pushK o xs k) ≤ 1048576 := by
 have h0 := (outOK_of h).1
 have hw : o.wait.length ≤ 300 := h0.2.2.2.2.2.2
 have h1 := sum_le_mul wN 100 (pushK o xs k) (fun s hs => by
  rcases List.mem_append.1 hs with hs | hs
  ·exact out_data h s hs
  ·obtain ⟨i, _, rfl⟩ := List.mem_map.1 hs
   have := pcs_len xs i
   show (pcs xs i).length ≤ 100
   omega)
 have h2 := pushK_len o xs k
 unfold totL
 omega
theorem pkW_in {o : PO} {xs : List Nat} {k : Nat} (h : OutH o) (hk : k ≤ 300) : PPIn (pkW o xs k).pkt := by
 unfold OutH at h
 refine ⟨?_, ?_, ?_, ?_⟩ <;> dsimp only [pkW, IntIn] <;> omega
def fcAggW (lo : Nat) (e nx : Int) (k N : Nat) (D : List Nat) : Fct := ⟨fun v w => ∃ a c, v = .agg #[.int .i64 1, .int .i64 e, .int .i64 (nx + (k : Int)), .int .i64 0, .bool ((k : Int) == (N : Int) - 1), .slice a D.length c] ∧ w.ownsRow lo 5 1 (.slice a D.length c) D.length (byt D), fun _ _ _ ⟨a, c, e, h⟩ hb => ⟨a, c, e, own_later h hb⟩⟩
def npH (lo : Nat) (e nx : Int) (k N : Nat) (D : List Nat) (AL ST : Nat) (x : Nat → Bool) (t : Nat → Value) (w : World) : Prop := x ST = true → ∃ g a c, t AL = .pointer (some ⟨g, 0, none⟩) ∧ lo ≤ g ∧ w.heap[g]? = some (.cells #[.int .i64 1, .int .i64 e, .int .i64 (nx + (k : Int)), .int .i64 0, .bool ((k : Int) == (N : Int) - 1), .slice a D.length c] 139 (0, 0)) ∧ w.ownsRow lo 5 1 (.slice a D.length c) D.length (byt D) ∧ ∀ x, (Value.slice a D.length c).ownBlock = some x → x ≠ g
set_option linter.unusedVariables false in
def npST (lo gO k N bm om cm PL : Nat) (e nx : Int) (D : List Nat) : Nat → FX
 | 0 => FX.eq (.pointer (some ⟨gO, 0, none⟩))
 | 1 => FX.eq (.int .i64 e)
 | 2 => FX.eq (.pointer (some ⟨gO, 1, none⟩))
 | 3 => FX.eq (.int .i64 nx)
 | 4 => FX.eq (.int .i64 (k : Int))
 | 5 => FX.eq (.int .i64 (nx + (k : Int)))
 | 6 => FX.eq (.int .i64 (k : Int))
 | 7 => FX.eq (.int .i64 (N : Int))
 | 8 => FX.eq (.int .i64 ((N : Int) - 1))
 | 9 => FX.eq (.bool ((k : Int) == (N : Int) - 1))
 | 10 => FX.eq (.slice (some ⟨bm, om + k * 100, none⟩) PL (cm - k * 100))
 | 11 => FX.pre [14] (fcRowD lo D)
 | 12 => FX.pre [14] (fcAggW lo e nx k N D)
 | 13 => FX.pre [14] (fcNewD lo)
 | 14 => FX.is Fct.any
 | _ => FX.eq undef
set_option linter.unusedVariables false in
def npIT (lo gO k N bm om cm PL : Nat) (e nx : Int) (D : List Nat) : Nat → FX
 | 0 => FX.eq (.pointer (some ⟨gO, 0, none⟩))
 | 1 => FX.eq (.int .i64 e)
 | 2 => FX.eq (.pointer (some ⟨gO, 1, none⟩))
 | 3 => FX.eq (.int .i64 nx)
 | 4 => FX.eq (.int .i64 (k : Int))
 | 5 => FX.eq (.int .i64 (nx + (k : Int)))
 | 6 => FX.eq (.int .i64 (k : Int))
 | 7 => FX.eq (.int .i64 (N : Int))
 | 8 => FX.eq (.int .i64 ((N : Int) - 1))
 | 9 => FX.eq (.bool ((k : Int) == (N : Int) - 1))
 | 10 => FX.eq (.slice (some ⟨bm, om, none⟩) PL cm)
 | 11 => FX.eq (.int .i64 (k : Int))
 | 12 => FX.pre [15] (fcRowD lo D)
 | 13 => FX.pre [15] (fcAggW lo e nx k N D)
 | 14 => FX.pre [15] (fcNewD lo)
 | 15 => FX.is Fct.any
 | _ => FX.eq undef
set_option maxHeartbeats 4000000 in
theorem l5valid_raw (kind epoch seq count : Int) (last : Bool) (a : Option Addr) (n cap : Nat) (w : World) (B : Bool) (hT : (1 ≤ epoch ∧ epoch ≤ 1000000000 ∧ 0 ≤ seq ∧ seq ≤ 1000000000000 ∧ 0 ≤ count ∧ count ≤ 1000000000 ∧ ((kind = 1 ∧ seq < 1000000000000 ∧ count = 0 ∧ 1 ≤ n ∧ n ≤ 100) ∨ (lastN last = 0 ∧ n = 0 ∧ (kind = 2 ∨ (kind = 3 ∧ seq = 0) ∨ (kind = 4 ∧ seq = 0 ∧ count = 0))))) → B = true) (hF : ¬ (1 ≤ epoch ∧ epoch ≤ 1000000000 ∧ 0 ≤ seq ∧ seq ≤ 1000000000000 ∧ 0 ≤ count ∧ count ≤ 1000000000 ∧ ((kind = 1 ∧ seq < 1000000000000 ∧ count = 0 ∧ 1 ≤ n ∧ n ≤ 100) ∨ (lastN last = 0 ∧ n = 0 ∧ (kind = 2 ∨ (kind = 3 ∧ seq = 0) ∨ (kind = 4 ∧ seq = 0 ∧ count = 0))))) → B = false) (hn : n ≤ maxLen) :
  Calls Tryz.prog 109 #[.agg #[.int .i64 kind, .int .i64 epoch, .int .i64 seq, .int .i64 count, .bool last, .slice a n cap]] w fun e w' => e = .returned (.bool B) ∧ Below w.heap.size w w' := by
 have HT := hid hT
 have HF := hid hF
 unfold maxLen at hn
 clear hT hF
 by_cases c0 : kind < 1
 ·have HB := hid (HF.out (by omega))
  go_enter Tryz.func109, Tryz.ntmps109
  go_wp2
  go_ret
  exact ⟨(by rw [HB.out]; first | done | rfl), bN _ _⟩
 by_cases c1 : 4 < kind
 ·have HB := hid (HF.out (by omega))
  go_enter Tryz.func109, Tryz.ntmps109
  go_wp2
  go_ret
  exact ⟨(by rw [HB.out]; first | done | rfl), bN _ _⟩
 by_cases c2 : epoch < 1
 ·have HB := hid (HF.out (by omega))
  go_enter Tryz.func109, Tryz.ntmps109
  go_wp2
  go_ret
  exact ⟨(by rw [HB.out]; first | done | rfl), bN _ _⟩
 by_cases c3 : 1000000000 < epoch
 ·have HB := hid (HF.out (by omega))
  go_enter Tryz.func109, Tryz.ntmps109
  go_wp2
  go_ret
  exact ⟨(by rw [HB.out]; first | done | rfl), bN _ _⟩
 by_cases c4 : seq < 0
 ·have HB := hid (HF.out (by omega))
  go_enter Tryz.func109, Tryz.ntmps109
  go_wp2
  go_ret
  exact ⟨(by rw [HB.out]; first | done | rfl), bN _ _⟩
 by_cases c5 : 1000000000000 < seq
 ·have HB := hid (HF.out (by omega))
  go_enter Tryz.func109, Tryz.ntmps109
  go_wp2
  go_ret
  exact ⟨(by rw [HB.out]; first | done | rfl), bN _ _⟩
 by_cases c6 : count < 0
 ·have HB := hid (HF.out (by omega))
  go_enter Tryz.func109, Tryz.ntmps109
  go_wp2
  go_ret
  exact ⟨(by rw [HB.out]; first | done | rfl), bN _ _⟩
 by_cases c7 : 1000000000 < count
 ·have HB := hid (HF.out (by omega))
  go_enter Tryz.func109, Tryz.ntmps109
  go_wp2
  go_ret
  exact ⟨(by rw [HB.out]; first | done | rfl), bN _ _⟩
 by_cases k1 : kind = 1
 ·subst k1
  by_cases d0 : count = 0
  ·subst d0
   by_cases d1 : seq < 1000000000000
   ·by_cases d2 : 1 ≤ n
    ·have d2' : (1 : Int) ≤ (n : Int) := by omega
     by_cases d3 : n ≤ 100
     ·have d3' : (n : Int) ≤ 100 := by omega
      have HB := hid (HT.out (by omega))
      go_enter Tryz.func109, Tryz.ntmps109
      go_wp2
      go_ret
      exact ⟨(by rw [HB.out]; first | done | rfl), bN _ _⟩
     have d3' : decide ((n : Int) ≤ 100) = false := decide_eq_false (by omega)
     have HB := hid (HF.out (by omega))
     go_enter Tryz.func109, Tryz.ntmps109
     go_wp2
     go_ret
     exact ⟨(by rw [HB.out]; first | done | rfl), bN _ _⟩
    have d2' : (n : Int) < 1 := by omega
    have HB := hid (HF.out (by omega))
    go_enter Tryz.func109, Tryz.ntmps109
    go_wp2
    go_ret
    exact ⟨(by rw [HB.out]; first | done | rfl), bN _ _⟩
   have HB := hid (HF.out (by omega))
   go_enter Tryz.func109, Tryz.ntmps109
   go_wp2
   go_ret
   exact ⟨(by rw [HB.out]; first | done | rfl), bN _ _⟩
  have d0' : (count == 0) = false := by simpa using d0
  have HB := hid (HF.out (by omega))
  go_enter Tryz.func109, Tryz.ntmps109
  go_wp2
  go_ret
  exact ⟨(by rw [HB.out]; first | done | rfl), bN _ _⟩
 have k1' : (kind == 1) = false := by simpa using k1
 cases last with
 | true =>
  have hl : lastN true = 1 := rfl
  have HB := hid (HF.out (by omega))
  go_enter Tryz.func109, Tryz.ntmps109
  go_wp2
  go_ret
  exact ⟨(by rw [HB.out]; first | done | rfl), bN _ _⟩
 | false =>
  have hl : lastN false = 0 := rfl
  by_cases n0 : n = 0
  ·subst n0
   by_cases k2 : kind = 2
   ·subst k2
    have HB := hid (HT.out (by omega))
    go_enter Tryz.func109, Tryz.ntmps109
    go_wp2
    go_ret
    exact ⟨(by rw [HB.out]; first | done | rfl), bN _ _⟩
   have k2' : (kind == 2) = false := by simpa using k2
   by_cases s0 : seq = 0
   ·subst s0
    by_cases k3 : kind = 3
    ·subst k3
     have HB := hid (HT.out (by omega))
     go_enter Tryz.func109, Tryz.ntmps109
     go_wp2
     go_ret
     exact ⟨(by rw [HB.out]; first | done | rfl), bN _ _⟩
    have k3' : (kind == 3) = false := by simpa using k3
    by_cases x0 : count = 0
    ·subst x0
     have HB := hid (HT.out (by omega))
     go_enter Tryz.func109, Tryz.ntmps109
     go_wp2
     go_ret
     exact ⟨(by rw [HB.out]; first | done | rfl), bN _ _⟩
    have x0' : (count == 0) = false := by simpa using x0
    have HB := hid (HF.out (by omega))
    go_enter Tryz.func109, Tryz.ntmps109
    go_wp2
    go_ret
    exact ⟨(by rw [HB.out]; first | done | rfl), bN _ _⟩
   have s0' : (seq == 0) = false := by simpa using s0
   have HB := hid (HF.out (by omega))
   go_enter Tryz.func109, Tryz.ntmps109
   go_wp2
   go_ret
   exact ⟨(by rw [HB.out]; first | done | rfl), bN _ _⟩
  have n0' : ((n : Int) != 0) = true := by simp; omega
  have HB := hid (HF.out (by omega))
  go_enter Tryz.func109, Tryz.ntmps109
  go_wp2
  go_ret
  exact ⟨(by rw [HB.out]; first | done | rfl), bN _ _⟩
theorem l5valid_any (p : PP) (a : Option Addr) (cap : Nat) (w : World) (hn : p.data.length ≤ maxLen) :
  Calls Tryz.prog 109 #[.agg #[.int .i64 p.kind, .int .i64 p.epoch, .int .i64 p.seq, .int .i64 p.count, .bool p.last, .slice a p.data.length cap]] w fun e w' => e = .returned (.bool (pktOK p)) ∧ Below w.heap.size w w' :=
 l5valid_raw p.kind p.epoch p.seq p.count p.last a p.data.length cap w (pktOK p) (fun h => decide_eq_true h) (fun h => decide_eq_false h) hn
theorem box_laterP2 {w w' : World} {g : Nat} {o : Obj} (h : w.heap[g]? = some o) (hb : Below w.heap.size w w') : w'.heap[g]? = some o := (hb.block g (Array.getElem?_eq_some_iff.1 h).1).trans h
end Go.Proofs.YtfaehioeepolhabGreat
