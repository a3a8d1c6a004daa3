/- DecLib, PkiPost, PkiLit, CrcSpec, MKit, Facts. -/
import Derived.Test.YtfaehioeepolhaaGreatJPoll13
import Derived.Laws.ResultCell
import Derived.Test.YtfaehioeepolhaaGreatJPoll0
import Derived.Test.YtfaehioeepolhaaGreatJPoll6
import Derived.Deep.RegionHeld3
/- A struct and a code as results; pieces and single bytes of what came in. -/
namespace Go.Proofs.YtfaehioeepolhaaGreat
open Go.RowKit

/-- A piece of some bytes. -/
theorem rdB_cut {w : World} {xs : List Nat} {b off cap lo n : Nat} (h : RdSl cByte w xs (.slice (some ⟨b, off, none⟩) xs.length cap)) (hk : lo + n ≤ xs.length) : RdSl cByte w ((xs.drop lo).take n) (.slice (some ⟨b, off + lo, none⟩) n (cap - lo)) := by
  have := h.cut (lo := lo) (R := n) hk
  rw [show cByte.n = 1 from rfl, Nat.mul_one] at this
  simpa [addr_add0] using this

theorem byte_at {w : World} {xs : List Nat} {a : Option Addr} {n cap k : Nat} (h : RdSl cByte w xs (.slice a n cap)) (hk : k < xs.length) : ∃ b off K, a = some ⟨b, off, none⟩ ∧ xs[k]? = some K ∧ K < 256 ∧ w.cell? ⟨b, off + k, none⟩ = some (.int .u8 (K : Int)) := by
  obtain ⟨b, off, v, e, ⟨e2, h2⟩, d⟩ := h.at1 (k := k) rfl hk
  simp only [List.cons.injEq, and_true] at e2
  subst e2
  exact ⟨b, off, xs[k], e, List.getElem?_eq_getElem hk, h2, d⟩

end Go.Proofs.YtfaehioeepolhaaGreat

/- What PackInts leaves. -/
namespace Go.Proofs.YtfaehioeepolhaaGreat
open Go.RowKit

theorem infoByteP : (Tryz.prog.info? 5).map (fun i => (i.zero, i.size, i.bytes)) = some (some (.int .u8 0), 1, 1) := by kernel_rfl
def PkiPost (w : World) (R : List Nat × Int) (e : Ending) (w' : World) : Prop :=
  ∃ a c, e = .returned (.tuple #[.slice a R.1.length c, .int .i64 R.2]) ∧ w'.ownsRow w.heap.size 5 1 (.slice a R.1.length c) R.1.length (byt R.1) ∧ Below w.heap.size w w'
theorem pkiPost_mk {w w' : World} {R : List Nat} {n c : Nat} {C : Int} {a : Option Addr} (hl : R.length = n) (ho : w'.ownsRow w.heap.size 5 1 (.slice a n c) n (byt R)) (hb : Below w.heap.size w w') :
    PkiPost w (R, C) (.returned (.tuple #[.slice a n c, .int .i64 C])) w' := by
  subst hl
  exact ⟨a, c, rfl, ho, hb⟩
theorem pkiPost_nil {w w' : World} (C : Int) (hb : Below w.heap.size w w') : PkiPost w ([], C) (.returned (.tuple #[.slice none 0 0, .int .i64 C])) w' :=
  ⟨none, 0, rfl, World.ownsRow_nil _ _ _ _, hb⟩

theorem byt_snoc (xs : List Nat) (d : Nat) : byt (xs ++ [d]) = byt xs ++ [.int .u8 (d : Int)] := by simp [byt]

end Go.Proofs.YtfaehioeepolhaaGreat

/- spec.l1little. -/
namespace Go.Proofs.YtfaehioeepolhaaGreat
open Go.RowKit

set_option maxHeartbeats 1000000 in
set_option maxRecDepth 100000 in
theorem little_any (v : Int) (W : Nat) (w : World) (hW : W ≤ 8) (hv : IntIn v) :
    Calls Tryz.prog 160 #[.int .i64 v, .int .i64 (W : Int)] w fun e w' => ∃ v', e = .returned v' ∧ w'.ownsRow w.heap.size 5 1 v' W (byt (digs (U v) W)) ∧ Below w.heap.size w w' := by
  obtain ⟨i0, hi, hz0, hz1, hz2⟩ := info_parts infoByteP
  have hU := U_eq v
  have HV := hid hv
  clear hv
  have HL := hid (U_lt v)
  generalize U v = u at *
  go_enter Tryz.func160, Tryz.ntmps160
  go_wp2
  go_loopw [5, 6, 7] (fun r o i wr => ∃ k : Nat, k ≤ W ∧ i = .int .i64 k ∧ r = .int .u64 ((u / 256 ^ k : Nat) : Int) ∧ wr.ownsRow w.heap.size 5 1 o k (byt ((digs u W).take k)) ∧ Below w.heap.size w wr) (fun _ _ i _ => W - (intOf i).toNat)
  case atStart => exact ⟨0, Nat.zero_le _, rfl, by simp, by simpa [byt] using World.ownsRow_nil _ _ _ _, Below.refl _ _⟩
  case round =>
    obtain ⟨k, hk, rfl, rfl, how, hbe⟩ := hrel
    have HO := hid how
    have HB := hid hbe
    clear how hbe hU
    by_cases hlt : k < W
    · have HD := hid (digs_snoc u W k hlt)
      have HN := hid (div_next u k)
      have HR := hid (div_lt u k HL.out)
      generalize u / 256 ^ k = R at *
      have hki : (k : Int) < (W : Int) := by omega
      go_wp2_with (first | (at_builtin; refine wpList_append_own _ rfl _ _ 23 rfl w.heap.size 5 i0 (.int .u8 0) 1 1 Tryz.underlying23 hi hz0 hz1 hz2 rfl (by decide) _ k _ rfl (HO.out.alloc _) ⟨wr.heap.size, 0, none⟩ 1 1 [.int .u8 ((R : Int) % 256)] rfl rfl (cell_one_new _ _ _) (one_cell rfl) (by unfold maxLen; omega) (by omega) (by have := HB.out.size; simp; omega) ?_))
      intro v' w1 hown' hgrow _
      have HB1 : Hid (Below w.heap.size w w1) := hid ((HB.out.alloc HB.out.size _).grown hgrow (by have := HB.out.size; simp; omega) (fun k h => (World.ownsRow.lt HO.out k h).1))
      have HO1 : Hid (w1.ownsRow w.heap.size 5 1 v' (k + 1) (byt ((digs u W).take (k + 1)))) := hid (by
        rw [HD.out, byt_snoc]
        simpa using hown')
      clear hown' hgrow
      go_wp2
      go_roundw
      case rel => exact ⟨k + 1, by omega, by go_num, by rw [← HN.out, wrapU_div R HR.out], HO1.out, HB1.out⟩
      case measure => simp [intOf]; omega
    · obtain rfl : k = W := by omega
      have hO := HO.out
      rw [List.take_of_length_le (by rw [digs_len]; exact Nat.le_refl _)] at hO
      go_wp2
      go_ret
      exact ⟨_, rfl, hO, HB.out⟩

theorem little_row (v : Int) (W : Nat) (w : World) (h1 : 1 ≤ W) (hW : W ≤ 8) (hv : IntIn v) :
    Calls Tryz.prog 160 #[.int .i64 v, .int .i64 (W : Int)] w fun e w' => ∃ g c, e = .returned (.slice (some ⟨g, 0, none⟩) W c) ∧ w'.ownsRow w.heap.size 5 1 (.slice (some ⟨g, 0, none⟩) W c) W (byt (digs (U v) W)) ∧ Below w.heap.size w w' := by
  refine (little_any v W w hW hv).mono ?_
  rintro e w' ⟨v', rfl, ho, hb⟩
  rcases ho.2 with ⟨_, h0⟩ | ⟨g, cap, cur, rfl, _⟩
  · omega
  · exact ⟨g, cap, rfl, ho, hb⟩
end Go.Proofs.YtfaehioeepolhaaGreat

/- spec.Crc32. -/
namespace Go.Proofs.YtfaehioeepolhaaGreat
open Go.RowKit

set_option maxHeartbeats 800000 in
theorem specCrc_some (b off cap : Nat) (xs : List Nat) (w : World) (hx : ∀ i, (h : i < xs.length) → w.cell? ⟨b, off + i, none⟩ = some (.int .u8 (xs[i] : Int))) (hb : ∀ x ∈ xs, x < 256) (hn : xs.length ≤ 1099511627776) :
    Calls Tryz.prog 186 #[.slice (some ⟨b, off, none⟩) xs.length cap] w fun e w' => e = .returned (.int .u32 ((crcFold xs ^^^ 4294967295 : Nat) : Int)) ∧ w' = w := by
  go_enter Tryz.func186, Tryz.ntmps186
  go_wp2
  go_loop [3, 4] (fun h i => ∃ k : Nat, k ≤ xs.length ∧ i = .int .i64 k ∧ h = .int .u32 ((crcFold (xs.take k) : Nat) : Int)) (fun _ i => xs.length - (intOf i).toNat)
  case atStart => exact ⟨0, Nat.zero_le _, rfl, rfl⟩
  case round =>
    obtain ⟨k, hk, rfl, rfl⟩ := hrel
    have hfl := crcTake_lt xs hb k
    by_cases hlt : k < xs.length
    · have g1 := hx k hlt
      have hxk : xs[k] < 256 := hb _ (List.getElem_mem _)
      have hki : (k : Int) < (xs.length : Int) := by omega
      have HS : Hid (crcFold (xs.take (k + 1)) = crcIn (crcFold (xs.take k)) xs[k]) := foldl_snoc xs k hlt
      clear hx
      generalize crcFold (xs.take k) = h0 at *
      have hX := bits_xor_u32 h0 xs[k] hfl (by omega)
      have hs0 : h0 ^^^ xs[k] < 4294967296 := Nat.xor_lt_two_pow (n := 32) (by omega) (by omega)
      have HC : Hid (crcIn h0 xs[k] = csteps 8 (h0 ^^^ xs[k])) := rfl
      generalize h0 ^^^ xs[k] = s0 at *
      go_wp2
      go_loop [3, 5] (fun h i => ∃ j : Nat, j ≤ 8 ∧ i = .int .i64 j ∧ h = .int .u32 ((csteps j s0 : Nat) : Int)) (fun _ i => 8 - (intOf i).toNat)
      case atStart => exact ⟨0, Nat.zero_le _, rfl, rfl⟩
      case round =>
        obtain ⟨j, hj, rfl, rfl⟩ := hrel
        have hsl := csteps_lt j hs0
        have HJ : Hid (csteps (j + 1) s0 = cstep (csteps j s0)) := rfl
        by_cases hj8 : j < 8
        · clear hX
          generalize csteps j s0 = s at *
          by_cases hod : s % 2 = 1
          · have ht : ((s : Int) % 2 == 1) = true := by simp; omega
            have HX : Hid (bits .xor .u32 ((s : Int) / 2) 3988292384 = ((cstep s : Nat) : Int)) := xor_odd hsl hod
            have hod' : Hid (s % 2 = 1) := hod
            clear hod
            go_wp2
            go_round
            case rel => exact ⟨j + 1, by omega, by go_num, by rw [HJ.out, ← HX.out]⟩
            case measure => simp [intOf]; omega
          · have ht : ((s : Int) % 2 == 1) = false := by simp; omega
            have HX : Hid (((s : Int) / 2) = ((cstep s : Nat) : Int)) := hid (by rw [cstep_not hod]; simp)
            clear hod
            go_wp2
            go_round
            case rel => exact ⟨j + 1, by omega, by go_num, by rw [HJ.out, ← HX.out]⟩
            case measure => simp [intOf]; omega
        · obtain rfl : j = 8 := by omega
          have HE : Hid (csteps 8 s0 = crcFold (xs.take (k + 1))) := hid (by rw [HS.out, HC.out])
          generalize csteps 8 s0 = s8 at *
          clear hX
          go_wp2
          go_round
          case rel => exact ⟨k + 1, by omega, by go_num, by rw [HE.out]⟩
          case measure => simp [intOf]; omega
    · obtain rfl : k = xs.length := by omega
      rw [List.take_length] at *
      have HX := hid (bits_xor_full (crcFold xs) hfl)
      go_wp2
      go_ret
      exact ⟨ret_int HX.out, rfl⟩

set_option maxHeartbeats 400000 in
theorem specCrc_zero (a : Option Addr) (cap : Nat) (w : World) :
    Calls Tryz.prog 186 #[.slice a 0 cap] w fun e w' => e = .returned (.int .u32 ((crcFold [] ^^^ 4294967295 : Nat) : Int)) ∧ w' = w := by
  have hX := bits_xor_full 4294967295 (by decide)
  go_enter Tryz.func186, Tryz.ntmps186
  go_wp2
  refine wp_loop_rounds 1 ?_; rw [rounds_succ]
  go_wp2
  go_ret
  exact ⟨by simpa [crcFold] using hX, rfl⟩

theorem specCrc_any (a : Option Addr) (cap : Nat) (xs : List Nat) (w : World) (hr : Rd w a (byt xs)) (hb : ∀ x ∈ xs, x < 256) (hn : xs.length ≤ 1099511627776) :
    Calls Tryz.prog 186 #[.slice a xs.length cap] w fun e w' => e = .returned (.int .u32 ((crcFold xs ^^^ 4294967295 : Nat) : Int)) ∧ w' = w := by
  rcases hr with h0 | ⟨b, off, rfl, hc⟩
  · obtain rfl : xs = [] := by simpa [byt] using h0
    exact specCrc_zero a cap w
  · exact specCrc_some b off cap xs w (rdByte hc) hb hn
end Go.Proofs.YtfaehioeepolhaaGreat

/- What goes with encoded bytes: rows that were built, numbers, the post of an encoder. -/
namespace Go.Proofs.YtfaehioeepolhaaGreat
open Go.RowKit

theorem RdSl.vals1 {w : World} {xss : List (List Nat)} {a : Option Addr} {n cap : Nat} (h : RdSl cSS w xss (.slice a n cap)) :
    ∃ vals : List Value, vals.length = xss.length ∧ Rd w a vals ∧ (∀ u ∈ vals, u.oneCell' = true) ∧ ∀ i, (h : i < xss.length) → ∃ a' c', vals[i]? = some (.slice a' xss[i].length c') ∧ RdSl cByte w xss[i] (.slice a' xss[i].length c') := by
  obtain ⟨a', cap', e', _, _, _, h4⟩ := id h
  simp only [Value.slice.injEq] at e'
  obtain ⟨rfl, rfl, rfl⟩ := e'
  rcases h4 with rfl | ⟨b, off, rfl, hat⟩
  · exact ⟨[], rfl, .inl rfl, by simp, fun i h => by simp at h⟩
  · have hx : ∀ i : Fin xss.length, ∃ u : Value, w.cell? ⟨b, off + i.1, none⟩ = some u ∧ ∃ a' c', u = .slice a' xss[i.1].length c' ∧ RdSl cByte w xss[i.1] (.slice a' xss[i.1].length c') := fun i => by
      obtain ⟨b', off', a', c', e, hc, hr⟩ := h.row i.2
      simp at e
      obtain ⟨rfl, rfl⟩ := e
      exact ⟨_, hc, a', c', rfl, hr⟩
    refine ⟨(List.finRange xss.length).map fun i => Classical.choose (hx i), by simp, .inr ⟨b, off, rfl, fun i hi => ?_⟩, fun u hu => ?_, fun i hi => ?_⟩
    · have hi' : i < xss.length := by simpa using hi
      have := (Classical.choose_spec (hx ⟨i, hi'⟩)).1
      rw [this]; simp
    · simp only [List.mem_map] at hu
      obtain ⟨i, _, rfl⟩ := hu
      obtain ⟨_, _, e, _⟩ := (Classical.choose_spec (hx i)).2
      rw [e]; rfl
    · obtain ⟨a', c', e, hr⟩ := (Classical.choose_spec (hx ⟨i, hi⟩)).2
      exact ⟨a', c', by rw [List.getElem?_map]; simp [hi]; exact e, hr⟩
theorem RdSl.nilB {w : World} {xs : List Nat} {a : Option Addr} {cap : Nat} (h : RdSl cByte w xs (.slice a xs.length cap)) : a = none → cap = 0 := fun ha => (h.nil0 ha).2
/-- Lengths ahead of the buffers, as a slice of slices. -/
theorem rdSS_cons {w : World} {a al : Option Addr} {cl : Nat} {xs : List Nat} {xss : List (List Nat)} {vals : List Value} (hr : Rd w a (.slice al xs.length cl :: vals)) (hl : RdSl cByte w xs (.slice al xs.length cl)) (hv : vals.length = xss.length)
    (hi : ∀ i, (h : i < xss.length) → ∃ a' c', vals[i]? = some (.slice a' xss[i].length c') ∧ RdSl cByte w xss[i] (.slice a' xss[i].length c')) : RdSS w a (xs :: xss) := by
  refine ⟨.slice al xs.length cl :: vals, by simp [hv], hr, fun i h => ?_⟩
  cases i with
  | zero => exact ⟨al, cl, rfl, hl.rdB.1, hl.nilB⟩
  | succ i =>
    obtain ⟨a', c', h1, h2⟩ := hi i (by simpa using h)
    exact ⟨a', c', by simpa using h1, h2.rdB.1, h2.nilB⟩
theorem own_built {w : World} {B : Nat} {e : TypeId} {cs : Array Value} (hB : B ≤ w.heap.size) (hm : cs.size ≤ maxLen) : (w.alloc (.cells cs e)).ownsRow B e 1 (.slice (some ⟨w.heap.size, 0, none⟩) cs.size cs.size) cs.size cs.toList :=
  ⟨by simp, .inr ⟨w.heap.size, cs.size, cs, rfl, hB, heap_alloc_new w _, Nat.le_refl _, hm, by simp, by rw [Nat.mul_one]; exact List.take_of_length_le (by simp)⟩⟩
theorem U_nat (n : Nat) (h : n < 18446744073709551616) : U (n : Int) = n := by
  unfold U
  have : IntKind.u64.wrap (n : Int) = n := by
    rw [U_eq, U]
    simp [IntKind.wrap, IntKind.bits, IntKind.signed]
    omega
  rw [this]; simp
theorem wrap_u8 (n : Nat) (h : n < 256) : IntKind.u8.wrap (n : Int) = n := by
  simp [IntKind.wrap, IntKind.bits, IntKind.signed]; omega
theorem crcM_lt (xs : List Nat) (h : ∀ x ∈ xs, x < 256) : crcM xs < 4294967296 := by
  have h1 := crcTake_lt xs h xs.length
  rw [List.take_length] at h1
  unfold crcM
  have : crcFold xs ^^^ 4294967295 < 2 ^ 32 := Nat.xor_lt_two_pow (by omega) (by omega)
  omega

theorem join_lt (xss : List (List Nat)) (h : ∀ t ∈ xss, ∀ x ∈ t, x < 256) : ∀ x ∈ join xss, x < 256 := by
  have key : ∀ (l : List (List Nat)) (acc : List Nat), (∀ t ∈ l, ∀ x ∈ t, x < 256) → (∀ x ∈ acc, x < 256) → ∀ x ∈ l.foldl joinStep acc, x < 256 := by
    intro l
    induction l with
    | nil => intro acc _ h2; exact h2
    | cons t l ih => intro acc h1 h2; exact ih _ (fun u hu => h1 u (List.mem_cons_of_mem _ hu)) (joinStep_lt h2 (h1 t (by simp)))
  exact key xss [] h (by simp)
theorem infoByteM : (Tryz.prog.info? 5).map (fun i => (i.zero, i.size, i.bytes)) = some (some (.int .u8 0), 1, 1) := by kernel_rfl
theorem infoSlM : (Tryz.prog.info? 23).map (fun i => (i.zero, i.size, i.bytes)) = some (some (.slice none 0 0), 1, 24) := by kernel_rfl

/-- Bytes of the call's own. -/
def EncPost (w : World) (R : List Nat) (e : Ending) (w' : World) : Prop :=
  ∃ a c, e = .returned (.slice a R.length c) ∧ w'.ownsRow w.heap.size 5 1 (.slice a R.length c) R.length (byt R) ∧ Below w.heap.size w w'
theorem encPost_nil {w w' : World} {R : List Nat} (hb : Below w.heap.size w w') (hR : R = []) : EncPost w R (.returned (.slice none 0 0)) w' := by
  subst hR
  exact ⟨none, 0, rfl, World.ownsRow_nil _ _ _ _, hb⟩


end Go.Proofs.YtfaehioeepolhaaGreat

/- A region that draws its order, makes memory and calls: by what is known of each operation's value once it has come up. One step for each operation, whatever the order. -/
namespace Go.Proofs.YtfaehioeepolhaaGreat
open Go.RowKit

section
variable {P : Program} {ops : Array Oper} {Q : Exit → Act → World → Prop} {md : Region.Mode}

/-- Each operation waits for earlier ones alone. -/
def earlier (md : Region.Mode) (ops : Array Oper) : Bool :=
  (List.range ops.size).all fun i => ((ops[i]?).map fun o => o.after.all fun e => !Region.binds md e || decide (e.on < i)).getD true

theorem earlier_spec (h : earlier md ops = true) {i : Nat} {o : Oper} (ho : ops[i]? = some o) : ∀ e ∈ o.after, Region.binds md e = true → e.on < i := by
  intro e he hb
  have hi : i < ops.size := (Array.getElem?_eq_some_iff.1 ho).1
  have h1 := List.all_eq_true.1 h i (List.mem_range.2 hi)
  rw [ho] at h1
  simp only [Option.map_some, Option.getD_some] at h1
  have h2 := (Array.all_eq_true_iff_forall_mem.1 h1) e he
  simpa [hb] using h2

theorem all_listed (h : earlier md ops = true) {listed : Array Bool} (_hs : listed.size = ops.size) (hr : Region.ready md ops listed = []) : ∀ i, i < ops.size → listed.getD i false = true := by
  intro i
  induction i using Nat.strongRecOn with
  | ind i ih =>
    intro hi
    cases hc : listed.getD i false with
    | true => rfl
    | false =>
      exfalso
      have hlt : i < listed.size := by omega
      have h0 : listed.getD i true = false := by
        simp [Array.getD, hlt] at hc ⊢
        exact hc
      have : i ∈ Region.ready md ops listed := mem_ready.2 ⟨h0, ops[i], Array.getElem?_eq_getElem hi, fun e he hb => by
        have h3 := earlier_spec h (Array.getElem?_eq_getElem hi) e he hb
        exact ih e.on h3 (by omega)⟩
      rw [hr] at this
      cases this

/-- By an invariant over what has come up. -/
theorem wpAny_inv (hord : earlier md ops = true) (Inv : (Nat → Bool) → Act → World → Prop)
    (step : ∀ (x : Nat → Bool) (a : Act) (w : World) (i : Nat) (o : Oper), Inv x a w → ops[i]? = some o → (∀ e ∈ o.after, Region.binds md e = true → x e.on = true) → wpOp P ops Q i (fun a' w' => Inv (fun k => k == i || x k) a' w') a w)
    (done : ∀ (x : Nat → Bool) (a : Act) (w : World), Inv x a w → (∀ i, i < ops.size → x i = true) → Q .normal a w) :
    ∀ (fuel : Nat) (listed : Array Bool) (a : Act) (w : World), listed.size = ops.size → (listed.toList.filter (fun b => !b)).length ≤ fuel → Inv (fun k => listed.getD k false) a w → wpAny P md ops Q fuel listed a w := by
  intro fuel
  induction fuel with
  | zero =>
    intro listed a w hs hf hI
    have hall : ∀ b ∈ listed.toList, b = true := by
      intro b hb
      have h0 : listed.toList.filter (fun b => !b) = [] := List.length_eq_zero_iff.1 (by omega)
      rw [List.filter_eq_nil_iff] at h0
      simpa using h0 b hb
    have hg : ∀ i, i < ops.size → listed.getD i false = true := fun i hi => by
      have hlt : i < listed.size := by omega
      have := hall listed[i] (by simp)
      simp [Array.getD, hlt, this]
    have hr : Region.ready md ops listed = [] := by
      cases hc : Region.ready md ops listed with
      | nil => rfl
      | cons j l =>
        exfalso
        have hj : j ∈ Region.ready md ops listed := by rw [hc]; simp
        obtain ⟨h1, o, ho, _⟩ := mem_ready.1 hj
        have hjs : j < ops.size := (Array.getElem?_eq_some_iff.1 ho).1
        have h2 := hg j hjs
        have hlt : j < listed.size := by omega
        simp [Array.getD, hlt] at h1 h2
        rw [h1] at h2
        cases h2
    exact ⟨hr, done _ a w hI hg⟩
  | succ fuel ih =>
    intro listed a w hs hf hI
    refine ⟨fun hr => done _ a w hI (all_listed hord hs hr), fun i hi => ?_⟩
    obtain ⟨h1, o, ho, hall⟩ := mem_ready.1 hi
    have his : i < ops.size := (Array.getElem?_eq_some_iff.1 ho).1
    have hil : i < listed.size := by omega
    refine wpOp_mono (fun a' w' h => ih (listed.setIfInBounds i true) a' w' (by simpa using hs) ?_ ?_) (step _ a w i o hI ho hall)
    · have hfl : listed[i] = false := by simpa [Array.getD, hil] using h1
      have e1 : listed.toList = listed.toList.take i ++ false :: listed.toList.drop (i + 1) := by
        have h3 : listed.toList[i]'(by simpa using hil) = false := by simpa using hfl
        conv => lhs; rw [← List.take_append_drop i listed.toList, List.drop_eq_getElem_cons (by simpa using hil), h3]
      have e2 : (listed.setIfInBounds i true).toList = listed.toList.take i ++ true :: listed.toList.drop (i + 1) := by
        rw [Array.toList_setIfInBounds, List.set_eq_take_append_cons_drop, if_pos (by simpa using hil)]
      rw [e1] at hf
      rw [e2]
      simp only [List.filter_append, List.length_append, List.filter_cons] at hf ⊢
      simp at hf ⊢
      omega
    · have : (fun k => (listed.setIfInBounds i true).getD k false) = (fun k => k == i || listed.getD k false) := by
        funext k
        by_cases hk : k = i
        · subst hk; simp [Array.getD, hil]
        · rw [getD_set_ne false (Ne.symm hk)]; simp [hk]
      rw [this]
      exact h

/-- A value put in. -/
def upd (t : Nat → Value) (i : Nat) (v : Value) : Nat → Value := fun k => if k = i then v else t k

/-- The frame 'A' bears each operation's value; 'F i v w': what is known of operation i's value. All that comes up only makes memory. -/
theorem region_facts {id n : Nat} (hm : P.follows .mixedOrders = true) (hord : earlier .any ops = true) (hn : ops.size = n) (A : (Nat → Value) → Act) (F : Nat → Value → World → Prop) (G : World → Prop) (w0 : World)
    (hmono : ∀ i v w w', F i v w → Below w.heap.size w w' → F i v w')
    (t0 : Nat → Value) (hG : G w0.drew)
    (step : ∀ i, i < n → ∀ (t : Nat → Value) (w : World), G w → (∀ o, ops[i]? = some o → ∀ e ∈ o.after, Region.binds .any e = true → F e.on (t e.on) w) → wpOp P ops Q i (fun a' w' => ∃ v, a' = A (upd t i v) ∧ F i v w' ∧ G w' ∧ Below w.heap.size w w') (A t) w)
    (done : ∀ (t : Nat → Value) (w : World), G w → (∀ i, i < n → F i (t i) w) → Q .normal (A t) w) :
    (Code.region id ops true).wp P Q (A t0) w0 := by
  refine wp_region_any hm ?_
  refine wpAny_inv hord (fun x a w => ∃ t, a = A t ∧ G w ∧ ∀ k, k < n → x k = true → F k (t k) w) ?_ ?_ _ _ _ _ (by simp) ?_ ⟨t0, rfl, hG, fun k hk h => ?_⟩
  · rintro x a w i o ⟨t, rfl, hg, hf⟩ ho hx
    have hi : i < n := by rw [← hn]; exact (Array.getElem?_eq_some_iff.1 ho).1
    refine wpOp_mono ?_ (step i hi t w hg (fun o' ho' e he hb => ?_))
    · rintro a' w' ⟨v, rfl, h1, h2, h3⟩
      refine ⟨upd t i v, rfl, h2, fun k hk hxk => ?_⟩
      by_cases hki : k = i
      · subst hki; simpa [upd] using h1
      · have : x k = true := by simpa [hki] using hxk
        simpa [upd, hki] using hmono k _ w w' (hf k hk this) h3
    · rw [ho] at ho'
      cases ho'
      have h1 := earlier_spec hord ho e he hb
      exact hf _ (by omega) (hx e he hb)
  · rintro x a w ⟨t, rfl, hg, hf⟩ hx
    exact done t w hg (fun i hi => hf i hi (hx i (by omega)))
  · simp
  · dsimp only at h
    rw [Array.getD_eq_getD_getElem?, Array.getElem?_replicate] at h
    split at h <;> simp at h
end

/-- What may be known of a value, and stays so in later worlds. -/
structure Fct where
  p : Value → World → Prop
  mono : ∀ v w w', p v w → Below w.heap.size w w' → p v w'
def Fct.eq (u : Value) : Fct := ⟨fun v _ => v = u, fun _ _ _ h _ => h⟩
def Fct.any : Fct := ⟨fun _ _ => True, fun _ _ _ h _ => h⟩

/-- Operation j, for which operation i waits. -/
theorem dep {ops : Array Oper} {F : Nat → Value → World → Prop} {t : Nat → Value} {w : World} {i : Nat} (hd : ∀ o, ops[i]? = some o → ∀ e ∈ o.after, Region.binds .any e = true → F e.on (t e.on) w) (j : Nat)
    (h : ((ops[i]?).map fun o => o.after.any fun e => Region.binds .any e && e.on == j) = some true) : F j (t j) w := by
  cases ho : ops[i]? with
  | none => rw [ho] at h; simp at h
  | some o =>
    rw [ho] at h
    simp only [Option.map_some, Option.some.injEq] at h
    obtain ⟨k, hk, h2⟩ := Array.any_eq_true.1 h
    simp only [Bool.and_eq_true, beq_iff_eq] at h2
    have := hd o ho _ (Array.getElem_mem hk) h2.1
    rw [h2.2] at this
    exact this
theorem depT {ops : Array Oper} {T : Nat → Fct} {t : Nat → Value} {w : World} {i : Nat} (hd : ∀ o, ops[i]? = some o → ∀ e ∈ o.after, Region.binds .any e = true → (T e.on).p (t e.on) w) (j : Nat)
    (h : ((ops[i]?).map fun o => o.after.any fun e => Region.binds .any e && e.on == j) = some true) : (T j).p (t j) w := dep (F := fun i v w => (T i).p v w) hd j h

end Go.Proofs.YtfaehioeepolhaaGreat
