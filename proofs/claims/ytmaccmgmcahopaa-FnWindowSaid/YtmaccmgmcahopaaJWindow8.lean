/- JoinSpec, MsgSpec, EncSpec, Str, SameL1, DecKit, ResD, DecLib, Facts. -/
import Derived.Test.YtmaccmgmcahopaaJWindow3
import Derived.Test.YtmaccmgmcahopaaJWindow4
import Derived.Laws.AppendOwnNone
import Derived.Test.YtmaccmgmcahopaaJWindow7
import Derived.Test.YtmaccmgmcahopaaJWindow6
import Derived.Test.YtmaccmgmcahopaaJWindow0
import Derived.Laws.BytesString
import Derived.Test.YtmaccmgmcahopaaJWindow2
import Derived.Laws.ResultCell
import Derived.Deep.RegionHeld3
/- spec.JoinAligned. -/
namespace Go.Proofs.Ytmaccmgmcahopaa
open Go.RowKit

theorem infoByteJspec : (Try.prog.info? 5).map (fun i => (i.zero, i.size, i.bytes)) = some (some (.int .u8 0), 1, 1) := by kernel_rfl

theorem join_len (xss : List (List Nat)) : (join xss).length ≤ tot xss + 8 * xss.length := by
  have key : ∀ k, k ≤ xss.length → (join (xss.take k)).length ≤ tot (xss.take k) + 8 * k := by
    intro k
    induction k with
    | zero => intro _; simp [join]
    | succ k ih =>
      intro h
      have h1 := ih (by omega)
      rw [join_snoc xss k (by omega), joinStep_len, tot_snoc xss k (by omega)]
      have := padn_le ((join (xss.take k)).length + xss[k].length)
      omega
  have := key xss.length (Nat.le_refl _)
  rwa [List.take_length] at this

end Go.Proofs.Ytmaccmgmcahopaa

/- spec.l4encode. -/
namespace Go.Proofs.Ytmaccmgmcahopaa
open Go.RowKit

end Go.Proofs.Ytmaccmgmcahopaa

/- spec.EncodeMessage. -/
namespace Go.Proofs.Ytmaccmgmcahopaa
open Go.RowKit

theorem tot_le_join (xss : List (List Nat)) : tot xss ≤ (join xss).length := by
  have key : ∀ k, k ≤ xss.length → tot (xss.take k) ≤ (join (xss.take k)).length := by
    intro k
    induction k with
    | zero => intro _; simp [tot]
    | succ k ih =>
      intro h
      have h1 := join_next xss k (by omega)
      have h2 := tot_snoc xss k (by omega)
      have h3 := (evn_le xss[k].length).1
      have := ih (by omega)
      omega
  have := key xss.length (Nat.le_refl _)
  rwa [List.take_length] at this
theorem encB_ge (m : PM) : tot m.bufs ≤ (encB m).length := by
  have h := tot_le_join (lensM m.bufs :: m.bufs)
  have h2 : tot (lensM m.bufs :: m.bufs) = 4 * m.bufs.length + tot m.bufs := by simp [tot, lensM_len]
  simp only [encB, encM, bodyM, List.length_append, headM_len]
  omega
theorem encR_bad {m : PM} (h : msgOK m = false) : encR m = [] := by unfold encR; rw [if_neg (by simp [h])]
theorem encR_big {m : PM} (h : 20000 < (encB m).length) : encR m = [] := by unfold encR; rw [if_neg (by omega)]
theorem encR_ok {m : PM} (h : msgOK m = true) (hl : (encB m).length ≤ 20000) : encR m = encB m := by unfold encR; rw [if_pos ⟨h, hl⟩]
theorem encR_len (m : PM) : (encR m).length ≤ 20000 := by
  unfold encR
  split
  · rename_i h; exact h.2
  · simp
end Go.Proofs.Ytmaccmgmcahopaa

/- Bytes as a string. No program. -/
namespace Go.Proofs.Ytmaccmgmcahopaa
open Go.RowKit

def bstr (xs : List Nat) : ByteArray := ⟨(xs.map fun x => UInt8.ofNat x).toArray⟩

theorem bstr_foldl (ns : List Nat) : ∀ s : ByteArray, ns.foldl (fun (r : ByteArray) (n : Nat) => r.push (UInt8.ofNat n)) s = ⟨s.data ++ (ns.map fun x => UInt8.ofNat x).toArray⟩ := by
  induction ns with
  | nil => intro s; simp
  | cons n ns ih =>
    intro s
    rw [List.foldl_cons, ih]
    simp [ByteArray.push]

theorem bstr_inj {xs ys : List Nat} (hx : ∀ x ∈ xs, x < 256) (hy : ∀ x ∈ ys, x < 256) (h : bstr xs = bstr ys) : xs = ys := by
  unfold bstr at h
  simp only [ByteArray.mk.injEq] at h
  have h' := congrArg Array.toList h
  simp only at h'
  clear h
  induction xs generalizing ys with
  | nil => cases ys <;> simp_all
  | cons x xs ih =>
    cases ys with
    | nil => simp at h'
    | cons y ys =>
      simp only [List.map_cons, List.cons.injEq] at h'
      have h1 : x = y := by
        have e := congrArg UInt8.toNat h'.1
        have a := hx x (by simp)
        have b := hy y (by simp)
        simp only [UInt8.toNat_ofNat'] at e
        omega
      rw [h1, ih (fun z hz => hx z (by simp [hz])) (fun z hz => hy z (by simp [hz])) h'.2]
theorem bstr_eq {xs ys : List Nat} (hx : ∀ x ∈ xs, x < 256) (hy : ∀ x ∈ ys, x < 256) : bstr xs = bstr ys ↔ xs = ys := ⟨bstr_inj hx hy, fun h => by rw [h]⟩
theorem bstr_beq {xs ys : List Nat} (hx : ∀ x ∈ xs, x < 256) (hy : ∀ x ∈ ys, x < 256) : decide (xs = ys) = ((bstr xs).toList == (bstr ys).toList) := by
  rw [ByteArray.toList_eq, ByteArray.toList_eq]
  by_cases h : xs = ys
  · subst h; simp
  · have h1 : (bstr xs).data.toList ≠ (bstr ys).data.toList := fun e => h (bstr_inj hx hy (by
      have := Array.toList_inj.1 e
      cases hb : bstr xs; cases hc : bstr ys; simp_all))
    rw [decide_eq_false h]
    exact (beq_eq_false_iff_ne.2 h1).symm
theorem bstr_size (xs : List Nat) : (bstr xs).size = xs.length := by simp [bstr, ByteArray.size]

/-- string(b). -/
theorem run_bstr {P : Program} {w : World} {src dst e : TypeId} (hs : P.underlying src = some (.slice e)) (he : P.underlying e = some (.int .u8)) (hd : P.underlying dst = some .string)
    {a : Option Addr} {xs : List Nat} {c : Nat} (h : Rd w a (byt xs)) : (convert src dst (.slice a xs.length c)).run P w = .ok (.string (bstr xs)) w := by
  rw [run_convert_bytes_string w src dst e a xs.length c hs he hd]
  cases a with
  | none =>
    obtain rfl : xs = [] := by
      rcases h with h | ⟨b, off, h, _⟩
      · simpa [byt] using h
      · cases h
    simp [Conv.bytesToString, Sem.run_pure, bstr]
    rfl
  | some a =>
    have hl : (loadCells a xs.length).run P w = .ok ((xs.map (fun x : Nat => (x : Int))).map (Value.int .u8)).toArray w := by
      have := run_loadCells_list (P := P) (w := w) a (byt xs) (by
        intro j v hj
        rcases h with h | ⟨b, off, h1, hc⟩
        · rw [h] at hj; simp at hj
        · cases h1
          obtain ⟨h2, h3⟩ := List.getElem?_eq_some_iff.1 hj
          have h4 := hc j h2
          have hadd : (⟨b, off, none⟩ : Addr).add j = ⟨b, off + j, none⟩ := by unfold Addr.add; split <;> simp_all
          rw [hadd, h4, h3])
      simpa [byt, List.map_map, Function.comp_def] using this
    rw [run_bytesToString w a _ _ _ hl, List.foldl_map]
    simp only [Int.toNat_natCast]
    rw [bstr_foldl]
    simp [bstr]

end Go.Proofs.Ytmaccmgmcahopaa

/- spec.l1same: are two texts the same? -/
namespace Go.Proofs.Ytmaccmgmcahopaa
open Go.RowKit

end Go.Proofs.Ytmaccmgmcahopaa

/- spec.l1number, l4even; what is read, step by step. -/
namespace Go.Proofs.Ytmaccmgmcahopaa
open Go.RowKit

theorem pst_none {b : List Nat} {n k : Nat} (h : pst b n k = none) : ∀ j, k ≤ j → pst b n j = none := by
  intro j
  induction j with
  | zero => intro hj; have : k = 0 := by omega
            subst this; exact h
  | succ j ih =>
    intro hj
    by_cases e : k = j + 1
    · subst e; exact h
    · have := ih (by omega)
      simp [pst, this]
theorem pst_next {b : List Nat} {n k : Nat} {bs : List (List Nat)} {at_ : Nat} (h : pst b n k = some (bs, at_)) : pst b n (k + 1) =
    if b.length < 12 + 4 * k ∨ b.length < at_ ∨ b.length - at_ < num ((b.drop (8 + 4 * k)).take 4) then none
    else some (bs ++ [(b.drop at_).take (num ((b.drop (8 + 4 * k)).take 4))], at_ + evn (num ((b.drop (8 + 4 * k)).take 4))) := by
  simp [pst, h]
theorem pst_tot {b : List Nat} {n : Nat} : ∀ {k : Nat} {bs : List (List Nat)} {at_ : Nat}, pst b n k = some (bs, at_) → tot bs ≤ at_ ∧ tot bs ≤ b.length ∧ bs.length = k ∧ at_ ≤ 8 + evn (4 * n) + b.length + 7 * k := by
  intro k
  induction k with
  | zero =>
    intro bs at_ h
    simp only [pst, Option.some.injEq, Prod.mk.injEq] at h
    obtain ⟨rfl, rfl⟩ := h
    simp [tot]
  | succ k ih =>
    intro bs at_ h
    cases hp : pst b n k with
    | none => simp [pst, hp] at h
    | some r =>
      obtain ⟨bs0, at0⟩ := r
      obtain ⟨h1, h2, h3, h4⟩ := ih hp
      rw [pst_next hp] at h
      split at h
      · cases h
      · rename_i hc
        simp only [Option.some.injEq, Prod.mk.injEq] at h
        obtain ⟨rfl, rfl⟩ := h
        have he := evn_le (num ((b.drop (8 + 4 * k)).take 4))
        have hl : ((b.drop at0).take (num ((b.drop (8 + 4 * k)).take 4))).length = num ((b.drop (8 + 4 * k)).take 4) := by simp; omega
        have ht : tot (bs0 ++ [(b.drop at0).take (num ((b.drop (8 + 4 * k)).take 4))]) = tot bs0 + num ((b.drop (8 + 4 * k)).take 4) := by
          unfold tot; rw [List.map_append, List.sum_append]; simp only [List.map_cons, List.map_nil, List.sum_cons, List.sum_nil, hl]; omega
        rw [ht]
        refine ⟨by omega, by omega, by simp [h3], ?_⟩
        omega
def noMsg : PM := ⟨0, 0, 0, []⟩
def decP (b : List Nat) : PM := (decR b).getD noMsg
def decC (b : List Nat) : Int := if (decR b).isSome then 0 else 3
theorem dec_none {b : List Nat} (h : decR b = none) : decP b = noMsg ∧ decC b = 3 := by simp [decP, decC, h]
theorem dec_some {b : List Nat} {m : PM} (h : decR b = some m) : decP b = m ∧ decC b = 0 := by simp [decP, decC, h]
theorem decR_short {b : List Nat} (h : b.length < 12 ∨ 20000 < b.length) : decR b = none := by unfold decR parseM; rw [if_pos h]
theorem decR_stop {b : List Nat} {k : Nat} (hk : k ≤ nB b) (h : pst b (nB b) k = none) : decR b = none := by
  have h2 := pst_none h (nB b) hk
  unfold decR parseM
  split
  · rfl
  · rename_i m hp
    split at hp
    · cases hp
    · rw [h2] at hp; cases hp
theorem decR_end {b : List Nat} {bs : List (List Nat)} {at_ : Nat} (h1 : ¬ (b.length < 12 ∨ 20000 < b.length)) (h : pst b (nB b) (nB b) = some (bs, at_)) :
    decR b = if encR ⟨(b[2]?.getD 0 : Nat), (b[3]?.getD 0 : Nat), (num ((b.drop 4).take 2) : Nat), bs⟩ = b then some ⟨(b[2]?.getD 0 : Nat), (b[3]?.getD 0 : Nat), (num ((b.drop 4).take 2) : Nat), bs⟩ else none := by
  unfold decR parseM
  rw [if_neg h1, h]

end Go.Proofs.Ytmaccmgmcahopaa

/- A struct and a number handed back. No program. -/
namespace Go.Proofs.Ytmaccmgmcahopaa
open Go.RowKit

theorem results_cell_row_tmpD {P : Program} {fn : Func} {p u : Tmp} {ty : TypeId} (h : fn.results = #[.cell p ty, .tmp u]) (tmps : Array Value) (w : World) (g : Nat) (t : TypeId) (cs : Array Value) (fr : Nat × Nat) (d : TypeDesc)
    (hp : tmps.getD p undef = .pointer (some ⟨g, 0, none⟩)) (hg : w.heap[g]? = some (.cells cs t fr))
    (hu : P.underlying ty = some d) (hd : (match d with | .struct _ | .array _ _ => true | _ => false) = true) (hi : (P.info? ty).map (·.size) = some cs.size) :
    (results fn tmps).run P w = .ok (.tuple #[.agg cs, tmps.getD u undef]) w := by
  rw [results_cell_tmp h, hp]
  simp [asAddr, run_loadVar_row w g t ty cs fr d hg hu hd hi]

end Go.Proofs.Ytmaccmgmcahopaa

/- A struct and a code as results; pieces and single bytes of what came in. -/
namespace Go.Proofs.Ytmaccmgmcahopaa
open Go.RowKit

/-- A piece of some bytes. -/
theorem rdB_cut {w : World} {xs : List Nat} {b off cap lo n : Nat} (h : RdSl cByte w xs (.slice (some ⟨b, off, none⟩) xs.length cap)) (hk : lo + n ≤ xs.length) : RdSl cByte w ((xs.drop lo).take n) (.slice (some ⟨b, off + lo, none⟩) n (cap - lo)) := by
  have := h.cut (lo := lo) (R := n) hk
  rw [show cByte.n = 1 from rfl, Nat.mul_one] at this
  simpa [addr_add0] using this

theorem byte_at {w : World} {xs : List Nat} {a : Option Addr} {n cap k : Nat} (h : RdSl cByte w xs (.slice a n cap)) (hk : k < xs.length) : ∃ b off K, a = some ⟨b, off, none⟩ ∧ xs[k]? = some K ∧ K < 256 ∧ w.cell? ⟨b, off + k, none⟩ = some (.int .u8 (K : Int)) := by
  obtain ⟨b, off, v, e, ⟨e2, h2⟩, d⟩ := h.at1 (k := k) rfl hk
  simp only [List.cons.injEq, and_true] at e2
  subst e2
  exact ⟨b, off, xs[k], e, List.getElem?_eq_getElem hk, h2, d⟩

end Go.Proofs.Ytmaccmgmcahopaa

/- A region that draws its order, makes memory and calls: by what is known of each operation's value once it has come up. One step for each operation, whatever the order. -/
namespace Go.Proofs.Ytmaccmgmcahopaa
open Go.RowKit

section
variable {P : Program} {ops : Array Oper} {Q : Exit → Act → World → Prop} {md : Region.Mode}

/-- Each operation waits for earlier ones alone. -/
def earlier (md : Region.Mode) (ops : Array Oper) : Bool :=
  (List.range ops.size).all fun i => ((ops[i]?).map fun o => o.after.all fun e => !Region.binds md e || decide (e.on < i)).getD true

theorem earlier_spec (h : earlier md ops = true) {i : Nat} {o : Oper} (ho : ops[i]? = some o) : ∀ e ∈ o.after, Region.binds md e = true → e.on < i := by
  intro e he hb
  have hi : i < ops.size := (Array.getElem?_eq_some_iff.1 ho).1
  have h1 := List.all_eq_true.1 h i (List.mem_range.2 hi)
  rw [ho] at h1
  simp only [Option.map_some, Option.getD_some] at h1
  have h2 := (Array.all_eq_true_iff_forall_mem.1 h1) e he
  simpa [hb] using h2

theorem all_listed (h : earlier md ops = true) {listed : Array Bool} (_hs : listed.size = ops.size) (hr : Region.ready md ops listed = []) : ∀ i, i < ops.size → listed.getD i false = true := by
  intro i
  induction i using Nat.strongRecOn with
  | ind i ih =>
    intro hi
    cases hc : listed.getD i false with
    | true => rfl
    | false =>
      exfalso
      have hlt : i < listed.size := by omega
      have h0 : listed.getD i true = false := by
        simp [Array.getD, hlt] at hc ⊢
        exact hc
      have : i ∈ Region.ready md ops listed := mem_ready.2 ⟨h0, ops[i], Array.getElem?_eq_getElem hi, fun e he hb => by
        have h3 := earlier_spec h (Array.getElem?_eq_getElem hi) e he hb
        exact ih e.on h3 (by omega)⟩
      rw [hr] at this
      cases this

/-- By an invariant over what has come up. -/
theorem wpAny_inv (hord : earlier md ops = true) (Inv : (Nat → Bool) → Act → World → Prop)
    (step : ∀ (x : Nat → Bool) (a : Act) (w : World) (i : Nat) (o : Oper), Inv x a w → ops[i]? = some o → (∀ e ∈ o.after, Region.binds md e = true → x e.on = true) → wpOp P ops Q i (fun a' w' => Inv (fun k => k == i || x k) a' w') a w)
    (done : ∀ (x : Nat → Bool) (a : Act) (w : World), Inv x a w → (∀ i, i < ops.size → x i = true) → Q .normal a w) :
    ∀ (fuel : Nat) (listed : Array Bool) (a : Act) (w : World), listed.size = ops.size → (listed.toList.filter (fun b => !b)).length ≤ fuel → Inv (fun k => listed.getD k false) a w → wpAny P md ops Q fuel listed a w := by
  intro fuel
  induction fuel with
  | zero =>
    intro listed a w hs hf hI
    have hall : ∀ b ∈ listed.toList, b = true := by
      intro b hb
      have h0 : listed.toList.filter (fun b => !b) = [] := List.length_eq_zero_iff.1 (by omega)
      rw [List.filter_eq_nil_iff] at h0
      simpa using h0 b hb
    have hg : ∀ i, i < ops.size → listed.getD i false = true := fun i hi => by
      have hlt : i < listed.size := by omega
      have := hall listed[i] (by simp)
      simp [Array.getD, hlt, this]
    have hr : Region.ready md ops listed = [] := by
      cases hc : Region.ready md ops listed with
      | nil => rfl
      | cons j l =>
        exfalso
        have hj : j ∈ Region.ready md ops listed := by rw [hc]; simp
        obtain ⟨h1, o, ho, _⟩ := mem_ready.1 hj
        have hjs : j < ops.size := (Array.getElem?_eq_some_iff.1 ho).1
        have h2 := hg j hjs
        have hlt : j < listed.size := by omega
        simp [Array.getD, hlt] at h1 h2
        rw [h1] at h2
        cases h2
    exact ⟨hr, done _ a w hI hg⟩
  | succ fuel ih =>
    intro listed a w hs hf hI
    refine ⟨fun hr => done _ a w hI (all_listed hord hs hr), fun i hi => ?_⟩
    obtain ⟨h1, o, ho, hall⟩ := mem_ready.1 hi
    have his : i < ops.size := (Array.getElem?_eq_some_iff.1 ho).1
    have hil : i < listed.size := by omega
    refine wpOp_mono (fun a' w' h => ih (listed.setIfInBounds i true) a' w' (by simpa using hs) ?_ ?_) (step _ a w i o hI ho hall)
    · have hfl : listed[i] = false := by simpa [Array.getD, hil] using h1
      have e1 : listed.toList = listed.toList.take i ++ false :: listed.toList.drop (i + 1) := by
        have h3 : listed.toList[i]'(by simpa using hil) = false := by simpa using hfl
        conv => lhs; rw [← List.take_append_drop i listed.toList, List.drop_eq_getElem_cons (by simpa using hil), h3]
      have e2 : (listed.setIfInBounds i true).toList = listed.toList.take i ++ true :: listed.toList.drop (i + 1) := by
        rw [Array.toList_setIfInBounds, List.set_eq_take_append_cons_drop, if_pos (by simpa using hil)]
      rw [e1] at hf
      rw [e2]
      simp only [List.filter_append, List.length_append, List.filter_cons] at hf ⊢
      simp at hf ⊢
      omega
    · have : (fun k => (listed.setIfInBounds i true).getD k false) = (fun k => k == i || listed.getD k false) := by
        funext k
        by_cases hk : k = i
        · subst hk; simp [Array.getD, hil]
        · rw [getD_set_ne false (Ne.symm hk)]; simp [hk]
      rw [this]
      exact h

/-- A value put in. -/
def upd (t : Nat → Value) (i : Nat) (v : Value) : Nat → Value := fun k => if k = i then v else t k

/-- The frame 'A' bears each operation's value; 'F i v w': what is known of operation i's value. All that comes up only makes memory. -/
theorem region_facts {id n : Nat} (hm : P.follows .mixedOrders = true) (hord : earlier .any ops = true) (hn : ops.size = n) (A : (Nat → Value) → Act) (F : Nat → Value → World → Prop) (G : World → Prop) (w0 : World)
    (hmono : ∀ i v w w', F i v w → Below w.heap.size w w' → F i v w')
    (t0 : Nat → Value) (hG : G w0.drew)
    (step : ∀ i, i < n → ∀ (t : Nat → Value) (w : World), G w → (∀ o, ops[i]? = some o → ∀ e ∈ o.after, Region.binds .any e = true → F e.on (t e.on) w) → wpOp P ops Q i (fun a' w' => ∃ v, a' = A (upd t i v) ∧ F i v w' ∧ G w' ∧ Below w.heap.size w w') (A t) w)
    (done : ∀ (t : Nat → Value) (w : World), G w → (∀ i, i < n → F i (t i) w) → Q .normal (A t) w) :
    (Code.region id ops true).wp P Q (A t0) w0 := by
  refine wp_region_any hm ?_
  refine wpAny_inv hord (fun x a w => ∃ t, a = A t ∧ G w ∧ ∀ k, k < n → x k = true → F k (t k) w) ?_ ?_ _ _ _ _ (by simp) ?_ ⟨t0, rfl, hG, fun k hk h => ?_⟩
  · rintro x a w i o ⟨t, rfl, hg, hf⟩ ho hx
    have hi : i < n := by rw [← hn]; exact (Array.getElem?_eq_some_iff.1 ho).1
    refine wpOp_mono ?_ (step i hi t w hg (fun o' ho' e he hb => ?_))
    · rintro a' w' ⟨v, rfl, h1, h2, h3⟩
      refine ⟨upd t i v, rfl, h2, fun k hk hxk => ?_⟩
      by_cases hki : k = i
      · subst hki; simpa [upd] using h1
      · have : x k = true := by simpa [hki] using hxk
        simpa [upd, hki] using hmono k _ w w' (hf k hk this) h3
    · rw [ho] at ho'
      cases ho'
      have h1 := earlier_spec hord ho e he hb
      exact hf _ (by omega) (hx e he hb)
  · rintro x a w ⟨t, rfl, hg, hf⟩ hx
    exact done t w hg (fun i hi => hf i hi (hx i (by omega)))
  · simp
  · dsimp only at h
    rw [Array.getD_eq_getD_getElem?, Array.getElem?_replicate] at h
    split at h <;> simp at h
end

/-- What may be known of a value, and stays so in later worlds. -/
structure Fct where
  p : Value → World → Prop
  mono : ∀ v w w', p v w → Below w.heap.size w w' → p v w'
def Fct.eq (u : Value) : Fct := ⟨fun v _ => v = u, fun _ _ _ h _ => h⟩
def Fct.any : Fct := ⟨fun _ _ => True, fun _ _ _ h _ => h⟩

/-- Operation j, for which operation i waits. -/
theorem dep {ops : Array Oper} {F : Nat → Value → World → Prop} {t : Nat → Value} {w : World} {i : Nat} (hd : ∀ o, ops[i]? = some o → ∀ e ∈ o.after, Region.binds .any e = true → F e.on (t e.on) w) (j : Nat)
    (h : ((ops[i]?).map fun o => o.after.any fun e => Region.binds .any e && e.on == j) = some true) : F j (t j) w := by
  cases ho : ops[i]? with
  | none => rw [ho] at h; simp at h
  | some o =>
    rw [ho] at h
    simp only [Option.map_some, Option.some.injEq] at h
    obtain ⟨k, hk, h2⟩ := Array.any_eq_true.1 h
    simp only [Bool.and_eq_true, beq_iff_eq] at h2
    have := hd o ho _ (Array.getElem_mem hk) h2.1
    rw [h2.2] at this
    exact this
theorem depT {ops : Array Oper} {T : Nat → Fct} {t : Nat → Value} {w : World} {i : Nat} (hd : ∀ o, ops[i]? = some o → ∀ e ∈ o.after, Region.binds .any e = true → (T e.on).p (t e.on) w) (j : Nat)
    (h : ((ops[i]?).map fun o => o.after.any fun e => Region.binds .any e && e.on == j) = some true) : (T j).p (t j) w := dep (F := fun i v w => (T i).p v w) hd j h

end Go.Proofs.Ytmaccmgmcahopaa
