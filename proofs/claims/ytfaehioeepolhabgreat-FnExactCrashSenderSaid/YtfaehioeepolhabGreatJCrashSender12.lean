import Derived.Test.YtfaehioeepolhabGreatJCrashSender2
import Derived.Test.YtfaehioeepolhabGreatJCrashSender3
import Derived.Test.YtfaehioeepolhabGreatJCrashSender7
import Derived.Test.YtfaehioeepolhabGreatJCrashSender9
import Derived.Test.YtfaehioeepolhabGreatJCrashSender11
import Derived.Test.YtfaehioeepolhabGreatJCrashSender4
import Derived.Laws.AppendOwnNone
import Derived.Handy
import Derived.Test.YtfaehioeepolhabGreatJCrashSender0
import Derived.Deep.RegionHeld3
namespace Go.Proofs.YtfaehioeepolhabGreat
open Go.ChangeShapes Go.WideShapes Go.ChangeAt Go.RowKit
theorem opens_TabSs {H : Type} (enc : TypeId × Value → H) (W : World) : Opens enc Tryz.prog W 23 (cSl cTable 51) :=
 opens_slice Tryz.underlying23 (by kernel_rfl) (by decide) (opens_Table enc W) _
def cSnd : Cod PSnd := cMap (cPair (cSl cField 101) (cPair cInt (cPair cInt (cPair (cSl cTable 51) (cPair cInt (cPair cOut cStr)))))) fun r => (r.fields, r.epoch, r.base, r.tables, r.pushed, r.out, r.str)
theorem opens_Snd {H : Type} (enc : TypeId × Value → H) (W : World) : Opens enc Tryz.prog W 31 cSnd :=
 opens_struct7 Tryz.underlying31 rfl rfl rfl rfl rfl rfl rfl rfl (by kernel_rfl) (by kernel_rfl) (by kernel_rfl) (by kernel_rfl) (by kernel_rfl) (by kernel_rfl) (by kernel_rfl) (by kernel_rfl) (opens_FieldS enc W) (opens_int Tryz.underlying3) (opens_int Tryz.underlying3) (opens_TabSs enc W) (opens_int Tryz.underlying3) (opens_Out enc W) (opens_Str enc W) (fun x y z u v s q => ⟨x, y, z, u, v, s, q⟩) (fun _ _ _ _ _ _ _ => rfl)
def SenderIn (w : World) (v : Value) : Prop := ∃ (r : PSnd) (a0 a3 a1 a2 b2 : Option Addr) (c0 c3 c1 c2 d2 : Nat), v = .agg #[.slice a0 r.fields.length c0, .int .i64 r.epoch, .int .i64 r.base, .slice a3 r.tables.length c3, .int .i64 r.pushed, .int .i64 r.out.epoch, .int .i64 r.out.next, .int .i64 r.out.now, .slice a1 r.out.wait.length c1, .bool r.str.opened, .slice a2 r.str.fields.length c2, .int .i64 r.str.next, .slice b2 r.str.dicts.length d2] ∧ RdSnd w r a0 c0 a3 c3 a1 c1 a2 c2 b2 d2 ∧ IntIn r.epoch ∧ IntIn r.base ∧ IntIn r.pushed
theorem senderIn_of {H : Type} {enc : TypeId × Value → H} {W : World} {v : Value} {d : DataW H} {p : List MemPlace} (hv : ∃ cs, v = .agg cs ∧ cs.size = Tryz.prog.cellsOf 31) (h : DataW.Trod enc Tryz.prog W 0 (fun _ => true) true 31 v d p) : SenderIn W v := by
 obtain ⟨r, cs, rfl, hr⟩ := Opens.st (opens_Snd enc W) hv (by decide +kernel) h
 obtain ⟨_, _, rfl, ⟨u0, rfl, h0⟩, _, _, rfl, ⟨rfl, i0⟩, _, _, rfl, ⟨rfl, i1⟩, _, _, rfl, ⟨u3, rfl, h3⟩, _, _, rfl, ⟨rfl, i5⟩, _, _, rfl, ⟨_, _, rfl, ⟨rfl, i2⟩, _, _, rfl, ⟨rfl, i3⟩, _, _, rfl, ⟨rfl, i4⟩, u1, rfl, h1⟩, _, _, rfl, rfl, _, _, rfl, ⟨u2, rfl, h2⟩, _, _, rfl, ⟨rfl, i6⟩, u4, rfl, h4⟩ := hr
 obtain ⟨a0, c0, rfl, -⟩ := id h0
 obtain ⟨a3, c3, rfl, -⟩ := id h3
 obtain ⟨a1, c1, rfl, -⟩ := id h1
 obtain ⟨a2, c2, rfl, -⟩ := id h2
 obtain ⟨b2, d2, rfl, -⟩ := id h4
 exact ⟨r, a0, a3, a1, a2, b2, c0, c3, c1, c2, d2, rfl, ⟨h0, h3, h1, h2, h4⟩, i0, i1, i5⟩
end Go.Proofs.YtfaehioeepolhabGreat
namespace Go.Proofs.YtfaehioeepolhabGreat
open Go.RowKit
theorem own_apart {w : World} {B B' n n' : Nat} {e e' : TypeId} {v v' : Value} {vs vs' : List Value} (h : w.ownsRow B e 1 v n vs) (h' : w.ownsRow B' e' 1 v' n' vs') (hne : e ≠ e') : ∀ k p, v.ownBlock = some k → v'.ownBlock = some p → k ≠ p := by
 intro k p hk hp
 rcases h.2 with ⟨rfl, _⟩ | ⟨g, cap, cur, rfl, _, hh, _⟩
 ·simp [Value.ownBlock] at hk
 rcases h'.2 with ⟨rfl, _⟩ | ⟨g', cap', cur', rfl, _, hh', _⟩
 ·simp [Value.ownBlock] at hp
 simp [Value.ownBlock] at hk hp
 subst hk hp
 intro e
 subst e
 rw [hh] at hh'
 simp at hh'
 exact hne hh'.2
theorem append_any {P : Program} {w : World} {ops : Array Oper} {rest : List Oper} {o : Oper} {a : Act} {Q : Exit → Act → World → Prop} (hgd : o.guard = none) (s x : Operand) (t : TypeId)
  (ho : o.op = .call { callee := .builtin .append, args := #[s, x], argTypes := #[t, t] })
  (base : Nat) (e : TypeId) (i : TypeInfo) (z : Value) (bytes : Nat) (ht : P.underlying t = some (.slice e)) (hi : P.info? e = some i) (hz : i.zero = some z)
  (hsize : i.size = 1) (hby : i.bytes = bytes) (hzs : z.cells.size = 1)
  (v : Value) (n : Nat) (xs : List Value) (hs : a.eval s = v) (hown : w.ownsRow base e 1 v n xs)
  (ax : Option Addr) (m c : Nat) (news : List Value) (hx : a.eval x = .slice ax m c) (hl : news.length = m) (hnone : ax = none → m = 0 ∧ c = 0) (hrd : Rd w ax news) (h1 : ∀ u ∈ news, u.oneCell' = true)
  (h63 : n + m ≤ maxLen) (hbytes : (n + m) * bytes ≤ 140737488355328) (hbase : base ≤ w.heap.size)
  (h : ∀ v' w', w'.ownsRow base e 1 v' (n + m) (xs ++ news) → w.grownBy w' v.ownBlock → wpList P ops Q rest (a.put o.dst v') w') : wpList P ops Q (o :: rest) a w := by
 cases ax with
 | none =>
  obtain ⟨h2, h3⟩ := hnone rfl
  subst h2 h3
  have hnil : news = [] := List.length_eq_zero_iff.1 hl
  subst hnil
  exact wpList_append_own_none hgd s x t ho base e i 1 ht hi v n xs hs hown hx (h v w (by simpa using hown) (World.grownBy.refl _ _))
 | some ad =>
  refine wpList_append_own w hgd s x t ho base e i z 1 bytes ht hi hz hsize hby hzs (by decide) v n xs hs hown ad m c news hx (by omega) (fun j u hu => ?_) h1 h63 hbytes hbase fun v' w' g1 g2 _ => h v' w' g1 g2
  rcases hrd with h | ⟨b, off, h2, h3⟩
  ·subst h; simp at hu
  ·cases h2
   obtain ⟨hj, he⟩ := List.getElem?_eq_some_iff.1 hu
   rw [show (⟨b, off, none⟩ : Addr).add j = ⟨b, off + j, none⟩ from by unfold Addr.add; split <;> simp_all]
   rw [h3 j hj, he]
theorem infoByteT : (Tryz.prog.info? 5).map (fun i => (i.zero, i.size, i.bytes)) = some (some (.int .u8 0), 1, 1) := by kernel_rfl
theorem infoSlT : (Tryz.prog.info? 87).map (fun i => (i.zero, i.size, i.bytes)) = some (some (.slice none 0 0), 1, 24) := by kernel_rfl
theorem RdSl.nil0 {α : Type} {c : Cod α} {w : World} {xs : List α} {a : Option Addr} {cap : Nat} (h : RdSl c w xs (.slice a xs.length cap)) : a = none → xs.length = 0 ∧ cap = 0 := by
 obtain ⟨a', cap', e, h1, _, h2, _⟩ := h
 simp at e
 obtain ⟨rfl, rfl⟩ := e
 intro ha
 have := h2 ha
 omega
theorem RdSl.rdB {w : World} {xs : List Nat} {a : Option Addr} {cap : Nat} (h : RdSl cByte w xs (.slice a xs.length cap)) : Rd w a (byt xs) ∧ ∀ x ∈ xs, x < 256 := by
 obtain ⟨_, _, e', -, -, -, hrd, hby⟩ := h.bytes
 simp only [Value.slice.injEq] at e'
 obtain ⟨rfl, -, rfl⟩ := e'
 exact ⟨hrd, hby⟩
set_option maxHeartbeats 1000000 in
theorem l1copy_any (a : Option Addr) (cap : Nat) (xs : List Nat) (w : World) (hr : RdSl cByte w xs (.slice a xs.length cap)) (hl : xs.length ≤ 1048576) :
  Calls Tryz.prog 69 #[.slice a xs.length cap] w fun e w' => ∃ v, e = .returned v ∧ w'.ownsRow w.heap.size 5 1 v xs.length (byt xs) ∧ Below w.heap.size w w' := by
 obtain ⟨i0, hi, hz0, hz1, hz2⟩ := info_parts infoByteT
 have HR := hid hr.rdB.1
 have HN := hid hr.nil0
 clear hr
 go_enter Tryz.func69, Tryz.ntmps69
 go_wp2_with (first | (at_builtin; refine append_any rfl _ _ 87 rfl w.heap.size 5 i0 (.int .u8 0) 1 Tryz.underlying87 hi hz0 hz1 hz2 rfl _ 0 [] rfl (World.ownsRow_nil _ _ _ _) a xs.length cap (byt xs) rfl (byt_len _) HN.out HR.out (byt_one _) (by unfold maxLen; omega) (by omega) (Nat.le_refl _) ?_))
 intro v' w1 hown hgrow
 have HB : Hid (Below w.heap.size w w1) := hid ((Below.refl _ w).grown hgrow (Nat.le_refl _) (by intro k h; cases h))
 have HO : Hid (w1.ownsRow w.heap.size 5 1 v' xs.length (byt xs)) := hid (by simpa using hown)
 clear hown hgrow
 go_wp2
 go_ret
 exact ⟨_, rfl, HO.out, HB.out⟩
def Txts (B : Nat) (wr : World) (v : Value) (xss : List (List Nat)) : Prop :=
 ∃ vals : List Value, wr.ownsRow B 87 1 v xss.length vals ∧ ∀ i, (h : i < xss.length) → ∃ u, vals[i]? = some u ∧ wr.ownsRow B 5 1 u xss[i].length (byt xss[i]) ∧ ∀ x ∈ xss[i], x < 256
theorem Txts.nil (B : Nat) (w : World) : Txts B w (.slice none 0 0) [] := ⟨[], World.ownsRow_nil _ _ _ _, fun i h => by simp at h⟩
theorem Txts.later {B : Nat} {w w' : World} {v : Value} {xss : List (List Nat)} (h : Txts B w v xss) (hb : Below w.heap.size w w') : Txts B w' v xss := by
 obtain ⟨vals, ho, hi⟩ := h
 exact ⟨vals, own_later ho hb, fun i h => by obtain ⟨u, h1, h2, h3⟩ := hi i h; exact ⟨u, h1, own_later h2 hb, h3⟩⟩
theorem Txts.mono {B B' : Nat} {w : World} {v : Value} {xss : List (List Nat)} (h : Txts B w v xss) (hb : B' ≤ B) : Txts B' w v xss := by
 obtain ⟨vals, ho, hi⟩ := h
 exact ⟨vals, own_mono ho hb, fun i h => by obtain ⟨u, h1, h2, h3⟩ := hi i h; exact ⟨u, h1, own_mono h2 hb, h3⟩⟩
theorem own_rdSl {B n : Nat} {w : World} {u : Value} {xs : List Nat} (h : w.ownsRow B 5 1 u n (byt xs)) (h3 : ∀ x ∈ xs, x < 256) : RdSl cByte w xs u := (ownSl_bytes h h3).rd
theorem Txts.rd {B : Nat} {w : World} {v : Value} {xss : List (List Nat)} (h : Txts B w v xss) : RdSl cSS w xss v := by
 obtain ⟨vals, ho, hi⟩ := h
 have hvl : vals.length = xss.length := by have := ho.1; omega
 rcases ho.2 with ⟨rfl, h0⟩ | ⟨g, cap, cur, rfl, hg, hh, hn, hm, r⟩
 ·obtain rfl := List.length_eq_zero_iff.1 h0
  exact RdSl.empty none
 ·refine ⟨_, cap, rfl, hn, hm, (fun h => by cases h), .inr ⟨g, 0, rfl, fun i h => ?_⟩⟩
  obtain ⟨u, hu, hr, h3⟩ := hi i h
  refine ⟨[u], ⟨u, rfl, own_rdSl hr h3⟩, fun j hj => ?_⟩
  have hj0 : j = 0 := by simpa using hj
  subst hj0
  have := World.ownsRow.cellAt ho i (by omega)
  rw [show 0 + (i * cSS.n + 0) = i from by simp [cSl], this, hu]; rfl
theorem Txts.join {B : Nat} {w w1 : World} {v v' : Value} {xss yss : List (List Nat)} {vals us : List Value} (ho : w.ownsRow B 87 1 v xss.length vals)
  (hi : ∀ i, (h : i < xss.length) → ∃ u, vals[i]? = some u ∧ w.ownsRow B 5 1 u xss[i].length (byt xss[i]) ∧ ∀ x ∈ xss[i], x < 256)
  (_hul : us.length = yss.length)
  (hj : ∀ i, (h : i < yss.length) → ∃ u, us[i]? = some u ∧ w.ownsRow B 5 1 u yss[i].length (byt yss[i]) ∧ ∀ x ∈ yss[i], x < 256)
  (ho1 : w1.ownsRow B 87 1 v' (xss.length + yss.length) (vals ++ us)) (hg : w.grownBy w1 v.ownBlock) : Txts B w1 v' (xss ++ yss) := by
 have hvl : vals.length = xss.length := by have := ho.1; omega
 have keep : ∀ (u : Value) (xs : List Nat), w.ownsRow B 5 1 u xs.length (byt xs) → w1.ownsRow B 5 1 u xs.length (byt xs) := fun u xs hu => own_marked hu hg (own_apart hu ho (by decide))
 refine ⟨vals ++ us, by simpa using ho1, fun i h => ?_⟩
 by_cases e : i < xss.length
 ·obtain ⟨u, h1, h2, h3⟩ := hi i e
  rw [List.getElem_append_left e]
  exact ⟨u, by rw [List.getElem?_append_left (by omega)]; exact h1, keep _ _ h2, h3⟩
 ·have h' : i - xss.length < yss.length := by simp at h; omega
  obtain ⟨u, h1, h2, h3⟩ := hj (i - xss.length) h'
  rw [List.getElem_append_right (by omega)]
  exact ⟨u, by rw [List.getElem?_append_right (by omega), hvl]; exact h1, keep _ _ h2, h3⟩
theorem Txts.snoc {B : Nat} {w w1 : World} {v v' u : Value} {xss : List (List Nat)} {t : List Nat} {vals : List Value} (ho : w.ownsRow B 87 1 v xss.length vals)
  (hi : ∀ i, (h : i < xss.length) → ∃ u, vals[i]? = some u ∧ w.ownsRow B 5 1 u xss[i].length (byt xss[i]) ∧ ∀ x ∈ xss[i], x < 256)
  (hu : w.ownsRow B 5 1 u t.length (byt t)) (h3 : ∀ x ∈ t, x < 256)
  (ho1 : w1.ownsRow B 87 1 v' (xss.length + 1) (vals ++ [u])) (hg : w.grownBy w1 v.ownBlock) : Txts B w1 v' (xss ++ [t]) :=
 Txts.join ho hi (us := [u]) (yss := [t]) rfl (fun i h => by
  have hi0 : i = 0 := by simpa using h
  subst hi0
  exact ⟨u, rfl, hu, h3⟩) ho1 hg
theorem Txts.len {B : Nat} {w : World} {v : Value} {xss : List (List Nat)} (h : Txts B w v xss) : ∃ a c, v = .slice a xss.length c := by
 obtain ⟨a, c, e, _⟩ := h.rd
 exact ⟨a, c, e⟩
section
variable {P : Program} {ops : Array Oper} {Q : Exit → Act → World → Prop} {md : Region.Mode}
def earlier (md : Region.Mode) (ops : Array Oper) : Bool :=
 (List.range ops.size).all fun i => ((ops[i]?).map fun o => o.after.all fun e => !Region.binds md e || decide (e.on < i)).getD true
theorem earlier_spec (h : earlier md ops = true) {i : Nat} {o : Oper} (ho : ops[i]? = some o) : ∀ e ∈ o.after, Region.binds md e = true → e.on < i := by
 intro e he hb
 have hi : i < ops.size := (Array.getElem?_eq_some_iff.1 ho).1
 have h1 := List.all_eq_true.1 h i (List.mem_range.2 hi)
 rw [ho] at h1
 simp only [Option.map_some, Option.getD_some] at h1
 have h2 := (Array.all_eq_true_iff_forall_mem.1 h1) e he
 simpa [hb] using h2
theorem all_listed (h : earlier md ops = true) {listed : Array Bool} (_hs : listed.size = ops.size) (hr : Region.ready md ops listed = []) : ∀ i, i < ops.size → listed.getD i false = true := by
 intro i
 induction i using Nat.strongRecOn with
 | ind i ih =>
  intro hi
  cases hc : listed.getD i false with
  | true => rfl
  | false =>
   exfalso
   have hlt : i < listed.size := by omega
   have h0 : listed.getD i true = false := by
    simp [Array.getD, hlt] at hc ⊢
    exact hc
   have : i ∈ Region.ready md ops listed := mem_ready.2 ⟨h0, ops[i], Array.getElem?_eq_getElem hi, fun e he hb => by
    have h3 := earlier_spec h (Array.getElem?_eq_getElem hi) e he hb
    exact ih e.on h3 (by omega)⟩
   rw [hr] at this
   cases this
theorem wpAny_inv (hord : earlier md ops = true) (Inv : (Nat → Bool) → Act → World → Prop)
  (step : ∀ (x : Nat → Bool) (a : Act) (w : World) (i : Nat) (o : Oper), Inv x a w → ops[i]? = some o → (∀ e ∈ o.after, Region.binds md e = true → x e.on = true) → wpOp P ops Q i (fun a' w' => Inv (fun k => k == i || x k) a' w') a w)
  (done : ∀ (x : Nat → Bool) (a : Act) (w : World), Inv x a w → (∀ i, i < ops.size → x i = true) → Q .normal a w) :
  ∀ (fuel : Nat) (listed : Array Bool) (a : Act) (w : World), listed.size = ops.size → (listed.toList.filter (fun b => !b)).length ≤ fuel → Inv (fun k => listed.getD k false) a w → wpAny P md ops Q fuel listed a w := by
 intro fuel
 induction fuel with
 | zero =>
  intro listed a w hs hf hI
  have hall : ∀ b ∈ listed.toList, b = true := by
   intro b hb
   have h0 : listed.toList.filter (fun b => !b) = [] := List.length_eq_zero_iff.1 (by omega)
   rw [List.filter_eq_nil_iff] at h0
   simpa using h0 b hb
  have hg : ∀ i, i < ops.size → listed.getD i false = true := fun i hi => by
   have hlt : i < listed.size := by omega
   have := hall listed[i] (by simp)
   simp [Array.getD, hlt, this]
  have hr : Region.ready md ops listed = [] := by
   cases hc : Region.ready md ops listed with
   | nil => rfl
   | cons j l =>
    exfalso
    have hj : j ∈ Region.ready md ops listed := by rw [hc]; simp
    obtain ⟨h1, o, ho, _⟩ := mem_ready.1 hj
    have hjs : j < ops.size := (Array.getElem?_eq_some_iff.1 ho).1
    have h2 := hg j hjs
    have hlt : j < listed.size := by omega
    simp [Array.getD, hlt] at h1 h2
    rw [h1] at h2
    cases h2
  exact ⟨hr, done _ a w hI hg⟩
 | succ fuel ih =>
  intro listed a w hs hf hI
  refine ⟨fun hr => done _ a w hI (all_listed hord hs hr), fun i hi => ?_⟩
  obtain ⟨h1, o, ho, hall⟩ := mem_ready.1 hi
  have his : i < ops.size := (Array.getElem?_eq_some_iff.1 ho).1
  have hil : i < listed.size := by omega
  refine wpOp_mono (fun a' w' h => ih (listed.setIfInBounds i true) a' w' (by simpa using hs) ?_ ?_) (step _ a w i o hI ho hall)
  ·have hfl : listed[i] = false := by simpa [Array.getD, hil] using h1
   have e1 : listed.toList = listed.toList.take i ++ false :: listed.toList.drop (i + 1) := by
    have h3 : listed.toList[i]'(by simpa using hil) = false := by simpa using hfl
    conv => lhs; rw [← List.take_append_drop i listed.toList, List.drop_eq_getElem_cons (by simpa using hil), h3]
   have e2 : (listed.setIfInBounds i true).toList = listed.toList.take i ++ true :: listed.toList.drop (i + 1) := by
    rw [Array.toList_setIfInBounds, List.set_eq_take_append_cons_drop, if_pos (by simpa using hil)]
   rw [e1] at hf
   rw [e2]
   simp only [List.filter_append, List.length_append, List.filter_cons] at hf ⊢
   simp at hf ⊢
   omega
  ·have : (fun k => (listed.setIfInBounds i true).getD k false) = (fun k => k == i || listed.getD k false) := by
    funext k
    by_cases hk : k = i
    ·subst hk; simp [Array.getD, hil]
    ·rw [getD_set_ne false (Ne.symm hk)]; simp [hk]
   rw [this]
   exact h
def upd (t : Nat → Value) (i : Nat) (v : Value) : Nat → Value := fun k => if k = i then v else t k
theorem region_facts {id n : Nat} (hm : P.follows .mixedOrders = true) (hord : earlier .any ops = true) (hn : ops.size = n) (A : (Nat → Value) → Act) (F : Nat → Value → World → Prop) (G : World → Prop) (w0 : World)
  (hmono : ∀ i v w w', F i v w → Below w.heap.size w w' → F i v w')
  (t0 : Nat → Value) (hG : G w0.drew)
  (step : ∀ i, i < n → ∀ (t : Nat → Value) (w : World), G w → (∀ o, ops[i]? = some o → ∀ e ∈ o.after, Region.binds .any e = true → F e.on (t e.on) w) → wpOp P ops Q i (fun a' w' => ∃ v, a' = A (upd t i v) ∧ F i v w' ∧ G w' ∧ Below w.heap.size w w') (A t) w)
  (done : ∀ (t : Nat → Value) (w : World), G w → (∀ i, i < n → F i (t i) w) → Q .normal (A t) w) :
  (Code.region id ops true).wp P Q (A t0) w0 := by
 refine wp_region_any hm ?_
 refine wpAny_inv hord (fun x a w => ∃ t, a = A t ∧ G w ∧ ∀ k, k < n → x k = true → F k (t k) w) ?_ ?_ _ _ _ _ (by simp) ?_ ⟨t0, rfl, hG, fun k hk h => ?_⟩
 ·rintro x a w i o ⟨t, rfl, hg, hf⟩ ho hx
  have hi : i < n := by rw [← hn]; exact (Array.getElem?_eq_some_iff.1 ho).1
  refine wpOp_mono ?_ (step i hi t w hg (fun o' ho' e he hb => ?_))
  ·rintro a' w' ⟨v, rfl, h1, h2, h3⟩
   refine ⟨upd t i v, rfl, h2, fun k hk hxk => ?_⟩
   by_cases hki : k = i
   ·subst hki; simpa [upd] using h1
   ·have : x k = true := by simpa [hki] using hxk
    simpa [upd, hki] using hmono k _ w w' (hf k hk this) h3
  ·rw [ho] at ho'
   cases ho'
   have h1 := earlier_spec hord ho e he hb
   exact hf _ (by omega) (hx e he hb)
 ·rintro x a w ⟨t, rfl, hg, hf⟩ hx
  exact done t w hg (fun i hi => hf i hi (hx i (by omega)))
 ·simp
 ·dsimp only at h
  rw [Array.getD_eq_getD_getElem?, Array.getElem?_replicate] at h
  split at h <;> simp at h
end
structure Fct where
 p : Value → World → Prop
 mono : ∀ v w w', p v w → Below w.heap.size w w' → p v w'
def Fct.eq (u : Value) : Fct := ⟨fun v _ => v = u, fun _ _ _ h _ => h⟩
def Fct.any : Fct := ⟨fun _ _ => True, fun _ _ _ h _ => h⟩
theorem dep {ops : Array Oper} {F : Nat → Value → World → Prop} {t : Nat → Value} {w : World} {i : Nat} (hd : ∀ o, ops[i]? = some o → ∀ e ∈ o.after, Region.binds .any e = true → F e.on (t e.on) w) (j : Nat)
  (h : ((ops[i]?).map fun o => o.after.any fun e => Region.binds .any e && e.on == j) = some true) : F j (t j) w := by
 cases ho : ops[i]? with
 | none => rw [ho] at h; simp at h
 | some o =>
  rw [ho] at h
  simp only [Option.map_some, Option.some.injEq] at h
  obtain ⟨k, hk, h2⟩ := Array.any_eq_true.1 h
  simp only [Bool.and_eq_true, beq_iff_eq] at h2
  have := hd o ho _ (Array.getElem_mem hk) h2.1
  rw [h2.2] at this
  exact this
theorem depT {ops : Array Oper} {T : Nat → Fct} {t : Nat → Value} {w : World} {i : Nat} (hd : ∀ o, ops[i]? = some o → ∀ e ∈ o.after, Region.binds .any e = true → (T e.on).p (t e.on) w) (j : Nat)
  (h : ((ops[i]?).map fun o => o.after.any fun e => Region.binds .any e && e.on == j) = some true) : (T j).p (t j) w := dep (F := fun i v w => (T i).p v w) hd j h
end Go.Proofs.YtfaehioeepolhabGreat
