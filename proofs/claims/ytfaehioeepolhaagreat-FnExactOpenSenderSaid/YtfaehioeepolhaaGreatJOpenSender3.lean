import Derived.Test.YtfaehioeepolhaaGreatJOpenSender2
import Derived.Laws.AppendOwnNone
import Derived.Handy
import Derived.Test.YtfaehioeepolhaaGreatJOpenSender0
import Derived.Deep.RegionHeld3
namespace Go.Proofs.YtfaehioeepolhaaGreat
open Go.RowKit
theorem own_apart {w : World} {B B' n n' : Nat} {e e' : TypeId} {v v' : Value} {vs vs' : List Value} (h : w.ownsRow B e 1 v n vs) (h' : w.ownsRow B' e' 1 v' n' vs') (hne : e ≠ e') : ∀ k p, v.ownBlock = some k → v'.ownBlock = some p → k ≠ p := by
  intro k p hk hp
  rcases h.2 with ⟨rfl, _⟩ | ⟨g, cap, cur, rfl, _, hh, _⟩
  · simp [Value.ownBlock] at hk
  rcases h'.2 with ⟨rfl, _⟩ | ⟨g', cap', cur', rfl, _, hh', _⟩
  · simp [Value.ownBlock] at hp
  simp [Value.ownBlock] at hk hp
  subst hk hp
  intro e
  subst e
  rw [hh] at hh'
  simp at hh'
  exact hne hh'.2
theorem append_any {P : Program} {w : World} {ops : Array Oper} {rest : List Oper} {o : Oper} {a : Act} {Q : Exit → Act → World → Prop} (hgd : o.guard = none) (s x : Operand) (t : TypeId)
    (ho : o.op = .call { callee := .builtin .append, args := #[s, x], argTypes := #[t, t] })
    (base : Nat) (e : TypeId) (i : TypeInfo) (z : Value) (bytes : Nat) (ht : P.underlying t = some (.slice e)) (hi : P.info? e = some i) (hz : i.zero = some z)
    (hsize : i.size = 1) (hby : i.bytes = bytes) (hzs : z.cells.size = 1)
    (v : Value) (n : Nat) (xs : List Value) (hs : a.eval s = v) (hown : w.ownsRow base e 1 v n xs)
    (ax : Option Addr) (m c : Nat) (news : List Value) (hx : a.eval x = .slice ax m c) (hl : news.length = m) (hnone : ax = none → m = 0 ∧ c = 0) (hrd : Rd w ax news) (h1 : ∀ u ∈ news, u.oneCell' = true)
    (h63 : n + m ≤ maxLen) (hbytes : (n + m) * bytes ≤ 140737488355328) (hbase : base ≤ w.heap.size)
    (h : ∀ v' w', w'.ownsRow base e 1 v' (n + m) (xs ++ news) → w.grownBy w' v.ownBlock → wpList P ops Q rest (a.put o.dst v') w') : wpList P ops Q (o :: rest) a w := by
  cases ax with
  | none =>
    obtain ⟨h2, h3⟩ := hnone rfl
    subst h2 h3
    have hnil : news = [] := List.length_eq_zero_iff.1 hl
    subst hnil
    exact wpList_append_own_none hgd s x t ho base e i 1 ht hi v n xs hs hown hx (h v w (by simpa using hown) (World.grownBy.refl _ _))
  | some ad =>
    refine wpList_append_own w hgd s x t ho base e i z 1 bytes ht hi hz hsize hby hzs (by decide) v n xs hs hown ad m c news hx (by omega) (fun j u hu => ?_) h1 h63 hbytes hbase fun v' w' g1 g2 _ => h v' w' g1 g2
    rcases hrd with h | ⟨b, off, h2, h3⟩
    · subst h; simp at hu
    · cases h2
      obtain ⟨hj, he⟩ := List.getElem?_eq_some_iff.1 hu
      rw [show (⟨b, off, none⟩ : Addr).add j = ⟨b, off + j, none⟩ from by unfold Addr.add; split <;> simp_all]
      rw [h3 j hj, he]
theorem infoByteT : (Tryz.prog.info? 5).map (fun i => (i.zero, i.size, i.bytes)) = some (some (.int .u8 0), 1, 1) := by kernel_rfl
theorem infoSlT : (Tryz.prog.info? 23).map (fun i => (i.zero, i.size, i.bytes)) = some (some (.slice none 0 0), 1, 24) := by kernel_rfl
theorem RdSl.nil0 {α : Type} {c : Cod α} {w : World} {xs : List α} {a : Option Addr} {cap : Nat} (h : RdSl c w xs (.slice a xs.length cap)) : a = none → xs.length = 0 ∧ cap = 0 := by
  obtain ⟨a', cap', e, h1, _, h2, _⟩ := h
  simp at e
  obtain ⟨rfl, rfl⟩ := e
  intro ha
  have := h2 ha
  omega
theorem RdSl.rdB {w : World} {xs : List Nat} {a : Option Addr} {cap : Nat} (h : RdSl cByte w xs (.slice a xs.length cap)) : Rd w a (byt xs) ∧ ∀ x ∈ xs, x < 256 := by
  obtain ⟨_, _, e', -, -, -, hrd, hby⟩ := h.bytes
  simp only [Value.slice.injEq] at e'
  obtain ⟨rfl, -, rfl⟩ := e'
  exact ⟨hrd, hby⟩
set_option maxHeartbeats 1000000 in
theorem l1copy_any (a : Option Addr) (cap : Nat) (xs : List Nat) (w : World) (hr : RdSl cByte w xs (.slice a xs.length cap)) (hl : xs.length ≤ 1048576) :
    Calls Tryz.prog 164 #[.slice a xs.length cap] w fun e w' => ∃ v, e = .returned v ∧ w'.ownsRow w.heap.size 5 1 v xs.length (byt xs) ∧ Below w.heap.size w w' := by
  obtain ⟨i0, hi, hz0, hz1, hz2⟩ := info_parts infoByteT
  have HR := hid hr.rdB.1
  have HN := hid hr.nil0
  clear hr
  go_enter Tryz.func164, Tryz.ntmps164
  go_wp2_with (first | (at_builtin; refine append_any rfl _ _ 23 rfl w.heap.size 5 i0 (.int .u8 0) 1 Tryz.underlying23 hi hz0 hz1 hz2 rfl _ 0 [] rfl (World.ownsRow_nil _ _ _ _) a xs.length cap (byt xs) rfl (byt_len _) HN.out HR.out (byt_one _) (by unfold maxLen; omega) (by omega) (Nat.le_refl _) ?_))
  intro v' w1 hown hgrow
  have HB : Hid (Below w.heap.size w w1) := hid ((Below.refl _ w).grown hgrow (Nat.le_refl _) (by intro k h; cases h))
  have HO : Hid (w1.ownsRow w.heap.size 5 1 v' xs.length (byt xs)) := hid (by simpa using hown)
  clear hown hgrow
  go_wp2
  go_ret
  exact ⟨_, rfl, HO.out, HB.out⟩
def Txts (B : Nat) (wr : World) (v : Value) (xss : List (List Nat)) : Prop :=
  ∃ vals : List Value, wr.ownsRow B 23 1 v xss.length vals ∧ ∀ i, (h : i < xss.length) → ∃ u, vals[i]? = some u ∧ wr.ownsRow B 5 1 u xss[i].length (byt xss[i]) ∧ ∀ x ∈ xss[i], x < 256
theorem Txts.nil (B : Nat) (w : World) : Txts B w (.slice none 0 0) [] := ⟨[], World.ownsRow_nil _ _ _ _, fun i h => by simp at h⟩
theorem Txts.later {B : Nat} {w w' : World} {v : Value} {xss : List (List Nat)} (h : Txts B w v xss) (hb : Below w.heap.size w w') : Txts B w' v xss := by
  obtain ⟨vals, ho, hi⟩ := h
  exact ⟨vals, own_later ho hb, fun i h => by obtain ⟨u, h1, h2, h3⟩ := hi i h; exact ⟨u, h1, own_later h2 hb, h3⟩⟩
theorem Txts.mono {B B' : Nat} {w : World} {v : Value} {xss : List (List Nat)} (h : Txts B w v xss) (hb : B' ≤ B) : Txts B' w v xss := by
  obtain ⟨vals, ho, hi⟩ := h
  exact ⟨vals, own_mono ho hb, fun i h => by obtain ⟨u, h1, h2, h3⟩ := hi i h; exact ⟨u, h1, own_mono h2 hb, h3⟩⟩
theorem own_rdSl {B n : Nat} {w : World} {u : Value} {xs : List Nat} (h : w.ownsRow B 5 1 u n (byt xs)) (h3 : ∀ x ∈ xs, x < 256) : RdSl cByte w xs u := (ownSl_bytes h h3).rd
theorem Txts.rd {B : Nat} {w : World} {v : Value} {xss : List (List Nat)} (h : Txts B w v xss) : RdSl cSS w xss v := by
  obtain ⟨vals, ho, hi⟩ := h
  have hvl : vals.length = xss.length := by have := ho.1; omega
  rcases ho.2 with ⟨rfl, h0⟩ | ⟨g, cap, cur, rfl, hg, hh, hn, hm, r⟩
  · obtain rfl := List.length_eq_zero_iff.1 h0
    exact RdSl.empty none
  · refine ⟨_, cap, rfl, hn, hm, (fun h => by cases h), .inr ⟨g, 0, rfl, fun i h => ?_⟩⟩
    obtain ⟨u, hu, hr, h3⟩ := hi i h
    refine ⟨[u], ⟨u, rfl, own_rdSl hr h3⟩, fun j hj => ?_⟩
    have hj0 : j = 0 := by simpa using hj
    subst hj0
    have := World.ownsRow.cellAt ho i (by omega)
    rw [show 0 + (i * cSS.n + 0) = i from by simp [cSl], this, hu]; rfl
theorem Txts.join {B : Nat} {w w1 : World} {v v' : Value} {xss yss : List (List Nat)} {vals us : List Value} (ho : w.ownsRow B 23 1 v xss.length vals)
    (hi : ∀ i, (h : i < xss.length) → ∃ u, vals[i]? = some u ∧ w.ownsRow B 5 1 u xss[i].length (byt xss[i]) ∧ ∀ x ∈ xss[i], x < 256)
    (_hul : us.length = yss.length)
    (hj : ∀ i, (h : i < yss.length) → ∃ u, us[i]? = some u ∧ w.ownsRow B 5 1 u yss[i].length (byt yss[i]) ∧ ∀ x ∈ yss[i], x < 256)
    (ho1 : w1.ownsRow B 23 1 v' (xss.length + yss.length) (vals ++ us)) (hg : w.grownBy w1 v.ownBlock) : Txts B w1 v' (xss ++ yss) := by
  have hvl : vals.length = xss.length := by have := ho.1; omega
  have keep : ∀ (u : Value) (xs : List Nat), w.ownsRow B 5 1 u xs.length (byt xs) → w1.ownsRow B 5 1 u xs.length (byt xs) := fun u xs hu => own_marked hu hg (own_apart hu ho (by decide))
  refine ⟨vals ++ us, by simpa using ho1, fun i h => ?_⟩
  by_cases e : i < xss.length
  · obtain ⟨u, h1, h2, h3⟩ := hi i e
    rw [List.getElem_append_left e]
    exact ⟨u, by rw [List.getElem?_append_left (by omega)]; exact h1, keep _ _ h2, h3⟩
  · have h' : i - xss.length < yss.length := by simp at h; omega
    obtain ⟨u, h1, h2, h3⟩ := hj (i - xss.length) h'
    rw [List.getElem_append_right (by omega)]
    exact ⟨u, by rw [List.getElem?_append_right (by omega), hvl]; exact h1, keep _ _ h2, h3⟩
theorem Txts.snoc {B : Nat} {w w1 : World} {v v' u : Value} {xss : List (List Nat)} {t : List Nat} {vals : List Value} (ho : w.ownsRow B 23 1 v xss.length vals)
    (hi : ∀ i, (h : i < xss.length) → ∃ u, vals[i]? = some u ∧ w.ownsRow B 5 1 u xss[i].length (byt xss[i]) ∧ ∀ x ∈ xss[i], x < 256)
    (hu : w.ownsRow B 5 1 u t.length (byt t)) (h3 : ∀ x ∈ t, x < 256)
    (ho1 : w1.ownsRow B 23 1 v' (xss.length + 1) (vals ++ [u])) (hg : w.grownBy w1 v.ownBlock) : Txts B w1 v' (xss ++ [t]) :=
  Txts.join ho hi (us := [u]) (yss := [t]) rfl (fun i h => by
    have hi0 : i = 0 := by simpa using h
    subst hi0
    exact ⟨u, rfl, hu, h3⟩) ho1 hg
theorem Txts.len {B : Nat} {w : World} {v : Value} {xss : List (List Nat)} (h : Txts B w v xss) : ∃ a c, v = .slice a xss.length c := by
  obtain ⟨a, c, e, _⟩ := h.rd
  exact ⟨a, c, e⟩
end Go.Proofs.YtfaehioeepolhaaGreat
namespace Go.Proofs.YtfaehioeepolhaaGreat
open Go.RowKit
theorem infoByte : (Tryz.prog.info? 5).map (fun i => (i.zero, i.size, i.bytes)) = some (some (.int .u8 0), 1, 1) := by kernel_rfl
set_option maxHeartbeats 400000 in
theorem toByteS_some (b off cap : Nat) (xs : List Nat) (w : World) (hc : ∀ i, (h : i < xs.length) → w.cell? ⟨b, off + i, none⟩ = some (.int .u8 ((xs[i] : Nat) : Int))) (hbB : xs ≠ [] → b < w.heap.size) (hn : xs.length ≤ 1099511627776) :
    Calls Tryz.prog 89 #[.slice (some ⟨b, off, none⟩) xs.length cap] w fun e w' => ∃ g, e = .returned (.slice (some ⟨g, 0, none⟩) xs.length xs.length) ∧ w'.ownsRow w.heap.size 5 1 (.slice (some ⟨g, 0, none⟩) xs.length xs.length) xs.length (byt xs) ∧ Below w.heap.size w w' := by
  obtain ⟨i0, hi, hz0, hz1, hz2⟩ := info_parts infoByte
  go_enter Tryz.func89, Tryz.ntmps89
  go_wp2_with (first | (at_make; refine wpList_make_full _ rfl (.tmp 6) (.tmp 6) 23 rfl w.heap.size 5 i0 (.int .u8 0) 1 Tryz.underlying23 hi hz0 hz1 .i64 .i64 _ _ xs.length rfl rfl rfl rfl (by rw [hz2]; omega) (by unfold maxLen; omega) (by simp) ?_))
  intro w1 ho hg1
  have hb1 : Below w.heap.size w w1 := (Below.refl _ w).grown hg1 (Nat.le_refl _) (by intro k h; cases h)
  clear hg1 hi hz0 hz1 hz2
  go_wp2
  go_loopw [4] (fun i wr => ∃ k : Nat, k ≤ xs.length ∧ i = .int .i64 k ∧ wr.ownsRow w.heap.size 5 1 (.slice (some ⟨w.heap.size, 0, none⟩) xs.length xs.length) xs.length ((byt xs).take k ++ (List.replicate xs.length (Value.int .u8 0)).drop k) ∧ Below w.heap.size w wr) (fun i _ => xs.length - (intOf i).toNat)
  case atStart => exact ⟨0, Nat.zero_le _, rfl, by simpa [made_list] using ho, hb1⟩
  case round =>
    obtain ⟨k, hk, rfl, how, hbe⟩ := hrel
    by_cases hlt : k < xs.length
    · have hcx : wr.cell? ⟨b, off + k, none⟩ = some (.int .u8 ((xs[k] : Nat) : Int)) := (hbe.cell (by exact hbB (by intro h; simp [h] at hlt))).trans (hc k hlt)
      have hfz := how.frozenAt k
      obtain ⟨o, hco⟩ := own_cell how hlt
      have hR := fill_round (byt_len xs) (by simp) (byt_at hlt) (Nat.le_refl _) how hbe
      clear how hbe ho hb1
      go_wp2
      go_roundw
      case rel => exact ⟨k + 1, by omega, by go_num, hR.1, hR.2⟩
      case measure => simp [intOf]; omega
    · obtain rfl : k = xs.length := by omega
      rw [fill_done (byt_len xs) (by simp)] at how
      go_wp2
      go_ret
      exact ⟨_, rfl, how, hbe⟩
set_option maxHeartbeats 400000 in
theorem toByteS_none (a : Option Addr) (cap : Nat) (w : World) :
    Calls Tryz.prog 89 #[.slice a 0 cap] w fun e w' => ∃ g, e = .returned (.slice (some ⟨g, 0, none⟩) 0 0) ∧ w'.ownsRow w.heap.size 5 1 (.slice (some ⟨g, 0, none⟩) 0 0) 0 [] ∧ Below w.heap.size w w' := by
  obtain ⟨i0, hi, hz0, hz1, hz2⟩ := info_parts infoByte
  go_enter Tryz.func89, Tryz.ntmps89
  go_wp2_with (first | (at_make; refine wpList_make_full _ rfl (.tmp 6) (.tmp 6) 23 rfl w.heap.size 5 i0 (.int .u8 0) 1 Tryz.underlying23 hi hz0 hz1 .i64 .i64 _ _ 0 rfl rfl rfl rfl (by omega) (by unfold maxLen; omega) (by simp) ?_))
  intro w1 ho hg1
  have hb1 : Below w.heap.size w w1 := (Below.refl _ w).grown hg1 (Nat.le_refl _) (by intro k h; cases h)
  clear hg1 hi hz0 hz1 hz2
  go_wp2
  refine wp_loop_rounds 1 ?_; rw [rounds_succ]
  go_wp2
  go_ret
  exact ⟨_, rfl, by simpa [made_list] using ho, hb1⟩
theorem toByteS_any (a : Option Addr) (cap : Nat) (xs : List Nat) (w : World) (hr : Rd w a (byt xs)) (hn : xs.length ≤ 1099511627776) :
    Calls Tryz.prog 89 #[.slice a xs.length cap] w fun e w' => ∃ g, e = .returned (.slice (some ⟨g, 0, none⟩) xs.length xs.length) ∧ w'.ownsRow w.heap.size 5 1 (.slice (some ⟨g, 0, none⟩) xs.length xs.length) xs.length (byt xs) ∧ Below w.heap.size w w' := by
  have hlt := hr.lt
  rcases hr with h0 | ⟨b, off, rfl, hc⟩
  · obtain rfl : xs = [] := by simpa [byt] using h0
    exact toByteS_none a cap w
  · exact toByteS_some b off cap xs w (rdByte hc) (fun h => hlt _ rfl (by simpa [byt] using h)) hn
end Go.Proofs.YtfaehioeepolhaaGreat
namespace Go.Proofs.YtfaehioeepolhaaGreat
open Go.RowKit
set_option maxHeartbeats 400000 in
theorem eqByteS_zero (a1 a2 : Option Addr) (c1 c2 : Nat) (w : World) :
    Calls Tryz.prog 97 #[.slice a1 0 c1, .slice a2 0 c2] w fun e w' => e = .returned (.bool true) ∧ ∃ m, w' = w.drewN m := by
  go_enter Tryz.func97, Tryz.ntmps97
  go_wp2
  refine wp_loop_rounds 1 ?_; rw [rounds_succ]
  go_wp2
  go_ret
  exact ⟨rfl, 0, rfl⟩
set_option maxHeartbeats 400000 in
theorem eqByteS_some (b1 o1 b2 o2 c1 c2 : Nat) (xs : List Nat) (w : World) (hx : ∀ i, (h : i < xs.length) → w.cell? ⟨b1, o1 + i, none⟩ = some (.int .u8 ((xs[i] : Nat) : Int))) (hy : ∀ i, (h : i < xs.length) → w.cell? ⟨b2, o2 + i, none⟩ = some (.int .u8 ((xs[i] : Nat) : Int))) (hn : xs.length ≤ 1099511627776) :
    Calls Tryz.prog 97 #[.slice (some ⟨b1, o1, none⟩) xs.length c1, .slice (some ⟨b2, o2, none⟩) xs.length c2] w fun e w' => e = .returned (.bool true) ∧ ∃ m, w' = w.drewN m := by
  go_enter Tryz.func97, Tryz.ntmps97
  go_wp2
  go_loopw [5] (fun i wr => ∃ k : Nat, k ≤ xs.length ∧ i = .int .i64 k ∧ ∃ m, wr = w.drewN m) (fun i _ => xs.length - (intOf i).toNat)
  case atStart => exact ⟨0, Nat.zero_le _, rfl, 0, rfl⟩
  case round =>
    obtain ⟨k, hk, rfl, m, rfl⟩ := hrel
    by_cases hlt : k < xs.length
    · have g1 := hx k hlt
      have g2 := hy k hlt
      have hki : (k : Int) < (xs.length : Int) := by omega
      clear hx hy
      go_wp2
      go_quiet (fail)
      go_wp2
      go_roundw
      case rel => exact ⟨k + 1, by omega, by go_num, _, rfl⟩
      case measure => simp [intOf]; omega
    · obtain rfl : k = xs.length := by omega
      go_wp2
      go_ret
      exact ⟨rfl, m, rfl⟩
theorem eqByteS_quiet (a1 a2 : Option Addr) (c1 c2 n : Nat) (xs : List Nat) (w : World) (h1 : Rd w a1 (byt xs)) (h2 : Rd w a2 (byt xs)) (hl : xs.length = n) (hn : n ≤ 1099511627776) :
    Calls Tryz.prog 97 #[.slice a1 n c1, .slice a2 n c2] w fun e w' => e = .returned (.bool true) ∧ ∃ m, w' = w.drewN m := by
  subst hl
  by_cases h0 : xs = []
  · subst h0
    exact eqByteS_zero a1 a2 c1 c2 w
  · have hne : byt xs ≠ [] := by simpa [byt] using h0
    rcases h1 with h | ⟨b1, o1, rfl, e1⟩
    · exact absurd h hne
    rcases h2 with h | ⟨b2, o2, rfl, e2⟩
    · exact absurd h hne
    exact eqByteS_some b1 o1 b2 o2 c1 c2 xs w (rdByte e1) (rdByte e2) hn
theorem eqByteS_any (a1 a2 : Option Addr) (c1 c2 n : Nat) (xs : List Nat) (w : World) (h1 : Rd w a1 (byt xs)) (h2 : Rd w a2 (byt xs)) (hl : xs.length = n) (hn : n ≤ 1099511627776) :
    Calls Tryz.prog 97 #[.slice a1 n c1, .slice a2 n c2] w fun e w' => e = .returned (.bool true) ∧ Below w.heap.size w w' := by
  refine (eqByteS_quiet a1 a2 c1 c2 n xs w h1 h2 hl hn).mono ?_
  rintro e w' ⟨rfl, m, rfl⟩
  exact ⟨rfl, below_drewN (Below.refl _ _) m⟩
end Go.Proofs.YtfaehioeepolhaaGreat
namespace Go.Proofs.YtfaehioeepolhaaGreat
open Go.RowKit
set_option maxHeartbeats 400000 in
theorem toField_any (f : PF) (v0 : Value) (w : World) (hv : RdSl cByte w f.name v0) (hn : f.name.length ≤ 1048576) :
    Calls Tryz.prog 64 #[.agg #[v0, .int .i64 f.kind, .int .i64 f.width]] w fun e w' => ∃ v bs, e = .returned (.agg #[v, .int .i64 f.kind, .int .i64 f.width]) ∧ OwnSl cByte 5 w' f.name v bs ∧ (∀ b ∈ bs, w.heap.size ≤ b) ∧ bs.Nodup ∧ Below w.heap.size w w' := by
  obtain ⟨a, cap, rfl, hcap, hml, hnone, hrd, hby⟩ := hv.bytes
  go_enter Tryz.func64, Tryz.ntmps64
  go_wp2_with fail
  refine (toByteS_any a cap f.name _ (hrd.later (below_new3 _ _ _ _)) (by omega)).mono ?_
  rintro e w2 ⟨g2, rfl, o2, b2⟩
  have hg := own_in o2 (g := g2) rfl
  rw [size3] at hg b2
  obtain ⟨k0, k1, k2⟩ := heap3 _ _ _ b2
  have c01 := cell_of_row w2 _ 1 _ _ _ k0
  have c02 := cell_of_row w2 _ 2 _ _ _ k0
  have c10 := cell_of_row w2 _ 0 _ _ _ k1
  have c11 := cell_of_row w2 _ 1 _ _ _ k1
  have c12 := cell_of_row w2 _ 2 _ _ _ k1
  have f10 := frozen_of_row w2 _ 0 _ _ k1
  have f11 := frozen_of_row w2 _ 1 _ _ k1
  have f12 := frozen_of_row w2 _ 2 _ _ k1
  have c20 := cell_of_row w2 _ 0 _ _ _ k2
  have c21 := cell_of_row w2 _ 1 _ _ _ k2
  have c22 := cell_of_row w2 _ 2 _ _ _ k2
  have f20 := frozen_of_row w2 _ 0 _ _ k2
  have f21 := frozen_of_row w2 _ 1 _ _ k2
  have f22 := frozen_of_row w2 _ 2 _ _ k2
  simp at c01 c02 c10 c11 c12 c20 c21 c22
  have K1 := hid k1
  clear k0 k1 k2
  go_wp2
  have hb : Below w.heap.size w w2 := (below_new3 w _ _ _).trans (b2.mono (by omega))
  have hby2 := hby
  refine bodyPost_ret (results_cell_row rfl _ _ (w.heap.size + 1) 98 #[.slice (some ⟨g2, 0, none⟩) f.name.length f.name.length, .int .i64 f.kind, .int .i64 f.width] (0, 0) _ rfl (set3 ((set3o (by omega)).trans K1.out)) Tryz.underlying98 rfl (by kernel_rfl)) rfl ?_
  refine ⟨_, [g2], rfl, ?_, by simp; omega, by simp, ?_⟩
  · refine OwnSl.kept (ownSl_bytes o2 hby2) (fun b hb => ?_)
    simp at hb
    subst hb
    exact (set3o (by omega)).trans (set3o (by omega))
  · exact set3b (set3b hb (by omega)) (by omega)
theorem toField_law : ToLaw Tryz.prog 64 cField (fun f => f.name.length) := by
  intro w f cs h ht
  obtain ⟨v, rfl, hv, h1, h2⟩ := cField_rd h
  refine (toField_any f v w hv ht).mono ?_
  rintro e w' ⟨v', bs, rfl, ho, hb, hn, hbe⟩
  exact ⟨_, bs, rfl, cField_own ho h1 h2, hb, hn, hbe⟩
end Go.Proofs.YtfaehioeepolhaaGreat
namespace Go.Proofs.YtfaehioeepolhaaGreat
open Go.RowKit
theorem infoImField : (Tryz.prog.info? 98).map (fun i => (i.zero, i.size, i.bytes)) = some (some (.agg #[.slice none 0 0, .int .i64 0, .int .i64 0]), 3, 40) := by kernel_rfl
set_option maxHeartbeats 1000000 in
theorem toFieldS_any (a : Option Addr) (cap : Nat) (xs : List PF) (w : World) (hr : RdSl cField w xs (.slice a xs.length cap)) (ht : totL (fun f : PF => f.name.length) xs ≤ 1048576) :
    Calls Tryz.prog 20 #[.slice a xs.length cap] w fun e w' => ∃ v bs, e = .returned v ∧ OwnSl cField 98 w' xs v bs ∧ (∀ b ∈ bs, w.heap.size ≤ b) ∧ bs.Nodup ∧ Below w.heap.size w w' := by
  obtain ⟨i0, hi, hz0, hz1, hz2⟩ := info_parts infoImField
  have HR := hid hr
  clear hr
  have hlen : xs.length ≤ 1048576 := by unfold totL at ht; omega
  go_enter Tryz.func20, Tryz.ntmps20
  go_wp2_with (first | (at_make; refine wpList_make_full _ rfl (.tmp 6) (.tmp 6) 38 rfl w.heap.size 98 i0 (.agg #[.slice none 0 0, .int .i64 0, .int .i64 0]) 3 Tryz.underlying38 hi hz0 hz1 .i64 .i64 _ _ xs.length rfl rfl rfl rfl (by rw [hz2]; omega) (by unfold maxLen; omega) (by simp) ?_))
  intro w1 ho hg1
  have HB1 : Hid (Below w.heap.size w w1) := hid ((Below.refl _ w).grown hg1 (Nat.le_refl _) (by intro k h; cases h))
  have HM : Hid (Made3 cField 98 w w1 xs 0) := hid ⟨_, [], ho, rfl, fun i h h2 => by simp at h2, by simp, by simp⟩
  clear hg1 hi hz0 hz1 hz2 ho
  go_wp2
  go_loopw [4] (fun i wr => ∃ k : Nat, k ≤ xs.length ∧ i = .int .i64 k ∧ Made3 cField 98 w wr xs k ∧ Below w.heap.size w wr) (fun i _ => xs.length - (intOf i).toNat)
  case atStart => exact ⟨0, Nat.zero_le _, rfl, HM.out, HB1.out⟩
  case round =>
    obtain ⟨k, hk, rfl, hm, hbe⟩ := hrel
    have HV := hid hm
    have HB := hid hbe
    clear hm hbe
    by_cases hlt : k < xs.length
    · obtain ⟨b, off, v0, v1, v2, rfl, hes, d0, d1, d2⟩ := (HR.out.later HB.out).at3 rfl hlt
      have HE := hid hes
      have hki : (k : Int) < (xs.length : Int) := by omega
      clear hes
      go_wp2_with fail
      refine (toField_law wr xs[k] _ HE.out (by have := tot_at (fun f : PF => f.name.length) xs k hlt; unfold totL at ht; simp only [] at this ⊢; omega)).mono ?_
      rintro e w2 ⟨cs', bs, rfl, o2, hbs, hnd, b2⟩
      obtain ⟨ax, cx, rfl⟩ := cField_shape (cField.ownRd o2)
      simp only [val]
      have HN : Hid (Made3 cField 98 w (((w2.setCell ⟨w.heap.size, k * 3, none⟩ (.slice ax xs[k].name.length cx)).setCell ⟨w.heap.size, k * 3 + 1, none⟩ (.int .i64 xs[k].kind)).setCell ⟨w.heap.size, k * 3 + 2, none⟩ (.int .i64 xs[k].width)) xs (k + 1)) := hid (HV.out.step hlt b2 o2 hbs hnd)
      have HBB : Hid (Below w.heap.size w (((w2.setCell ⟨w.heap.size, k * 3, none⟩ (.slice ax xs[k].name.length cx)).setCell ⟨w.heap.size, k * 3 + 1, none⟩ (.int .i64 xs[k].kind)).setCell ⟨w.heap.size, k * 3 + 2, none⟩ (.int .i64 xs[k].width))) := hid ((((HB.out.trans (b2.mono HB.out.size)).setCell (p := ⟨w.heap.size, k * 3, none⟩) (Nat.le_refl _) _).setCell (p := ⟨w.heap.size, k * 3 + 1, none⟩) (Nat.le_refl _) _).setCell (p := ⟨w.heap.size, k * 3 + 2, none⟩) (Nat.le_refl _) _)
      obtain ⟨vs, hvl, how2⟩ := HV.out.row b2
      have f0 := how2.frozenAt (k * 3)
      have f1 := how2.frozenAt (k * 3 + 1)
      have f2 := how2.frozenAt (k * 3 + 2)
      have q0 := how2.cellAt (k * 3) (by omega)
      have q1 := how2.cellAt (k * 3 + 1) (by omega)
      have q2 := how2.cellAt (k * 3 + 2) (by omega)
      rw [List.getElem?_eq_getElem (by omega)] at q0 q1 q2
      generalize vs[k * 3] = y0 at q0
      generalize vs[k * 3 + 1] = y1 at q1
      generalize vs[k * 3 + 2] = y2 at q2
      clear o2 hbs hnd b2 how2 hvl
      go_wp2
      go_roundw
      case rel => exact ⟨k + 1, by omega, by go_num, HN.out, HBB.out⟩
      case measure => simp [intOf]; omega
    · obtain rfl : k = xs.length := by omega
      obtain ⟨bs, h1, h2, h3⟩ := HV.out.done rfl
      have HF := hid h1
      clear h1
      go_wp2
      go_ret
      exact ⟨_, bs, rfl, HF.out, h2, h3, HB.out⟩
end Go.Proofs.YtfaehioeepolhaaGreat
namespace Go.Proofs.YtfaehioeepolhaaGreat
open Go.RowKit
section
variable {P : Program} {ops : Array Oper} {Q : Exit → Act → World → Prop} {md : Region.Mode}
def earlier (md : Region.Mode) (ops : Array Oper) : Bool :=
  (List.range ops.size).all fun i => ((ops[i]?).map fun o => o.after.all fun e => !Region.binds md e || decide (e.on < i)).getD true
theorem earlier_spec (h : earlier md ops = true) {i : Nat} {o : Oper} (ho : ops[i]? = some o) : ∀ e ∈ o.after, Region.binds md e = true → e.on < i := by
  intro e he hb
  have hi : i < ops.size := (Array.getElem?_eq_some_iff.1 ho).1
  have h1 := List.all_eq_true.1 h i (List.mem_range.2 hi)
  rw [ho] at h1
  simp only [Option.map_some, Option.getD_some] at h1
  have h2 := (Array.all_eq_true_iff_forall_mem.1 h1) e he
  simpa [hb] using h2
theorem all_listed (h : earlier md ops = true) {listed : Array Bool} (_hs : listed.size = ops.size) (hr : Region.ready md ops listed = []) : ∀ i, i < ops.size → listed.getD i false = true := by
  intro i
  induction i using Nat.strongRecOn with
  | ind i ih =>
    intro hi
    cases hc : listed.getD i false with
    | true => rfl
    | false =>
      exfalso
      have hlt : i < listed.size := by omega
      have h0 : listed.getD i true = false := by
        simp [Array.getD, hlt] at hc ⊢
        exact hc
      have : i ∈ Region.ready md ops listed := mem_ready.2 ⟨h0, ops[i], Array.getElem?_eq_getElem hi, fun e he hb => by
        have h3 := earlier_spec h (Array.getElem?_eq_getElem hi) e he hb
        exact ih e.on h3 (by omega)⟩
      rw [hr] at this
      cases this
theorem wpAny_inv (hord : earlier md ops = true) (Inv : (Nat → Bool) → Act → World → Prop)
    (step : ∀ (x : Nat → Bool) (a : Act) (w : World) (i : Nat) (o : Oper), Inv x a w → ops[i]? = some o → (∀ e ∈ o.after, Region.binds md e = true → x e.on = true) → wpOp P ops Q i (fun a' w' => Inv (fun k => k == i || x k) a' w') a w)
    (done : ∀ (x : Nat → Bool) (a : Act) (w : World), Inv x a w → (∀ i, i < ops.size → x i = true) → Q .normal a w) :
    ∀ (fuel : Nat) (listed : Array Bool) (a : Act) (w : World), listed.size = ops.size → (listed.toList.filter (fun b => !b)).length ≤ fuel → Inv (fun k => listed.getD k false) a w → wpAny P md ops Q fuel listed a w := by
  intro fuel
  induction fuel with
  | zero =>
    intro listed a w hs hf hI
    have hall : ∀ b ∈ listed.toList, b = true := by
      intro b hb
      have h0 : listed.toList.filter (fun b => !b) = [] := List.length_eq_zero_iff.1 (by omega)
      rw [List.filter_eq_nil_iff] at h0
      simpa using h0 b hb
    have hg : ∀ i, i < ops.size → listed.getD i false = true := fun i hi => by
      have hlt : i < listed.size := by omega
      have := hall listed[i] (by simp)
      simp [Array.getD, hlt, this]
    have hr : Region.ready md ops listed = [] := by
      cases hc : Region.ready md ops listed with
      | nil => rfl
      | cons j l =>
        exfalso
        have hj : j ∈ Region.ready md ops listed := by rw [hc]; simp
        obtain ⟨h1, o, ho, _⟩ := mem_ready.1 hj
        have hjs : j < ops.size := (Array.getElem?_eq_some_iff.1 ho).1
        have h2 := hg j hjs
        have hlt : j < listed.size := by omega
        simp [Array.getD, hlt] at h1 h2
        rw [h1] at h2
        cases h2
    exact ⟨hr, done _ a w hI hg⟩
  | succ fuel ih =>
    intro listed a w hs hf hI
    refine ⟨fun hr => done _ a w hI (all_listed hord hs hr), fun i hi => ?_⟩
    obtain ⟨h1, o, ho, hall⟩ := mem_ready.1 hi
    have his : i < ops.size := (Array.getElem?_eq_some_iff.1 ho).1
    have hil : i < listed.size := by omega
    refine wpOp_mono (fun a' w' h => ih (listed.setIfInBounds i true) a' w' (by simpa using hs) ?_ ?_) (step _ a w i o hI ho hall)
    · have hfl : listed[i] = false := by simpa [Array.getD, hil] using h1
      have e1 : listed.toList = listed.toList.take i ++ false :: listed.toList.drop (i + 1) := by
        have h3 : listed.toList[i]'(by simpa using hil) = false := by simpa using hfl
        conv => lhs; rw [← List.take_append_drop i listed.toList, List.drop_eq_getElem_cons (by simpa using hil), h3]
      have e2 : (listed.setIfInBounds i true).toList = listed.toList.take i ++ true :: listed.toList.drop (i + 1) := by
        rw [Array.toList_setIfInBounds, List.set_eq_take_append_cons_drop, if_pos (by simpa using hil)]
      rw [e1] at hf
      rw [e2]
      simp only [List.filter_append, List.length_append, List.filter_cons] at hf ⊢
      simp at hf ⊢
      omega
    · have : (fun k => (listed.setIfInBounds i true).getD k false) = (fun k => k == i || listed.getD k false) := by
        funext k
        by_cases hk : k = i
        · subst hk; simp [Array.getD, hil]
        · rw [getD_set_ne false (Ne.symm hk)]; simp [hk]
      rw [this]
      exact h
def upd (t : Nat → Value) (i : Nat) (v : Value) : Nat → Value := fun k => if k = i then v else t k
theorem region_facts {id n : Nat} (hm : P.follows .mixedOrders = true) (hord : earlier .any ops = true) (hn : ops.size = n) (A : (Nat → Value) → Act) (F : Nat → Value → World → Prop) (G : World → Prop) (w0 : World)
    (hmono : ∀ i v w w', F i v w → Below w.heap.size w w' → F i v w')
    (t0 : Nat → Value) (hG : G w0.drew)
    (step : ∀ i, i < n → ∀ (t : Nat → Value) (w : World), G w → (∀ o, ops[i]? = some o → ∀ e ∈ o.after, Region.binds .any e = true → F e.on (t e.on) w) → wpOp P ops Q i (fun a' w' => ∃ v, a' = A (upd t i v) ∧ F i v w' ∧ G w' ∧ Below w.heap.size w w') (A t) w)
    (done : ∀ (t : Nat → Value) (w : World), G w → (∀ i, i < n → F i (t i) w) → Q .normal (A t) w) :
    (Code.region id ops true).wp P Q (A t0) w0 := by
  refine wp_region_any hm ?_
  refine wpAny_inv hord (fun x a w => ∃ t, a = A t ∧ G w ∧ ∀ k, k < n → x k = true → F k (t k) w) ?_ ?_ _ _ _ _ (by simp) ?_ ⟨t0, rfl, hG, fun k hk h => ?_⟩
  · rintro x a w i o ⟨t, rfl, hg, hf⟩ ho hx
    have hi : i < n := by rw [← hn]; exact (Array.getElem?_eq_some_iff.1 ho).1
    refine wpOp_mono ?_ (step i hi t w hg (fun o' ho' e he hb => ?_))
    · rintro a' w' ⟨v, rfl, h1, h2, h3⟩
      refine ⟨upd t i v, rfl, h2, fun k hk hxk => ?_⟩
      by_cases hki : k = i
      · subst hki; simpa [upd] using h1
      · have : x k = true := by simpa [hki] using hxk
        simpa [upd, hki] using hmono k _ w w' (hf k hk this) h3
    · rw [ho] at ho'
      cases ho'
      have h1 := earlier_spec hord ho e he hb
      exact hf _ (by omega) (hx e he hb)
  · rintro x a w ⟨t, rfl, hg, hf⟩ hx
    exact done t w hg (fun i hi => hf i hi (hx i (by omega)))
  · simp
  · dsimp only at h
    rw [Array.getD_eq_getD_getElem?, Array.getElem?_replicate] at h
    split at h <;> simp at h
end
structure Fct where
  p : Value → World → Prop
  mono : ∀ v w w', p v w → Below w.heap.size w w' → p v w'
def Fct.eq (u : Value) : Fct := ⟨fun v _ => v = u, fun _ _ _ h _ => h⟩
def Fct.any : Fct := ⟨fun _ _ => True, fun _ _ _ h _ => h⟩
theorem dep {ops : Array Oper} {F : Nat → Value → World → Prop} {t : Nat → Value} {w : World} {i : Nat} (hd : ∀ o, ops[i]? = some o → ∀ e ∈ o.after, Region.binds .any e = true → F e.on (t e.on) w) (j : Nat)
    (h : ((ops[i]?).map fun o => o.after.any fun e => Region.binds .any e && e.on == j) = some true) : F j (t j) w := by
  cases ho : ops[i]? with
  | none => rw [ho] at h; simp at h
  | some o =>
    rw [ho] at h
    simp only [Option.map_some, Option.some.injEq] at h
    obtain ⟨k, hk, h2⟩ := Array.any_eq_true.1 h
    simp only [Bool.and_eq_true, beq_iff_eq] at h2
    have := hd o ho _ (Array.getElem_mem hk) h2.1
    rw [h2.2] at this
    exact this
theorem depT {ops : Array Oper} {T : Nat → Fct} {t : Nat → Value} {w : World} {i : Nat} (hd : ∀ o, ops[i]? = some o → ∀ e ∈ o.after, Region.binds .any e = true → (T e.on).p (t e.on) w) (j : Nat)
    (h : ((ops[i]?).map fun o => o.after.any fun e => Region.binds .any e && e.on == j) = some true) : (T j).p (t j) w := dep (F := fun i v w => (T i).p v w) hd j h
end Go.Proofs.YtfaehioeepolhaaGreat
