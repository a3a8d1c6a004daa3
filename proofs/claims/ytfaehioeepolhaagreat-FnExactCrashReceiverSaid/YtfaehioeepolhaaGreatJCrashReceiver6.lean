import Derived.Test.YtfaehioeepolhaaGreatJCrashReceiver1
import Derived.Test.YtfaehioeepolhaaGreatJCrashReceiver5
import Derived.Test.YtfaehioeepolhaaGreatJCrashReceiver0
import Derived.Test.YtfaehioeepolhaaGreatJCrashReceiver2
import Derived.Test.YtfaehioeepolhaaGreatJCrashReceiver3
import Derived.Test.YtfaehioeepolhaaGreatJCrashReceiver4
namespace Go.Proofs.YtfaehioeepolhaaGreat
open Go.RowKit
theorem RdSl.at1 {α : Type} {c : Cod α} {w : World} {xs : List α} {a : Option Addr} {n cap k : Nat} (h : RdSl c w xs (.slice a n cap)) (hn : c.n = 1) (hk : k < xs.length) :
    ∃ b off v, a = some ⟨b, off, none⟩ ∧ c.rd w xs[k] [v] ∧ w.cell? ⟨b, off + k, none⟩ = some v := by
  obtain ⟨a', cap', e', _, _, _, h4⟩ := h
  simp only [Value.slice.injEq] at e'
  obtain ⟨rfl, _, rfl⟩ := e'
  rcases h4 with h0 | ⟨b, off, rfl, hat⟩
  · subst h0; simp at hk
  · obtain ⟨es, hes, hcs⟩ := hat k hk
    have h3 := c.len hes
    rw [hn] at h3 hcs
    match es, h3 with
    | [x], _ =>
      have d0 := hcs 0 (by simp)
      exact ⟨b, off, x, rfl, hes, by simpa using d0⟩
theorem part_set1 {vs : List Value} {k : Nat} {x : Value} (h : k < vs.length) : part (vs.set k x) 1 k = [x] := by
  apply List.ext_getElem?
  intro t
  by_cases ht : t < 1
  · have : t = 0 := by omega
    subst this
    rw [part_at (by omega), Nat.mul_one, Nat.add_zero, List.getElem?_set_self h]; rfl
  · rw [List.getElem?_eq_none (by simp [part]; omega), List.getElem?_eq_none (by simp; omega)]
def Made1 {α : Type} (c : Cod α) (e : TypeId) (w wr : World) (xs : List α) (k : Nat) : Prop :=
  ∃ vs bss, wr.ownsRow w.heap.size e 1 (.slice (some ⟨w.heap.size, 0, none⟩) xs.length xs.length) xs.length vs ∧ bss.length = k ∧ (∀ i, (h : i < xs.length) → (h2 : i < bss.length) → c.own wr xs[i] (part vs 1 i) bss[i]) ∧ (∀ b ∈ List.flatten bss, w.heap.size < b ∧ b < wr.heap.size) ∧ (List.flatten bss).Nodup
theorem Made1.row {α : Type} {c : Cod α} {e : TypeId} {w wr w2 : World} {xs : List α} {k : Nat} (hm : Made1 c e w wr xs k) (b2 : Below wr.heap.size wr w2) :
    ∃ vs : List Value, vs.length = xs.length ∧ w2.ownsRow w.heap.size e 1 (.slice (some ⟨w.heap.size, 0, none⟩) xs.length xs.length) xs.length vs := by
  obtain ⟨vs, bss, how, _⟩ := hm
  exact ⟨vs, by have := how.1; omega, ownsRow_kept how (fun b hb => b2.block b (World.ownsRow.lt how b hb).2)⟩
theorem Made1.step {α : Type} {c : Cod α} {e : TypeId} {w wr w2 : World} {xs : List α} {k : Nat} {x : Value} {bs : List Nat} (hm : Made1 c e w wr xs k) (hk : k < xs.length)
    (b2 : Below wr.heap.size wr w2) (o2 : c.own w2 xs[k] [x] bs) (hbs : ∀ b ∈ bs, wr.heap.size ≤ b) (hnd : bs.Nodup) :
    Made1 c e w (w2.setCell ⟨w.heap.size, k, none⟩ x) xs (k + 1) := by
  obtain ⟨vs, bss, how, hbl, hown, hin, hnn⟩ := hm
  have hvl : vs.length = xs.length := by have := how.1; omega
  have hB : w.heap.size < wr.heap.size := (World.ownsRow.lt how w.heap.size rfl).2
  have how2 := ownsRow_kept how (fun b hb => b2.block b (World.ownsRow.lt how b hb).2)
  have s1 := (World.ownsRow.stored how2 k x).1
  have hlt2 := c.lt o2
  have keep : ∀ j, j ≠ w.heap.size → (w2.setCell ⟨w.heap.size, k, none⟩ x).heap[j]? = w2.heap[j]? := fun j hj => Below.heap_setCell _ _ _ _ hj
  refine ⟨_, bss ++ [bs], s1, by simp [hbl], ?_, ?_, ?_⟩
  · intro i h1 h2
    by_cases e : i = k
    · subst e
      have hg : (bss ++ [bs])[i] = bs := by simp [← hbl]
      rw [hg, part_set1 (by omega)]
      exact c.kept o2 (fun b hb => keep b (by have := hbs b hb; omega))
    · have h3 : i < bss.length := by simp at h2; omega
      have hg : (bss ++ [bs])[i] = bss[i] := List.getElem_append_left h3
      have := part_other (vs := vs) (n := 1) (i := i) (k := k) (j := 0) (u := x) (by omega) e
      rw [Nat.add_zero, Nat.mul_one] at this
      rw [hg, this]
      have hmem : ∀ b ∈ bss[i], b ∈ List.flatten bss := fun b hb => List.mem_flatten.2 ⟨_, List.getElem_mem h3, hb⟩
      exact c.kept (hown i h1 h3) (fun b hb => (keep b (by have := hin b (hmem b hb); omega)).trans (b2.block b (hin b (hmem b hb)).2))
  · intro b hb
    have hsz : (w2.setCell ⟨w.heap.size, k, none⟩ x).heap.size = w2.heap.size := by simp
    rw [hsz]
    simp only [List.flatten_append, List.flatten_cons, List.flatten_nil, List.append_nil, List.mem_append] at hb
    rcases hb with hb | hb
    · have := hin b hb; have := b2.size; omega
    · have := hbs b hb; have := hlt2 b hb; omega
  · simp only [List.flatten_append, List.flatten_cons, List.flatten_nil, List.append_nil]
    exact List.nodup_append.2 ⟨hnn, hnd, fun a ha b hb e => by have := (hin a ha).2; have := hbs b hb; omega⟩
theorem Made1.done {α : Type} {c : Cod α} {e : TypeId} {w wr : World} {xs : List α} (hn : c.n = 1) (hm : Made1 c e w wr xs xs.length) :
    ∃ bs, OwnSl c e wr xs (.slice (some ⟨w.heap.size, 0, none⟩) xs.length xs.length) bs ∧ (∀ b ∈ bs, w.heap.size ≤ b) ∧ bs.Nodup := by
  obtain ⟨vs, bss, how, hbl, hown, hin, hnn⟩ := hm
  refine ⟨w.heap.size :: List.flatten bss, .inr ⟨w.heap.size, xs.length, vs, bss, rfl, by rw [hn]; exact ⟨how.1, how.2.imp id (fun ⟨g, cap, cur, h1, _, h3⟩ => ⟨g, cap, cur, h1, Nat.zero_le _, h3⟩)⟩, rfl, hbl, fun i h1 h2 => by rw [hn]; exact hown i h1 h2⟩, ?_, ?_⟩
  · intro b hb
    rcases List.mem_cons.1 hb with rfl | hb
    · exact Nat.le_refl _
    · exact Nat.le_of_lt (hin b hb).1
  · exact List.nodup_cons.2 ⟨fun h => by have := (hin _ h).1; omega, hnn⟩
abbrev cSS : Cod (List Nat) := cSl cByte 5
theorem RdSl.row {w : World} {xss : List (List Nat)} {a : Option Addr} {n cap k : Nat} (h : RdSl cSS w xss (.slice a n cap)) (hk : k < xss.length) :
    ∃ b off a' c', a = some ⟨b, off, none⟩ ∧ w.cell? ⟨b, off + k, none⟩ = some (.slice a' xss[k].length c') ∧ RdSl cByte w xss[k] (.slice a' xss[k].length c') := by
  obtain ⟨b, off, v, rfl, ⟨v', e, hv⟩, hc⟩ := h.at1 rfl hk
  simp only [List.cons.injEq, and_true] at e
  subst e
  obtain ⟨a', c', rfl, r⟩ := id hv
  exact ⟨b, off, a', c', rfl, hc, hv⟩
theorem rdSl_ok {w : World} {xs : List Nat} {v : Value} (h : RdSl cByte w xs v) : ∀ x ∈ xs, x < 256 := by
  obtain ⟨a, cap, rfl, _, _, _, _, hb⟩ := h.bytes
  exact hb
theorem RdSl.allOK {w : World} {xss : List (List Nat)} {v : Value} (h : RdSl cSS w xss v) : ∀ t ∈ xss, ∀ x ∈ t, x < 256 := by
  obtain ⟨a, cap, rfl, _⟩ := id h
  intro t ht
  obtain ⟨k, hk, rfl⟩ := List.getElem_of_mem ht
  obtain ⟨b, off, a', c', _, _, r⟩ := h.row hk
  exact rdSl_ok r
theorem totL_tot (xss : List (List Nat)) : totL List.length xss = xss.length + tot xss := rfl
end Go.Proofs.YtfaehioeepolhaaGreat
namespace Go.Proofs.YtfaehioeepolhaaGreat
open Go.ChangeShapes Go.WideShapes Go.ChangeAt Go.RowKit
theorem opens_SS {H : Type} (enc : TypeId × Value → H) (W : World) : Opens enc Tryz.prog W 123 (cSl cSS 23) :=
  opens_slice Tryz.underlying123 (by kernel_rfl) (by decide) (opens_slice Tryz.underlying23 (by kernel_rfl) (by decide) (opens_byte Tryz.underlying5) _) _
end Go.Proofs.YtfaehioeepolhaaGreat
namespace Go.Proofs.YtfaehioeepolhaaGreat
open Go.ChangeShapes Go.WideShapes Go.ChangeAt Go.RowKit
section
variable {H : Type} {enc : TypeId × Value → H} {P : Program} {w : World}
theorem opens_struct4 {α β γ δ ε : Type} {t : TypeId} {fs : Array Field} {f0 f1 f2 f3 : Field} {a : Cod α} {b : Cod β} {c : Cod γ} {d : Cod δ} {f : ε → α × β × γ × δ} (ht : P.underlying t = some (.struct fs)) (hf : fs = #[f0, f1, f2, f3])
    (o0 : f0.offset = 0) (o1 : f1.offset = a.n) (o2 : f2.offset = a.n + b.n) (o3 : f3.offset = a.n + b.n + c.n) (n0 : P.cellsOf f0.type = a.n) (n1 : P.cellsOf f1.type = b.n) (n2 : P.cellsOf f2.type = c.n) (n3 : P.cellsOf f3.type = d.n) (hs : P.cellsOf t = a.n + (b.n + (c.n + d.n)))
    (h0 : Opens enc P w f0.type a) (h1 : Opens enc P w f1.type b) (h2 : Opens enc P w f2.type c) (h3 : Opens enc P w f3.type d) (inv : α → β → γ → δ → ε) (hi : ∀ x y z u, f (inv x y z u) = (x, y, z, u)) : Opens enc P w t (cMap (cPair a (cPair b (cPair c d))) f) := by
  subst hf
  intro fuel cs x h
  obtain ⟨xs, k, _, _, hl, hxl, hfx⟩ := DataW.trod_struct ht h
  have g0 := hfx 0 f0 rfl
  have g1 := hfx 1 f1 rfl
  have g2 := hfx 2 f2 rfl
  have g3 := hfx 3 f3 rfl
  match xs, hxl with
  | [y0, y1, y2, y3], _ =>
    obtain ⟨z0, r0⟩ := h0 _ _ _ g0
    obtain ⟨z1, r1⟩ := h1 _ _ _ g1
    obtain ⟨z2, r2⟩ := h2 _ _ _ g2
    obtain ⟨z3, r3⟩ := h3 _ _ _ g3
    refine ⟨inv z0 z1 z2 z3, ?_⟩
    show (cPair a (cPair b (cPair c d))).rd w (f (inv z0 z1 z2 z3)) cs
    rw [hi]
    rw [o0, n0, List.drop_zero] at r0
    rw [o1, n1] at r1
    rw [o2, n2, ← List.drop_drop] at r2
    rw [o3, n3, List.take_of_length_le (by simp; omega), ← List.drop_drop, ← List.drop_drop] at r3
    exact ⟨_, _, (List.take_append_drop a.n cs).symm, r0, _, _, (List.take_append_drop b.n (cs.drop a.n)).symm, r1, _, _, (List.take_append_drop c.n ((cs.drop a.n).drop b.n)).symm, r2, r3⟩
end
end Go.Proofs.YtfaehioeepolhaaGreat
namespace Go.Proofs.YtfaehioeepolhaaGreat
open Go.RowKit
set_option maxHeartbeats 1000000 in
theorem szSS_any (a : Option Addr) (cap : Nat) (xs : List (List Nat)) (l : Int) (w : World) (hr : RdSl cSS w xs (.slice a xs.length cap)) (h0 : 0 ≤ l) (h1 : l ≤ 1048576) :
    Calls Tryz.prog 133 #[.slice a xs.length cap, .int .i64 l] w fun e w' => e = .returned (.int .i64 (rest l (totL List.length xs))) ∧ w' = w := by
  have hml : xs.length ≤ maxLen := by
    obtain ⟨a', cap', e', g1, g2, _⟩ := hr
    omega
  unfold maxLen at hml
  have HR := hid hr
  clear hr
  by_cases hbig : l - (xs.length : Int) < 0
  · have HM : Hid (rest l (totL List.length xs) = -1) := hid (by unfold rest totL; rw [if_pos (by omega)])
    go_enter Tryz.func133, Tryz.ntmps133
    go_wp2
    go_ret
    exact ⟨by rw [HM.out]; rfl, rfl⟩
  · go_enter Tryz.func133, Tryz.ntmps133
    go_wp2
    go_loop [1, 5] (fun q i => ∃ k : Nat, k ≤ xs.length ∧ i = .int .i64 k ∧ q = .int .i64 (rest l (xs.length + ((xs.take k).map List.length).sum)) ∧ 0 ≤ rest l (xs.length + ((xs.take k).map List.length).sum)) (fun _ i => xs.length - (intOf i).toNat)
    case atStart => exact ⟨0, Nat.zero_le _, rfl, by simp [rest]; omega, by simp [rest]; omega⟩
    case round =>
      obtain ⟨k, hk, rfl, rfl, hle⟩ := hrel
      by_cases hlt : k < xs.length
      · obtain ⟨b, off, a', c', rfl, hcb, hrr⟩ := HR.out.row hlt
        have hlk : xs[k].length ≤ maxLen := by obtain ⟨_, c2, e2, g1, g2, _⟩ := hrr; omega
        have HLK := hid hlk
        have hki : (k : Int) < (xs.length : Int) := by omega
        have HS := hid (sum_snoc List.length xs k hlt)
        have HT := hid (rest_two (m := xs[k].length) hle)
        have HNG : Hid (rest l (xs.length + ((xs.take (k + 1)).map List.length).sum) < 0 → rest l (totL List.length xs) = -1) := hid (fun h => by
          have h2 := sum_take List.length xs (k + 1)
          have h3 := rest_neg (m := totL List.length xs - (xs.length + ((xs.take (k + 1)).map List.length).sum)) h
          unfold totL at *
          rw [show xs.length + ((xs.take (k + 1)).map List.length).sum + (xs.length + (xs.map List.length).sum - (xs.length + ((xs.take (k + 1)).map List.length).sum)) = xs.length + (xs.map List.length).sum from by omega] at h3
          exact h3)
        have hup := rest_le (n := xs.length + ((xs.take k).map List.length).sum) h1
        clear hrr hlk
        generalize hq : rest l (xs.length + ((xs.take k).map List.length).sum) = q at *
        go_wp2_with fail
        refine (szBytes_any a' _ c' q w HLK.out hle hup).mono ?_
        rintro e w ⟨rfl, rfl⟩
        have HQ : Hid (rest q xs[k].length = rest l (xs.length + ((xs.take (k + 1)).map List.length).sum)) := hid (by rw [HT.out, HS.out, Nat.add_assoc])
        generalize rest q xs[k].length = r at *
        by_cases hneg : r < 0
        · have HZ := hid (HNG.out (by rw [← HQ.out]; exact hneg))
          go_wp2
          go_ret
          exact ⟨by rw [HZ.out]; rfl, rfl⟩
        · go_wp2
          go_round
          case rel => exact ⟨k + 1, by omega, by go_num, by rw [HQ.out], by rw [← HQ.out]; omega⟩
          case measure => simp [intOf]; omega
      · obtain rfl : k = xs.length := by omega
        have HF : Hid (rest l (xs.length + ((xs.take xs.length).map List.length).sum) = rest l (totL List.length xs)) := hid (by rw [List.take_length]; rfl)
        rw [HF.out]
        go_wp2
        go_ret
        exact ⟨rfl, rfl⟩
theorem infoSl1 : (Tryz.prog.info? 23).map (fun i => (i.zero, i.size, i.bytes)) = some (some (.slice none 0 0), 1, 24) := by kernel_rfl
set_option maxHeartbeats 1000000 in
theorem toSS_any (a : Option Addr) (cap : Nat) (xs : List (List Nat)) (w : World) (hr : RdSl cSS w xs (.slice a xs.length cap)) (ht : totL List.length xs ≤ 1048576) :
    Calls Tryz.prog 137 #[.slice a xs.length cap] w fun e w' => ∃ v bs, e = .returned v ∧ OwnSl cSS 23 w' xs v bs ∧ (∀ b ∈ bs, w.heap.size ≤ b) ∧ bs.Nodup ∧ Below w.heap.size w w' := by
  obtain ⟨i0, hi, hz0, hz1, hz2⟩ := info_parts infoSl1
  have HR := hid hr
  clear hr
  have hlen : xs.length ≤ 1048576 := by unfold totL at ht; omega
  go_enter Tryz.func137, Tryz.ntmps137
  go_wp2_with (first | (at_make; refine wpList_make_full _ rfl (.tmp 6) (.tmp 6) 123 rfl w.heap.size 23 i0 (.slice none 0 0) 1 Tryz.underlying123 hi hz0 hz1 .i64 .i64 _ _ xs.length rfl rfl rfl rfl (by rw [hz2]; omega) (by unfold maxLen; omega) (by simp) ?_))
  intro w1 ho hg1
  have HB1 : Hid (Below w.heap.size w w1) := hid ((Below.refl _ w).grown hg1 (Nat.le_refl _) (by intro k h; cases h))
  have HM : Hid (Made1 cSS 23 w w1 xs 0) := hid ⟨_, [], ho, rfl, fun i h h2 => by simp at h2, by simp, by simp⟩
  clear hg1 hi hz0 hz1 hz2 ho
  go_wp2
  go_loopw [4] (fun i wr => ∃ k : Nat, k ≤ xs.length ∧ i = .int .i64 k ∧ Made1 cSS 23 w wr xs k ∧ Below w.heap.size w wr) (fun i _ => xs.length - (intOf i).toNat)
  case atStart => exact ⟨0, Nat.zero_le _, rfl, HM.out, HB1.out⟩
  case round =>
    obtain ⟨k, hk, rfl, hm, hbe⟩ := hrel
    have HV := hid hm
    have HB := hid hbe
    clear hm hbe
    by_cases hlt : k < xs.length
    · obtain ⟨b, off, a', c', rfl, hcb, hrr⟩ := (HR.out.later HB.out).row hlt
      obtain ⟨_, _, e', -, -, -, hrd, hby⟩ := hrr.bytes
      simp only [Value.slice.injEq] at e'
      obtain ⟨rfl, -, rfl⟩ := e'
      have HRD := hid hrd
      have HBY := hid hby
      have hki : (k : Int) < (xs.length : Int) := by omega
      clear hrr hrd hby
      go_wp2_with fail
      refine (toByteS_any a' c' xs[k] wr HRD.out (by have := tot_at List.length xs k hlt; unfold totL at ht; omega)).mono ?_
      rintro e w2 ⟨g2, rfl, o2, b2⟩
      have hg2 := own_in o2 (g := g2) rfl
      have HN : Hid (Made1 cSS 23 w (w2.setCell ⟨w.heap.size, k, none⟩ (.slice (some ⟨g2, 0, none⟩) xs[k].length xs[k].length)) xs (k + 1)) := hid (HV.out.step hlt b2 ⟨_, rfl, ownSl_bytes o2 HBY.out⟩ (by simp [Value.ownBlock]; exact hg2.1) (by simp [Value.ownBlock]))
      have HBB : Hid (Below w.heap.size w (w2.setCell ⟨w.heap.size, k, none⟩ (.slice (some ⟨g2, 0, none⟩) xs[k].length xs[k].length))) := hid ((HB.out.trans (b2.mono HB.out.size)).setCell (p := ⟨w.heap.size, k, none⟩) (Nat.le_refl _) _)
      obtain ⟨vs, hvl, how2⟩ := HV.out.row b2
      have f0 := how2.frozenAt k
      have q0 := how2.cellAt k (by omega)
      rw [List.getElem?_eq_getElem (by omega)] at q0
      generalize vs[k] = y0 at q0
      clear o2 b2 how2 hvl hg2
      go_wp2
      go_roundw
      case rel => exact ⟨k + 1, by omega, by go_num, HN.out, HBB.out⟩
      case measure => simp [intOf]; omega
    · obtain rfl : k = xs.length := by omega
      obtain ⟨bs, h1, h2, h3⟩ := HV.out.done rfl
      have HF := hid h1
      clear h1
      go_wp2
      go_ret
      exact ⟨_, bs, rfl, HF.out, h2, h3, HB.out⟩
set_option maxHeartbeats 1000000 in
theorem eqSS_any (a1 a2 : Option Addr) (c1 c2 : Nat) (xs : List (List Nat)) (w : World) (h1 : RdSl cSS w xs (.slice a1 xs.length c1)) (h2 : RdSl cSS w xs (.slice a2 xs.length c2)) (ht : totL List.length xs ≤ 1048576) :
    Calls Tryz.prog 142 #[.slice a1 xs.length c1, .slice a2 xs.length c2] w fun e w' => e = .returned (.bool true) ∧ Below w.heap.size w w' := by
  have H1 := hid h1
  have H2 := hid h2
  clear h1 h2
  have hlen : xs.length ≤ 1048576 := by unfold totL at ht; omega
  go_enter Tryz.func142, Tryz.ntmps142
  go_wp2
  go_loopw [5] (fun i wr => ∃ k : Nat, k ≤ xs.length ∧ i = .int .i64 k ∧ Below w.heap.size w wr) (fun i _ => xs.length - (intOf i).toNat)
  case atStart => exact ⟨0, Nat.zero_le _, rfl, Below.refl _ _⟩
  case round =>
    obtain ⟨k, hk, rfl, hbe⟩ := hrel
    have HB := hid hbe
    clear hbe
    by_cases hlt : k < xs.length
    · obtain ⟨b1, o1, a1', c1', rfl, g1, r1⟩ := (H1.out.later HB.out).row hlt
      obtain ⟨b2, o2, a2', c2', rfl, g2, r2⟩ := (H2.out.later HB.out).row hlt
      obtain ⟨_, _, e', -, -, -, q1, -⟩ := r1.bytes
      simp only [Value.slice.injEq] at e'
      obtain ⟨rfl, -, rfl⟩ := e'
      obtain ⟨_, _, e', -, -, -, q2, -⟩ := r2.bytes
      simp only [Value.slice.injEq] at e'
      obtain ⟨rfl, -, rfl⟩ := e'
      have HQ : Hid (∀ n, Calls Tryz.prog 97 #[.slice a1' xs[k].length c1', .slice a2' xs[k].length c2'] (wr.drewN n) fun e w' => e = .returned (.bool true) ∧ ∃ m, w' = (wr.drewN n).drewN m) := hid (fun n => by
        have hlk := tot_at List.length xs k hlt
        unfold totL at ht
        exact eqByteS_quiet _ _ _ _ _ xs[k] _ (q1.later (below_drewN (Below.refl _ _) n)) (q2.later (below_drewN (Below.refl _ _) n)) rfl (by omega))
      have hki : (k : Int) < (xs.length : Int) := by omega
      clear r1 r2 q1 q2
      go_wp2
      go_quiet ((go_at_call 97; exact Calls.quiet_of (HQ.out _)))
      go_wp2
      go_roundw
      case rel => exact ⟨k + 1, by omega, by go_num, below_drewN HB.out _⟩
      case measure => simp [intOf]; omega
    · obtain rfl : k = xs.length := by omega
      go_wp2
      go_ret
      exact ⟨rfl, HB.out⟩
end Go.Proofs.YtfaehioeepolhaaGreat
