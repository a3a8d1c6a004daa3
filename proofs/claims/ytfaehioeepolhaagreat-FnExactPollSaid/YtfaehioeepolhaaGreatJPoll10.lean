import Derived.Test.YtfaehioeepolhaaGreatJPoll9
import Derived.Test.YtfaehioeepolhaaGreatJPoll1
import Derived.Deep.RegionHeld
namespace Go.Proofs.YtfaehioeepolhaaGreat
open Go.ChangeShapes Go.WideShapes Go.ChangeAt Go.RowKit
theorem opens_Pkt {H : Type} (enc : TypeId × Value → H) (W : World) : Opens enc Tryz.prog W 159 cPkt :=
  opens_struct6 Tryz.underlying159 rfl rfl rfl rfl rfl rfl rfl (by kernel_rfl) (by kernel_rfl) (by kernel_rfl) (by kernel_rfl) (by kernel_rfl) (by kernel_rfl) (by kernel_rfl) (opens_int Tryz.underlying3) (opens_int Tryz.underlying3) (opens_int Tryz.underlying3) (opens_int Tryz.underlying3) (opens_bool Tryz.underlying4) (opens_slice Tryz.underlying23 (by kernel_rfl) (by decide) (opens_byte Tryz.underlying5) 5) (fun x y z u v s => ⟨x, y, z, u, v, s⟩) (fun _ _ _ _ _ _ => rfl)
end Go.Proofs.YtfaehioeepolhaaGreat
namespace Go.Proofs.YtfaehioeepolhaaGreat
open Go.RowKit
def setAll : List Value → Nat → List Value → List Value
  | vs, _, [] => vs
  | vs, off, c :: cs => setAll (vs.set off c) (off + 1) cs
def wsetAll : World → Nat → Nat → List Value → World
  | w, _, _, [] => w
  | w, g, off, c :: cs => wsetAll (w.setCell ⟨g, off, none⟩ c) g (off + 1) cs
theorem setAll_at : ∀ (cs : List Value) (vs : List Value) (off i : Nat), off + cs.length ≤ vs.length → (setAll vs off cs)[i]? = if off ≤ i ∧ i < off + cs.length then cs[i - off]? else vs[i]?
  | [], vs, off, i, _ => by simp [setAll]; omega
  | c :: cs, vs, off, i, h => by
    simp only [List.length_cons] at h ⊢
    rw [setAll, setAll_at cs (vs.set off c) (off + 1) i (by simp; omega), List.getElem?_set]
    by_cases h1 : i < off
    · rw [if_neg (by omega), if_neg (by omega), if_neg (by omega)]
    · by_cases h2 : i = off
      · subst h2
        rw [if_neg (by omega), if_pos rfl, if_pos (by omega), if_pos (by omega)]; simp
      · by_cases h3 : i < off + (cs.length + 1)
        · rw [if_pos (by omega), if_pos (by omega), show i - off = (i - (off + 1)) + 1 from by omega, List.getElem?_cons_succ]
        · rw [if_neg (by omega), if_neg (by omega), if_neg (by omega)]
theorem wsetAll_other : ∀ (cs : List Value) (w : World) (g off : Nat) {k : Nat}, k ≠ g → (wsetAll w g off cs).heap[k]? = w.heap[k]?
  | [], _, _, _, _, _ => rfl
  | c :: cs, w, g, off, _, h => by rw [wsetAll, wsetAll_other cs _ g _ h, Below.heap_setCell _ _ _ _ h]
theorem wsetAll_size : ∀ (cs : List Value) (w : World) (g off : Nat), (wsetAll w g off cs).heap.size = w.heap.size
  | [], _, _, _ => rfl
  | c :: cs, w, g, off => by rw [wsetAll, wsetAll_size cs]; simp
theorem wsetAll_below {B : Nat} {a : World} : ∀ (cs : List Value) (w : World) (g off : Nat), Below B a w → B ≤ g → Below B a (wsetAll w g off cs)
  | [], _, _, _, h, _ => h
  | c :: cs, _, g, off, h, hg => wsetAll_below cs _ g _ (h.setCell (p := ⟨g, off, none⟩) hg c) hg
theorem wsetAll_owns {B n s g cap : Nat} {e : TypeId} : ∀ (cs : List Value) (w : World) (vs : List Value) (off : Nat), w.ownsRow B e s (.slice (some ⟨g, 0, none⟩) n cap) n vs → (wsetAll w g off cs).ownsRow B e s (.slice (some ⟨g, 0, none⟩) n cap) n (setAll vs off cs)
  | [], _, _, _, h => h
  | c :: cs, _, _, off, h => wsetAll_owns cs _ _ (off + 1) (World.ownsRow.stored h off c).1
theorem part_all {vs cs : List Value} {n m k : Nat} (hv : vs.length = m * n) (hk : k < m) (hc : cs.length = n) : part (setAll vs (k * n) cs) n k = cs := by
  have h : (k + 1) * n ≤ m * n := Nat.mul_le_mul_right _ hk
  rw [Nat.add_mul, Nat.one_mul] at h
  apply List.ext_getElem?
  intro j
  by_cases hj : j < n
  · rw [part_at hj, setAll_at _ _ _ _ (by omega), if_pos (by omega), show k * n + j - k * n = j from by omega]
  · rw [List.getElem?_eq_none (by simp [part]; omega), List.getElem?_eq_none (by omega)]
theorem part_allo {vs cs : List Value} {n m k i : Nat} (hv : vs.length = m * n) (hk : k < m) (hc : cs.length = n) (hne : i ≠ k) : part (setAll vs (k * n) cs) n i = part vs n i := by
  have h : (k + 1) * n ≤ m * n := Nat.mul_le_mul_right _ hk
  rw [Nat.add_mul, Nat.one_mul] at h
  apply List.ext_getElem?
  intro j
  by_cases hj : j < n
  · rw [part_at hj, part_at hj, setAll_at _ _ _ _ (by omega), if_neg]
    intro ⟨h1, h2⟩
    rcases Nat.lt_or_gt_of_ne hne with h3 | h3
    · have : (i + 1) * n ≤ k * n := Nat.mul_le_mul_right _ h3
      rw [Nat.add_mul, Nat.one_mul] at this; omega
    · have : (k + 1) * n ≤ i * n := Nat.mul_le_mul_right _ h3
      rw [Nat.add_mul, Nat.one_mul] at this; omega
  · rw [List.getElem?_eq_none (by simp [part]; omega), List.getElem?_eq_none (by simp [part]; omega)]
def MadeN {α : Type} (n : Nat) (c : Cod α) (e : TypeId) (w wr : World) (xs : List α) (k : Nat) : Prop :=
  ∃ vs bss, wr.ownsRow w.heap.size e n (.slice (some ⟨w.heap.size, 0, none⟩) xs.length xs.length) xs.length vs ∧ bss.length = k ∧ (∀ i, (h : i < xs.length) → (h2 : i < bss.length) → c.own wr xs[i] (part vs n i) bss[i]) ∧ (∀ b ∈ List.flatten bss, w.heap.size < b ∧ b < wr.heap.size) ∧ (List.flatten bss).Nodup
theorem MadeN.row {α : Type} {n : Nat} {c : Cod α} {e : TypeId} {w wr w2 : World} {xs : List α} {k : Nat} (hm : MadeN n c e w wr xs k) (b2 : Below wr.heap.size wr w2) :
    ∃ vs : List Value, vs.length = xs.length * n ∧ w2.ownsRow w.heap.size e n (.slice (some ⟨w.heap.size, 0, none⟩) xs.length xs.length) xs.length vs := by
  obtain ⟨vs, bss, how, _⟩ := hm
  exact ⟨vs, how.1, ownsRow_kept how (fun b hb => b2.block b (World.ownsRow.lt how b hb).2)⟩
theorem MadeN.step {α : Type} {n : Nat} {c : Cod α} {e : TypeId} {w wr w2 : World} {xs : List α} {k : Nat} {cs : List Value} {bs : List Nat} (hn : c.n = n) (hm : MadeN n c e w wr xs k) (hk : k < xs.length)
    (b2 : Below wr.heap.size wr w2) (o2 : c.own w2 xs[k] cs bs) (hbs : ∀ b ∈ bs, wr.heap.size ≤ b) (hnd : bs.Nodup) :
    MadeN n c e w (wsetAll w2 w.heap.size (k * n) cs) xs (k + 1) := by
  obtain ⟨vs, bss, how, hbl, hown, hin, hnn⟩ := hm
  have hvl : vs.length = xs.length * n := how.1
  have hB : w.heap.size < wr.heap.size := (World.ownsRow.lt how w.heap.size rfl).2
  have how2 := ownsRow_kept how (fun b hb => b2.block b (World.ownsRow.lt how b hb).2)
  have hcl : cs.length = n := by rw [← hn]; exact c.len (c.ownRd o2)
  have hlt2 := c.lt o2
  have keep : ∀ j, j ≠ w.heap.size → (wsetAll w2 w.heap.size (k * n) cs).heap[j]? = w2.heap[j]? := fun j hj => wsetAll_other cs w2 _ _ hj
  refine ⟨_, bss ++ [bs], wsetAll_owns cs w2 vs (k * n) how2, by simp [hbl], ?_, ?_, ?_⟩
  · intro i h1 h2
    by_cases ei : i = k
    · subst ei
      have hg : (bss ++ [bs])[i] = bs := by simp [← hbl]
      rw [hg, part_all hvl hk hcl]
      exact c.kept o2 (fun b hb => keep b (by have := hbs b hb; omega))
    · have h3 : i < bss.length := by simp at h2; omega
      have hg : (bss ++ [bs])[i] = bss[i] := List.getElem_append_left h3
      rw [hg, part_allo hvl hk hcl ei]
      have hmem : ∀ b ∈ bss[i], b ∈ List.flatten bss := fun b hb => List.mem_flatten.2 ⟨_, List.getElem_mem h3, hb⟩
      exact c.kept (hown i h1 h3) (fun b hb => (keep b (by have := hin b (hmem b hb); omega)).trans (b2.block b (hin b (hmem b hb)).2))
  · intro b hb
    rw [wsetAll_size]
    simp only [List.flatten_append, List.flatten_cons, List.flatten_nil, List.append_nil, List.mem_append] at hb
    rcases hb with hb | hb
    · have := hin b hb; have := b2.size; omega
    · have := hbs b hb; have := hlt2 b hb; omega
  · simp only [List.flatten_append, List.flatten_cons, List.flatten_nil, List.append_nil]
    exact List.nodup_append.2 ⟨hnn, hnd, fun a ha b hb e => by have := (hin a ha).2; have := hbs b hb; omega⟩
theorem MadeN.done {α : Type} {n : Nat} {c : Cod α} {e : TypeId} {w wr : World} {xs : List α} (hn : c.n = n) (hm : MadeN n c e w wr xs xs.length) :
    ∃ bs, OwnSl c e wr xs (.slice (some ⟨w.heap.size, 0, none⟩) xs.length xs.length) bs ∧ (∀ b ∈ bs, w.heap.size ≤ b) ∧ bs.Nodup := by
  subst hn
  obtain ⟨vs, bss, how, hbl, hown, hin, hnn⟩ := hm
  refine ⟨w.heap.size :: List.flatten bss, .inr ⟨w.heap.size, xs.length, vs, bss, rfl, ⟨how.1, how.2.imp id (fun ⟨g, cap, cur, h1, _, h3⟩ => ⟨g, cap, cur, h1, Nat.zero_le _, h3⟩)⟩, rfl, hbl, fun i h1 h2 => hown i h1 h2⟩, ?_, ?_⟩
  · intro b hb
    rcases List.mem_cons.1 hb with rfl | hb
    · exact Nat.le_refl _
    · exact Nat.le_of_lt (hin b hb).1
  · exact List.nodup_cons.2 ⟨fun h => by have := (hin _ h).1; omega, hnn⟩
theorem wset6 (w : World) (g off : Nat) (x0 x1 x2 x3 x4 x5 : Value) : wsetAll w g off [x0, x1, x2, x3, x4, x5] = ((((((w.setCell ⟨g, off, none⟩ x0).setCell ⟨g, off + 1, none⟩ x1).setCell ⟨g, off + 2, none⟩ x2).setCell ⟨g, off + 3, none⟩ x3).setCell ⟨g, off + 4, none⟩ x4).setCell ⟨g, off + 5, none⟩ x5) := by simp only [wsetAll, Nat.add_assoc, Nat.reduceAdd]
theorem RdSl.atN {α : Type} {c : Cod α} {w : World} {xs : List α} {a : Option Addr} {n cap k : Nat} (h : RdSl c w xs (.slice a n cap)) (hk : k < xs.length) :
    ∃ b off cs, a = some ⟨b, off, none⟩ ∧ c.rd w xs[k] cs ∧ ∀ j, j < c.n → w.cell? ⟨b, off + (k * c.n + j), none⟩ = cs[j]? := by
  obtain ⟨a', cap', e', _, _, _, h4⟩ := h
  simp only [Value.slice.injEq] at e'
  obtain ⟨rfl, _, rfl⟩ := e'
  rcases h4 with h0 | ⟨b, off, rfl, hat⟩
  · subst h0; simp at hk
  · obtain ⟨es, hes, hcs⟩ := hat k hk
    have h3 := c.len hes
    exact ⟨b, off, es, rfl, hes, fun j hj => by rw [hcs j (by omega), List.getElem?_eq_getElem]⟩
end Go.Proofs.YtfaehioeepolhaaGreat
namespace Go.Proofs.YtfaehioeepolhaaGreat
open Go.RowKit
theorem infoImPacket : (Tryz.prog.info? 120).map (fun i => (i.zero, i.size, i.bytes)) = some (some (.agg #[.int .i64 0, .int .i64 0, .int .i64 0, .int .i64 0, .bool false, .slice none 0 0]), 6, 64) := by kernel_rfl
set_option maxRecDepth 100000 in
set_option maxHeartbeats 4000000 in
theorem toPacketS_any (a : Option Addr) (cap : Nat) (xs : List PP) (w : World) (hr : RdSl cPkt w xs (.slice a xs.length cap)) (ht : totL pN xs ≤ 1048576) :
    Calls Tryz.prog 88 #[.slice a xs.length cap] w fun e w' => ∃ v bs, e = .returned v ∧ OwnSl cPkt 120 w' xs v bs ∧ (∀ b ∈ bs, w.heap.size ≤ b) ∧ bs.Nodup ∧ Below w.heap.size w w' := by
  obtain ⟨i0, hi, hz0, hz1, hz2⟩ := info_parts infoImPacket
  have HR := hid hr
  clear hr
  have hlen : xs.length ≤ 1048576 := by unfold totL at ht; omega
  go_enter Tryz.func88, Tryz.ntmps88
  go_wp2_with (first | (at_make; refine wpList_make_full _ rfl (.tmp 6) (.tmp 6) 35 rfl w.heap.size 120 i0 (.agg #[.int .i64 0, .int .i64 0, .int .i64 0, .int .i64 0, .bool false, .slice none 0 0]) 6 Tryz.underlying35 hi hz0 hz1 .i64 .i64 _ _ xs.length rfl rfl rfl rfl (by rw [hz2]; omega) (by unfold maxLen; omega) (by simp) ?_))
  intro w1 ho hg1
  have HB1 : Hid (Below w.heap.size w w1) := hid ((Below.refl _ w).grown hg1 (Nat.le_refl _) (by intro k h; cases h))
  have HM : Hid (MadeN 6 cPkt 120 w w1 xs 0) := hid ⟨_, [], ho, rfl, fun i h h2 => by simp at h2, by simp, by simp⟩
  clear hg1 hi hz0 hz1 hz2 ho
  go_wp2
  go_loopw [4] (fun i wr => ∃ k : Nat, k ≤ xs.length ∧ i = .int .i64 k ∧ MadeN 6 cPkt 120 w wr xs k ∧ Below w.heap.size w wr) (fun i _ => xs.length - (intOf i).toNat)
  case atStart => exact ⟨0, Nat.zero_le _, rfl, HM.out, HB1.out⟩
  case round =>
    obtain ⟨k, hk, rfl, hm, hbe⟩ := hrel
    have HV := hid hm
    have HB := hid hbe
    clear hm hbe
    by_cases hlt : k < xs.length
    · obtain ⟨b, off, es, rfl, hes, hcs⟩ := (HR.out.later HB.out).atN hlt
      obtain ⟨a0, c0, rfl⟩ := cPkt_shape hes
      have d0 : wr.cell? ⟨b, off + k * 6, none⟩ = some (.int .i64 xs[k].kind) := by have h := hcs 0 (by decide); rw [show cPkt.n = 6 from rfl] at h; simpa [Nat.add_assoc] using h
      have d1 : wr.cell? ⟨b, off + k * 6 + 1, none⟩ = some (.int .i64 xs[k].epoch) := by have h := hcs 1 (by decide); rw [show cPkt.n = 6 from rfl] at h; simpa [Nat.add_assoc] using h
      have d2 : wr.cell? ⟨b, off + k * 6 + 2, none⟩ = some (.int .i64 xs[k].seq) := by have h := hcs 2 (by decide); rw [show cPkt.n = 6 from rfl] at h; simpa [Nat.add_assoc] using h
      have d3 : wr.cell? ⟨b, off + k * 6 + 3, none⟩ = some (.int .i64 xs[k].count) := by have h := hcs 3 (by decide); rw [show cPkt.n = 6 from rfl] at h; simpa [Nat.add_assoc] using h
      have d4 : wr.cell? ⟨b, off + k * 6 + 4, none⟩ = some (.bool xs[k].last) := by have h := hcs 4 (by decide); rw [show cPkt.n = 6 from rfl] at h; simpa [Nat.add_assoc] using h
      have d5 : wr.cell? ⟨b, off + k * 6 + 5, none⟩ = some (.slice a0 xs[k].data.length c0) := by have h := hcs 5 (by decide); rw [show cPkt.n = 6 from rfl] at h; simpa [Nat.add_assoc] using h
      have HT := hid (toPacket_law wr xs[k] _ hes (by have := tot_at pN xs k hlt; unfold totL at ht; omega))
      simp only [val] at HT
      have hki : (k : Int) < (xs.length : Int) := by omega
      clear hes hcs
      go_wp2_with fail
      refine HT.out.mono ?_
      rintro e w2 ⟨cs', bs, he, o2, hbs, hnd, b2⟩
      obtain ⟨ax, cx, rfl⟩ := cPkt_shape (cPkt.ownRd o2)
      subst he
      have HN : Hid (MadeN 6 cPkt 120 w ((((((w2.setCell ⟨w.heap.size, k * 6, none⟩ (.int .i64 xs[k].kind)).setCell ⟨w.heap.size, k * 6 + 1, none⟩ (.int .i64 xs[k].epoch)).setCell ⟨w.heap.size, k * 6 + 2, none⟩ (.int .i64 xs[k].seq)).setCell ⟨w.heap.size, k * 6 + 3, none⟩ (.int .i64 xs[k].count)).setCell ⟨w.heap.size, k * 6 + 4, none⟩ (.bool xs[k].last)).setCell ⟨w.heap.size, k * 6 + 5, none⟩ (.slice ax xs[k].data.length cx)) xs (k + 1)) := hid (by
        have hst := HV.out.step rfl hlt b2 o2 hbs hnd
        rw [wset6] at hst
        exact hst)
      have HBB : Hid (Below w.heap.size w ((((((w2.setCell ⟨w.heap.size, k * 6, none⟩ (.int .i64 xs[k].kind)).setCell ⟨w.heap.size, k * 6 + 1, none⟩ (.int .i64 xs[k].epoch)).setCell ⟨w.heap.size, k * 6 + 2, none⟩ (.int .i64 xs[k].seq)).setCell ⟨w.heap.size, k * 6 + 3, none⟩ (.int .i64 xs[k].count)).setCell ⟨w.heap.size, k * 6 + 4, none⟩ (.bool xs[k].last)).setCell ⟨w.heap.size, k * 6 + 5, none⟩ (.slice ax xs[k].data.length cx))) := hid (by
        have hst := wsetAll_below [.int .i64 xs[k].kind, .int .i64 xs[k].epoch, .int .i64 xs[k].seq, .int .i64 xs[k].count, .bool xs[k].last, .slice ax xs[k].data.length cx] w2 w.heap.size (k * 6) (HB.out.trans (b2.mono HB.out.size)) (Nat.le_refl _)
        rw [wset6] at hst
        exact hst)
      obtain ⟨vs, hvl, how2⟩ := HV.out.row b2
      have f0 := how2.frozenAt (k * 6)
      have q0 := how2.cellAt (k * 6) (by omega)
      have f1 := how2.frozenAt (k * 6 + 1)
      have q1 := how2.cellAt (k * 6 + 1) (by omega)
      have f2 := how2.frozenAt (k * 6 + 2)
      have q2 := how2.cellAt (k * 6 + 2) (by omega)
      have f3 := how2.frozenAt (k * 6 + 3)
      have q3 := how2.cellAt (k * 6 + 3) (by omega)
      have f4 := how2.frozenAt (k * 6 + 4)
      have q4 := how2.cellAt (k * 6 + 4) (by omega)
      have f5 := how2.frozenAt (k * 6 + 5)
      have q5 := how2.cellAt (k * 6 + 5) (by omega)
      rw [List.getElem?_eq_getElem (by omega)] at q0 q1 q2 q3 q4 q5
      generalize vs[k * 6] = y0 at q0
      generalize vs[k * 6 + 1] = y1 at q1
      generalize vs[k * 6 + 2] = y2 at q2
      generalize vs[k * 6 + 3] = y3 at q3
      generalize vs[k * 6 + 4] = y4 at q4
      generalize vs[k * 6 + 5] = y5 at q5
      clear o2 hbs hnd b2 how2 hvl HT
      go_wp2
      go_roundw
      case rel => exact ⟨k + 1, by omega, by go_num, HN.out, HBB.out⟩
      case measure => simp [intOf]; omega
    · obtain rfl : k = xs.length := by omega
      obtain ⟨bs, h1, h2, h3⟩ := MadeN.done (n := 6) (c := cPkt) rfl HV.out
      have HF := hid h1
      clear h1
      go_wp2
      go_ret
      exact ⟨_, bs, rfl, HF.out, h2, h3, HB.out⟩
set_option maxHeartbeats 2000000 in
theorem szPacketS_any (a : Option Addr) (cap : Nat) (xs : List PP) (l : Int) (w : World) (hr : RdSl cPkt w xs (.slice a xs.length cap)) (h0 : 0 ≤ l) (h1 : l ≤ 1048576) :
    Calls Tryz.prog 82 #[.slice a xs.length cap, .int .i64 l] w fun e w' => e = .returned (.int .i64 (rest l (totL pN xs))) ∧ Below w.heap.size w w' := by
  have hml : xs.length ≤ maxLen := by
    obtain ⟨a', cap', e', g1, g2, _⟩ := hr
    omega
  unfold maxLen at hml
  have HR := hid hr
  clear hr
  by_cases hbig : l - (xs.length : Int) < 0
  · have HM : Hid (rest l (totL pN xs) = -1) := hid (by unfold rest totL; rw [if_pos (by omega)])
    go_enter Tryz.func82, Tryz.ntmps82
    go_wp2
    go_ret
    exact ⟨by rw [HM.out]; rfl, Below.refl _ _⟩
  · go_enter Tryz.func82, Tryz.ntmps82
    go_wp2
    go_loopw [1, 5] (fun q i wr => ∃ k : Nat, k ≤ xs.length ∧ i = .int .i64 k ∧ q = .int .i64 (rest l (xs.length + ((xs.take k).map pN).sum)) ∧ 0 ≤ rest l (xs.length + ((xs.take k).map pN).sum) ∧ Below w.heap.size w wr) (fun _ i _ => xs.length - (intOf i).toNat)
    case atStart => exact ⟨0, Nat.zero_le _, rfl, by simp [rest]; omega, by simp [rest]; omega, Below.refl _ _⟩
    case round =>
      obtain ⟨k, hk, rfl, rfl, hle, hbe⟩ := hrel
      have HB := hid hbe
      clear hbe
      by_cases hlt : k < xs.length
      · obtain ⟨b, off, es, rfl, hes, hcs⟩ := (HR.out.later HB.out).atN hlt
        obtain ⟨a0, c0, rfl⟩ := cPkt_shape hes
        have d0 : wr.cell? ⟨b, off + k * 6, none⟩ = some (.int .i64 xs[k].kind) := by have h := hcs 0 (by decide); rw [show cPkt.n = 6 from rfl] at h; simpa [Nat.add_assoc] using h
        have d1 : wr.cell? ⟨b, off + k * 6 + 1, none⟩ = some (.int .i64 xs[k].epoch) := by have h := hcs 1 (by decide); rw [show cPkt.n = 6 from rfl] at h; simpa [Nat.add_assoc] using h
        have d2 : wr.cell? ⟨b, off + k * 6 + 2, none⟩ = some (.int .i64 xs[k].seq) := by have h := hcs 2 (by decide); rw [show cPkt.n = 6 from rfl] at h; simpa [Nat.add_assoc] using h
        have d3 : wr.cell? ⟨b, off + k * 6 + 3, none⟩ = some (.int .i64 xs[k].count) := by have h := hcs 3 (by decide); rw [show cPkt.n = 6 from rfl] at h; simpa [Nat.add_assoc] using h
        have d4 : wr.cell? ⟨b, off + k * 6 + 4, none⟩ = some (.bool xs[k].last) := by have h := hcs 4 (by decide); rw [show cPkt.n = 6 from rfl] at h; simpa [Nat.add_assoc] using h
        have d5 : wr.cell? ⟨b, off + k * 6 + 5, none⟩ = some (.slice a0 xs[k].data.length c0) := by have h := hcs 5 (by decide); rw [show cPkt.n = 6 from rfl] at h; simpa [Nat.add_assoc] using h
        have hki : (k : Int) < (xs.length : Int) := by omega
        have HS := hid (sum_snoc pN xs k hlt)
        have HT := hid (rest_two (m := pN xs[k]) hle)
        have HNG : Hid (rest l (xs.length + ((xs.take (k + 1)).map pN).sum) < 0 → rest l (totL pN xs) = -1) := hid (fun h => by
          have h2 := sum_take pN xs (k + 1)
          have h3 := rest_neg (m := totL pN xs - (xs.length + ((xs.take (k + 1)).map pN).sum)) h
          unfold totL at *
          rw [show xs.length + ((xs.take (k + 1)).map pN).sum + (xs.length + (xs.map pN).sum - (xs.length + ((xs.take (k + 1)).map pN).sum)) = xs.length + (xs.map pN).sum from by omega] at h3
          exact h3)
        have hup := rest_le (n := xs.length + ((xs.take k).map pN).sum) h1
        generalize hq : rest l (xs.length + ((xs.take k).map pN).sum) = q at *
        have HQ := hid (szPacket_law wr xs[k] _ q hes hle hup)
        simp only [val] at HQ
        clear hes hcs
        go_wp2_with fail
        refine HQ.out.mono ?_
        rintro e w2 ⟨rfl, b2⟩
        have HB2 := hid (HB.out.trans (b2.mono HB.out.size))
        clear b2
        have HQ2 : Hid (rest q (pN xs[k]) = rest l (xs.length + ((xs.take (k + 1)).map pN).sum)) := hid (by rw [HT.out, HS.out, Nat.add_assoc])
        generalize rest q (pN xs[k]) = r at *
        by_cases hneg : r < 0
        · have hz := HNG.out (by rw [← HQ2.out]; exact hneg)
          have HZ := hid hz
          clear hz
          go_wp2
          go_ret
          exact ⟨by rw [HZ.out]; rfl, HB2.out⟩
        · go_wp2
          go_roundw
          case rel => exact ⟨k + 1, by omega, by go_num, by rw [HQ2.out], by rw [← HQ2.out]; omega, HB2.out⟩
          case measure => simp [intOf]; omega
      · obtain rfl : k = xs.length := by omega
        have HF : Hid (rest l (xs.length + ((xs.take xs.length).map pN).sum) = rest l (totL pN xs)) := hid (by rw [List.take_length]; rfl)
        rw [HF.out]
        go_wp2
        go_ret
        exact ⟨rfl, HB.out⟩
set_option maxRecDepth 100000 in
set_option maxHeartbeats 4000000 in
theorem eqPacketS_any (a1 a2 : Option Addr) (c1 c2 : Nat) (xs : List PP) (w : World) (h1 : RdSl cPkt w xs (.slice a1 xs.length c1)) (h2 : RdSl cPkt w xs (.slice a2 xs.length c2)) (ht : totL pN xs ≤ 1048576) :
    Calls Tryz.prog 96 #[.slice a1 xs.length c1, .slice a2 xs.length c2] w fun e w' => e = .returned (.bool true) ∧ Below w.heap.size w w' := by
  have H1 := hid h1
  have H2 := hid h2
  clear h1 h2
  have hlen : xs.length ≤ 1048576 := by unfold totL at ht; omega
  go_enter Tryz.func96, Tryz.ntmps96
  go_wp2
  go_loopw [5] (fun i wr => ∃ k : Nat, k ≤ xs.length ∧ i = .int .i64 k ∧ Below w.heap.size w wr) (fun i _ => xs.length - (intOf i).toNat)
  case atStart => exact ⟨0, Nat.zero_le _, rfl, Below.refl _ _⟩
  case round =>
    obtain ⟨k, hk, rfl, hbe⟩ := hrel
    have HB := hid hbe
    clear hbe
    by_cases hlt : k < xs.length
    · obtain ⟨b1, o1, es1, rfl, hes1, hcs1⟩ := (H1.out.later HB.out).atN hlt
      obtain ⟨b2, o2, es2, rfl, hes2, hcs2⟩ := (H2.out.later HB.out).atN hlt
      obtain ⟨x1, y1, rfl⟩ := cPkt_shape hes1
      obtain ⟨x2, y2, rfl⟩ := cPkt_shape hes2
      have d0 : wr.cell? ⟨b1, o1 + k * 6, none⟩ = some (.int .i64 xs[k].kind) := by have h := hcs1 0 (by decide); rw [show cPkt.n = 6 from rfl] at h; simpa [Nat.add_assoc] using h
      have d1 : wr.cell? ⟨b1, o1 + k * 6 + 1, none⟩ = some (.int .i64 xs[k].epoch) := by have h := hcs1 1 (by decide); rw [show cPkt.n = 6 from rfl] at h; simpa [Nat.add_assoc] using h
      have d2 : wr.cell? ⟨b1, o1 + k * 6 + 2, none⟩ = some (.int .i64 xs[k].seq) := by have h := hcs1 2 (by decide); rw [show cPkt.n = 6 from rfl] at h; simpa [Nat.add_assoc] using h
      have d3 : wr.cell? ⟨b1, o1 + k * 6 + 3, none⟩ = some (.int .i64 xs[k].count) := by have h := hcs1 3 (by decide); rw [show cPkt.n = 6 from rfl] at h; simpa [Nat.add_assoc] using h
      have d4 : wr.cell? ⟨b1, o1 + k * 6 + 4, none⟩ = some (.bool xs[k].last) := by have h := hcs1 4 (by decide); rw [show cPkt.n = 6 from rfl] at h; simpa [Nat.add_assoc] using h
      have d5 : wr.cell? ⟨b1, o1 + k * 6 + 5, none⟩ = some (.slice x1 xs[k].data.length y1) := by have h := hcs1 5 (by decide); rw [show cPkt.n = 6 from rfl] at h; simpa [Nat.add_assoc] using h
      have g0 : wr.cell? ⟨b2, o2 + k * 6, none⟩ = some (.int .i64 xs[k].kind) := by have h := hcs2 0 (by decide); rw [show cPkt.n = 6 from rfl] at h; simpa [Nat.add_assoc] using h
      have g1 : wr.cell? ⟨b2, o2 + k * 6 + 1, none⟩ = some (.int .i64 xs[k].epoch) := by have h := hcs2 1 (by decide); rw [show cPkt.n = 6 from rfl] at h; simpa [Nat.add_assoc] using h
      have g2 : wr.cell? ⟨b2, o2 + k * 6 + 2, none⟩ = some (.int .i64 xs[k].seq) := by have h := hcs2 2 (by decide); rw [show cPkt.n = 6 from rfl] at h; simpa [Nat.add_assoc] using h
      have g3 : wr.cell? ⟨b2, o2 + k * 6 + 3, none⟩ = some (.int .i64 xs[k].count) := by have h := hcs2 3 (by decide); rw [show cPkt.n = 6 from rfl] at h; simpa [Nat.add_assoc] using h
      have g4 : wr.cell? ⟨b2, o2 + k * 6 + 4, none⟩ = some (.bool xs[k].last) := by have h := hcs2 4 (by decide); rw [show cPkt.n = 6 from rfl] at h; simpa [Nat.add_assoc] using h
      have g5 : wr.cell? ⟨b2, o2 + k * 6 + 5, none⟩ = some (.slice x2 xs[k].data.length y2) := by have h := hcs2 5 (by decide); rw [show cPkt.n = 6 from rfl] at h; simpa [Nat.add_assoc] using h
      have HQ : Hid (Calls Tryz.prog 141 #[.agg #[.int .i64 xs[k].kind, .int .i64 xs[k].epoch, .int .i64 xs[k].seq, .int .i64 xs[k].count, .bool xs[k].last, .slice x1 xs[k].data.length y1], .agg #[.int .i64 xs[k].kind, .int .i64 xs[k].epoch, .int .i64 xs[k].seq, .int .i64 xs[k].count, .bool xs[k].last, .slice x2 xs[k].data.length y2]] wr.drew fun e w' => e = .returned (.bool true) ∧ Hid (Below w.heap.size w w') ∧ w'.cell? ⟨b1, o1 + k * 6, none⟩ = some (.int .i64 xs[k].kind) ∧ w'.cell? ⟨b1, o1 + k * 6 + 1, none⟩ = some (.int .i64 xs[k].epoch) ∧ w'.cell? ⟨b1, o1 + k * 6 + 2, none⟩ = some (.int .i64 xs[k].seq) ∧ w'.cell? ⟨b1, o1 + k * 6 + 3, none⟩ = some (.int .i64 xs[k].count) ∧ w'.cell? ⟨b1, o1 + k * 6 + 4, none⟩ = some (.bool xs[k].last) ∧ w'.cell? ⟨b1, o1 + k * 6 + 5, none⟩ = some (.slice x1 xs[k].data.length y1) ∧ w'.cell? ⟨b2, o2 + k * 6, none⟩ = some (.int .i64 xs[k].kind) ∧ w'.cell? ⟨b2, o2 + k * 6 + 1, none⟩ = some (.int .i64 xs[k].epoch) ∧ w'.cell? ⟨b2, o2 + k * 6 + 2, none⟩ = some (.int .i64 xs[k].seq) ∧ w'.cell? ⟨b2, o2 + k * 6 + 3, none⟩ = some (.int .i64 xs[k].count) ∧ w'.cell? ⟨b2, o2 + k * 6 + 4, none⟩ = some (.bool xs[k].last) ∧ w'.cell? ⟨b2, o2 + k * 6 + 5, none⟩ = some (.slice x2 xs[k].data.length y2)) := hid (by
        have hq := eqPacket_law wr.drew xs[k] _ _ (cPkt.later hes1 (Below.refl _ _).drew) (cPkt.later hes2 (Below.refl _ _).drew) (by have := tot_at pN xs k hlt; unfold totL at ht; omega)
        simp only [val] at hq
        refine hq.mono ?_
        rintro e w' ⟨rfl, b⟩
        have kp : ∀ p v, wr.cell? p = some v → w'.cell? p = some v := fun p v h => (b.cell (World.block_lt_of_cell? _ _ h)).trans h
        exact ⟨rfl, hid (HB.out.drew.trans (b.mono HB.out.size)), kp _ _ d0, kp _ _ d1, kp _ _ d2, kp _ _ d3, kp _ _ d4, kp _ _ d5, kp _ _ g0, kp _ _ g1, kp _ _ g2, kp _ _ g3, kp _ _ g4, kp _ _ g5⟩)
      have hki : (k : Int) < (xs.length : Int) := by omega
      clear hes1 hes2 hcs1 hcs2
      go_wp2
      go_region_held (fun w' => w'.cell? ⟨b1, o1 + k * 6, none⟩ = some (.int .i64 xs[k].kind) ∧ w'.cell? ⟨b1, o1 + k * 6 + 1, none⟩ = some (.int .i64 xs[k].epoch) ∧ w'.cell? ⟨b1, o1 + k * 6 + 2, none⟩ = some (.int .i64 xs[k].seq) ∧ w'.cell? ⟨b1, o1 + k * 6 + 3, none⟩ = some (.int .i64 xs[k].count) ∧ w'.cell? ⟨b1, o1 + k * 6 + 4, none⟩ = some (.bool xs[k].last) ∧ w'.cell? ⟨b1, o1 + k * 6 + 5, none⟩ = some (.slice x1 xs[k].data.length y1) ∧ w'.cell? ⟨b2, o2 + k * 6, none⟩ = some (.int .i64 xs[k].kind) ∧ w'.cell? ⟨b2, o2 + k * 6 + 1, none⟩ = some (.int .i64 xs[k].epoch) ∧ w'.cell? ⟨b2, o2 + k * 6 + 2, none⟩ = some (.int .i64 xs[k].seq) ∧ w'.cell? ⟨b2, o2 + k * 6 + 3, none⟩ = some (.int .i64 xs[k].count) ∧ w'.cell? ⟨b2, o2 + k * 6 + 4, none⟩ = some (.bool xs[k].last) ∧ w'.cell? ⟨b2, o2 + k * 6 + 5, none⟩ = some (.slice x2 xs[k].data.length y2)) (go_keep) (first | (go_at_call 141; refine HQ.out.mono ?_; rintro e w' ⟨rfl, hw', hd0, hd1, hd2, hd3, hd4, hd5, hg0, hg1, hg2, hg3, hg4, hg5⟩))
      go_wp2
      go_roundw
      case rel => exact ⟨k + 1, by omega, by go_num, hw'.out⟩
      case measure => simp [intOf]; omega
    · obtain rfl : k = xs.length := by omega
      go_wp2
      go_ret
      exact ⟨rfl, HB.out⟩
end Go.Proofs.YtfaehioeepolhaaGreat
