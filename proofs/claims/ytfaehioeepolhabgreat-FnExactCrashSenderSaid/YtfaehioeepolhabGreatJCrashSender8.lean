import Derived.Test.YtfaehioeepolhabGreatJCrashSender7
import Derived.Test.YtfaehioeepolhabGreatJCrashSender1
import Derived.Deep.Cut
namespace Go.Proofs.YtfaehioeepolhabGreat
open Go.ChangeShapes Go.WideShapes Go.ChangeAt Go.RowKit
theorem opens_Pkt {H : Type} (enc : TypeId × Value → H) (W : World) : Opens enc Tryz.prog W 133 cPkt :=
 opens_struct6 Tryz.underlying133 rfl rfl rfl rfl rfl rfl rfl (by kernel_rfl) (by kernel_rfl) (by kernel_rfl) (by kernel_rfl) (by kernel_rfl) (by kernel_rfl) (by kernel_rfl) (opens_int Tryz.underlying3) (opens_int Tryz.underlying3) (opens_int Tryz.underlying3) (opens_int Tryz.underlying3) (opens_bool Tryz.underlying4) (opens_slice Tryz.underlying87 (by kernel_rfl) (by decide) (opens_byte Tryz.underlying5) 5) (fun x y z u v s => ⟨x, y, z, u, v, s⟩) (fun _ _ _ _ _ _ => rfl)
end Go.Proofs.YtfaehioeepolhabGreat
namespace Go.Proofs.YtfaehioeepolhabGreat
open Go.RowKit
def setAll : List Value → Nat → List Value → List Value
 | vs, _, [] => vs
 | vs, off, c :: cs => setAll (vs.set off c) (off + 1) cs
def wsetAll : World → Nat → Nat → List Value → World
 | w, _, _, [] => w
 | w, g, off, c :: cs => wsetAll (w.setCell ⟨g, off, none⟩ c) g (off + 1) cs
theorem setAll_at : ∀ (cs : List Value) (vs : List Value) (off i : Nat), off + cs.length ≤ vs.length → (setAll vs off cs)[i]? = if off ≤ i ∧ i < off + cs.length then cs[i - off]? else vs[i]?
 | [], vs, off, i, _ => by simp [setAll]; omega
 | c :: cs, vs, off, i, h => by
  simp only [List.length_cons] at h ⊢
  rw [setAll, setAll_at cs (vs.set off c) (off + 1) i (by simp; omega), List.getElem?_set]
  by_cases h1 : i < off
  ·rw [if_neg (by omega), if_neg (by omega), if_neg (by omega)]
  ·by_cases h2 : i = off
   ·subst h2
    rw [if_neg (by omega), if_pos rfl, if_pos (by omega), if_pos (by omega)]; simp
   ·by_cases h3 : i < off + (cs.length + 1)
    ·rw [if_pos (by omega), if_pos (by omega), show i - off = (i - (off + 1)) + 1 from by omega, gU]
    ·rw [if_neg (by omega), if_neg (by omega), if_neg (by omega)]
theorem wsetAll_other : ∀ (cs : List Value) (w : World) (g off : Nat) {k : Nat}, k ≠ g → (wsetAll w g off cs).heap[k]? = w.heap[k]?
 | [], _, _, _, _, _ => rfl
 | c :: cs, w, g, off, _, h => by rw [wsetAll, wsetAll_other cs _ g _ h, Below.heap_setCell _ _ _ _ h]
theorem wsetAll_size : ∀ (cs : List Value) (w : World) (g off : Nat), (wsetAll w g off cs).heap.size = w.heap.size
 | [], _, _, _ => rfl
 | c :: cs, w, g, off => by rw [wsetAll, wsetAll_size cs]; simp
theorem wsetAll_below {B : Nat} {a : World} : ∀ (cs : List Value) (w : World) (g off : Nat), Below B a w → B ≤ g → Below B a (wsetAll w g off cs)
 | [], _, _, _, h, _ => h
 | c :: cs, _, g, off, h, hg => wsetAll_below cs _ g _ (h.setCell (p := ⟨g, off, none⟩) hg c) hg
theorem wsetAll_owns {B n s g cap : Nat} {e : TypeId} : ∀ (cs : List Value) (w : World) (vs : List Value) (off : Nat), w.ownsRow B e s (.slice (some ⟨g, 0, none⟩) n cap) n vs → (wsetAll w g off cs).ownsRow B e s (.slice (some ⟨g, 0, none⟩) n cap) n (setAll vs off cs)
 | [], _, _, _, h => h
 | c :: cs, _, _, off, h => wsetAll_owns cs _ _ (off + 1) (World.ownsRow.stored h off c).1
theorem part_all {vs cs : List Value} {n m k : Nat} (hv : vs.length = m * n) (hk : k < m) (hc : cs.length = n) : part (setAll vs (k * n) cs) n k = cs := by
 have h : (k + 1) * n ≤ m * n := Nat.mul_le_mul_right _ hk
 rw [Nat.add_mul, Nat.one_mul] at h
 apply List.ext_getElem?
 intro j
 by_cases hj : j < n
 ·rw [part_at hj, setAll_at _ _ _ _ (by omega), if_pos (by omega), show k * n + j - k * n = j from by omega]
 ·rw [List.getElem?_eq_none (by simp [part]; omega), List.getElem?_eq_none (by omega)]
theorem part_allo {vs cs : List Value} {n m k i : Nat} (hv : vs.length = m * n) (hk : k < m) (hc : cs.length = n) (hne : i ≠ k) : part (setAll vs (k * n) cs) n i = part vs n i := by
 have h : (k + 1) * n ≤ m * n := Nat.mul_le_mul_right _ hk
 rw [Nat.add_mul, Nat.one_mul] at h
 apply List.ext_getElem?
 intro j
 by_cases hj : j < n
 ·rw [part_at hj, part_at hj, setAll_at _ _ _ _ (by omega), if_neg]
  intro ⟨h1, h2⟩
  rcases Nat.lt_or_gt_of_ne hne with h3 | h3
  ·have : (i + 1) * n ≤ k * n := Nat.mul_le_mul_right _ h3
   rw [Nat.add_mul, Nat.one_mul] at this; omega
  ·have : (k + 1) * n ≤ i * n := Nat.mul_le_mul_right _ h3
   rw [Nat.add_mul, Nat.one_mul] at this; omega
 ·rw [List.getElem?_eq_none (by simp [part]; omega), List.getElem?_eq_none (by simp [part]; omega)]
def MadeN {α : Type} (n : Nat) (c : Cod α) (e : TypeId) (w wr : World) (xs : List α) (k : Nat) : Prop :=
 ∃ vs bss, wr.ownsRow w.heap.size e n (.slice (some ⟨w.heap.size, 0, none⟩) xs.length xs.length) xs.length vs ∧ bss.length = k ∧ (∀ i, (h : i < xs.length) → (h2 : i < bss.length) → c.own wr xs[i] (part vs n i) bss[i]) ∧ (∀ b ∈ List.flatten bss, w.heap.size < b ∧ b < wr.heap.size) ∧ (List.flatten bss).Nodup
theorem MadeN.row {α : Type} {n : Nat} {c : Cod α} {e : TypeId} {w wr w2 : World} {xs : List α} {k : Nat} (hm : MadeN n c e w wr xs k) (b2 : Below wr.heap.size wr w2) :
  ∃ vs : List Value, vs.length = xs.length * n ∧ w2.ownsRow w.heap.size e n (.slice (some ⟨w.heap.size, 0, none⟩) xs.length xs.length) xs.length vs := by
 obtain ⟨vs, bss, how, _⟩ := hm
 exact ⟨vs, how.1, ownsRow_kept how (fun b hb => b2.block b (World.ownsRow.lt how b hb).2)⟩
theorem MadeN.step {α : Type} {n : Nat} {c : Cod α} {e : TypeId} {w wr w2 : World} {xs : List α} {k : Nat} {cs : List Value} {bs : List Nat} (hn : c.n = n) (hm : MadeN n c e w wr xs k) (hk : k < xs.length)
  (b2 : Below wr.heap.size wr w2) (o2 : c.own w2 xs[k] cs bs) (hbs : ∀ b ∈ bs, wr.heap.size ≤ b) (hnd : bs.Nodup) :
  MadeN n c e w (wsetAll w2 w.heap.size (k * n) cs) xs (k + 1) := by
 obtain ⟨vs, bss, how, hbl, hown, hin, hnn⟩ := hm
 have hvl : vs.length = xs.length * n := how.1
 have hB : w.heap.size < wr.heap.size := (World.ownsRow.lt how w.heap.size rfl).2
 have how2 := ownsRow_kept how (fun b hb => b2.block b (World.ownsRow.lt how b hb).2)
 have hcl : cs.length = n := by rw [← hn]; exact c.len (c.ownRd o2)
 have hlt2 := c.lt o2
 have keep : ∀ j, j ≠ w.heap.size → (wsetAll w2 w.heap.size (k * n) cs).heap[j]? = w2.heap[j]? := fun j hj => wsetAll_other cs w2 _ _ hj
 refine ⟨_, bss ++ [bs], wsetAll_owns cs w2 vs (k * n) how2, by simp [hbl], ?_, ?_, ?_⟩
 ·intro i h1 h2
  by_cases ei : i = k
  ·subst ei
   have hg : (bss ++ [bs])[i] = bs := by simp [← hbl]
   rw [hg, part_all hvl hk hcl]
   exact c.kept o2 (fun b hb => keep b (by have := hbs b hb; omega))
  ·have h3 : i < bss.length := by simp at h2; omega
   have hg : (bss ++ [bs])[i] = bss[i] := List.getElem_append_left h3
   rw [hg, part_allo hvl hk hcl ei]
   have hmem : ∀ b ∈ bss[i], b ∈ List.flatten bss := fun b hb => List.mem_flatten.2 ⟨_, List.getElem_mem h3, hb⟩
   exact c.kept (hown i h1 h3) (fun b hb => (keep b (by have := hin b (hmem b hb); omega)).trans (b2.block b (hin b (hmem b hb)).2))
 ·intro b hb
  rw [wsetAll_size]
  simp only [List.flatten_append, List.flatten_cons, List.flatten_nil, List.append_nil, List.mem_append] at hb
  rcases hb with hb | hb
  ·have := hin b hb; have := b2.size; omega
  ·have := hbs b hb; have := hlt2 b hb; omega
 ·simp only [List.flatten_append, List.flatten_cons, List.flatten_nil, List.append_nil]
  exact List.nodup_append.2 ⟨hnn, hnd, fun a ha b hb e => by have := (hin a ha).2; have := hbs b hb; omega⟩
theorem MadeN.done {α : Type} {n : Nat} {c : Cod α} {e : TypeId} {w wr : World} {xs : List α} (hn : c.n = n) (hm : MadeN n c e w wr xs xs.length) :
  ∃ bs, OwnSl c e wr xs (.slice (some ⟨w.heap.size, 0, none⟩) xs.length xs.length) bs ∧ (∀ b ∈ bs, w.heap.size ≤ b) ∧ bs.Nodup := by
 subst hn
 obtain ⟨vs, bss, how, hbl, hown, hin, hnn⟩ := hm
 refine ⟨w.heap.size :: List.flatten bss, .inr ⟨w.heap.size, xs.length, vs, bss, rfl, ⟨how.1, how.2.imp id (fun ⟨g, cap, cur, h1, _, h3⟩ => ⟨g, cap, cur, h1, Nat.zero_le _, h3⟩)⟩, rfl, hbl, fun i h1 h2 => hown i h1 h2⟩, ?_, ?_⟩
 ·intro b hb
  rcases List.mem_cons.1 hb with rfl | hb
  ·exact Nat.le_refl _
  ·exact Nat.le_of_lt (hin b hb).1
 ·exact List.nodup_cons.2 ⟨fun h => by have := (hin _ h).1; omega, hnn⟩
theorem wset7 (w : World) (g off : Nat) (x0 x1 x2 x3 x4 x5 x6 : Value) : wsetAll w g off [x0, x1, x2, x3, x4, x5, x6] = (((((((w.setCell ⟨g, off, none⟩ x0).setCell ⟨g, off + 1, none⟩ x1).setCell ⟨g, off + 2, none⟩ x2).setCell ⟨g, off + 3, none⟩ x3).setCell ⟨g, off + 4, none⟩ x4).setCell ⟨g, off + 5, none⟩ x5).setCell ⟨g, off + 6, none⟩ x6) := by simp only [wsetAll, Nat.add_assoc, Nat.reduceAdd]
theorem RdSl.atN {α : Type} {c : Cod α} {w : World} {xs : List α} {a : Option Addr} {n cap k : Nat} (h : RdSl c w xs (.slice a n cap)) (hk : k < xs.length) :
  ∃ b off cs, a = some ⟨b, off, none⟩ ∧ c.rd w xs[k] cs ∧ ∀ j, j < c.n → w.cell? ⟨b, off + (k * c.n + j), none⟩ = cs[j]? := by
 obtain ⟨a', cap', e', _, _, _, h4⟩ := h
 simp only [Value.slice.injEq] at e'
 obtain ⟨rfl, _, rfl⟩ := e'
 rcases h4 with h0 | ⟨b, off, rfl, hat⟩
 ·subst h0; simp at hk
 ·obtain ⟨es, hes, hcs⟩ := hat k hk
  have h3 := c.len hes
  exact ⟨b, off, es, rfl, hes, fun j hj => by rw [hcs j (by omega), List.getElem?_eq_getElem]⟩
theorem set7 {w : World} {g : Nat} {e : TypeId} {a0 a1 a2 a3 a4 a5 a6 x0 x1 x2 x3 x4 x5 x6 : Value} (h : w.heap[g]? = some (.cells #[a0, a1, a2, a3, a4, a5, a6] e (0, 0))) :
  (((((((w.setCell ⟨g, 0, none⟩ x0).setCell ⟨g, 1, none⟩ x1).setCell ⟨g, 2, none⟩ x2).setCell ⟨g, 3, none⟩ x3).setCell ⟨g, 4, none⟩ x4).setCell ⟨g, 5, none⟩ x5).setCell ⟨g, 6, none⟩ x6).heap[g]? = some (.cells #[x0, x1, x2, x3, x4, x5, x6] e (0, 0)) := by
 have h1 := heap_setCell_same w g 0 _ e x0 h
 have h2 := heap_setCell_same _ g 1 _ e x1 h1
 have h3 := heap_setCell_same _ g 2 _ e x2 h2
 have h4 := heap_setCell_same _ g 3 _ e x3 h3
 have h5 := heap_setCell_same _ g 4 _ e x4 h4
 have h6 := heap_setCell_same _ g 5 _ e x5 h5
 have h7 := heap_setCell_same _ g 6 _ e x6 h6
 rw [h7]; rfl
theorem set7o {w : World} {g k : Nat} {x0 x1 x2 x3 x4 x5 x6 : Value} (h : k ≠ g) : (((((((w.setCell ⟨g, 0, none⟩ x0).setCell ⟨g, 1, none⟩ x1).setCell ⟨g, 2, none⟩ x2).setCell ⟨g, 3, none⟩ x3).setCell ⟨g, 4, none⟩ x4).setCell ⟨g, 5, none⟩ x5).setCell ⟨g, 6, none⟩ x6).heap[k]? = w.heap[k]? := by
 rw [Below.heap_setCell _ _ _ _ h, Below.heap_setCell _ _ _ _ h, Below.heap_setCell _ _ _ _ h, Below.heap_setCell _ _ _ _ h, Below.heap_setCell _ _ _ _ h, Below.heap_setCell _ _ _ _ h, Below.heap_setCell _ _ _ _ h]
theorem set7b {B : Nat} {a w : World} {g : Nat} {x0 x1 x2 x3 x4 x5 x6 : Value} (h : Below B a w) (hg : B ≤ g) : Below B a (((((((w.setCell ⟨g, 0, none⟩ x0).setCell ⟨g, 1, none⟩ x1).setCell ⟨g, 2, none⟩ x2).setCell ⟨g, 3, none⟩ x3).setCell ⟨g, 4, none⟩ x4).setCell ⟨g, 5, none⟩ x5).setCell ⟨g, 6, none⟩ x6) :=
 by have := wsetAll_below [x0, x1, x2, x3, x4, x5, x6] w g 0 h hg; rw [wset7] at this; simpa using this
structure PW where
 pkt : PP
 at_ : Int
def cSnt : Cod PW := cMap (cPair cPkt cInt) fun s => (s.pkt, s.at_)
theorem cSnt_rd {w : World} {s : PW} {cs : List Value} (h : cSnt.rd w s cs) : ∃ a cap, cs = [.int .i64 s.pkt.kind, .int .i64 s.pkt.epoch, .int .i64 s.pkt.seq, .int .i64 s.pkt.count, .bool s.pkt.last, .slice a s.pkt.data.length cap, .int .i64 s.at_] ∧ RdSl cByte w s.pkt.data (.slice a s.pkt.data.length cap) ∧ PPIn s.pkt ∧ IntIn s.at_ := by
 obtain ⟨c1, c2, rfl, h1, rfl, h2⟩ := h
 obtain ⟨a, cap, rfl, h3, h4⟩ := cPkt_rd h1
 exact ⟨a, cap, rfl, h3, h4, h2⟩
theorem cSnt_own {w : World} {s : PW} {v : Value} {bs : List Nat} (h : OwnSl cByte 5 w s.pkt.data v bs) (hi : PPIn s.pkt) (h2 : IntIn s.at_) : cSnt.own w s [.int .i64 s.pkt.kind, .int .i64 s.pkt.epoch, .int .i64 s.pkt.seq, .int .i64 s.pkt.count, .bool s.pkt.last, v, .int .i64 s.at_] bs :=
 ⟨_, _, bs, [], rfl, by simp, cPkt_own h hi, rfl, h2, rfl⟩
theorem cSnt_owned {w : World} {s : PW} {cs : List Value} {bs : List Nat} (h : cSnt.own w s cs bs) : ∃ a cap, cs = [.int .i64 s.pkt.kind, .int .i64 s.pkt.epoch, .int .i64 s.pkt.seq, .int .i64 s.pkt.count, .bool s.pkt.last, .slice a s.pkt.data.length cap, .int .i64 s.at_] ∧ OwnSl cByte 5 w s.pkt.data (.slice a s.pkt.data.length cap) bs ∧ PPIn s.pkt ∧ IntIn s.at_ := by
 obtain ⟨c1, c2, b1, b2, rfl, rfl, h1, rfl, h2, rfl⟩ := h
 obtain ⟨a, cap, rfl, h3, h4⟩ := cPkt_owned h1
 exact ⟨a, cap, rfl, by simpa using h3, h4, h2⟩
theorem cSnt_shape {w : World} {s : PW} {cs : List Value} (h : cSnt.rd w s cs) : ∃ a cap, cs = [.int .i64 s.pkt.kind, .int .i64 s.pkt.epoch, .int .i64 s.pkt.seq, .int .i64 s.pkt.count, .bool s.pkt.last, .slice a s.pkt.data.length cap, .int .i64 s.at_] := by
 obtain ⟨a, cap, rfl, _⟩ := cSnt_rd h
 exact ⟨a, cap, rfl⟩
def wN (s : PW) : Nat := s.pkt.data.length
set_option maxHeartbeats 1000000 in
theorem szSent_law : SzLaw Tryz.prog 105 cSnt wN := by
 intro w x cs l hrd h0 h1
 obtain ⟨a, cap, rfl, hv, hi, -⟩ := cSnt_rd hrd
 have HQ := hid (szPacket_law (w.alloc (.cells #[.int .i64 x.pkt.kind, .int .i64 x.pkt.epoch, .int .i64 x.pkt.seq, .int .i64 x.pkt.count, .bool x.pkt.last, .slice a x.pkt.data.length cap, .int .i64 x.at_] 135)) x.pkt _ l (cPkt_mk (hv.later (bN _ _)) hi) h0 h1)
 simp only [val] at HQ
 have HB0 := hid (bN w (.cells #[.int .i64 x.pkt.kind, .int .i64 x.pkt.epoch, .int .i64 x.pkt.seq, .int .i64 x.pkt.count, .bool x.pkt.last, .slice a x.pkt.data.length cap, .int .i64 x.at_] 135))
 clear hrd hv hi
 simp only [val]
 rw [show wN x = pN x.pkt from rfl]
 by_cases hneg : rest l (pN x.pkt) < 0
 ·have HM := hid (rest_neg1 hneg)
  generalize hr : rest l (pN x.pkt) = r at *
  clear hr
  go_enter Tryz.func105, Tryz.ntmps105
  go_wp2_with fail
  refine HQ.out.mono ?_
  rintro e w2 ⟨rfl, b2⟩
  have HB := hid (bC HB0.out b2)
  clear b2
  go_wp2
  go_ret
  exact ⟨by rw [HM.out]; rfl, HB.out⟩
 ·generalize hr : rest l (pN x.pkt) = r at *
  clear hr
  go_enter Tryz.func105, Tryz.ntmps105
  go_wp2_with fail
  refine HQ.out.mono ?_
  rintro e w2 ⟨rfl, b2⟩
  have HB := hid (bC HB0.out b2)
  clear b2
  go_wp2
  go_ret
  exact ⟨rfl, HB.out⟩
set_option maxHeartbeats 2000000 in
theorem eqSent_law : EqLaw Tryz.prog 130 cSnt wN := by
 intro w x cs cs' h1 h2 ht
 obtain ⟨a1, c1, rfl, r1, hi, -⟩ := cSnt_rd h1
 obtain ⟨a2, c2, rfl, r2, -, -⟩ := cSnt_rd h2
 have HQ := hid (eqPacket_law ((w.alloc (.cells #[.int .i64 x.pkt.kind, .int .i64 x.pkt.epoch, .int .i64 x.pkt.seq, .int .i64 x.pkt.count, .bool x.pkt.last, .slice a1 x.pkt.data.length c1, .int .i64 x.at_] 141)).alloc (.cells #[.int .i64 x.pkt.kind, .int .i64 x.pkt.epoch, .int .i64 x.pkt.seq, .int .i64 x.pkt.count, .bool x.pkt.last, .slice a2 x.pkt.data.length c2, .int .i64 x.at_] 141)) x.pkt _ _ (cPkt_mk (r1.later (below_new2 _ _ _)) hi) (cPkt_mk (r2.later (below_new2 _ _ _)) hi) ht)
 simp only [val] at HQ
 have b1 : (x.at_ != x.at_) = false := by simp
 have HB0 := hid (below_new2 w (.cells #[.int .i64 x.pkt.kind, .int .i64 x.pkt.epoch, .int .i64 x.pkt.seq, .int .i64 x.pkt.count, .bool x.pkt.last, .slice a1 x.pkt.data.length c1, .int .i64 x.at_] 141) (.cells #[.int .i64 x.pkt.kind, .int .i64 x.pkt.epoch, .int .i64 x.pkt.seq, .int .i64 x.pkt.count, .bool x.pkt.last, .slice a2 x.pkt.data.length c2, .int .i64 x.at_] 141))
 simp only [val]
 clear h1 h2 ht r1 r2 hi
 go_enter Tryz.func130, Tryz.ntmps130
 go_wp2_with fail
 refine HQ.out.mono ?_
 rintro e w2 ⟨rfl, b2⟩
 have b2' := b2
 rw [size2] at b2'
 obtain ⟨k0, k1⟩ := heap2 _ _ b2'
 have p6 := cR w2 _ 6 _ _ _ k0
 have q6 := cR w2 _ 6 _ _ _ k1
 simp only [gA, gZ, gU] at p6 q6
 have HB := hid (bC HB0.out b2)
 clear b2 b2' k0 k1
 go_wp2
 go_ret
 exact ⟨rfl, HB.out⟩
set_option maxRecDepth 100000 in
set_option maxHeartbeats 4000000 in
theorem toSent_law : ToLaw Tryz.prog 116 cSnt wN := by
 intro w s cs h ht
 obtain ⟨a, cap, rfl, hr, hin, hat⟩ := cSnt_rd h
 have hl3 : Below w.heap.size w (((w.alloc (.cells #[.int .i64 s.pkt.kind, .int .i64 s.pkt.epoch, .int .i64 s.pkt.seq, .int .i64 s.pkt.count, .bool s.pkt.last, .slice a s.pkt.data.length cap, .int .i64 s.at_] 135)).alloc (.cells #[.int .i64 0, .int .i64 0, .int .i64 0, .int .i64 0, .bool false, .slice none 0 0, .int .i64 0] 141)).alloc (.cells #[.int .i64 0, .int .i64 0, .int .i64 0, .int .i64 0, .bool false, .slice none 0 0, .int .i64 0] 141)) := below_new3 w _ _ _
 have HQ := hid (toPacket_law (((w.alloc (.cells #[.int .i64 s.pkt.kind, .int .i64 s.pkt.epoch, .int .i64 s.pkt.seq, .int .i64 s.pkt.count, .bool s.pkt.last, .slice a s.pkt.data.length cap, .int .i64 s.at_] 135)).alloc (.cells #[.int .i64 0, .int .i64 0, .int .i64 0, .int .i64 0, .bool false, .slice none 0 0, .int .i64 0] 141)).alloc (.cells #[.int .i64 0, .int .i64 0, .int .i64 0, .int .i64 0, .bool false, .slice none 0 0, .int .i64 0] 141)) s.pkt _ (cPkt_mk (hr.later hl3) hin) ht)
 simp only [val] at HQ
 have HIN := hid hin
 have HAT := hid hat
 have HL3 := hid hl3
 simp only [val]
 clear h ht hr hin hat hl3
 go_enter Tryz.func116, Tryz.ntmps116
 go_wp2_with fail
 refine HQ.out.mono ?_
 rintro e w2 ⟨cs2, bs, he, o2, hbs, hnd, b2⟩
 obtain ⟨a2, c2, rfl, o3, -⟩ := cPkt_owned o2
 subst he
 have b2' := b2
 rw [size3] at b2' hbs
 obtain ⟨k0, k1, k2⟩ := heap3 _ _ _ b2'
 have c06 := cR w2 _ 6 _ _ _ k0
 have c10 := cR w2 _ 0 _ _ _ k1
 have f10 := fR w2 _ 0 _ _ k1
 have c20 := cR w2 _ 0 _ _ _ k2
 have f20 := fR w2 _ 0 _ _ k2
 have c11 := cR w2 _ 1 _ _ _ k1
 have f11 := fR w2 _ 1 _ _ k1
 have c21 := cR w2 _ 1 _ _ _ k2
 have f21 := fR w2 _ 1 _ _ k2
 have c12 := cR w2 _ 2 _ _ _ k1
 have f12 := fR w2 _ 2 _ _ k1
 have c22 := cR w2 _ 2 _ _ _ k2
 have f22 := fR w2 _ 2 _ _ k2
 have c13 := cR w2 _ 3 _ _ _ k1
 have f13 := fR w2 _ 3 _ _ k1
 have c23 := cR w2 _ 3 _ _ _ k2
 have f23 := fR w2 _ 3 _ _ k2
 have c14 := cR w2 _ 4 _ _ _ k1
 have f14 := fR w2 _ 4 _ _ k1
 have c24 := cR w2 _ 4 _ _ _ k2
 have f24 := fR w2 _ 4 _ _ k2
 have c15 := cR w2 _ 5 _ _ _ k1
 have f15 := fR w2 _ 5 _ _ k1
 have c25 := cR w2 _ 5 _ _ _ k2
 have f25 := fR w2 _ 5 _ _ k2
 have c16 := cR w2 _ 6 _ _ _ k1
 have f16 := fR w2 _ 6 _ _ k1
 have c26 := cR w2 _ 6 _ _ _ k2
 have f26 := fR w2 _ 6 _ _ k2
 simp only [gA, gZ, gU] at c06 c10 c20 c11 c21 c12 c22 c13 c23 c14 c24 c15 c25 c16 c26
 have h12 : w.heap.size + 1 ≠ w.heap.size + 1 + 1 := by omega
 have HKO : Hid ((((((((w2.setCell ⟨w.heap.size + 1 + 1, 0, none⟩ (.int .i64 s.pkt.kind)).setCell ⟨w.heap.size + 1 + 1, 1, none⟩ (.int .i64 s.pkt.epoch)).setCell ⟨w.heap.size + 1 + 1, 2, none⟩ (.int .i64 s.pkt.seq)).setCell ⟨w.heap.size + 1 + 1, 3, none⟩ (.int .i64 s.pkt.count)).setCell ⟨w.heap.size + 1 + 1, 4, none⟩ (.bool s.pkt.last)).setCell ⟨w.heap.size + 1 + 1, 5, none⟩ (.slice a2 s.pkt.data.length c2)).setCell ⟨w.heap.size + 1 + 1, 6, none⟩ (.int .i64 s.at_)).heap[w.heap.size + 1 + 1]? = some (.cells #[.int .i64 s.pkt.kind, .int .i64 s.pkt.epoch, .int .i64 s.pkt.seq, .int .i64 s.pkt.count, .bool s.pkt.last, .slice a2 s.pkt.data.length c2, .int .i64 s.at_] 141 (0, 0))) := hid (set7 k2)
 have HKR : Hid ((((((((w2.setCell ⟨w.heap.size + 1 + 1, 0, none⟩ (.int .i64 s.pkt.kind)).setCell ⟨w.heap.size + 1 + 1, 1, none⟩ (.int .i64 s.pkt.epoch)).setCell ⟨w.heap.size + 1 + 1, 2, none⟩ (.int .i64 s.pkt.seq)).setCell ⟨w.heap.size + 1 + 1, 3, none⟩ (.int .i64 s.pkt.count)).setCell ⟨w.heap.size + 1 + 1, 4, none⟩ (.bool s.pkt.last)).setCell ⟨w.heap.size + 1 + 1, 5, none⟩ (.slice a2 s.pkt.data.length c2)).setCell ⟨w.heap.size + 1 + 1, 6, none⟩ (.int .i64 s.at_)).heap[w.heap.size + 1]? = some (.cells #[.int .i64 0, .int .i64 0, .int .i64 0, .int .i64 0, .bool false, .slice none 0 0, .int .i64 0] 141 (0, 0))) := hid ((set7o h12).trans k1)
 have HBW : Hid (Below w.heap.size w (((((((w2.setCell ⟨w.heap.size + 1 + 1, 0, none⟩ (.int .i64 s.pkt.kind)).setCell ⟨w.heap.size + 1 + 1, 1, none⟩ (.int .i64 s.pkt.epoch)).setCell ⟨w.heap.size + 1 + 1, 2, none⟩ (.int .i64 s.pkt.seq)).setCell ⟨w.heap.size + 1 + 1, 3, none⟩ (.int .i64 s.pkt.count)).setCell ⟨w.heap.size + 1 + 1, 4, none⟩ (.bool s.pkt.last)).setCell ⟨w.heap.size + 1 + 1, 5, none⟩ (.slice a2 s.pkt.data.length c2)).setCell ⟨w.heap.size + 1 + 1, 6, none⟩ (.int .i64 s.at_))) := hid (set7b (bC HL3.out b2) (by omega))
 have HOW : Hid (OwnSl cByte 5 (((((((w2.setCell ⟨w.heap.size + 1 + 1, 0, none⟩ (.int .i64 s.pkt.kind)).setCell ⟨w.heap.size + 1 + 1, 1, none⟩ (.int .i64 s.pkt.epoch)).setCell ⟨w.heap.size + 1 + 1, 2, none⟩ (.int .i64 s.pkt.seq)).setCell ⟨w.heap.size + 1 + 1, 3, none⟩ (.int .i64 s.pkt.count)).setCell ⟨w.heap.size + 1 + 1, 4, none⟩ (.bool s.pkt.last)).setCell ⟨w.heap.size + 1 + 1, 5, none⟩ (.slice a2 s.pkt.data.length c2)).setCell ⟨w.heap.size + 1 + 1, 6, none⟩ (.int .i64 s.at_)) s.pkt.data (.slice a2 s.pkt.data.length c2) bs) := hid (o3.kept (fun b hb => set7o (by have := hbs b hb; omega)))
 have HBS := hid hbs
 have HND := hid hnd
 clear k0 k1 k2 b2 b2' o2 o3 hbs hnd
 go_upto_region 4 with fail
 generalize (((((((w2.setCell ⟨w.heap.size + 1 + 1, 0, none⟩ (.int .i64 s.pkt.kind)).setCell ⟨w.heap.size + 1 + 1, 1, none⟩ (.int .i64 s.pkt.epoch)).setCell ⟨w.heap.size + 1 + 1, 2, none⟩ (.int .i64 s.pkt.seq)).setCell ⟨w.heap.size + 1 + 1, 3, none⟩ (.int .i64 s.pkt.count)).setCell ⟨w.heap.size + 1 + 1, 4, none⟩ (.bool s.pkt.last)).setCell ⟨w.heap.size + 1 + 1, 5, none⟩ (.slice a2 s.pkt.data.length c2)).setCell ⟨w.heap.size + 1 + 1, 6, none⟩ (.int .i64 s.at_)) = W at *
 clear c06 c10 c20 f10 f20 c11 c21 f11 f21 c12 c22 f12 f22 c13 c23 f13 f23 c14 c24 f14 f24 c15 c25 f15 f25 c16 c26 f16 f26
 have k1 := HKR.out
 have k2 := HKO.out
 have c10 := cR W _ 0 _ _ _ k1
 have f10 := fR W _ 0 _ _ k1
 have c20 := cR W _ 0 _ _ _ k2
 have c11 := cR W _ 1 _ _ _ k1
 have f11 := fR W _ 1 _ _ k1
 have c21 := cR W _ 1 _ _ _ k2
 have c12 := cR W _ 2 _ _ _ k1
 have f12 := fR W _ 2 _ _ k1
 have c22 := cR W _ 2 _ _ _ k2
 have c13 := cR W _ 3 _ _ _ k1
 have f13 := fR W _ 3 _ _ k1
 have c23 := cR W _ 3 _ _ _ k2
 have c14 := cR W _ 4 _ _ _ k1
 have f14 := fR W _ 4 _ _ k1
 have c24 := cR W _ 4 _ _ _ k2
 have c15 := cR W _ 5 _ _ _ k1
 have f15 := fR W _ 5 _ _ k1
 have c25 := cR W _ 5 _ _ _ k2
 have c16 := cR W _ 6 _ _ _ k1
 have f16 := fR W _ 6 _ _ k1
 have c26 := cR W _ 6 _ _ _ k2
 simp only [gA, gZ, gU] at c10 c20 c11 c21 c12 c22 c13 c23 c14 c24 c15 c25 c16 c26
 clear k1 k2
 go_wp2
 refine bodyPost_ret (results_cell_row rfl _ _ (w.heap.size + 1) 141 #[.int .i64 s.pkt.kind, .int .i64 s.pkt.epoch, .int .i64 s.pkt.seq, .int .i64 s.pkt.count, .bool s.pkt.last, .slice a2 s.pkt.data.length c2, .int .i64 s.at_] (0, 0) _ rfl (set7 HKR.out) Tryz.underlying141 rfl (by kernel_rfl)) rfl ?_
 refine ⟨_, bs, rfl, cSnt_own (OwnSl.kept HOW.out (fun b hb => set7o (by have := HBS.out b hb; omega))) HIN.out HAT.out, fun b hb => by have := HBS.out b hb; omega, HND.out, set7b HBW.out (by omega)⟩
end Go.Proofs.YtfaehioeepolhabGreat
