import Derived.Test.YtmaccmgmcahopaaJBound21
import Derived.Test.YtmaccmgmcahopaaJBound20
import Derived.Test.YtmaccmgmcahopaaJBound18
import Derived.Test.YtmaccmgmcahopaaJBound7
import Derived.Test.YtmaccmgmcahopaaJBound0
namespace Go.Proofs.Ytmaccmgmcahopaa
open Go.RowKit
theorem in0 : IntIn 0 := ⟨by decide, by decide⟩
theorem zc_rd {B n : Nat} {w : World} {g : Nat} {e : TypeId} (h : w.ownsRow B e 3 (.slice (some ⟨g, 0, none⟩) n n) n (madeCells #[.bool false, .int .i64 0, .slice none 0 0] (n * 3)).toList) : RdSl cCell w (List.replicate n ⟨false, 0, []⟩) (.slice (some ⟨g, 0, none⟩) n n) := by
  obtain ⟨hm, -⟩ : n ≤ maxLen ∧ True := by
    rcases h.2 with ⟨h0, _⟩ | ⟨g', cap, cur, h0, _, _, hn, hm, _⟩
    · cases h0
    · simp at h0; exact ⟨by omega, trivial⟩
  refine ⟨_, n, by simp, by simp, hm, (fun h => by cases h), .inr ⟨g, 0, rfl, fun i hi => ?_⟩⟩
  have hin : i < n := by simpa using hi
  refine ⟨[.bool false, .int .i64 0, .slice none 0 0], ?_, fun j hj => ?_⟩
  · rw [List.getElem_replicate]
    exact ⟨[.bool false], _, rfl, rfl, [.int .i64 0], _, rfl, ⟨rfl, in0⟩, _, rfl, RdSl.empty none⟩
  · have hj3 : j < 3 := by simpa using hj
    have hc : i * 3 + j < n * 3 := by omega
    have := World.ownsRow.cellAt h (i * 3 + j) (by omega)
    rw [show (0 + (i * cCell.n + j) : Nat) = i * 3 + j from by simp [cCell, cMap, cPair, cBool, cInt, cSl], this]
    simp only [madeCells, Array.toList_map, Array.toList_range, List.getElem?_map, List.getElem?_range hc, Option.map_some]
    rcases (by omega : j = 0 ∨ j = 1 ∨ j = 2) with rfl | rfl | rfl
    · rw [show (i * 3 + 0) % (#[Value.bool false, .int .i64 0, .slice none 0 0] : Array Value).size = 0 from by simp]; rfl
    · rw [show (i * 3 + 1) % (#[Value.bool false, .int .i64 0, .slice none 0 0] : Array Value).size = 1 from by simp]; rfl
    · rw [show (i * 3 + 2) % (#[Value.bool false, .int .i64 0, .slice none 0 0] : Array Value).size = 2 from by simp]; rfl
theorem own_one (w : World) (x : Value) (e : TypeId) {B : Nat} (hb : B ≤ w.heap.size) : (w.alloc (.cells #[x] e)).ownsRow B e 1 (.slice (some ⟨w.heap.size, 0, none⟩) 1 1) 1 [x] :=
  ⟨rfl, .inr ⟨w.heap.size, 1, #[x], rfl, hb, heap_alloc_new w _, Nat.le_refl _, by unfold maxLen; omega, rfl, rfl⟩⟩
theorem cell_one_new2 (w : World) (o : Obj) (x : Value) (t : TypeId) : ∀ j u, [x][j]? = some u → ((w.alloc o).alloc (.cells #[x] t)).cell? ((⟨w.heap.size + 1, 0, none⟩ : Addr).add j) = some u := by
  have h := cell_one_new (w.alloc o) x t
  rwa [show (w.alloc o).heap.size = w.heap.size + 1 from by simp] at h
theorem oneT_succ (k : Nat) : oneT (k + 1) = oneT k ++ [[k % 256]] := by simp [oneT, List.range_succ]
theorem oneT_len (k : Nat) : (oneT k).length = k := by simp [oneT]
theorem oneT_tot {d : Nat} (h : d < 3) : totL List.length (oneT (39 + d)) ≤ 1048576 := by
  rcases (by omega : d = 0 ∨ d = 1 ∨ d = 2) with rfl | rfl | rfl <;> decide
theorem zTab_tot {d : Nat} (h : d < 3) : totT (zTab (99 + d)) ≤ 1048576 := by
  rcases (by omega : d = 0 ∨ d = 1 ∨ d = 2) with rfl | rfl | rfl <;> decide
theorem field_rd {w : World} {g b : Nat} {t : TypeId} {z : Nat × Nat} (h1 : w.heap[g]? = some (.cells #[.slice (some ⟨b, 0, none⟩) 1 1, .int .i64 0, .int .i64 0] t (0, 0))) (h2 : w.heap[b]? = some (.cells #[.int .u8 97] 5 z)) : RdSl cField w [⟨[97], 0, 0⟩] (.slice (some ⟨g, 0, none⟩) 1 1) := by
  have hr : Rd w (some ⟨b, 0, none⟩) (byt [97]) := .inr ⟨b, 0, rfl, fun i hi => by
    obtain rfl : i = 0 := by simpa [byt] using hi
    simp [World.cell?, h2, byt]⟩
  have hb : RdSl cByte w [97] (.slice (some ⟨b, 0, none⟩) 1 1) := rdSl_bytes (xs := [97]) (cap := 1) (by simp) (by unfold maxLen; omega) (fun h => by cases h) hr (by simp)
  refine ⟨_, 1, rfl, by simp, by unfold maxLen; omega, (fun h => by cases h), .inr ⟨g, 0, rfl, fun i hi => ?_⟩⟩
  obtain rfl : i = 0 := by simp at hi; omega
  refine ⟨[.slice (some ⟨b, 0, none⟩) 1 1, .int .i64 0, .int .i64 0], cField_mk (f := ⟨[97], 0, 0⟩) hb in0 in0, fun j hj => ?_⟩
  have hj3 : j < 3 := by simpa using hj
  rcases (by omega : j = 0 ∨ j = 1 ∨ j = 2) with rfl | rfl | rfl
  · simpa [cField, cMap, cPair, cInt, cSl] using cell_of_row _ _ 0 _ _ _ h1
  · simpa [cField, cMap, cPair, cInt, cSl] using cell_of_row _ _ 1 _ _ _ h1
  · simpa [cField, cMap, cPair, cInt, cSl] using cell_of_row _ _ 2 _ _ _ h1
end Go.Proofs.Ytmaccmgmcahopaa
namespace Go.Proofs.Ytmaccmgmcahopaa
open Go.RowKit
theorem step_make_B {P : Program} (w : World) {ops : Array Oper} {o : Oper} {a : Act} {K : Act → World → Prop} {Q : Exit → Act → World → Prop} {E : Prop}
    (hg : o.guard = none) (l c : Operand) (t : TypeId) (hop : o.op = Op.makeSlice t l c)
    (base : Nat) (e : TypeId) (i : TypeInfo) (z : Value) (size : Nat) (h1 : P.underlying t = some (.slice e)) (h2 : P.info? e = some i) (h3 : i.zero = some z) (h4 : i.size = size)
    (kl kc : IntKind) (L C : Int) (n : Nat) (hl : a.eval l = .int kl L) (hc : a.eval c = .int kc C) (hL : L = (n : Int)) (hC : C = (n : Int)) (b2 : i.bytes * n ≤ 281474976710656) (b3 : n ≤ maxLen) (b4 : base ≤ w.heap.size)
    (hK : ∀ w', w'.ownsRow base e size (.slice (some ⟨w.heap.size, 0, none⟩) n n) n (madeCells z.cells (n * size)).toList → w.grownBy w' none → K (a.put o.dst (.slice (some ⟨w.heap.size, 0, none⟩) n n)) w') :
    if Region.wanted o (yielded ops a.tmps) = true then Oper.wp P o a w K Q else E := by
  rw [if_pos (by unfold Region.wanted; rw [hg])]
  obtain ⟨w', hrun, r1, r2⟩ := run_make_full (P := P) w base t e i z size h1 h2 h3 h4 kl kc n b2 b3 b4
  subst hL
  subst hC
  unfold Oper.wp
  simp [execOp, hop, hl, hc, hrun, Result.andThen]
  exact hK w' r1 r2
end Go.Proofs.Ytmaccmgmcahopaa
namespace Go.Proofs.Ytmaccmgmcahopaa
open Go.RowKit
theorem isNilC (w : World) : (binOp .eql 22 (.slice none 0 0) (.slice none 0 0)).run Try.prog w = .ok (.bool true) w := by kernel_rfl
theorem notNilC (w : World) (ad : Addr) (n c : Nat) : (binOp .eql 22 (.slice (some ad) n c) (.slice none 0 0)).run Try.prog w = .ok (.bool false) w := by kernel_rfl
set_option maxRecDepth 100000 in
set_option maxHeartbeats 1000000 in
theorem bclone_any (a : Option Addr) (cap : Nat) (xs : List Nat) (w : World) (hr : RdSl cByte w xs (.slice a xs.length cap)) (hl : xs.length ≤ 1048576) :
    Calls Try.prog 48 #[.slice a xs.length cap] w fun e w' => ∃ v, e = .returned v ∧ w'.ownsRow w.heap.size 5 1 v xs.length (byt xs) ∧ Below w.heap.size w w' := by
  obtain ⟨i0, hi, hz0, hz1, hz2⟩ := info_parts infoByteT
  have HR := hid hr.rdB.1
  have HN := hid hr.nil0
  clear hr
  cases a with
  | none =>
    obtain ⟨e1, e2⟩ := HN.out rfl
    obtain rfl : xs = [] := List.length_eq_zero_iff.1 e1
    subst e2
    have hnl := isNilC w
    go_enter Try.func48, Try.ntmps48
    go_wp2
    go_ret
    exact ⟨_, rfl, World.ownsRow_nil _ _ _ _, Below.refl _ _⟩
  | some ad =>
    have HB0 := hid (below_new1 w (.cells #[] 5))
    have HO0 : Hid ((w.alloc (.cells #[] 5)).ownsRow w.heap.size 5 1 (.slice (some ⟨w.heap.size, 0, none⟩) 0 0) 0 []) := hid ⟨rfl, .inr ⟨w.heap.size, 0, #[], rfl, Nat.le_refl _, heap_alloc_new w _, Nat.le_refl _, Nat.zero_le _, rfl, rfl⟩⟩
    have HR0 := hid (HR.out.later HB0.out)
    have hnl := notNilC w ad xs.length cap
    go_enter Try.func48, Try.ntmps48
    go_wp2_with (first | (at_builtin; refine append_any rfl _ _ 22 rfl w.heap.size 5 i0 (.int .u8 0) 1 Try.underlying22 hi hz0 hz1 hz2 rfl _ 0 [] rfl HO0.out (some ad) xs.length cap (byt xs) rfl (byt_len _) HN.out HR0.out (byt_one _) (by unfold maxLen; omega) (by omega) (by simp) ?_))
    intro v' w1 hown hgrow
    have HB : Hid (Below w.heap.size w w1) := hid (HB0.out.grown hgrow (by simp) (fun k h => by simp [Value.ownBlock] at h; omega))
    have HO : Hid (w1.ownsRow w.heap.size 5 1 v' xs.length (byt xs)) := hid (by simpa using hown)
    clear hown hgrow
    go_wp2
    go_ret
    exact ⟨_, rfl, HO.out, HB.out⟩
end Go.Proofs.Ytmaccmgmcahopaa
namespace Go.Proofs.Ytmaccmgmcahopaa
open Go.RowKit
set_option maxRecDepth 100000 in
set_option maxHeartbeats 2000000 in
theorem copyPacket_any (p : PP) (a : Option Addr) (c : Nat) (w : World) (hr : RdSl cByte w p.data (.slice a p.data.length c)) (hl : p.data.length ≤ 1048576) :
    Calls Try.prog 67 #[.agg #[.int .i64 p.kind, .int .i64 p.epoch, .int .i64 p.seq, .int .i64 p.count, .bool p.last, .slice a p.data.length c]] w fun e w' => ∃ a2 c2 bk, e = .returned (.agg #[.int .i64 p.kind, .int .i64 p.epoch, .int .i64 p.seq, .int .i64 p.count, .bool p.last, .slice a2 p.data.length c2]) ∧ OwnSl cByte 5 w' p.data (.slice a2 p.data.length c2) bk ∧ (∀ b ∈ bk, w.heap.size ≤ b) ∧ bk.Nodup ∧ Below w.heap.size w w' := by
  have HR := hid hr
  have HBY : Hid (∀ x ∈ p.data, x < 256) := hid (by obtain ⟨_, _, _, _, _, _, _, h⟩ := hr.bytes; exact h)
  clear hr
  go_enter Try.func67, Try.ntmps67
  go_wp2_with fail
  refine (bclone_any a c p.data _ (HR.out.later (below_new2 _ _ _)) hl).mono ?_
  rintro e w2 ⟨v2, rfl, o2, b2⟩
  obtain ⟨a2, c2, rfl, -⟩ := rd_own o2
  have hg := fun g h => own_in (g := g) o2 h
  rw [size2] at hg b2
  obtain ⟨k0, k1⟩ := heap2 _ _ b2
  have c00 := cell_of_row w2 _ 0 _ _ _ k0
  have f00 := frozen_of_row w2 _ 0 _ _ k0
  have c10 := cell_of_row w2 _ 0 _ _ _ k1
  have f10 := frozen_of_row w2 _ 0 _ _ k1
  have c01 := cell_of_row w2 _ 1 _ _ _ k0
  have f01 := frozen_of_row w2 _ 1 _ _ k0
  have c11 := cell_of_row w2 _ 1 _ _ _ k1
  have f11 := frozen_of_row w2 _ 1 _ _ k1
  have c02 := cell_of_row w2 _ 2 _ _ _ k0
  have f02 := frozen_of_row w2 _ 2 _ _ k0
  have c12 := cell_of_row w2 _ 2 _ _ _ k1
  have f12 := frozen_of_row w2 _ 2 _ _ k1
  have c03 := cell_of_row w2 _ 3 _ _ _ k0
  have f03 := frozen_of_row w2 _ 3 _ _ k0
  have c13 := cell_of_row w2 _ 3 _ _ _ k1
  have f13 := frozen_of_row w2 _ 3 _ _ k1
  have c04 := cell_of_row w2 _ 4 _ _ _ k0
  have f04 := frozen_of_row w2 _ 4 _ _ k0
  have c14 := cell_of_row w2 _ 4 _ _ _ k1
  have f14 := frozen_of_row w2 _ 4 _ _ k1
  have c05 := cell_of_row w2 _ 5 _ _ _ k0
  have f05 := frozen_of_row w2 _ 5 _ _ k0
  have c15 := cell_of_row w2 _ 5 _ _ _ k1
  have f15 := frozen_of_row w2 _ 5 _ _ k1
  simp only [List.getElem?_toArray, List.getElem?_cons_zero, List.getElem?_cons_succ] at c00 c10 c01 c11 c02 c12 c03 c13 c04 c14 c05 c15
  have K1 := hid k1
  have HB : Hid (Below w.heap.size w w2) := hid ((below_new2 w _ _).trans (b2.mono (by omega)))
  have HO := hid (ownSl_bytes o2 HBY.out)
  have HG : Hid (∀ b ∈ (Value.slice a2 p.data.length c2).ownBlock.toList, w.heap.size + 2 ≤ b) := hid (fun b hb => (hg b (by simpa using hb)).1)
  have HN : Hid ((Value.slice a2 p.data.length c2).ownBlock.toList.Nodup) := hid (by cases (Value.slice a2 p.data.length c2).ownBlock <;> simp)
  generalize (Value.slice a2 p.data.length c2).ownBlock.toList = bk at *
  have h01 : w.heap.size + 1 ≠ w.heap.size := by omega
  clear k0 k1 b2 o2 hg
  go_wp2
  refine bodyPost_ret (results_cell_row rfl _ _ (w.heap.size + 1) 35 #[.int .i64 p.kind, .int .i64 p.epoch, .int .i64 p.seq, .int .i64 p.count, .bool p.last, .slice a2 p.data.length c2] (0, 0) _ rfl (set6 ((Below.heap_setCell _ ⟨w.heap.size, 5, none⟩ _ _ h01).trans K1.out)) Try.underlying35 rfl (by kernel_rfl)) rfl ?_
  refine ⟨a2, c2, bk, rfl, HO.out.kept (fun b hb => ?_), fun b hb => by have := HG.out b hb; omega, HN.out, set6b (HB.out.setCell (p := ⟨w.heap.size, 5, none⟩) (by simp only []; omega) _) (by omega)⟩
  have := HG.out b hb
  exact (set6o (by omega)).trans (Below.heap_setCell _ ⟨w.heap.size, 5, none⟩ _ _ (by simp only []; omega))
end Go.Proofs.Ytmaccmgmcahopaa
namespace Go.Proofs.Ytmaccmgmcahopaa
open Go.RowKit
theorem box_laterP2 {w w' : World} {g : Nat} {o : Obj} (h : w.heap[g]? = some o) (hb : Below w.heap.size w w') : w'.heap[g]? = some o := (hb.block g (Array.getElem?_eq_some_iff.1 h).1).trans h
end Go.Proofs.Ytmaccmgmcahopaa
