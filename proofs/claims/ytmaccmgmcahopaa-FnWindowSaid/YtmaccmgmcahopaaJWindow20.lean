/- BndKit, BndKit2, PkCopyS. -/
import Derived.Test.YtmaccmgmcahopaaJWindow19
import Derived.Test.YtmaccmgmcahopaaJWindow7
import Derived.Test.YtmaccmgmcahopaaJWindow4
import Derived.Test.YtmaccmgmcahopaaJWindow10
/- Zeros in new memory. -/
namespace Go.Proofs.Ytmaccmgmcahopaa
open Go.RowKit

theorem zs_rd {B n : Nat} {w : World} {g : Nat} (h : w.ownsRow B 5 1 (.slice (some ⟨g, 0, none⟩) n n) n (madeCells #[.int .u8 0] n).toList) (hn : n ≤ 1048576) : RdSl cByte w (Zs n) (.slice (some ⟨g, 0, none⟩) n n) := by
  rw [made_list] at h
  have hr := rd_row h
  have e : byt (Zs n) = List.replicate n (.int .u8 0) := by simp [byt, Zs]
  have h4 : Rd w (some ⟨g, 0, none⟩) (byt (Zs n)) := by rw [e]; exact hr
  have h5 := rdSl_bytes (xs := Zs n) (cap := n) (by rw [Zs_len]; omega) (by unfold maxLen; omega) (fun h => by cases h) h4 (fun x hx => by simp [Zs] at hx; omega)
  rwa [Zs_len] at h5
theorem one_rd {w : World} {g n : Nat} {v : Option Addr} (hz : RdSl cByte w (Zs n) (.slice v n n)) {t : TypeId} (hb : w.heap[g]? = some (.cells #[.slice v n n] t (0, 0))) : RdSl cSS w [Zs n] (.slice (some ⟨g, 0, none⟩) 1 1) := by
  have hc := cell_of_row _ _ 0 _ _ _ hb
  simp only [List.getElem?_toArray, List.getElem?_cons_zero] at hc
  refine ⟨_, 1, rfl, by simp, by unfold maxLen; omega, (fun h => by cases h), .inr ⟨g, 0, rfl, fun i hi => ?_⟩⟩
  obtain rfl : i = 0 := by simp at hi; omega
  refine ⟨[.slice v n n], ⟨_, rfl, hz⟩, fun j hj => ?_⟩
  obtain rfl : j = 0 := by simpa using hj
  simpa using hc

end Go.Proofs.Ytmaccmgmcahopaa

/- Rows that were made or built: zero cells, one byte, one field. -/
namespace Go.Proofs.Ytmaccmgmcahopaa
open Go.RowKit

theorem in0 : IntIn 0 := ⟨by decide, by decide⟩
theorem zc_rd {B n : Nat} {w : World} {g : Nat} {e : TypeId} (h : w.ownsRow B e 3 (.slice (some ⟨g, 0, none⟩) n n) n (madeCells #[.bool false, .int .i64 0, .slice none 0 0] (n * 3)).toList) : RdSl cCell w (List.replicate n ⟨false, 0, []⟩) (.slice (some ⟨g, 0, none⟩) n n) := by
  obtain ⟨hm, -⟩ : n ≤ maxLen ∧ True := by
    rcases h.2 with ⟨h0, _⟩ | ⟨g', cap, cur, h0, _, _, hn, hm, _⟩
    · cases h0
    · simp at h0; exact ⟨by omega, trivial⟩
  refine ⟨_, n, by simp, by simp, hm, (fun h => by cases h), .inr ⟨g, 0, rfl, fun i hi => ?_⟩⟩
  have hin : i < n := by simpa using hi
  refine ⟨[.bool false, .int .i64 0, .slice none 0 0], ?_, fun j hj => ?_⟩
  · rw [List.getElem_replicate]
    exact ⟨[.bool false], _, rfl, rfl, [.int .i64 0], _, rfl, ⟨rfl, in0⟩, _, rfl, RdSl.empty none⟩
  · have hj3 : j < 3 := by simpa using hj
    have hc : i * 3 + j < n * 3 := by omega
    have := World.ownsRow.cellAt h (i * 3 + j) (by omega)
    rw [show (0 + (i * cCell.n + j) : Nat) = i * 3 + j from by simp [cCell, cMap, cPair, cBool, cInt, cSl], this]
    simp only [madeCells, Array.toList_map, Array.toList_range, List.getElem?_map, List.getElem?_range hc, Option.map_some]
    rcases (by omega : j = 0 ∨ j = 1 ∨ j = 2) with rfl | rfl | rfl
    · rw [show (i * 3 + 0) % (#[Value.bool false, .int .i64 0, .slice none 0 0] : Array Value).size = 0 from by simp]; rfl
    · rw [show (i * 3 + 1) % (#[Value.bool false, .int .i64 0, .slice none 0 0] : Array Value).size = 1 from by simp]; rfl
    · rw [show (i * 3 + 2) % (#[Value.bool false, .int .i64 0, .slice none 0 0] : Array Value).size = 2 from by simp]; rfl
theorem own_one (w : World) (x : Value) (e : TypeId) {B : Nat} (hb : B ≤ w.heap.size) : (w.alloc (.cells #[x] e)).ownsRow B e 1 (.slice (some ⟨w.heap.size, 0, none⟩) 1 1) 1 [x] :=
  ⟨rfl, .inr ⟨w.heap.size, 1, #[x], rfl, hb, heap_alloc_new w _, Nat.le_refl _, by unfold maxLen; omega, rfl, rfl⟩⟩
theorem cell_one_new2 (w : World) (o : Obj) (x : Value) (t : TypeId) : ∀ j u, [x][j]? = some u → ((w.alloc o).alloc (.cells #[x] t)).cell? ((⟨w.heap.size + 1, 0, none⟩ : Addr).add j) = some u := by
  have h := cell_one_new (w.alloc o) x t
  rwa [show (w.alloc o).heap.size = w.heap.size + 1 from by simp] at h
theorem oneT_succ (k : Nat) : oneT (k + 1) = oneT k ++ [[k % 256]] := by simp [oneT, List.range_succ]
theorem oneT_len (k : Nat) : (oneT k).length = k := by simp [oneT]
theorem oneT_tot {d : Nat} (h : d < 3) : totL List.length (oneT (39 + d)) ≤ 1048576 := by
  rcases (by omega : d = 0 ∨ d = 1 ∨ d = 2) with rfl | rfl | rfl <;> decide
theorem zTab_tot {d : Nat} (h : d < 3) : totT (zTab (99 + d)) ≤ 1048576 := by
  rcases (by omega : d = 0 ∨ d = 1 ∨ d = 2) with rfl | rfl | rfl <;> decide
theorem field_rd {w : World} {g b : Nat} {t : TypeId} {z : Nat × Nat} (h1 : w.heap[g]? = some (.cells #[.slice (some ⟨b, 0, none⟩) 1 1, .int .i64 0, .int .i64 0] t (0, 0))) (h2 : w.heap[b]? = some (.cells #[.int .u8 97] 5 z)) : RdSl cField w [⟨[97], 0, 0⟩] (.slice (some ⟨g, 0, none⟩) 1 1) := by
  have hr : Rd w (some ⟨b, 0, none⟩) (byt [97]) := .inr ⟨b, 0, rfl, fun i hi => by
    obtain rfl : i = 0 := by simpa [byt] using hi
    simp [World.cell?, h2, byt]⟩
  have hb : RdSl cByte w [97] (.slice (some ⟨b, 0, none⟩) 1 1) := rdSl_bytes (xs := [97]) (cap := 1) (by simp) (by unfold maxLen; omega) (fun h => by cases h) hr (by simp)
  refine ⟨_, 1, rfl, by simp, by unfold maxLen; omega, (fun h => by cases h), .inr ⟨g, 0, rfl, fun i hi => ?_⟩⟩
  obtain rfl : i = 0 := by simp at hi; omega
  refine ⟨[.slice (some ⟨b, 0, none⟩) 1 1, .int .i64 0, .int .i64 0], cField_mk (f := ⟨[97], 0, 0⟩) hb in0 in0, fun j hj => ?_⟩
  have hj3 : j < 3 := by simpa using hj
  rcases (by omega : j = 0 ∨ j = 1 ∨ j = 2) with rfl | rfl | rfl
  · simpa [cField, cMap, cPair, cInt, cSl] using cell_of_row _ _ 0 _ _ _ h1
  · simpa [cField, cMap, cPair, cInt, cSl] using cell_of_row _ _ 1 _ _ _ h1
  · simpa [cField, cMap, cPair, cInt, cSl] using cell_of_row _ _ 2 _ _ _ h1

end Go.Proofs.Ytmaccmgmcahopaa

/- spec.l5packet. -/
namespace Go.Proofs.Ytmaccmgmcahopaa
open Go.RowKit

set_option maxRecDepth 100000 in
set_option maxHeartbeats 2000000 in
theorem l5packet_any (p : PP) (a : Option Addr) (c : Nat) (w : World) (hr : RdSl cByte w p.data (.slice a p.data.length c)) (hl : p.data.length ≤ 1048576) :
    Calls Try.prog 90 #[.agg #[.int .i64 p.kind, .int .i64 p.epoch, .int .i64 p.seq, .int .i64 p.count, .bool p.last, .slice a p.data.length c]] w fun e w' => ∃ a2 c2 bk, e = .returned (.agg #[.int .i64 p.kind, .int .i64 p.epoch, .int .i64 p.seq, .int .i64 p.count, .bool p.last, .slice a2 p.data.length c2]) ∧ OwnSl cByte 5 w' p.data (.slice a2 p.data.length c2) bk ∧ (∀ b ∈ bk, w.heap.size ≤ b) ∧ bk.Nodup ∧ Below w.heap.size w w' := by
  have HR := hid hr
  have HBY : Hid (∀ x ∈ p.data, x < 256) := hid (by obtain ⟨_, _, _, _, _, _, _, h⟩ := hr.bytes; exact h)
  clear hr
  go_enter Try.func90, Try.ntmps90
  go_wp2_with fail
  refine (l1copy_any a c p.data _ (HR.out.later (below_new2 _ _ _)) hl).mono ?_
  rintro e w2 ⟨v2, rfl, o2, b2⟩
  obtain ⟨a2, c2, rfl, -⟩ := rd_own o2
  have hg := fun g h => own_in (g := g) o2 h
  rw [size2] at hg b2
  obtain ⟨k0, k1⟩ := heap2 _ _ b2
  have c00 := cell_of_row w2 _ 0 _ _ _ k0
  have f00 := frozen_of_row w2 _ 0 _ _ k0
  have c10 := cell_of_row w2 _ 0 _ _ _ k1
  have f10 := frozen_of_row w2 _ 0 _ _ k1
  have c01 := cell_of_row w2 _ 1 _ _ _ k0
  have f01 := frozen_of_row w2 _ 1 _ _ k0
  have c11 := cell_of_row w2 _ 1 _ _ _ k1
  have f11 := frozen_of_row w2 _ 1 _ _ k1
  have c02 := cell_of_row w2 _ 2 _ _ _ k0
  have f02 := frozen_of_row w2 _ 2 _ _ k0
  have c12 := cell_of_row w2 _ 2 _ _ _ k1
  have f12 := frozen_of_row w2 _ 2 _ _ k1
  have c03 := cell_of_row w2 _ 3 _ _ _ k0
  have f03 := frozen_of_row w2 _ 3 _ _ k0
  have c13 := cell_of_row w2 _ 3 _ _ _ k1
  have f13 := frozen_of_row w2 _ 3 _ _ k1
  have c04 := cell_of_row w2 _ 4 _ _ _ k0
  have f04 := frozen_of_row w2 _ 4 _ _ k0
  have c14 := cell_of_row w2 _ 4 _ _ _ k1
  have f14 := frozen_of_row w2 _ 4 _ _ k1
  have c05 := cell_of_row w2 _ 5 _ _ _ k0
  have f05 := frozen_of_row w2 _ 5 _ _ k0
  have c15 := cell_of_row w2 _ 5 _ _ _ k1
  have f15 := frozen_of_row w2 _ 5 _ _ k1
  simp only [List.getElem?_toArray, List.getElem?_cons_zero, List.getElem?_cons_succ] at c00 c10 c01 c11 c02 c12 c03 c13 c04 c14 c05 c15
  have K1 := hid k1
  have HB : Hid (Below w.heap.size w w2) := hid ((below_new2 w _ _).trans (b2.mono (by omega)))
  have HO := hid (ownSl_bytes o2 HBY.out)
  have HG : Hid (∀ b ∈ (Value.slice a2 p.data.length c2).ownBlock.toList, w.heap.size + 2 ≤ b) := hid (fun b hb => (hg b (by simpa using hb)).1)
  have HN : Hid ((Value.slice a2 p.data.length c2).ownBlock.toList.Nodup) := hid (by cases (Value.slice a2 p.data.length c2).ownBlock <;> simp)
  generalize (Value.slice a2 p.data.length c2).ownBlock.toList = bk at *
  have h01 : w.heap.size + 1 ≠ w.heap.size := by omega
  clear k0 k1 b2 o2 hg
  go_wp2
  refine bodyPost_ret (results_cell_row rfl _ _ (w.heap.size + 1) 35 #[.int .i64 p.kind, .int .i64 p.epoch, .int .i64 p.seq, .int .i64 p.count, .bool p.last, .slice a2 p.data.length c2] (0, 0) _ rfl (set6 ((Below.heap_setCell _ ⟨w.heap.size, 5, none⟩ _ _ h01).trans K1.out)) Try.underlying35 rfl (by kernel_rfl)) rfl ?_
  refine ⟨a2, c2, bk, rfl, HO.out.kept (fun b hb => ?_), fun b hb => by have := HG.out b hb; omega, HN.out, set6b (HB.out.setCell (p := ⟨w.heap.size, 5, none⟩) (by simp only []; omega) _) (by omega)⟩
  have := HG.out b hb
  exact (set6o (by omega)).trans (Below.heap_setCell _ ⟨w.heap.size, 5, none⟩ _ _ (by simp only []; omega))

end Go.Proofs.Ytmaccmgmcahopaa
