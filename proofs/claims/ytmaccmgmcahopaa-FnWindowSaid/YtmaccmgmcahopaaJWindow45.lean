import Derived.Test.YtmaccmgmcahopaaJWindow37
import Derived.Test.YtmaccmgmcahopaaJWindow44
import Derived.Test.YtmaccmgmcahopaaJWindow6
namespace Go.Proofs.Ytmaccmgmcahopaa
open Go.RowKit
structure WnF (g5 g6 gl : Nat) (s o : PO) (last : List Int) (X : World → Prop) (F : List Nat) (a5 : Option Addr) (c5 : Nat) (a6 : Option Addr) (c6 : Nat) (w : World) : Prop where
  b5 : w.heap[g5]? = some (.cells #[.int .i64 s.epoch, .int .i64 s.next, .int .i64 s.now, .slice a5 s.wait.length c5] 30 (0, 0))
  b6 : w.heap[g6]? = some (.cells #[.int .i64 o.epoch, .int .i64 o.next, .int .i64 o.now, .slice a6 o.wait.length c6] 30 (0, 0))
  d1 : g5 ≠ g6
  d2 : gl ≠ g5
  d3 : gl ≠ g6
  far : ∀ b ∈ F, b ≠ g5 ∧ b ≠ g6 ∧ b ≠ gl
  ro : RdBy F w (fun W => RdSl cSnt W o.wait (.slice a6 o.wait.length c6))
  row : w.ownsRow 0 3 1 (.slice (some ⟨gl, 0, none⟩) last.length last.length) last.length (ints last)
  rx : RdBy F w X
def WnSt (g5 g6 gl : Nat) (s o : PO) (last : List Int) (X : World → Prop) (w : World) : Prop := ∃ F a5 c5 a6 c6, WnF g5 g6 gl s o last X F a5 c5 a6 c6 w
section
variable {g5 g6 gl : Nat} {s o : PO} {last : List Int} {X : World → Prop} {w w' : World}
theorem WnSt.later (h : WnSt g5 g6 gl s o last X w) (hb : Below w.heap.size w w') : WnSt g5 g6 gl s o last X w' := by
  obtain ⟨F, a5, c5, a6, c6, h⟩ := h
  exact ⟨F, a5, c5, a6, c6, box_laterP2 h.b5 hb, box_laterP2 h.b6 hb, h.d1, h.d2, h.d3, h.far, h.ro.later hb, ownsRow_kept h.row (fun b hm => hb.block b (World.ownsRow.lt h.row b hm).2), h.rx.later hb⟩
theorem WnSt.fresh (h : WnSt g5 g6 gl s o last X w) {b : Nat} (hb : w.heap.size ≤ b) : b ≠ g5 ∧ b ≠ g6 ∧ b ≠ gl := by
  obtain ⟨F, a5, c5, a6, c6, h⟩ := h
  have h1 := (Array.getElem?_eq_some_iff.1 h.b5).1
  have h2 := (Array.getElem?_eq_some_iff.1 h.b6).1
  have h3 := (World.ownsRow.lt h.row gl rfl).2
  exact ⟨by omega, by omega, by omega⟩
theorem WnSt.setO (h : WnSt g5 g6 gl s o last X w) {o' : PO} {a' : Option Addr} {c' : Nat} {bs : List Nat} (hn : RdBy bs w (fun W => RdSl cSnt W o'.wait (.slice a' o'.wait.length c'))) (hf : ∀ b ∈ bs, b ≠ g5 ∧ b ≠ g6 ∧ b ≠ gl) :
    WnSt g5 g6 gl s o' last X ((((w.setCell ⟨g6, 0, none⟩ (.int .i64 o'.epoch)).setCell ⟨g6, 1, none⟩ (.int .i64 o'.next)).setCell ⟨g6, 2, none⟩ (.int .i64 o'.now)).setCell ⟨g6, 3, none⟩ (.slice a' o'.wait.length c')) := by
  obtain ⟨F, a5, c5, a6, c6, h⟩ := h
  have hF : ∀ b ∈ F ++ bs, b ≠ g5 ∧ b ≠ g6 ∧ b ≠ gl := fun b hb => (List.mem_append.1 hb).elim (h.far b) (hf b)
  have key : ∀ {P : World → Prop}, RdBy (F ++ bs) w P → RdBy (F ++ bs) ((((w.setCell ⟨g6, 0, none⟩ (.int .i64 o'.epoch)).setCell ⟨g6, 1, none⟩ (.int .i64 o'.next)).setCell ⟨g6, 2, none⟩ (.int .i64 o'.now)).setCell ⟨g6, 3, none⟩ (.slice a' o'.wait.length c')) P := fun hp => hp.kept (fun b hb => set4o (hF b hb).2.1)
  exact ⟨F ++ bs, a5, c5, a', c', (set4o h.d1).trans h.b5, set4 h.b6, h.d1, h.d2, h.d3, hF, key (hn.left h.ro.1), ownsRow_kept h.row (fun b hm => set4o (fun e => h.d3 (by simp [Value.ownBlock] at hm; omega))), key (h.rx.right hn.1)⟩
theorem WnSt.setX (h : WnSt g5 g6 gl s o last X w) {o' : PO} {a' : Option Addr} {c' : Nat} (hX : ∀ W, X W → RdSl cSnt W o'.wait (.slice a' o'.wait.length c')) :
    WnSt g5 g6 gl s o' last X ((((w.setCell ⟨g6, 0, none⟩ (.int .i64 o'.epoch)).setCell ⟨g6, 1, none⟩ (.int .i64 o'.next)).setCell ⟨g6, 2, none⟩ (.int .i64 o'.now)).setCell ⟨g6, 3, none⟩ (.slice a' o'.wait.length c')) := by
  obtain ⟨F, a5, c5, a6, c6, hF⟩ := id h
  exact h.setO (hF.rx.mono hX) hF.far
theorem WnSt.setL (h : WnSt g5 g6 gl s o last X w) (k : Nat) (v : Int) : WnSt g5 g6 gl s o (last.set k v) X (w.setCell ⟨gl, k, none⟩ (.int .i64 v)) := by
  obtain ⟨F, a5, c5, a6, c6, h⟩ := h
  have hk : ∀ b, b ≠ gl → (w.setCell ⟨gl, k, none⟩ (.int .i64 v)).heap[b]? = w.heap[b]? := fun b hb => Below.heap_setCell w ⟨gl, k, none⟩ (.int .i64 v) b hb
  have key : ∀ {P : World → Prop}, RdBy F w P → RdBy F (w.setCell ⟨gl, k, none⟩ (.int .i64 v)) P := fun hp => hp.kept (fun b hb => hk b (h.far b hb).2.2)
  refine ⟨F, a5, c5, a6, c6, (hk _ h.d2.symm).trans h.b5, (hk _ h.d3.symm).trans h.b6, h.d1, h.d2, h.d3, h.far, key h.ro, ?_, key h.rx⟩
  have := (World.ownsRow.stored h.row k (.int .i64 v)).1
  rw [List.length_set]
  have e : (ints last).set k (.int .i64 v) = ints (last.set k v) := by simp [ints, List.map_set]
  rwa [e] at this
theorem WnSt.withX (h : WnSt g5 g6 gl s o last X w) {Y : World → Prop} {bs : List Nat} (hn : RdBy bs w Y) (hf : ∀ b ∈ bs, b ≠ g5 ∧ b ≠ g6 ∧ b ≠ gl) : WnSt g5 g6 gl s o last (fun W => X W ∧ Y W) w := by
  obtain ⟨F, a5, c5, a6, c6, h⟩ := h
  exact ⟨F ++ bs, a5, c5, a6, c6, h.b5, h.b6, h.d1, h.d2, h.d3, fun b hb => (List.mem_append.1 hb).elim (h.far b) (hf b), h.ro.right hn.1, h.row, (h.rx.right hn.1).and (hn.left h.rx.1)⟩
theorem WnSt.monoX (h : WnSt g5 g6 gl s o last X w) {Y : World → Prop} (hY : ∀ W, X W → Y W) : WnSt g5 g6 gl s o last Y w := by
  obtain ⟨F, a5, c5, a6, c6, h⟩ := h
  exact ⟨F, a5, c5, a6, c6, h.b5, h.b6, h.d1, h.d2, h.d3, h.far, h.ro, h.row, h.rx.mono hY⟩
theorem WnF.cellL {F : List Nat} {a5 : Option Addr} {c5 : Nat} {a6 : Option Addr} {c6 : Nat} (h : WnF g5 g6 gl s o last X F a5 c5 a6 c6 w) {k : Nat} {z : Int} (hz : last[k]? = some z) : w.cell? ⟨gl, k, none⟩ = some (.int .i64 z) ∧ w.frozen? ⟨gl, k, none⟩ = false := by
  obtain ⟨hk, rfl⟩ := List.getElem?_eq_some_iff.1 hz
  refine ⟨?_, h.row.frozenAt k⟩
  rw [h.row.cellAt k (by omega)]
  simp [ints, hk]
end
theorem rd_first {w : World} {xs : List PW} {a : Option Addr} {n cap : Nat} (h : RdSl cSnt w xs (.slice a n cap)) (h0 : 0 < xs.length) : ∃ b off, a = some ⟨b, off, none⟩ ∧ ∃ es, cSnt.rd w xs[0] es ∧ ∀ j, (h : j < es.length) → w.cell? ⟨b, off + j, none⟩ = some es[j] := by
  obtain ⟨a', cap', e, _, _, _, h5⟩ := h
  simp only [Value.slice.injEq] at e
  obtain ⟨rfl, _, _⟩ := e
  rcases h5 with h5 | ⟨b, off, h6, h7⟩
  · rw [h5] at h0; simp at h0
  · obtain ⟨es, h8, h9⟩ := h7 0 h0
    refine ⟨b, off, h6, es, h8, fun j hj => ?_⟩
    have := h9 j hj
    rwa [Nat.zero_mul, Nat.zero_add] at this
theorem lastR_full (n : Nat) : lastU (List.replicate n 0) (List.range n) (-1) = List.replicate n (-1) := by
  apply List.ext_getElem?
  intro i
  by_cases h : i < n
  · rw [lastU_yes _ _ _ i (List.mem_range.2 h) (by simpa using h)]
    simp [h]
  · rw [List.getElem?_eq_none (by rw [lastU_len]; simp; omega), List.getElem?_eq_none (by simp; omega)]
theorem lastR_succ (l : List Int) (k : Nat) : lastU l (List.range (k + 1)) (-1) = (lastU l (List.range k) (-1)).set k (-1) := by
  unfold lastU
  rw [List.range_succ, List.foldl_append]
  rfl
end Go.Proofs.Ytmaccmgmcahopaa
namespace Go.Proofs.Ytmaccmgmcahopaa
open Go.RowKit
set_option maxHeartbeats 1000000 in
set_option maxRecDepth 100000 in
theorem app_u32 (B : Nat) (v : Value) (n : Nat) (xs : List Nat) (N : Int) (w : World) (ho : w.ownsRow B 5 1 v n (byt xs)) (hB : B ≤ w.heap.size) (hn : n ≤ 1099511627776) (hN : IntIn N) :
    Calls Try.prog 34 #[v, .int .u32 N, .int .i64 4] w fun e w' => ∃ v', e = .returned v' ∧ w'.ownsRow B 5 1 v' (n + 4) (byt (xs ++ digs (U N) 4)) ∧ Below B w w' := by
  obtain ⟨i0, hi, hz0, hz1, hz2⟩ := info_parts infoByteP
  have hU := U_eq N
  have HL := hid (U_lt N)
  have HN' := hid hN
  have HO0 := hid ho
  clear hN ho
  generalize U N = u at *
  go_enter Try.func34, Try.ntmps34
  go_wp2
  go_loopw [0, 7, 11] (fun o r i wr => ∃ k : Nat, k ≤ 4 ∧ i = .int .i64 k ∧ r = .int .u64 ((u / 256 ^ k : Nat) : Int) ∧ wr.ownsRow B 5 1 o (n + k) (byt (xs ++ (digs u 4).take k)) ∧ Below B w wr) (fun _ _ i _ => 4 - (intOf i).toNat)
  case atStart => exact ⟨0, Nat.zero_le _, rfl, by simp, by simpa using HO0.out, Below.refl _ _⟩
  case round =>
    obtain ⟨k, hk, rfl, rfl, how, hbe⟩ := hrel
    have HO := hid how
    have HB := hid hbe
    clear how hbe hU
    by_cases hlt : k < 4
    · have HD := hid (digs_snoc u 4 k hlt)
      have HN := hid (div_next u k)
      have HR := hid (div_lt u k HL.out)
      have hBr : B ≤ wr.heap.size := Nat.le_trans hB HB.out.size
      generalize u / 256 ^ k = R at *
      have hki : decide ((k : Int) < 4) = true := by simp; omega
      go_wp2_with (first | (at_builtin; refine wpList_append_own _ rfl _ _ 22 rfl B 5 i0 (.int .u8 0) 1 1 Try.underlying22 hi hz0 hz1 hz2 rfl (by decide) _ (n + k) _ rfl (HO.out.alloc _) ⟨wr.heap.size, 0, none⟩ 1 1 [.int .u8 ((R : Int) % 256)] rfl rfl (cell_one_new _ _ _) (one_cell rfl) (by unfold maxLen; omega) (by omega) (by simp; omega) ?_))
      intro v' w1 hown' hgrow _
      have HB1 : Hid (Below B w w1) := hid ((HB.out.alloc hBr _).grown hgrow (by simp; omega) (fun k h => (World.ownsRow.lt HO.out k h).1))
      have HO1 : Hid (w1.ownsRow B 5 1 v' (n + (k + 1)) (byt (xs ++ (digs u 4).take (k + 1)))) := hid (by
        rw [HD.out, ← List.append_assoc, byt_snoc, ← Nat.add_assoc]
        simpa using hown')
      clear hown' hgrow
      go_wp2
      go_roundw
      case rel => exact ⟨k + 1, by omega, by go_num, by rw [← HN.out]; simp, HO1.out, HB1.out⟩
      case measure => simp [intOf]; omega
    · have hki : decide ((k : Int) < 4) = false := by simp; omega
      have HK : Hid (k = 4) := hid (by omega)
      have hO := HO.out
      rw [HK.out, List.take_of_length_le (by rw [digs_len]; exact Nat.le_refl _)] at hO
      have HO2 := hid hO
      clear hO HO
      go_wp2
      go_ret
      exact ⟨_, rfl, HO2.out, HB.out⟩
end Go.Proofs.Ytmaccmgmcahopaa
