import Derived.Test.YtcljakdcejhfiacJEncodeMessage13
import Derived.Test.YtcljakdcejhfiacJEncodeMessage17
import Derived.Test.YtcljakdcejhfiacJEncodeMessage20
import Derived.Test.YtcljakdcejhfiacJEncodeMessage21
namespace Go.Proofs.Ytcljakdcejhfiac
open Go.RowKit
structure PMIn (m : PM) : Prop where
  kind : IntIn m.kind
  field : IntIn m.field
  count : IntIn m.count
set_option maxHeartbeats 1000000 in
theorem szMessage_any (m : PM) (a : Option Addr) (cap : Nat) (l : Int) (w : World) (hr : RdSl cSS w m.bufs (.slice a m.bufs.length cap)) (h0 : 0 ≤ l) (h1 : l ≤ 1048576) :
    Calls Try.prog 14 #[.agg #[.int .i64 m.kind, .int .i64 m.field, .int .i64 m.count, .slice a m.bufs.length cap], .int .i64 l] w fun e w' => e = .returned (.int .i64 (rest l (totL List.length m.bufs))) ∧ Below w.heap.size w w' := by
  have HR := hid hr
  clear hr
  go_enter Try.func14, Try.ntmps14
  go_wp2_with fail
  refine (szSS_any a cap m.bufs l _ (HR.out.later (below_new1 _ _)) h0 h1).mono ?_
  rintro e w2 ⟨rfl, rfl⟩
  by_cases hneg : rest l (totL List.length m.bufs) < 0
  · have HN : Hid (rest l (totL List.length m.bufs) = -1) := hid (rest_neg1 hneg)
    generalize hq : rest l (totL List.length m.bufs) = r at *
    have HE := hid hq
    clear hq
    go_wp2
    go_ret
    exact ⟨by rw [HE.out, HN.out]; rfl, below_new1 _ _⟩
  · generalize hq : rest l (totL List.length m.bufs) = r at *
    have HE := hid hq
    clear hq
    go_wp2
    go_ret
    exact ⟨by rw [HE.out]; rfl, below_new1 _ _⟩
set_option maxHeartbeats 1000000 in
theorem eqMessage_any (m : PM) (a b : Option Addr) (c d : Nat) (w : World) (h1 : RdSl cSS w m.bufs (.slice a m.bufs.length c)) (h2 : RdSl cSS w m.bufs (.slice b m.bufs.length d)) (ht : totL List.length m.bufs ≤ 1048576) :
    Calls Try.prog 19 #[.agg #[.int .i64 m.kind, .int .i64 m.field, .int .i64 m.count, .slice a m.bufs.length c], .agg #[.int .i64 m.kind, .int .i64 m.field, .int .i64 m.count, .slice b m.bufs.length d]] w fun e w' => e = .returned (.bool true) ∧ Below w.heap.size w w' := by
  have H1 := hid h1
  have H2 := hid h2
  clear h1 h2
  go_enter Try.func19, Try.ntmps19
  go_wp2_with fail
  refine (eqSS_any a b c d m.bufs _ (H1.out.later (below_new2 _ _ _)) (H2.out.later (below_new2 _ _ _)) ht).mono ?_
  rintro e w2 ⟨rfl, b2⟩
  have HB : Hid (Below w.heap.size w w2) := hid ((below_new2 w _ _).trans (b2.mono (by simp; omega)))
  clear b2
  go_wp2
  go_ret
  exact ⟨rfl, HB.out⟩
set_option maxHeartbeats 1000000 in
theorem markMessage_any (m : PM) (v : Value) (bs : List Nat) (k : Nat) (w : World) (ho : OwnSl cSS 37 w m.bufs v bs) (hnd : bs.Nodup) (hn : m.bufs.length ≤ 1048576) (ht : tot m.bufs ≤ 1048576) (hm : k ≤ 1073741824) :
    Calls Try.prog 20 #[.agg #[.int .i64 m.kind, .int .i64 m.field, .int .i64 m.count, v], .int .i64 k] w fun e w' => e = .returned (.int .i64 ((k + tot m.bufs : Nat) : Int)) ∧ OwnSl cSS 37 w' (mkSS k m.bufs) v bs ∧ Only bs w w' := by
  obtain ⟨a, c, rfl, -⟩ := id ho.rd
  have HO := hid ho
  have HL := hid ho.lt
  have HN := hid hnd
  clear ho hnd
  go_enter Try.func20, Try.ntmps20
  go_wp2_with fail
  refine (markSS_any _ m.bufs bs k _ (HO.out.kept (fun b hb => (below_new1 w _).block b (HL.out b hb))) HN.out hn ht hm).mono ?_
  rintro e w2 ⟨rfl, o2, on2⟩
  have HO2 := hid o2
  have HON : Hid (Only bs w w2) := hid ((Only.of_below (below_new1 w _)).trans on2)
  clear o2 on2
  go_wp2
  go_ret
  exact ⟨rfl, HO2.out, HON.out⟩
set_option maxHeartbeats 2000000 in
theorem toMessage_any (m : PM) (a : Option Addr) (cap : Nat) (w : World) (hr : RdSl cSS w m.bufs (.slice a m.bufs.length cap)) (ht : totL List.length m.bufs ≤ 1048576) :
    Calls Try.prog 16 #[.agg #[.int .i64 m.kind, .int .i64 m.field, .int .i64 m.count, .slice a m.bufs.length cap]] w fun e w' => ∃ a' c' bs, e = .returned (.agg #[.int .i64 m.kind, .int .i64 m.field, .int .i64 m.count, .slice a' m.bufs.length c']) ∧ OwnSl cSS 37 w' m.bufs (.slice a' m.bufs.length c') bs ∧ (∀ b ∈ bs, w.heap.size ≤ b) ∧ bs.Nodup ∧ Below w.heap.size w w' := by
  have HR := hid hr
  clear hr
  go_enter Try.func16, Try.ntmps16
  go_wp2_with fail
  refine (toSS_any a cap m.bufs _ (HR.out.later (below_new3 _ _ _ _)) ht).mono ?_
  rintro e w2 ⟨v2, bs, rfl, o2, l2, n2, b2⟩
  obtain ⟨a2, c2, rfl, -⟩ := id o2.rd
  rw [size3] at b2 l2
  obtain ⟨k0, k1, k2⟩ := heap3 _ _ _ b2
  have c10 := cell_of_row w2 _ 0 _ _ _ k1
  have c11 := cell_of_row w2 _ 1 _ _ _ k1
  have c12 := cell_of_row w2 _ 2 _ _ _ k1
  have c13 := cell_of_row w2 _ 3 _ _ _ k1
  have f10 := frozen_of_row w2 _ 0 _ _ k1
  have f11 := frozen_of_row w2 _ 1 _ _ k1
  have f12 := frozen_of_row w2 _ 2 _ _ k1
  have f13 := frozen_of_row w2 _ 3 _ _ k1
  have c20 := cell_of_row w2 _ 0 _ _ _ k2
  have c21 := cell_of_row w2 _ 1 _ _ _ k2
  have c22 := cell_of_row w2 _ 2 _ _ _ k2
  have c23 := cell_of_row w2 _ 3 _ _ _ k2
  have f23 := frozen_of_row w2 _ 3 _ _ k2
  simp at c10 c11 c12 c13 c20 c21 c22 c23
  have K1 := hid k1
  have HB : Hid (Below w.heap.size w w2) := hid ((below_new3 w _ _ _).trans (b2.mono (by omega)))
  have HO2 := hid o2
  have HL2 := hid l2
  have HN2 := hid n2
  clear k0 k1 k2 b2 o2 l2 n2
  go_wp2
  have h12 : w.heap.size + 1 ≠ w.heap.size + 1 + 1 := by omega
  refine bodyPost_ret (results_cell_row rfl _ _ (w.heap.size + 1) 39 #[.int .i64 m.kind, .int .i64 m.field, .int .i64 m.count, .slice a2 m.bufs.length c2] (0, 0) _ rfl (set4 ((Below.heap_setCell _ ⟨w.heap.size + 1 + 1, 3, none⟩ _ _ h12).trans K1.out)) Try.underlying39 rfl (by kernel_rfl)) rfl ?_
  refine ⟨a2, c2, bs, rfl, HO2.out.kept (fun b hb => ?_), fun b hb => by have := HL2.out b hb; omega, HN2.out, set4b (HB.out.setCell (p := ⟨w.heap.size + 1 + 1, 3, none⟩) (by simp only []; omega) _) (by omega)⟩
  have := HL2.out b hb
  exact (set4o (by omega)).trans (Below.heap_setCell _ ⟨w.heap.size + 1 + 1, 3, none⟩ _ _ (by simp only []; omega))
end Go.Proofs.Ytcljakdcejhfiac
