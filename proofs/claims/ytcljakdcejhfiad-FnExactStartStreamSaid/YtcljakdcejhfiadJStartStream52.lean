import Derived.Test.YtcljakdcejhfiadJStartStream51
namespace Go.Proofs.Ytcljakdcejhfiad
open Go.RowKit
set_option maxRecDepth 1000000 in
set_option maxHeartbeats 1000000 in
theorem markSS_none (a : Option Addr) (cap m : Nat) (w : World) (_hm : m ≤ 1099511627776) :
    Calls Try.prog 22 #[.slice a 0 cap, .int .i64 m] w fun e w' => e = .returned (.int .i64 m) ∧ w' = w := by
  go_enter Try.func22, Try.ntmps22
  go_wp2
  refine wp_loop_rounds 1 ?_; rw [rounds_succ]
  go_wp2
  go_ret
  exact ⟨rfl, rfl⟩
set_option maxRecDepth 1000000 in
set_option maxHeartbeats 1000000 in
theorem heldSS_none (a : Option Addr) (cap m : Nat) (w : World) (_hm : m ≤ 1099511627776) :
    Calls Try.prog 24 #[.slice a 0 cap, .int .i64 m] w fun e w' => e = .returned (.int .i64 m) ∧ w' = w := by
  go_enter Try.func24, Try.ntmps24
  go_wp2
  refine wp_loop_rounds 1 ?_; rw [rounds_succ]
  go_wp2
  go_ret
  exact ⟨rfl, rfl⟩
set_option maxRecDepth 1000000 in
set_option maxHeartbeats 1000000 in
theorem markSSS_nils (a : Option Addr) (cap n m : Nat) (w : World) (hr : RdSl cSSS w (List.replicate n []) (.slice a n cap)) (hn : n ≤ 1048576) (hm : m ≤ 1099511627776) :
    Calls Try.prog 92 #[.slice a n cap, .int .i64 m] w fun e w' => e = .returned (.int .i64 m) ∧ w' = w := by
  have HR := hid hr
  clear hr
  go_enter Try.func92, Try.ntmps92
  go_wp2
  go_loop [1, 5] (fun q i => ∃ k : Nat, k ≤ n ∧ i = .int .i64 k ∧ q = .int .i64 (m : Int)) (fun _ i => n - (intOf i).toNat)
  case atStart => exact ⟨0, Nat.zero_le _, rfl, rfl⟩
  case round =>
    obtain ⟨k, hk, rfl, rfl⟩ := hrel
    by_cases hlt : k < n
    · obtain ⟨b, off, a', c', rfl, hcb, hrr⟩ := HR.out.row3 (k := k) (by simpa using hlt)
      simp only [List.getElem_replicate, List.length_nil] at hcb
      have hki : (k : Int) < (n : Int) := by omega
      clear hrr
      go_wp2_with fail
      refine (markSS_none a' c' m w hm).mono ?_
      rintro e w2 ⟨rfl, rfl⟩
      go_wp2
      go_round
      case rel => exact ⟨k + 1, by omega, by go_num, rfl⟩
      case measure => simp [intOf]; omega
    · obtain rfl : k = n := by omega
      go_wp2
      go_ret
      exact ⟨rfl, rfl⟩
set_option maxRecDepth 1000000 in
set_option maxHeartbeats 1000000 in
theorem heldSSS_nils (a : Option Addr) (cap n m : Nat) (w : World) (hr : RdSl cSSS w (List.replicate n []) (.slice a n cap)) (hn : n ≤ 1048576) (hm : m ≤ 1099511627776) :
    Calls Try.prog 94 #[.slice a n cap, .int .i64 m] w fun e w' => e = .returned (.int .i64 m) ∧ w' = w := by
  have HR := hid hr
  clear hr
  go_enter Try.func94, Try.ntmps94
  go_wp2
  go_loop [1, 5] (fun q i => ∃ k : Nat, k ≤ n ∧ i = .int .i64 k ∧ q = .int .i64 (m : Int)) (fun _ i => n - (intOf i).toNat)
  case atStart => exact ⟨0, Nat.zero_le _, rfl, rfl⟩
  case round =>
    obtain ⟨k, hk, rfl, rfl⟩ := hrel
    by_cases hlt : k < n
    · obtain ⟨b, off, a', c', rfl, hcb, hrr⟩ := HR.out.row3 (k := k) (by simpa using hlt)
      simp only [List.getElem_replicate, List.length_nil] at hcb
      have hki : (k : Int) < (n : Int) := by omega
      have hm0 : ¬ (m : Int) < 0 := by omega
      clear hrr
      go_wp2_with fail
      refine (heldSS_none a' c' m w hm).mono ?_
      rintro e w2 ⟨rfl, rfl⟩
      go_wp2
      go_round
      case rel => exact ⟨k + 1, by omega, by go_num, rfl⟩
      case measure => simp [intOf]; omega
    · obtain rfl : k = n := by omega
      go_wp2
      go_ret
      exact ⟨rfl, rfl⟩
set_option maxRecDepth 1000000 in
set_option maxHeartbeats 2000000 in
theorem markStream_any (s : PStr) (n : Nat) (hd : s.dicts = List.replicate n []) (a b : Option Addr) (c d : Nat) (bs ds : List Nat) (m : Nat) (w : World) (ho : OwnStr w s a c b d bs ds) (hnd : (bs ++ ds).Nodup) (hn : n ≤ 1048576) (hl : s.fields.length ≤ 1048576) (ht : fT s.fields ≤ 4194304) (hm : m ≤ 1073741824) :
    Calls Try.prog 41 #[.agg #[.bool s.opened, .slice a s.fields.length c, .int .i64 s.next, .slice b s.dicts.length d], .int .i64 m] w fun e w' => e = .returned (.int .i64 ((m + fT s.fields : Nat) : Int)) ∧ OwnStr w' ⟨s.opened, mkF m s.fields, s.next, s.dicts⟩ a c b d bs ds ∧ Only (bs ++ ds) w w' := by
  have HF := hid ho.f
  have HT := hid ho.t
  obtain ⟨n1, n2, n3⟩ := List.nodup_append.1 hnd
  have HN1 := hid n1
  have HN3 := hid n3
  have hL1 := ho.f.lt
  have HL1 := hid hL1
  have HL2 := hid ho.t.lt
  clear ho hnd n1 n2 n3 hL1
  have hdl : s.dicts.length = n := by rw [hd]; simp
  have HDL := hid hdl
  have HD := hid hd
  clear hd hdl
  go_enter Try.func41, Try.ntmps41
  go_wp2_with fail
  refine (markFieldS_any _ s.fields bs m _ (HF.out.kept (fun p hp => (below_new1 w _).block p (HL1.out p hp))) HN1.out hl ht hm).mono ?_
  rintro e w2 ⟨rfl, o2, on2⟩
  have hg : w.heap.size ∉ bs := fun h => by have := HL1.out _ h; omega
  have kb : w2.heap[w.heap.size]? = some (.cells #[.bool s.opened, .slice a s.fields.length c, .int .i64 s.next, .slice b s.dicts.length d] 68 (0, 0)) := (on2.block _ (by simp) hg).trans (heap_alloc_new w _)
  have p3 := cell_of_row w2 _ 3 _ _ _ kb
  simp only [List.getElem?_toArray, List.getElem?_cons_zero, List.getElem?_cons_succ] at p3
  have HT2 : Hid (OwnSl cSSS 45 w2 s.dicts (.slice b s.dicts.length d) ds) := hid (HT.out.kept (fun p hp => by
    have hlt := HL2.out p hp
    exact (on2.block p (by simp; omega) (fun h => HN3.out p h p hp rfl)).trans ((below_new1 w _).block p hlt)))
  have HO2 := hid o2
  have HON : Hid (Only (bs ++ ds) w w2) := hid (((Only.of_below (below_new1 w _)).trans on2).mono (fun x hx => List.mem_append_left _ hx))
  have hM : m + fT s.fields ≤ 1099511627776 := by omega
  have HRN : Hid (RdSl cSSS w2 (List.replicate n []) (.slice b n d)) := hid (by have h := HT2.out.rd; rw [HDL.out, HD.out] at h; exact h)
  clear o2 on2 kb hg
  rw [HDL.out] at p3 ⊢
  go_wp2_with fail
  refine (markSSS_nils b d n (m + fT s.fields) w2 HRN.out hn hM).mono ?_
  rintro e w3 ⟨rfl, rfl⟩
  go_wp2
  go_ret
  refine ⟨rfl, ⟨?_, HT2.out⟩, HON.out⟩
  have h := HO2.out
  show OwnSl cField 84 w3 (mkF m s.fields) (.slice a (mkF m s.fields).length c) bs
  rw [mkF_len]
  exact h
set_option maxRecDepth 1000000 in
set_option maxHeartbeats 2000000 in
theorem heldStream_any (s : PStr) (n : Nat) (hd : s.dicts = List.replicate n []) (a b : Option Addr) (c d : Nat) (m : Nat) (w : World) (hr : RdSl cField w (mkF m s.fields) (.slice a s.fields.length c)) (hr2 : RdSl cSSS w s.dicts (.slice b s.dicts.length d)) (hn : n ≤ 1048576) (hl : s.fields.length ≤ 1048576) (ht : fT s.fields ≤ 4194304) (hm : m ≤ 1073741824) :
    Calls Try.prog 43 #[.agg #[.bool s.opened, .slice a s.fields.length c, .int .i64 s.next, .slice b s.dicts.length d], .int .i64 m] w fun e w' => e = .returned (.int .i64 ((m + fT s.fields : Nat) : Int)) ∧ Below w.heap.size w w' := by
  have HR := hid hr
  have HR2 := hid hr2
  have hdl : s.dicts.length = n := by rw [hd]; simp
  have HDL := hid hdl
  have HD := hid hd
  clear hr hr2 hd hdl
  go_enter Try.func43, Try.ntmps43
  go_wp2_with fail
  refine (heldFieldS_any a c s.fields m _ (HR.out.later (below_new1 _ _)) hl ht hm).mono ?_
  rintro e w2 ⟨rfl, b2⟩
  have k1 := heap1 _ (by simpa using b2)
  have p3 := cell_of_row w2 _ 3 _ _ _ k1
  simp only [List.getElem?_toArray, List.getElem?_cons_zero, List.getElem?_cons_succ] at p3
  have HB2 := hid (below_chain (below_new1 _ _) b2)
  have hM : m + fT s.fields ≤ 1099511627776 := by omega
  have HRN : Hid (RdSl cSSS w2 (List.replicate n []) (.slice b n d)) := hid (by have h := HR2.out.later HB2.out; rw [HDL.out, HD.out] at h; exact h)
  clear k1 b2
  rw [HDL.out] at p3 ⊢
  generalize hQ : m + fT s.fields = q at *
  have HQ := hid hQ
  clear hQ
  have hq0 : ¬ (q : Int) < 0 := by omega
  go_wp2_with fail
  refine (heldSSS_nils b d n q w2 HRN.out hn hM).mono ?_
  rintro e w3 ⟨rfl, rfl⟩
  go_wp2
  go_ret
  exact ⟨(by rw [HQ.out]; rfl), HB2.out⟩
end Go.Proofs.Ytcljakdcejhfiad
