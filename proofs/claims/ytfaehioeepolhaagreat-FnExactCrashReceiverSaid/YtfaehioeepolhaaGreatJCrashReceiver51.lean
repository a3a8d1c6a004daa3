import Derived.Test.YtfaehioeepolhaaGreatJCrashReceiver47
import Derived.Test.YtfaehioeepolhaaGreatJCrashReceiver49
import Derived.Test.YtfaehioeepolhaaGreatJCrashReceiver50
import Derived.Test.YtfaehioeepolhaaGreatJCrashReceiver20
import Derived.Test.YtfaehioeepolhaaGreatJCrashReceiver48
namespace Go.Proofs.YtfaehioeepolhaaGreat
open Go.RowKit
theorem sumT_le (xs : List (List (List Nat))) (h : totL tS xs ≤ 1048576) : sumL tot xs ≤ 1048576 := Nat.le_trans (tS_le xs) h
set_option maxRecDepth 100000 in
set_option maxHeartbeats 8000000 in
theorem markRcv_only (r : PRcv) (a1 b1 a2 b2 a3 : Option Addr) (c1 d1 c2 d2 c3 : Nat) (bi di bs ds ts : List Nat) (m : Nat) (w : World) (ho : OwnRcv w r a1 c1 b1 d1 a2 c2 b2 d2 a3 c3 bi di bs ds ts) (hnd : ((bi ++ di) ++ ((bs ++ ds) ++ ts)).Nodup) (ht : tRcv r ≤ 1048576) (hm : m ≤ 1048576) :
    Calls Tryz.prog 28 #[.agg #[.int .i64 r.epoch, .int .i64 r.count, .bool r.live, .int .i64 r.inn.epoch, .int .i64 r.inn.expect, .slice a1 r.inn.held.length c1, .slice b1 r.inn.part.length d1, .bool r.str.opened, .slice a2 r.str.fields.length c2, .int .i64 r.str.next, .slice b2 r.str.dicts.length d2, .slice a3 r.ready.length c3, .int .i64 r.errors], .int .i64 m] w fun e w' => ∃ q : Nat, e = .returned (.int .i64 (q : Int)) ∧ q ≤ 1073741824 ∧ Only ((bi ++ di) ++ ((bs ++ ds) ++ ts)) w w' := by
  obtain ⟨nI, nR, xI⟩ := List.nodup_append.1 hnd
  obtain ⟨nS, nT, xS⟩ := List.nodup_append.1 nR
  obtain ⟨nb, nd, xb⟩ := List.nodup_append.1 nI
  have HXI := hid xI
  have HXS := hid xS
  have HNS := hid nS
  have HNT := hid nT
  have HNB := hid nb
  have HXB : Hid (∀ y ∈ bi, y ∉ di) := hid (fun y h1 h2 => xb y h1 y h2 rfl)
  have hT : totL pN r.inn.held ≤ 1048576 ∧ r.inn.part.length ≤ 1048576 ∧ totL fN r.str.fields ≤ 1048576 ∧ totL tS r.str.dicts ≤ 1048576 ∧ totL totT r.ready ≤ 1048576 := by unfold tRcv tIn tStr at ht; omega
  have hS1 : sumL kT r.inn.held ≤ 8388608 := by have h1 := kT_le r.inn.held; have h2 := hT.1; unfold totL at h2; omega
  have hS2 : fT r.str.fields ≤ 4194304 ∧ r.str.fields.length ≤ 1048576 := by have h1 := fT_le r.str.fields; have h2 := hT.2.2.1; unfold totL fN at h2; omega
  have hS3 := sumT_le _ hT.2.2.2.1
  have hS4 : sumL hT_ r.ready ≤ 8388608 := by have h1 := hT_le r.ready; have h2 := hT.2.2.2.2; unfold totL at h1 h2; omega
  have HLT : Hid (∀ y ∈ ((bi ++ di) ++ ((bs ++ ds) ++ ts)), y < w.heap.size) := hid (fun y hy => by
    rcases List.mem_append.1 hy with h | h
    · rcases List.mem_append.1 h with h | h
      · exact ho.i.f.lt y h
      · exact ho.i.t.lt y h
    · rcases List.mem_append.1 h with h | h
      · rcases List.mem_append.1 h with h | h
        · exact ho.s.f.lt y h
        · exact ho.s.t.lt y h
      · exact ho.t.lt y h)
  have hb0 := below_new1 w (.cells #[.int .i64 r.epoch, .int .i64 r.count, .bool r.live, .int .i64 r.inn.epoch, .int .i64 r.inn.expect, .slice a1 r.inn.held.length c1, .slice b1 r.inn.part.length d1, .bool r.str.opened, .slice a2 r.str.fields.length c2, .int .i64 r.str.next, .slice b2 r.str.dicts.length d2, .slice a3 r.ready.length c3, .int .i64 r.errors] 43)
  have HI := hid (keptI ho.i (fun x hx => hb0.block x (HLT.out x (List.mem_append_left _ hx))))
  have HS := hid (keptS ho.s (fun x hx => hb0.block x (HLT.out x (List.mem_append_right _ (List.mem_append_left _ hx)))))
  have HT := hid (ho.t.kept (fun x hx => hb0.block x (HLT.out x (List.mem_append_right _ (List.mem_append_right _ hx)))))
  have HK0 : Hid ((w.alloc (.cells #[.int .i64 r.epoch, .int .i64 r.count, .bool r.live, .int .i64 r.inn.epoch, .int .i64 r.inn.expect, .slice a1 r.inn.held.length c1, .slice b1 r.inn.part.length d1, .bool r.str.opened, .slice a2 r.str.fields.length c2, .int .i64 r.str.next, .slice b2 r.str.dicts.length d2, .slice a3 r.ready.length c3, .int .i64 r.errors] 43)).heap[w.heap.size]? = some (.cells #[.int .i64 r.epoch, .int .i64 r.count, .bool r.live, .int .i64 r.inn.epoch, .int .i64 r.inn.expect, .slice a1 r.inn.held.length c1, .slice b1 r.inn.part.length d1, .bool r.str.opened, .slice a2 r.str.fields.length c2, .int .i64 r.str.next, .slice b2 r.str.dicts.length d2, .slice a3 r.ready.length c3, .int .i64 r.errors] 43 (0, 0))) := hid (heap_alloc_new w _)
  have HO0 := hid ((Only.of_below hb0).mono (fun x (hx : x ∈ ([] : List Nat)) => (List.not_mem_nil hx).elim) : Only ((bi ++ di) ++ ((bs ++ ds) ++ ts)) w (w.alloc (.cells #[.int .i64 r.epoch, .int .i64 r.count, .bool r.live, .int .i64 r.inn.epoch, .int .i64 r.inn.expect, .slice a1 r.inn.held.length c1, .slice b1 r.inn.part.length d1, .bool r.str.opened, .slice a2 r.str.fields.length c2, .int .i64 r.str.next, .slice b2 r.str.dicts.length d2, .slice a3 r.ready.length c3, .int .i64 r.errors] 43)))
  have HGI : Hid (w.heap.size ∉ ((bi ++ di) ++ ((bs ++ ds) ++ ts))) := hid (fun h => by have := HLT.out _ h; omega)
  clear ho hnd nI nR nS nT nb nd xI xS xb hb0
  go_enter Tryz.func28, Tryz.ntmps28
  go_upto_region 1 with fail
  generalize (w.alloc (.cells #[.int .i64 r.epoch, .int .i64 r.count, .bool r.live, .int .i64 r.inn.epoch, .int .i64 r.inn.expect, .slice a1 r.inn.held.length c1, .slice b1 r.inn.part.length d1, .bool r.str.opened, .slice a2 r.str.fields.length c2, .int .i64 r.str.next, .slice b2 r.str.dicts.length d2, .slice a3 r.ready.length c3, .int .i64 r.errors] 43)) = W0 at *
  have p3 := cell_of_row _ _ 3 _ _ _ HK0.out
  have p4 := cell_of_row _ _ 4 _ _ _ HK0.out
  have p5 := cell_of_row _ _ 5 _ _ _ HK0.out
  have p6 := cell_of_row _ _ 6 _ _ _ HK0.out
  simp only [List.getElem?_toArray, List.getElem?_cons_zero, List.getElem?_cons_succ] at p3 p4 p5 p6
  go_wp2_with fail
  refine (markLinkIn_any r.inn.epoch r.inn.expect a1 b1 c1 d1 r.inn.held r.inn.part bi di m W0 HI.out.f HNB.out HI.out.t HXB.out hT.1 hT.2.1 (by omega)).mono ?_
  rintro e w2 ⟨rfl, -, -, on2⟩
  have HK2 := hid (box_keptI HK0.out on2 (fun h => HGI.out (List.mem_append_left _ h)))
  have HS2 := hid (keptS HS.out (fun x hx => on2.block x (ltS HS.out x hx) (fun h => HXI.out x h x (List.mem_append_left _ hx) rfl)))
  have HT2 := hid (HT.out.kept (fun x hx => on2.block x (HT.out.lt x hx) (fun h => HXI.out x h x (List.mem_append_right _ hx) rfl)))
  have HO2 := hid (HO0.out.trans (on2.mono (fun x hx => List.mem_append_left _ hx)))
  clear on2 p3 p4 p5 p6
  have p7 := cell_of_row _ _ 7 _ _ _ HK2.out
  have p8 := cell_of_row _ _ 8 _ _ _ HK2.out
  have p9 := cell_of_row _ _ 9 _ _ _ HK2.out
  have p10 := cell_of_row _ _ 10 _ _ _ HK2.out
  simp only [List.getElem?_toArray, List.getElem?_cons_zero, List.getElem?_cons_succ] at p7 p8 p9 p10
  generalize hQ : m + sumL kT r.inn.held + r.inn.part.length = Q at *
  go_wp2_with fail
  refine (markStrX_any r.str a2 b2 c2 d2 bs ds Q w2 HS2.out HNS.out hS2.2 hS2.1 hT.2.2.2.1 (by omega)).mono ?_
  rintro e w3 ⟨rfl, -, on3⟩
  have HK3 := hid (box_keptI HK2.out on3 (fun h => HGI.out (List.mem_append_right _ (List.mem_append_left _ h))))
  have HT3 := hid (HT2.out.kept (fun x hx => on3.block x (HT2.out.lt x hx) (fun h => HXS.out x h x hx rfl)))
  have HO3 := hid (HO2.out.trans (on3.mono (fun x hx => List.mem_append_right _ (List.mem_append_left _ hx))))
  clear on3 p7 p8 p9 p10
  have p11 := cell_of_row _ _ 11 _ _ _ HK3.out
  simp only [List.getElem?_toArray, List.getElem?_cons_zero, List.getElem?_cons_succ] at p11
  generalize hR : Q + fT r.str.fields + sumL tot r.str.dicts = R at *
  go_wp2_with fail
  refine (markTableS_any _ r.ready ts R w3 HT3.out HNT.out hT.2.2.2.2 (by omega)).mono ?_
  rintro e w4 ⟨rfl, -, on4⟩
  have HO4 := hid (HO3.out.trans (on4.mono (fun x hx => List.mem_append_right _ (List.mem_append_right _ hx))))
  clear on4
  obtain ⟨Z, hZ⟩ : ∃ Z : Nat, Z = R + sumL hT_ r.ready := ⟨_, rfl⟩
  rw [← hZ]
  have hZ1 : Z ≤ 1073741824 := by omega
  clear hZ
  go_wp2
  go_ret
  exact ⟨Z, rfl, hZ1, HO4.out⟩
end Go.Proofs.YtfaehioeepolhaaGreat
namespace Go.Proofs.YtfaehioeepolhaaGreat
open Go.RowKit
set_option maxHeartbeats 1000000 in
theorem heldSS_none (a : Option Addr) (cap m : Nat) (w : World) (_hm : m ≤ 1099511627776) :
    Calls Tryz.prog 171 #[.slice a 0 cap, .int .i64 m] w fun e w' => e = .returned (.int .i64 m) ∧ w' = w := by
  go_enter Tryz.func171, Tryz.ntmps171
  go_wp2
  refine wp_loop_rounds 1 ?_; rw [rounds_succ]
  go_wp2
  go_ret
  exact ⟨rfl, rfl⟩
set_option maxHeartbeats 1000000 in
theorem heldSSS_nils (a : Option Addr) (cap n m : Nat) (w : World) (hr : RdSl cSSS w (List.replicate n []) (.slice a n cap)) (hn : n ≤ 1048576) (hm : m ≤ 1099511627776) :
    Calls Tryz.prog 122 #[.slice a n cap, .int .i64 m] w fun e w' => e = .returned (.int .i64 m) ∧ w' = w := by
  have HR := hid hr
  clear hr
  go_enter Tryz.func122, Tryz.ntmps122
  go_wp2
  go_loop [1, 5] (fun q i => ∃ k : Nat, k ≤ n ∧ i = .int .i64 k ∧ q = .int .i64 (m : Int)) (fun _ i => n - (intOf i).toNat)
  case atStart => exact ⟨0, Nat.zero_le _, rfl, rfl⟩
  case round =>
    obtain ⟨k, hk, rfl, rfl⟩ := hrel
    by_cases hlt : k < n
    · obtain ⟨b, off, a', c', rfl, hcb, hrr⟩ := HR.out.row3 (k := k) (by simpa using hlt)
      simp only [List.getElem_replicate, List.length_nil] at hcb
      have hki : (k : Int) < (n : Int) := by omega
      have hm0 : ¬ (m : Int) < 0 := by omega
      clear hrr
      go_wp2_with fail
      refine (heldSS_none a' c' m w hm).mono ?_
      rintro e w2 ⟨rfl, rfl⟩
      go_wp2
      go_round
      case rel => exact ⟨k + 1, by omega, by go_num, rfl⟩
      case measure => simp [intOf]; omega
    · obtain rfl : k = n := by omega
      go_wp2
      go_ret
      exact ⟨rfl, rfl⟩
set_option maxHeartbeats 2000000 in
theorem heldStream_any (s : PStr) (n : Nat) (hd : s.dicts = List.replicate n []) (a b : Option Addr) (c d : Nat) (m : Nat) (w : World) (hr : RdSl cField w (mkF m s.fields) (.slice a s.fields.length c)) (hr2 : RdSl cSSS w s.dicts (.slice b s.dicts.length d)) (hn : n ≤ 1048576) (hl : s.fields.length ≤ 1048576) (ht : fT s.fields ≤ 4194304) (hm : m ≤ 1073741824) :
    Calls Tryz.prog 73 #[.agg #[.bool s.opened, .slice a s.fields.length c, .int .i64 s.next, .slice b s.dicts.length d], .int .i64 m] w fun e w' => e = .returned (.int .i64 ((m + fT s.fields : Nat) : Int)) ∧ Below w.heap.size w w' := by
  have HR := hid hr
  have HR2 := hid hr2
  have hdl : s.dicts.length = n := by rw [hd]; simp
  have HDL := hid hdl
  have HD := hid hd
  clear hr hr2 hd hdl
  go_enter Tryz.func73, Tryz.ntmps73
  go_wp2_with fail
  refine (heldFieldS_any a c s.fields m _ (HR.out.later (below_new1 _ _)) hl ht hm).mono ?_
  rintro e w2 ⟨rfl, b2⟩
  have k1 := heap1 _ (by simpa using b2)
  have p3 := cell_of_row w2 _ 3 _ _ _ k1
  simp only [List.getElem?_toArray, List.getElem?_cons_zero, List.getElem?_cons_succ] at p3
  have HB2 := hid (below_chain (below_new1 _ _) b2)
  have hM : m + fT s.fields ≤ 1099511627776 := by omega
  have HRN : Hid (RdSl cSSS w2 (List.replicate n []) (.slice b n d)) := hid (by have h := HR2.out.later HB2.out; rw [HDL.out, HD.out] at h; exact h)
  clear k1 b2
  rw [HDL.out] at p3 ⊢
  generalize hQ : m + fT s.fields = q at *
  have HQ := hid hQ
  clear hQ
  have hq0 : ¬ (q : Int) < 0 := by omega
  go_wp2_with fail
  refine (heldSSS_nils b d n q w2 HRN.out hn hM).mono ?_
  rintro e w3 ⟨rfl, rfl⟩
  go_wp2
  go_ret
  exact ⟨(by rw [HQ.out]; rfl), HB2.out⟩
end Go.Proofs.YtfaehioeepolhaaGreat
