import Derived.Test.YtmaccmgmcahopaaJWindow36
namespace Go.Proofs.Ytmaccmgmcahopaa
open Go.RowKit
theorem tickO_ok {o : PO} (h : outOK o = true) (hn : o.now < 1000000000) : outOK (tickO o) = true ∧ tickC o = 0 ∧ (tickO o).now = o.now + 1 ∧ (tickO o).next = o.next ∧ (tickO o).wait = tickK o (o.now + 1) (tickM o) ∧ tickG o = gramK o (o.now + 1) (tickM o) := by
  have hH := (outOK_of h).1
  obtain ⟨e1, e2, e3⟩ := tick_yes h (by omega)
  have hm : tickM o ≤ o.wait.length := by unfold tickM; omega
  refine ⟨?_, e3, by rw [e1], by rw [e1], by rw [e1], e2⟩
  rw [e1]
  have hkl := tickK_len o (o.now + 1) (tickM o) hm
  have hn0 := hH.2.2.2.2.1
  refine outOK_all ⟨hH.1, hH.2.1, hH.2.2.1, hH.2.2.2.1, by show 0 ≤ o.now + 1; omega, by show o.now + 1 ≤ 1000000000; omega, by show (tickK o (o.now + 1) (tickM o)).length ≤ 300; rw [hkl]; exact hH.2.2.2.2.2.2⟩ (fun k hk => ?_)
  have hk2 : k < o.wait.length := by rw [← hkl]; exact hk
  have hw := (outOK_of h).2 k hk2
  unfold outW at hw ⊢
  rw [Bool.and_eq_true] at hw
  have hw2 := of_decide_eq_true hw.2
  have hget := tickK_get o (o.now + 1) (tickM o) k hm hk2
  rw [List.getElem?_eq_getElem (by rw [hkl]; exact hk2)] at hget
  have hget2 := Option.some.inj hget
  dsimp only
  rw [hget2, hkl]
  have hp : (if k < tickM o then tickW (o.now + 1) o.wait[k] else o.wait[k]).pkt = o.wait[k].pkt := by split; exact tickW_pkt _ _; rfl
  rw [hp, hw.1, Bool.true_and]
  refine decide_eq_true ⟨hw2.1, ?_⟩
  split
  · unfold tickW
    split
    · exact ⟨by show -1 ≤ o.now + 1; omega, Int.le_refl _⟩
    · omega
  · omega
def wAt (o : PO) (k : Nat) : PW := o.wait[k]?.getD ⟨noPkt, 0⟩
theorem wAt_get {o : PO} {k : Nat} (h : k < o.wait.length) : wAt o k = o.wait[k] := by unfold wAt; rw [List.getElem?_eq_getElem h]; rfl
def dueI (o : PO) (t : Int) : List Nat := (List.range (tickM o)).filter (fun k => dueB t (wAt o k))
theorem take_wAt (o : PO) (m : Nat) (hm : m ≤ o.wait.length) : o.wait.take m = (List.range m).map (wAt o) := by
  apply List.ext_getElem?
  intro i
  by_cases h : i < m
  · rw [List.getElem?_take_of_lt h, List.getElem?_map, List.getElem?_range h, List.getElem?_eq_getElem (by omega)]
    show _ = some (wAt o i)
    rw [wAt_get (by omega)]
  · rw [List.getElem?_eq_none (by simp; omega), List.getElem?_eq_none (by simp; omega)]
theorem gram_due (o : PO) (t : Int) : gramK o t (tickM o) = (dueI o t).map (fun k => pktR (wAt o k).pkt) := by
  unfold gramK dueI
  rw [take_wAt o _ (by unfold tickM; omega), List.filter_map, List.map_map]
  rfl
theorem dueI_asc (o : PO) (t : Int) : (dueI o t).Pairwise (· < ·) := List.Pairwise.filter _ List.pairwise_lt_range
theorem dueI_mem {o : PO} {t : Int} {k : Nat} : k ∈ dueI o t ↔ k < tickM o ∧ dueB t (wAt o k) = true := by
  unfold dueI
  rw [List.mem_filter, List.mem_range]
def lastU (last : List Int) (D : List Nat) (t : Int) : List Int := D.foldl (fun l k => l.set k t) last
theorem lastU_len (t : Int) : ∀ (D : List Nat) (last : List Int), (lastU last D t).length = last.length
  | [], _ => rfl
  | d :: D, last => by
    show (lastU (last.set d t) D t).length = _
    rw [lastU_len t D, List.length_set]
theorem lastU_no (t : Int) : ∀ (D : List Nat) (last : List Int) (k : Nat), k ∉ D → (lastU last D t)[k]? = last[k]?
  | [], _, _, _ => rfl
  | d :: D, last, k, h => by
    show (lastU (last.set d t) D t)[k]? = _
    rw [lastU_no t D _ k (fun hm => h (List.mem_cons_of_mem _ hm)), List.getElem?_set_ne (fun e => h (by simp [e]))]
theorem lastU_yes (t : Int) : ∀ (D : List Nat) (last : List Int) (k : Nat), k ∈ D → k < last.length → (lastU last D t)[k]? = some t
  | d :: D, last, k, h, hl => by
    show (lastU (last.set d t) D t)[k]? = _
    by_cases hm : k ∈ D
    · exact lastU_yes t D _ k hm (by rw [List.length_set]; exact hl)
    · rw [lastU_no t D _ k hm]
      rcases List.mem_cons.1 h with rfl | h
      · rw [List.getElem?_set_self hl]
      · exact absurd h hm
theorem lastU_succ (last : List Int) (D : List Nat) (t : Int) (i : Nat) (hi : i < D.length) : lastU last (D.take (i + 1)) t = (lastU last (D.take i) t).set D[i] t := by
  unfold lastU
  rw [List.take_succ_eq_append_getElem hi, List.foldl_append]
  rfl
structure WnI (s : PO) (t : Nat) (o : PO) (last : List Int) : Prop where
  s0 : 0 ≤ s.now
  ok : outOK o = true
  nx : o.next = s.next
  nw : o.now = s.now + (t : Int)
  wl : o.wait.length = s.wait.length
  ll : last.length = s.wait.length
  la : ∀ k, (h : k < o.wait.length) → (h2 : k < last.length) → (last[k] = -1 ∧ o.wait[k].at_ ≤ s.now ∧ (k < 8 → t < 4)) ∨ (0 ≤ last[k] ∧ last[k] < (t : Int) ∧ o.wait[k].at_ = s.now + last[k] + 1)
theorem wn_start {s : PO} (h : outOK s = true) : WnI s 0 s (List.replicate s.wait.length (-1)) := by
  refine ⟨(outOK_of h).1.2.2.2.2.1, h, rfl, by simp, rfl, by simp, fun k hk h2 => .inl ⟨by simp, ?_, fun _ => by omega⟩⟩
  have hw := (outOK_of h).2 k hk
  unfold outW at hw
  rw [Bool.and_eq_true] at hw
  exact (of_decide_eq_true hw.2).2.2
theorem wn_step {s o : PO} {t : Nat} {last : List Int} (h : WnI s t o last) (ht : t < 12) (hs : s.now ≤ 999999980) : WnI s (t + 1) (tickO o) (lastU last (dueI o (o.now + 1)) (t : Int)) := by
  have hnw := h.nw
  have hn0 : 0 ≤ o.now := (outOK_of h.ok).1.2.2.2.2.1
  obtain ⟨k1, k2, k3, k4, k5, k6⟩ := tickO_ok h.ok (by omega)
  have hm : tickM o ≤ o.wait.length := by unfold tickM; omega
  have hm8 : tickM o = min 8 o.wait.length := rfl
  have hkl := tickK_len o (o.now + 1) (tickM o) hm
  have hwl := h.wl
  have hll := h.ll
  refine ⟨h.s0, k1, by rw [k4, h.nx], by rw [k3]; omega, by rw [k5, hkl, hwl], by rw [lastU_len, hll], fun k hk h2 => ?_⟩
  have hk' : k < o.wait.length := by rw [k5, hkl] at hk; exact hk
  have h2' : k < last.length := by omega
  have e5 : (tickO o).wait[k] = if k < tickM o then tickW (o.now + 1) o.wait[k] else o.wait[k] := by
    have hg := tickK_get o (o.now + 1) (tickM o) k hm hk'
    rw [← k5, List.getElem?_eq_getElem hk] at hg
    exact Option.some.inj hg
  have hold := h.la k hk' h2'
  by_cases hd : k ∈ dueI o (o.now + 1)
  · have hd2 := dueI_mem.1 hd
    rw [wAt_get hk'] at hd2
    have e6 : (lastU last (dueI o (o.now + 1)) (t : Int))[k] = (t : Int) := by
      have hg := lastU_yes (t : Int) (dueI o (o.now + 1)) last k hd h2'
      rw [List.getElem?_eq_getElem h2] at hg
      exact Option.some.inj hg
    right
    rw [e5, e6, if_pos hd2.1]
    unfold tickW
    rw [if_pos hd2.2]
    refine ⟨by omega, by omega, ?_⟩
    show o.now + 1 = s.now + (t : Int) + 1
    omega
  · have e6 : (lastU last (dueI o (o.now + 1)) (t : Int))[k] = last[k] := by
      have hg := lastU_no (t : Int) (dueI o (o.now + 1)) last k hd
      rw [List.getElem?_eq_getElem h2, List.getElem?_eq_getElem h2'] at hg
      exact Option.some.inj hg
    have e7 : (tickO o).wait[k].at_ = o.wait[k].at_ ∧ (k < 8 → dueB (o.now + 1) o.wait[k] = false) := by
      rw [e5]
      by_cases hkm : k < tickM o
      · have hnd : dueB (o.now + 1) o.wait[k] = false := by
          cases hb : dueB (o.now + 1) o.wait[k] with
          | false => rfl
          | true => exact absurd (dueI_mem.2 ⟨hkm, by rw [wAt_get hk']; exact hb⟩) hd
        rw [if_pos hkm]
        unfold tickW
        rw [hnd]
        exact ⟨rfl, fun _ => rfl⟩
      · rw [if_neg hkm]
        exact ⟨rfl, fun h8 => by omega⟩
    rw [e6, e7.1]
    rcases hold with ⟨q1, q2, q3⟩ | ⟨q1, q2, q3⟩
    · refine .inl ⟨q1, q2, fun h8 => ?_⟩
      have hnd := e7.2 h8
      unfold dueB at hnd
      simp only [Bool.or_eq_false_iff, decide_eq_false_iff_not] at hnd
      omega
    · exact .inr ⟨q1, by omega, q3⟩
theorem wn_gram {s o : PO} {t : Nat} {last : List Int} (h : WnI s t o last) (hs : s.now ≤ 999999980) (ht : t < 12) {i : Nat} (hi : i < (dueI o (o.now + 1)).length) :
    ∃ k : Nat, (dueI o (o.now + 1))[i] = k ∧ k < 8 ∧ k < s.wait.length ∧ (wAt o k).pkt.seq - (s.next - (s.wait.length : Int)) = (k : Int) ∧ pkP (pktR (wAt o k).pkt) = (wAt o k).pkt ∧ pkC (pktR (wAt o k).pkt) = 0 ∧ PktOK (wAt o k).pkt ∧
      (∃ z, (lastU last ((dueI o (o.now + 1)).take i) (t : Int))[k]? = some z ∧ (z < 0 ∨ (0 ≤ z ∧ 4 ≤ (t : Int) - z ∧ z ≤ 1000))) := by
  obtain ⟨k, hk⟩ : ∃ k, (dueI o (o.now + 1))[i] = k := ⟨_, rfl⟩
  have hm := dueI_mem.1 (hk ▸ List.getElem_mem hi)
  have hwl := h.wl
  have hll := h.ll
  have hM : tickM o = min 8 o.wait.length := rfl
  have hkl : k < o.wait.length := by omega
  have hw := (outOK_of h.ok).2 k hkl
  unfold outW dataB at hw
  rw [Bool.and_eq_true, Bool.and_eq_true] at hw
  have hw2 := of_decide_eq_true hw.2
  have hpk : pktOK o.wait[k].pkt = true := hw.1.1
  have hnn : pktR o.wait[k].pkt ≠ [] := by
    rw [pktR_ok hpk]
    intro hn
    have := congrArg List.length hn
    rw [show pktB o.wait[k].pkt = encP _ _ _ _ _ _ from rfl, encP_len] at this
    simp at this
  have hpr := pk_round hnn
  have hseq := hw2.1
  rw [h.nx, hwl] at hseq
  refine ⟨k, hk, by omega, by omega, by rw [wAt_get hkl, hseq]; omega, by rw [wAt_get hkl]; exact hpr.1, by rw [wAt_get hkl]; exact hpr.2, by rw [wAt_get hkl]; exact of_decide_eq_true hpk, last[k], ?_, ?_⟩
  · rw [lastU_no _ _ _ k, List.getElem?_eq_getElem (by omega)]
    intro hmem
    obtain ⟨q, hq, he⟩ := List.mem_take_iff_getElem.1 hmem
    have hq2 : q < i ∧ q < (dueI o (o.now + 1)).length := by omega
    have := (List.pairwise_iff_getElem.1 (dueI_asc o (o.now + 1))) q i hq2.2 hi hq2.1
    omega
  · have hd := hm.2
    rw [wAt_get hkl] at hd
    unfold dueB at hd
    simp only [Bool.or_eq_true, decide_eq_true_eq] at hd
    have hnw := h.nw
    have hn0 := h.s0
    rcases h.la k hkl (by omega) with ⟨q1, _, _⟩ | ⟨q1, q2, q3⟩
    · exact .inl (by omega)
    · refine .inr ⟨q1, ?_, by omega⟩
      omega
theorem wn_end {s o : PO} {last : List Int} (h : WnI s 12 o last) {k : Nat} (hk : k < last.length) (h8 : k < 8) : ¬ last[k] < 0 := by
  have hwl := h.wl
  have hll := h.ll
  rcases h.la k (by omega) hk with ⟨_, _, q⟩ | ⟨q, _, _⟩
  · have := q h8; omega
  · omega
theorem wn_ack {s o : PO} {t d5 : Nat} {last : List Int} (h : WnI s t o last) (hq : 0 ≤ s.next - (d5 : Int)) :
    ackC o (s.next - (d5 : Int)) = 0 ∧ (ackO o (s.next - (d5 : Int))).wait.length = min d5 s.wait.length ∧ (∀ h0 : 0 < (ackO o (s.next - (d5 : Int))).wait.length, (ackO o (s.next - (d5 : Int))).wait[0].pkt.seq = s.next - ((min d5 s.wait.length : Nat) : Int)) := by
  have hnx := h.nx
  have hwl := h.wl
  obtain ⟨e1, e2⟩ := ack_yes (o := o) (q := s.next - (d5 : Int)) ⟨h.ok, hq, by omega⟩
  have hd : ackD o (s.next - (d5 : Int)) = o.wait.length - d5 := by unfold ackD; omega
  rw [hd] at e1
  refine ⟨e2, by rw [e1]; simp; omega, ?_⟩
  rw [e1]
  intro h0
  have h1 : (o.wait.drop (o.wait.length - d5)).length = min d5 o.wait.length := by simp; omega
  have h0' : 0 < (o.wait.drop (o.wait.length - d5)).length := h0
  have e3 : (o.wait.drop (o.wait.length - d5))[0] = o.wait[o.wait.length - d5]'(by omega) := by simp
  dsimp only
  rw [e3]
  have hw := (outOK_of h.ok).2 (o.wait.length - d5) (by omega)
  unfold outW at hw
  rw [Bool.and_eq_true] at hw
  have := (of_decide_eq_true hw.2).1
  omega
end Go.Proofs.Ytmaccmgmcahopaa
