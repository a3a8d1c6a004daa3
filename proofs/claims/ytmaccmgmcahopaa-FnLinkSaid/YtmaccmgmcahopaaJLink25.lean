import Derived.Test.YtmaccmgmcahopaaJLink20
import Derived.Test.YtmaccmgmcahopaaJLink22
import Derived.Test.YtmaccmgmcahopaaJLink24
namespace Go.Proofs.Ytmaccmgmcahopaa
open Go.RowKit
theorem stepT_acc (g : List (List Nat)) : ∀ (l : List PP) (pt : List Nat) (ms : List (List Nat)), l.foldl stepT (pt, g ++ ms) = ((l.foldl stepT (pt, ms)).1, g ++ (l.foldl stepT (pt, ms)).2)
  | [], _, _ => rfl
  | x :: l, pt, ms => by
    simp only [List.foldl_cons]
    by_cases h : x.last
    · have e1 : stepT (pt, g ++ ms) x = ([], g ++ (ms ++ [pt ++ x.data])) := by simp [stepT, h]
      have e2 : stepT (pt, ms) x = ([], ms ++ [pt ++ x.data]) := by simp [stepT, h]
      rw [e1, e2]; exact stepT_acc g l _ _
    · have e1 : stepT (pt, g ++ ms) x = (pt ++ x.data, g ++ ms) := by simp [stepT, h]
      have e2 : stepT (pt, ms) x = (pt ++ x.data, ms) := by simp [stepT, h]
      rw [e1, e2]; exact stepT_acc g l _ _
theorem fold_part : ∀ (l : List PP) (pt : List Nat) (ms : List (List Nat)), (∀ x ∈ l, x.data.length ≤ 100) → (l.foldl stepT (pt, ms)).1.length ≤ pt.length + 100 * l.length
  | [], _, _, _ => by simp
  | x :: l, pt, ms, h => by
    have hx := h x (by simp)
    have hl : ∀ y ∈ l, y.data.length ≤ 100 := fun y hy => h y (List.mem_cons_of_mem _ hy)
    simp only [List.foldl_cons]
    by_cases hb : x.last
    · have e2 : stepT (pt, ms) x = ([], ms ++ [pt ++ x.data]) := by simp [stepT, hb]
      rw [e2]
      have := fold_part l [] (ms ++ [pt ++ x.data]) hl
      simp only [List.length_nil, List.length_cons] at this ⊢
      omega
    · have e2 : stepT (pt, ms) x = (pt ++ x.data, ms) := by simp [stepT, hb]
      rw [e2]
      have := fold_part l (pt ++ x.data) ms hl
      simp only [List.length_append, List.length_cons] at this ⊢
      omega
theorem runT_some {s : PI} {l : List PP} (h : ∀ x ∈ l, x.data.length ≤ 100) (hs : s.part.length + 100 * l.length ≤ 20000) : ∀ f d, d + f = l.length → (∀ i, (hi : i < l.length) → i < d → l[i].seq = s.expect + (i : Int)) →
    ∃ r, runT s l f d = some r ∧ r ≤ l.length ∧ (∀ i, (hi : i < l.length) → i < r → l[i].seq = s.expect + (i : Int)) ∧ (∀ h : r < l.length, l[r].seq ≠ s.expect + (r : Int))
  | 0, d, e, hd => ⟨d, rfl, by omega, hd, fun h => by omega⟩
  | f + 1, d, e, hd => by
    have hdl : d < l.length := by omega
    have ef : l.length - d = f + 1 := by omega
    have ef2 : l.length - (d + 1) = f := by omega
    by_cases hq : l[d].seq = s.expect + (d : Int)
    · have hp := ptK_tot s l h d (by omega)
      have hx := h _ (List.getElem_mem hdl)
      have hgo := runT_go s l d hdl hq (by omega)
      rw [ef, ef2] at hgo
      rw [hgo]
      refine runT_some h hs f (d + 1) (by omega) (fun i hi hid => ?_)
      by_cases he : i = d
      · subst he; exact hq
      · exact hd i hi (by omega)
    · have hst := runT_stop s l d hdl hq
      rw [ef] at hst
      exact ⟨d, hst, by omega, hd, fun _ => hq⟩
structure Good (e : Int) (S : List PP) (want : List (List Nat)) : Prop where
  len : S.length ≤ 40
  seq : ∀ k, (h : k < S.length) → S[k].seq = (k : Int)
  dat : ∀ p ∈ S, dataB p e = true
  run : S.foldl stepT ([], []) = ([], want)
theorem Good.at {e : Int} {S : List PP} {want : List (List Nat)} (hg : Good e S want) {p : PP} (hp : p ∈ S) {k : Nat} (hk : p.seq = (k : Int)) : S[k]? = some p := by
  obtain ⟨j, hj, rfl⟩ := List.getElem_of_mem hp
  have := hg.seq j hj
  obtain rfl : j = k := by omega
  exact List.getElem?_eq_getElem hj
theorem Good.lt {e : Int} {S : List PP} {want : List (List Nat)} (hg : Good e S want) {p : PP} (hp : p ∈ S) : 0 ≤ p.seq ∧ p.seq < (S.length : Int) := by
  obtain ⟨j, hj, rfl⟩ := List.getElem_of_mem hp
  have := hg.seq j hj
  omega
theorem Good.empty (e : Int) : Good e [] [] := ⟨by simp, by simp, by simp, rfl⟩
def lkW (p : PP) : PW := ⟨p, -1⟩
def lkO (e : Int) (S : List PP) : PO := ⟨e, (S.length : Int), 0, S.map lkW⟩
def lkP (e : Int) (S : List PP) (xs : List Nat) (i : Nat) : PP := (pkW (lkO e S) xs i).pkt
def lkS (e : Int) (S : List PP) (xs : List Nat) : List PP := S ++ (List.range (nPc xs)).map (lkP e S xs)
theorem lkP_dat {e : Int} {S : List PP} {xs : List Nat} {i : Nat} (he : 1 ≤ e ∧ e ≤ 1000000000) (hS : S.length ≤ 40) (hx : xs.length ≤ 700) (hi : i < nPc xs) : dataB (lkP e S xs i) e = true := by
  have hl : (pcs xs i).length = min 100 (xs.length - i * 100) := pcs_len xs i
  unfold nPc at hi
  have hk : pktOK (lkP e S xs i) = true := by
    refine decide_eq_true ⟨he.1, he.2, ?_, ?_, by show (0 : Int) ≤ 0; omega, by show (0 : Int) ≤ 1000000000; omega, .inl ⟨rfl, ?_, rfl, ?_, ?_⟩⟩
    · show (0 : Int) ≤ (S.length : Int) + (i : Int); omega
    · show (S.length : Int) + (i : Int) ≤ 1000000000000; omega
    · show (S.length : Int) + (i : Int) < 1000000000000; omega
    · show 1 ≤ (pcs xs i).length; omega
    · show (pcs xs i).length ≤ 100; omega
  unfold dataB
  rw [hk, decide_eq_true (show (lkP e S xs i).kind = 1 from rfl), decide_eq_true (show (lkP e S xs i).epoch = e from rfl)]
  rfl
theorem lk_pieces {e : Int} {S : List PP} {xs : List Nat} (want : List (List Nat)) : ∀ k, k + 1 ≤ nPc xs → ((List.range k).map (lkP e S xs)).foldl stepT ([], want) = (xs.take (k * 100), want)
  | 0, _ => by simp
  | k + 1, h => by
    rw [List.range_succ, List.map_append, List.foldl_append, lk_pieces want k (by omega)]
    have hl : (lkP e S xs k).last = false := by
      show (((k : Int)) == (nPc xs : Int) - 1) = false
      exact beq_eq_false_iff_ne.2 (by omega)
    have : stepT (xs.take (k * 100), want) (lkP e S xs k) = (xs.take (k * 100) ++ pcs xs k, want) := by
      unfold stepT; rw [hl]; rfl
    simp only [List.map_cons, List.map_nil, List.foldl_cons, List.foldl_nil, this]
    rw [show (k + 1) * 100 = k * 100 + 100 from by omega, List.take_add]
    rfl
theorem good_push {e : Int} {S : List PP} {want : List (List Nat)} {xs : List Nat} (hg : Good e S want) (he : 1 ≤ e ∧ e ≤ 1000000000) (h1 : 1 ≤ xs.length) (h2 : xs.length ≤ 700) (hS : S.length + 7 ≤ 40) :
    Good e (lkS e S xs) (want ++ [xs]) ∧ (lkS e S xs).length ≤ S.length + 7 := by
  have hn : 1 ≤ nPc xs ∧ nPc xs ≤ 7 ∧ xs.length ≤ nPc xs * 100 := by unfold nPc; omega
  have hlen : (lkS e S xs).length = S.length + nPc xs := by simp [lkS]
  refine ⟨⟨by omega, fun k hk => ?_, fun p hp => ?_, ?_⟩, by omega⟩
  · by_cases h : k < S.length
    · have e1 : (lkS e S xs)[k] = S[k] := List.getElem_append_left h
      rw [e1]; exact hg.seq k h
    · have e1 : (lkS e S xs)[k]? = some (lkP e S xs (k - S.length)) := by
        unfold lkS
        rw [List.getElem?_append_right (by omega), List.getElem?_map, List.getElem?_range (by omega)]
        rfl
      have e2 : (lkS e S xs)[k] = lkP e S xs (k - S.length) := by
        rw [List.getElem?_eq_getElem hk] at e1
        exact Option.some.inj e1
      rw [e2]
      show (S.length : Int) + ((k - S.length : Nat) : Int) = (k : Int)
      omega
  · rcases List.mem_append.1 hp with hp | hp
    · exact hg.dat p hp
    · obtain ⟨i, hi, rfl⟩ := List.mem_map.1 hp
      exact lkP_dat he (by omega) h2 (List.mem_range.1 hi)
  · unfold lkS
    rw [List.foldl_append, hg.run]
    obtain ⟨m, hm⟩ : ∃ m, nPc xs = m + 1 := ⟨nPc xs - 1, by omega⟩
    rw [hm, List.range_succ, List.map_append, List.foldl_append, lk_pieces want m (by omega)]
    have hl : (lkP e S xs m).last = true := by
      show (((m : Int)) == (nPc xs : Int) - 1) = true
      rw [hm]; exact beq_iff_eq.2 (by omega)
    have : stepT (xs.take (m * 100), want) (lkP e S xs m) = ([], want ++ [xs.take (m * 100) ++ pcs xs m]) := by
      unfold stepT; rw [hl]; rfl
    simp only [List.map_cons, List.map_nil, List.foldl_cons, List.foldl_nil, this]
    have : xs.take (m * 100) ++ pcs xs m = xs := by
      unfold pcs
      rw [← List.take_add]
      exact List.take_of_length_le (by omega)
    rw [this]
theorem lkO_ok {e : Int} {S : List PP} {want : List (List Nat)} (hg : Good e S want) (he : 1 ≤ e ∧ e ≤ 1000000000) : outOK (lkO e S) = true := by
  have hlen := hg.len
  have hl : (lkO e S).wait.length = S.length := by simp [lkO]
  refine outOK_all ⟨he.1, he.2, ?_, ?_, by show (0 : Int) ≤ 0; omega, by show (0 : Int) ≤ 1000000000; omega, by omega⟩ (fun k hk => ?_)
  · show (0 : Int) ≤ (S.length : Int); omega
  · show (S.length : Int) ≤ 1000000000000; omega
  · have hk2 : k < S.length := by omega
    have e1 : (lkO e S).wait[k] = lkW S[k] := by simp [lkO]
    rw [e1]
    unfold outW
    rw [show dataB (lkW S[k]).pkt (lkO e S).epoch = true from hg.dat _ (List.getElem_mem hk2), Bool.true_and]
    refine decide_eq_true ⟨?_, by show (-1 : Int) ≤ -1; omega, by show (-1 : Int) ≤ 0; omega⟩
    show S[k].seq = (S.length : Int) - ((lkO e S).wait.length : Int) + (k : Int)
    rw [hl, hg.seq k hk2]; omega
theorem lk_push {e : Int} {S : List PP} {want : List (List Nat)} {xs : List Nat} (hg : Good e S want) (he : 1 ≤ e ∧ e ≤ 1000000000) (h1 : 1 ≤ xs.length) (h2 : xs.length ≤ 700) : pushO (lkO e S) xs = lkO e (lkS e S xs) ∧ pushC (lkO e S) xs = 0 := by
  have hlen := hg.len
  have hn : nPc xs ≤ 7 := by unfold nPc; omega
  have hl : (lkO e S).wait.length = S.length := by simp [lkO]
  obtain ⟨e1, e2⟩ := push_yes (o := lkO e S) (xs := xs) ⟨lkO_ok hg he, h1, by omega⟩ (by unfold PushFull; omega) (by unfold PushEnd; show ¬ (1000000000000 : Int) < (S.length : Int) + (nPc xs : Int); omega)
  refine ⟨e1.trans ?_, e2⟩
  have hS : (lkS e S xs).length = S.length + nPc xs := by simp [lkS]
  unfold lkO
  rw [hS]
  have e3 : pushK (lkO e S) xs (nPc xs) = (lkS e S xs).map lkW := by
    unfold pushK lkS
    rw [List.map_append, List.map_map]
    rfl
  have e4 : ((S.length : Int) + (nPc xs : Int)) = ((S.length + nPc xs : Nat) : Int) := by omega
  show PO.mk e ((S.length : Int) + (nPc xs : Int)) 0 (pushK (lkO e S) xs (nPc xs)) = _
  rw [e3, e4]
structure InI (e : Int) (S : List PP) (s : PI) (got : List (List Nat)) : Prop where
  ok : inOK s = true
  ep : s.epoch = e
  le : s.expect ≤ (S.length : Int)
  mem : ∀ p ∈ s.held, p ∈ S
  run : (S.take s.expect.toNat).foldl stepT ([], []) = (s.part, got)
def LkR (s : PI) (k : Int) : Prop := k < s.expect ∨ ∃ p ∈ s.held, p.seq = k
theorem inI_start {e : Int} (S : List PP) (he : 1 ≤ e ∧ e ≤ 1000000000) : InI e S ⟨e, 0, [], []⟩ [] := by
  refine ⟨inOK_all ⟨by show (0 : Int) ≤ e; omega, he.2, by show (0 : Int) ≤ 0; omega, by show (0 : Int) ≤ 1000000000000; omega, by simp⟩ (by intro k hk; simp at hk), rfl, by show (0 : Int) ≤ _; omega, by simp, by simp⟩
theorem lk_take {e : Int} {S : List PP} {want got : List (List Nat)} {s : PI} {p : PP} (hg : Good e S want) (hi : InI e S s got) (hp : p ∈ S) :
    (takeC s p = 0 ∨ takeC s p = 4) ∧ InI e S (takeI s p) (got ++ takeG s p) ∧ s.expect ≤ (takeI s p).expect ∧ (∀ k, LkR s k → LkR (takeI s p) k) ∧ (p.seq < s.expect + 8 → LkR (takeI s p) p.seq) := by
  have hOK : takeOK s p = true := by unfold takeOK; rw [hi.ok, hi.ep, hg.dat p hp]; rfl
  have hH := (inOK_of hi.ok).1
  cases ho : oldB s p with
  | true =>
    obtain ⟨e1, e2, e3⟩ := take_old hOK ho
    rw [e1, e2, e3, List.append_nil]
    refine ⟨.inr rfl, hi, Int.le_refl _, fun _ h => h, fun h => ?_⟩
    unfold oldB at ho
    rw [Bool.or_eq_true, Bool.or_eq_true] at ho
    rcases ho with h1 | h1 | h1
    · exact .inl (of_decide_eq_true h1)
    · have := of_decide_eq_true h1; omega
    · obtain ⟨q, hq, e⟩ := List.any_eq_true.1 h1
      exact .inr ⟨q, hq, of_decide_eq_true e⟩
  | false =>
    have hasc := all_asc hOK ho
    have hin := fun x (hx : x ∈ takeAll s p) => all_in hOK ho hx
    have hlen := asc_len hasc hin
    have hge := asc_ge hasc (fun x hx => (hin x hx).1)
    have hmem : ∀ x ∈ takeAll s p, x ∈ S := fun x hx => by
      rcases takeAll_mem hx with rfl | h
      · exact hp
      · exact hi.mem x h
    have hmem2 : ∀ x, x = p ∨ x ∈ s.held → x ∈ takeAll s p := fun x hx => by rw [takeAll_ins]; exact ins_mem.2 hx
    have hdl : ∀ x ∈ takeAll s p, x.data.length ≤ 100 := fun x hx => (dataB_of (hg.dat x (hmem x hx))).2.1
    have hx0 : 0 ≤ s.expect := hH.2.2.1
    have hSlen := hg.len
    have hle := hi.le
    have hpl : s.part.length ≤ 4000 := by
      have h1 := fold_part (S.take s.expect.toNat) [] [] (fun x hx => (dataB_of (hg.dat x (List.mem_of_mem_take hx))).2.1)
      rw [hi.run] at h1
      have h2 : (S.take s.expect.toNat).length ≤ S.length := by simp; omega
      simp only [List.length_nil] at h1
      omega
    obtain ⟨d, h1, h2, h3, h4⟩ := runT_some (s := s) hdl (by omega) (takeAll s p).length 0 (by omega) (by intro i _ h; omega)
    obtain ⟨e1, e2, e3⟩ := take_yes hOK ho h1
    rw [e1, e2, e3]
    have hpt := ptK_tot s (takeAll s p) hdl d h2
    have hxd : s.expect + (d : Int) ≤ (S.length : Int) := by
      by_cases hd0 : d = 0
      · subst hd0; simpa using hi.le
      · have := h3 (d - 1) (by omega) (by omega)
        have := (hg.lt (hmem _ (List.getElem_mem (show d - 1 < (takeAll s p).length by omega)))).2
        omega
    have htk : S.take (s.expect + (d : Int)).toNat = S.take s.expect.toNat ++ (takeAll s p).take d := by
      rw [show (s.expect + (d : Int)).toNat = s.expect.toNat + d from by omega, List.take_add]
      congr 1
      apply List.ext_getElem?
      intro i
      by_cases hid : i < d
      · rw [List.getElem?_take_of_lt hid, List.getElem?_take_of_lt hid, List.getElem?_drop, List.getElem?_eq_getElem (show i < (takeAll s p).length by omega)]
        exact hg.at (hmem _ (List.getElem_mem _)) (by rw [h3 i (by omega) hid]; omega)
      · rw [List.getElem?_eq_none (by simp; omega), List.getElem?_eq_none (by simp; omega)]
    refine ⟨.inl rfl, ⟨?_, hi.ep, hxd, fun q hq => hmem q (List.mem_of_mem_drop hq), ?_⟩, by show s.expect ≤ s.expect + (d : Int); omega, ?_, fun _ => ?_⟩
    · refine inOK_all ⟨hH.1, hH.2.1, by show 0 ≤ s.expect + (d : Int); omega, by show s.expect + (d : Int) ≤ 1000000000000; omega, by show (ptK s (takeAll s p) d).1.length ≤ 20000; omega⟩ (fun k hk => ?_)
      have hk2 : d + k < (takeAll s p).length := by simp only [List.length_drop] at hk; omega
      have e4 : ∀ j, (hj : j < ((takeAll s p).drop d).length) → ((takeAll s p).drop d)[j] = (takeAll s p)[d + j]'(by simp only [List.length_drop] at hj; omega) := fun j hj => by simp
      unfold inW
      dsimp only
      rw [e4 k hk, hi.ep, hg.dat _ (hmem _ (List.getElem_mem hk2)), Bool.true_and]
      have hq := hge (d + k) hk2
      have hq2 := (hin _ (List.getElem_mem hk2)).2
      have hq3 : s.expect + (d : Int) < (takeAll s p)[d + k].seq := by
        by_cases hk0 : k = 0
        · subst hk0
          have := h4 (by omega)
          simp only [Nat.add_zero] at hq ⊢
          omega
        · omega
      refine decide_eq_true ⟨hq3, ?_, by omega⟩
      cases k with
      | zero => exact hq3
      | succ k =>
        have hk' : k < ((takeAll s p).drop d).length := Nat.lt_of_succ_lt hk
        rw [prevSeq_succ _ k hk']
        dsimp only
        rw [e4 k hk']
        exact (List.pairwise_iff_getElem.1 hasc) (d + k) (d + (k + 1)) (by omega) hk2 (by omega)
    · show (S.take (s.expect + (d : Int)).toNat).foldl stepT ([], []) = ((ptK s (takeAll s p) d).1, got ++ (ptK s (takeAll s p) d).2)
      rw [htk, List.foldl_append, hi.run]
      have := stepT_acc got ((takeAll s p).take d) s.part []
      rw [List.append_nil] at this
      exact this
    · have key : ∀ q ∈ takeAll s p, LkR ⟨s.epoch, s.expect + (d : Int), (takeAll s p).drop d, (ptK s (takeAll s p) d).1⟩ q.seq := fun q hq => by
        obtain ⟨i, hi', rfl⟩ := List.getElem_of_mem hq
        by_cases hid : i < d
        · exact .inl (by show (takeAll s p)[i].seq < s.expect + (d : Int); rw [h3 i hi' hid]; omega)
        · refine .inr ⟨(takeAll s p)[i], ?_, rfl⟩
          exact List.mem_drop_iff_getElem.2 ⟨i - d, by omega, by congr 1; omega⟩
      rintro k (hk | ⟨q, hq, rfl⟩)
      · exact .inl (by show k < s.expect + (d : Int); omega)
      · exact key q (hmem2 q (.inr hq))
    · obtain ⟨i, hi', he⟩ := List.getElem_of_mem (hmem2 p (.inl rfl))
      by_cases hid : i < d
      · exact .inl (by show p.seq < s.expect + (d : Int); rw [← he, h3 i hi' hid]; omega)
      · refine .inr ⟨p, ?_, rfl⟩
        exact List.mem_drop_iff_getElem.2 ⟨i - d, by omega, by simp only [show d + (i - d) = i from by omega]; exact he⟩
structure OutI (e : Int) (S : List PP) (x t : Nat) (o : PO) : Prop where
  ok : outOK o = true
  ep : o.epoch = e
  nx : o.next = (S.length : Int)
  nw : o.now = (t : Int)
  wt : o.wait.map PW.pkt = S.drop x
theorem OutI.len {e : Int} {S : List PP} {x t : Nat} {o : PO} (h : OutI e S x t o) : o.wait.length = S.length - x := by
  have := congrArg List.length h.wt
  simpa using this
theorem OutI.at {e : Int} {S : List PP} {want : List (List Nat)} {x t : Nat} {o : PO} (hg : Good e S want) (h : OutI e S x t o) (k : Nat) (hk : k < o.wait.length) : o.wait[k].pkt ∈ S ∧ o.wait[k].pkt.seq = ((x + k : Nat) : Int) := by
  have hl := h.len
  have e1 : (o.wait.map PW.pkt)[k]? = (S.drop x)[k]? := by rw [h.wt]
  rw [List.getElem?_map, List.getElem?_eq_getElem hk, List.getElem?_drop, List.getElem?_eq_getElem (show x + k < S.length by omega)] at e1
  have e2 : o.wait[k].pkt = S[x + k] := Option.some.inj e1
  rw [e2]
  exact ⟨List.getElem_mem _, hg.seq _ _⟩
theorem outI_start {e : Int} {S : List PP} {want : List (List Nat)} (hg : Good e S want) (he : 1 ≤ e ∧ e ≤ 1000000000) : OutI e S 0 0 (lkO e S) := by
  refine ⟨lkO_ok hg he, rfl, rfl, rfl, ?_⟩
  show (S.map lkW).map PW.pkt = S.drop 0
  rw [List.map_map, List.drop_zero]
  exact List.map_id'' (fun _ => rfl) S
theorem tickW_pkt (t : Int) (s : PW) : (tickW t s).pkt = s.pkt := by unfold tickW; split <;> rfl
theorem tickK_pkt (o : PO) (t : Int) (k : Nat) : (tickK o t k).map PW.pkt = o.wait.map PW.pkt := by
  unfold tickK
  conv => rhs; rw [← List.take_append_drop k o.wait]
  rw [List.map_append, List.map_append, List.map_map]
  congr 1
  exact List.map_congr_left (fun s _ => tickW_pkt t s)
theorem tickK_get (o : PO) (t : Int) (m k : Nat) (hm : m ≤ o.wait.length) (hk : k < o.wait.length) : (tickK o t m)[k]? = some (if k < m then tickW t o.wait[k] else o.wait[k]) := by
  have h1 : ((o.wait.take m).map (tickW t)).length = m := by simp; omega
  unfold tickK
  by_cases h : k < m
  · rw [List.getElem?_append_left (by omega), if_pos h, List.getElem?_map, List.getElem?_take_of_lt h, List.getElem?_eq_getElem hk]; rfl
  · rw [List.getElem?_append_right (by omega), if_neg h, h1, List.getElem?_drop, show m + (k - m) = k from by omega, List.getElem?_eq_getElem hk]
def lkDue (o : PO) : List PP := ((o.wait.take (tickM o)).filter (dueB (o.now + 1))).map PW.pkt
theorem lk_tick {e : Int} {S : List PP} {want : List (List Nat)} {x t : Nat} {o : PO} (hg : Good e S want) (h : OutI e S x t o) (ht : t ≤ 1000) :
    tickC o = 0 ∧ OutI e S x (t + 1) (tickO o) ∧ tickG o = (lkDue o).map pktR ∧ (lkDue o).length ≤ 8 ∧ ∀ p ∈ lkDue o, p ∈ S ∧ p.seq < (x : Int) + 8 ∧ pktR p ≠ [] := by
  have hnw := h.nw
  have hH := (outOK_of h.ok).1
  obtain ⟨e1, e2, e3⟩ := tick_yes h.ok (by omega)
  have hm : tickM o ≤ o.wait.length := by unfold tickM; omega
  have hm8 : tickM o ≤ 8 := by unfold tickM; omega
  refine ⟨e3, ?_, ?_, ?_, fun p hp => ?_⟩
  · rw [e1]
    refine ⟨?_, h.ep, h.nx, by show o.now + 1 = _; omega, by show (tickK o (o.now + 1) (tickM o)).map PW.pkt = _; rw [tickK_pkt]; exact h.wt⟩
    have hkl := tickK_len o (o.now + 1) (tickM o) hm
    refine outOK_all ⟨hH.1, hH.2.1, hH.2.2.1, hH.2.2.2.1, by show 0 ≤ o.now + 1; omega, by show o.now + 1 ≤ 1000000000; omega, by show (tickK o (o.now + 1) (tickM o)).length ≤ 300; rw [hkl]; exact hH.2.2.2.2.2.2⟩ (fun k hk => ?_)
    have hk2 : k < o.wait.length := by rw [← hkl]; exact hk
    have hw := (outOK_of h.ok).2 k hk2
    unfold outW at hw ⊢
    rw [Bool.and_eq_true] at hw
    have hw2 := of_decide_eq_true hw.2
    have hget := tickK_get o (o.now + 1) (tickM o) k hm hk2
    rw [List.getElem?_eq_getElem (by rw [hkl]; exact hk2)] at hget
    have hget2 := Option.some.inj hget
    dsimp only
    rw [hget2, hkl]
    have hp : (if k < tickM o then tickW (o.now + 1) o.wait[k] else o.wait[k]).pkt = o.wait[k].pkt := by split; exact tickW_pkt _ _; rfl
    rw [hp, hw.1, Bool.true_and]
    refine decide_eq_true ⟨hw2.1, ?_⟩
    split
    · unfold tickW
      split
      · exact ⟨by show -1 ≤ o.now + 1; omega, Int.le_refl _⟩
      · omega
    · omega
  · rw [e2]; unfold gramK lkDue; rw [List.map_map]; rfl
  · unfold lkDue
    rw [List.length_map]
    exact Nat.le_trans (List.length_filter_le _ _) (by simp; omega)
  · unfold lkDue at hp
    obtain ⟨w, hw, rfl⟩ := List.mem_map.1 hp
    have hw1 := (List.mem_filter.1 hw).1
    obtain ⟨k, hk, rfl⟩ := List.getElem_of_mem hw1
    have hk2 : k < tickM o := by simp only [List.length_take] at hk; omega
    have hk3 : k < o.wait.length := by omega
    have e4 : (o.wait.take (tickM o))[k] = o.wait[k] := by simp
    rw [e4]
    have h4 := h.at hg k hk3
    refine ⟨h4.1, by rw [h4.2]; omega, ?_⟩
    have h5 := hg.dat _ h4.1
    unfold dataB at h5
    rw [Bool.and_eq_true] at h5
    rw [pktR_ok h5.1]
    intro hn
    have := congrArg List.length hn
    rw [show pktB o.wait[k].pkt = encP _ _ _ _ _ _ from rfl, encP_len] at this
    simp at this
theorem lk_ack {e : Int} {S : List PP} {x t y : Nat} {o : PO} (h : OutI e S x t o) (hxy : x ≤ y) (hy : y ≤ S.length) :
    ackC o (y : Int) = 0 ∧ OutI e S y t (ackO o (y : Int)) ∧ (ackO o (y : Int)).wait = o.wait.drop (y - x) := by
  have hH := (outOK_of h.ok).1
  have hnx := h.nx
  have hl := h.len
  obtain ⟨e1, e2⟩ := ack_yes (o := o) (q := (y : Int)) ⟨h.ok, by omega, by omega⟩
  have hd : ackD o (y : Int) = y - x := by unfold ackD; omega
  rw [hd] at e1
  refine ⟨e2, ?_, by rw [e1]⟩
  rw [e1]
  refine ⟨outOK_all ⟨hH.1, hH.2.1, hH.2.2.1, hH.2.2.2.1, hH.2.2.2.2.1, hH.2.2.2.2.2.1, by show (o.wait.drop (y - x)).length ≤ 300; have := hH.2.2.2.2.2.2; simp; omega⟩ (fun k hk => ?_), h.ep, h.nx, h.nw, ?_⟩
  · have hk1 : k < (o.wait.drop (y - x)).length := hk
    rw [List.length_drop] at hk1
    have hw := (outOK_of h.ok).2 (y - x + k) (by omega)
    unfold outW at hw ⊢
    rw [Bool.and_eq_true] at hw
    have hw2 := of_decide_eq_true hw.2
    have e3 : (o.wait.drop (y - x))[k] = o.wait[y - x + k]'(by omega) := by simp
    dsimp only
    rw [e3, hw.1, Bool.true_and, List.length_drop]
    refine decide_eq_true ⟨?_, hw2.2⟩
    rw [hw2.1]; omega
  · show (o.wait.drop (y - x)).map PW.pkt = S.drop y
    rw [List.map_drop, h.wt, List.drop_drop]
    congr 1
    omega
structure LvI (t : Nat) (o : PO) (s : PI) : Prop where
  come : 100 ≤ t → ∀ w ∈ o.wait, 101 ≤ w.at_ → LkR s w.pkt.seq
  left : 103 ≤ t → o.wait.length = 0 ∨ o.wait.length + (t - 103) ≤ 40
theorem lv_start {e : Int} {S : List PP} (s : PI) : LvI 0 (lkO e S) s := ⟨fun h => by omega, fun h => by omega⟩
theorem lk_round {e : Int} {S : List PP} {want got' : List (List Nat)} {x y t : Nat} {o : PO} {s s' : PI} (hg : Good e S want) (h : OutI e S x t o) (ht : t ≤ 1000) (hlv : LvI t o s) (hi' : InI e S s' got')
    (hmono : ∀ k, LkR s k → LkR s' k) (hxy : x ≤ y) (hy : s'.expect = (y : Int)) (hall : 100 ≤ t → ∀ p ∈ lkDue o, LkR s' p.seq) : LvI (t + 1) (ackO (tickO o) (y : Int)) s' := by
  obtain ⟨-, ho, -, -, -⟩ := lk_tick hg h ht
  have hys : y ≤ S.length := by have := hi'.le; omega
  obtain ⟨-, ha, ha2⟩ := lk_ack ho hxy hys
  have hm : tickM o ≤ o.wait.length := by unfold tickM; omega
  have hnw := h.nw
  obtain ⟨e1, -, -⟩ := tick_yes h.ok (by omega)
  have hkl := tickK_len o (o.now + 1) (tickM o) hm
  have hwait : (tickO o).wait = tickK o (o.now + 1) (tickM o) := by rw [e1]
  
  have key : 100 ≤ t → ∀ k, (hk : k < o.wait.length) → ∀ w, (tickK o (o.now + 1) (tickM o))[k]? = some w → 101 ≤ w.at_ → LkR s' w.pkt.seq := by
    intro h100 k hk w hw hat
    rw [tickK_get o _ _ k hm hk] at hw
    have hw := Option.some.inj hw
    subst hw
    by_cases hkm : k < tickM o
    · rw [if_pos hkm] at hat ⊢
      rw [tickW_pkt]
      unfold tickW at hat
      by_cases hdue : dueB (o.now + 1) o.wait[k] = true
      · refine hall h100 _ (List.mem_map.2 ⟨o.wait[k], List.mem_filter.2 ⟨?_, hdue⟩, rfl⟩)
        exact List.mem_take_iff_getElem.2 ⟨k, by omega, rfl⟩
      · rw [if_neg hdue] at hat
        exact hmono _ (hlv.come h100 _ (List.getElem_mem hk) hat)
    · rw [if_neg hkm] at hat ⊢
      exact hmono _ (hlv.come h100 _ (List.getElem_mem hk) hat)
  refine ⟨fun h1 w hw hat => ?_, fun h1 => ?_⟩
  · rw [ha2, hwait] at hw
    have hw := List.mem_of_mem_drop hw
    obtain ⟨k, hk, rfl⟩ := List.getElem_of_mem hw
    by_cases h100 : 100 ≤ t
    · exact key h100 k (by omega) _ (List.getElem?_eq_getElem hk) hat
    · have h3 := (outOK_of ho.ok).2
      have hq := h3 k (by rw [hwait]; exact hk)
      unfold outW at hq
      rw [Bool.and_eq_true] at hq
      have hq2 := of_decide_eq_true hq.2
      have e5 : (tickO o).wait[k]'(by rw [hwait]; exact hk) = (tickK o (o.now + 1) (tickM o))[k] := by simp only [hwait]
      rw [e5, ho.nw] at hq2
      obtain rfl : t = 99 := by omega
      have := hq2.2.2
      omega
  · have hal := ha.len
    have hol := h.len
    have hSl := hg.len
    by_cases h0 : o.wait.length = 0
    · exact .inl (by omega)
    by_cases h103 : ¬ 103 ≤ t
    · exact .inr (by omega)
    have h103 : 103 ≤ t := by omega
    by_cases hyx : y = x
    · exfalso
      have hk0 : 0 < o.wait.length := by omega
      have hm0 : 0 < tickM o := by unfold tickM; omega
      have hat : 101 ≤ (tickW (o.now + 1) o.wait[0]).at_ := by
        unfold tickW
        by_cases hdue : dueB (o.now + 1) o.wait[0] = true
        · rw [if_pos hdue]; show 101 ≤ o.now + 1; omega
        · rw [if_neg hdue]
          unfold dueB at hdue
          simp only [Bool.or_eq_true, decide_eq_true_eq] at hdue
          omega
      have h100 : 100 ≤ t := by omega
      have hR := key h100 0 hk0 _ (tickK_get o _ _ 0 hm hk0) (by rw [if_pos hm0]; exact hat)
      rw [if_pos hm0, tickW_pkt, (h.at hg 0 hk0).2] at hR
      rcases hR with hR | ⟨q, hq, hqs⟩
      · omega
      · have := (held_in hi'.ok hq).1
        omega
    · rcases hlv.left h103 with h5 | h5
      · exact absurd h5 h0
      · exact .inr (by omega)
theorem lk_end {e : Int} {S : List PP} {want got : List (List Nat)} {x t : Nat} {o : PO} {s : PI} (hg : Good e S want) (h : OutI e S x t o) (hi : InI e S s got) (hx : s.expect = (x : Int)) (hlv : LvI t o s) (hend : t = 200 ∨ o.wait.length = 0) : got = want ∧ o.wait.length = 0 := by
  have h0 : o.wait.length = 0 := by
    rcases hend with rfl | h0
    · rcases hlv.left (by omega) with h1 | h1
      · exact h1
      · omega
    · exact h0
  refine ⟨?_, h0⟩
  have hl := h.len
  have hr := hi.run
  rw [List.take_of_length_le (by omega), hg.run] at hr
  exact (Prod.mk.inj hr).2.symm
def LkInv (e : Int) (S : List PP) (t : Nat) (o : PO) (s : PI) (got : List (List Nat)) : Prop := ∃ x : Nat, OutI e S x t o ∧ InI e S s got ∧ s.expect = (x : Int) ∧ LvI t o s ∧ tIn s ≤ 1048576
theorem lkInv_start {e : Int} {S : List PP} {want : List (List Nat)} (hg : Good e S want) (he : 1 ≤ e ∧ e ≤ 1000000000) : LkInv e S 0 (lkO e S) ⟨e, 0, [], []⟩ [] := ⟨0, outI_start hg he, inI_start S he, rfl, lv_start _, by simp [tIn, totL]⟩
theorem lkInv_end {e : Int} {S : List PP} {want got : List (List Nat)} {t : Nat} {o : PO} {s : PI} (hg : Good e S want) (h : LkInv e S t o s got) (hend : t = 200 ∨ o.wait.length = 0) : got = want ∧ o.wait.length = 0 := by
  obtain ⟨x, h1, h2, h3, h4, -⟩ := h
  exact lk_end hg h1 h2 h3 h4 hend
theorem lk_tot {l : List (List Nat)} (h : l.length ≤ 5) (hm : ∀ m ∈ l, m.length ≤ 700) : totL List.length l ≤ 1048576 := by
  have := sum_le_mul List.length 700 l hm
  unfold totL
  omega
theorem lk_prefix {e : Int} {S : List PP} {want got : List (List Nat)} {s : PI} (hg : Good e S want) (hi : InI e S s got) : got.length ≤ want.length ∧ want.take got.length = got := by
  have h1 := hg.run
  rw [← List.take_append_drop s.expect.toNat S, List.foldl_append, hi.run] at h1
  have h2 := stepT_acc got (S.drop s.expect.toNat) s.part []
  rw [List.append_nil] at h2
  rw [h2] at h1
  have h3 := (Prod.mk.inj h1).2
  rw [← h3]
  refine ⟨by simp, by simp⟩
def idxB (bk : Bool) (n j : Nat) : Nat := if bk then n - 1 - j else j
def LkMid (e : Int) (S : List PP) (s : PI) (t : Nat) (bk : Bool) (ps : List PP) (j : Nat) (s2 : PI) (got2 : List (List Nat)) : Prop :=
  InI e S s2 got2 ∧ tIn s2 ≤ 1048576 ∧ s.expect ≤ s2.expect ∧ (∀ k, LkR s k → LkR s2 k) ∧ (100 ≤ t → ∀ j', j' < j → ∀ p, ps[idxB bk ps.length j']? = some p → LkR s2 p.seq)
theorem lkMid_start {e : Int} {S : List PP} {s : PI} {t : Nat} {bk : Bool} {ps : List PP} {got : List (List Nat)} (h : InI e S s got) (ht : tIn s ≤ 1048576) : LkMid e S s t bk ps 0 s got := ⟨h, ht, Int.le_refl _, fun _ h => h, fun _ _ h => by omega⟩
theorem lkMid_skip {e : Int} {S : List PP} {s : PI} {t : Nat} {bk : Bool} {ps : List PP} {j : Nat} {s2 : PI} {got2 : List (List Nat)} (h : LkMid e S s t bk ps j s2 got2) (ht : t < 100) : LkMid e S s t bk ps (j + 1) s2 got2 := ⟨h.1, h.2.1, h.2.2.1, h.2.2.2.1, fun h1 => by omega⟩
def LkFive (e : Int) (S : List PP) (s2 : PI) (p : PP) (n : Nat) (s3 : PI) (got3 : List (List Nat)) : Prop := InI e S s3 got3 ∧ tIn s3 ≤ 1048576 ∧ s2.expect ≤ s3.expect ∧ (∀ k, LkR s2 k → LkR s3 k) ∧ (1 ≤ n → LkR s3 p.seq)
theorem lkFive_start {e : Int} {S : List PP} {s : PI} {p : PP} {t : Nat} {bk : Bool} {ps : List PP} {j : Nat} {s2 : PI} {got2 : List (List Nat)} (h : LkMid e S s t bk ps j s2 got2) : LkFive e S s2 p 0 s2 got2 := ⟨h.1, h.2.1, Int.le_refl _, fun _ h => h, fun h => by omega⟩
theorem lkFive_step {e : Int} {S : List PP} {want : List (List Nat)} {p : PP} {n : Nat} {s2 s3 : PI} {got3 : List (List Nat)} (hg : Good e S want) (h : LkFive e S s2 p n s3 got3) (hp : p ∈ S) (hq : p.seq < s2.expect + 8) : LkFive e S s2 p (n + 1) (takeI s3 p) (got3 ++ takeG s3 p) ∧ (takeC s3 p = 0 ∨ takeC s3 p = 4) := by
  obtain ⟨h1, h2, h3, h4, h5⟩ := h
  obtain ⟨g1, g2, g3, g4, g5⟩ := lk_take hg h1 hp
  exact ⟨⟨g2, (take_tot h2).1, by omega, fun k hk => g4 k (h4 k hk), fun _ => g5 (by omega)⟩, g1⟩
theorem lkMid_five {e : Int} {S : List PP} {s : PI} {p : PP} {t n : Nat} {bk : Bool} {ps : List PP} {j : Nat} {s2 s3 : PI} {got2 got3 : List (List Nat)} (h : LkMid e S s t bk ps j s2 got2) (hp : ps[idxB bk ps.length j]? = some p) (h5 : LkFive e S s2 p n s3 got3) (hn : 1 ≤ n) : LkMid e S s t bk ps (j + 1) s3 got3 := by
  obtain ⟨-, -, g3, g4, g5⟩ := h
  obtain ⟨f1, f2, f3, f4, f5⟩ := h5
  refine ⟨f1, f2, by omega, fun k hk => f4 k (g4 k hk), fun ht j' hj' p' hp' => ?_⟩
  by_cases he : j' = j
  · subst he
    rw [hp] at hp'
    cases hp'
    exact f5 hn
  · exact f4 _ (g5 ht j' (by omega) p' hp')
theorem lkMid_all {e : Int} {S : List PP} {s : PI} {t : Nat} {bk : Bool} {ps : List PP} {s2 : PI} {got2 : List (List Nat)} (h : LkMid e S s t bk ps ps.length s2 got2) (ht : 100 ≤ t) : ∀ p ∈ ps, LkR s2 p.seq := by
  intro p hp
  obtain ⟨i, hi, rfl⟩ := List.getElem_of_mem hp
  cases bk with
  | false => exact h.2.2.2.2 ht i hi _ (List.getElem?_eq_getElem hi)
  | true =>
    refine h.2.2.2.2 ht (ps.length - 1 - i) (by omega) _ ?_
    show ps[ps.length - 1 - (ps.length - 1 - i)]? = _
    rw [show ps.length - 1 - (ps.length - 1 - i) = i from by omega]
    exact List.getElem?_eq_getElem hi
theorem lkInv_round {e : Int} {S : List PP} {want got2 : List (List Nat)} {x t : Nat} {o : PO} {s s2 : PI} {bk : Bool} (hg : Good e S want) (h : OutI e S x t o) (ht : t ≤ 1000) (hlv : LvI t o s) (hx : s.expect = (x : Int)) (hM : LkMid e S s t bk (lkDue o) (lkDue o).length s2 got2) :
    LkInv e S (t + 1) (ackO (tickO o) s2.expect) s2 got2 ∧ ackC (tickO o) s2.expect = 0 ∧ outOK (tickO o) = true ∧ inOK s2 = true := by
  have hall := lkMid_all hM
  obtain ⟨m1, m2, m3, m4, -⟩ := hM
  have h0 := (inOK_of m1.ok).1.2.2.1
  obtain ⟨y, hy⟩ : ∃ y : Nat, s2.expect = (y : Int) := ⟨s2.expect.toNat, by omega⟩
  have hle := m1.le
  obtain ⟨-, ho, -, -, -⟩ := lk_tick hg h ht
  have ha := lk_ack ho (show x ≤ y by omega) (show y ≤ S.length by omega)
  rw [hy]
  exact ⟨⟨y, ha.2.1, m1, hy, lk_round hg h ht hlv m1 m4 (by omega) hy hall, m2⟩, ha.1, ho.ok, m1.ok⟩
theorem lkDue_at {e : Int} {S : List PP} {want : List (List Nat)} {x t : Nat} {o : PO} (hg : Good e S want) (h : OutI e S x t o) (ht : t ≤ 1000) {p : PP} {i : Nat} (hp : (lkDue o)[i]? = some p) : p ∈ S ∧ p.seq < (x : Int) + 8 ∧ pkP (pktR p) = p ∧ pkC (pktR p) = 0 := by
  obtain ⟨-, -, -, -, hq⟩ := lk_tick hg h ht
  obtain ⟨h1, h2, h3⟩ := hq p (List.mem_of_getElem? hp)
  exact ⟨h1, h2, pk_round h3⟩
end Go.Proofs.Ytmaccmgmcahopaa
