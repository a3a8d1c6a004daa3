/- PktMath, ToByte, EqByte, BSS, MarkByte, HeldByte. -/
import Derived.Test.YtfppfjklakdlfaaDoorJForms6
import Derived.Test.YtfppfjklakdlfaaDoorJForms0
import Derived.Test.YtfppfjklakdlfaaDoorJForms3
/- Packets in bytes, plainly. No program. -/
namespace Go.Proofs.YtfppfjklakdlfaaDoor
open Go.RowKit

structure PP where
  kind : Int
  epoch : Int
  seq : Int
  count : Int
  last : Bool
  data : List Nat
def lastN (b : Bool) : Nat := if b then 1 else 0
theorem lastN_lt (b : Bool) : lastN b < 256 := by cases b <;> decide
theorem lastN_0 {b : Bool} : lastN b = 0 ↔ b = false := by cases b <;> decide
/-- What a packet must be. -/
def PktOK (p : PP) : Prop := 1 ≤ p.epoch ∧ p.epoch ≤ 1000000000 ∧ 0 ≤ p.seq ∧ p.seq ≤ 1000000000000 ∧ 0 ≤ p.count ∧ p.count ≤ 1000000000 ∧
  ((p.kind = 1 ∧ p.seq < 1000000000000 ∧ p.count = 0 ∧ 1 ≤ p.data.length ∧ p.data.length ≤ 100) ∨ (lastN p.last = 0 ∧ p.data.length = 0 ∧ (p.kind = 2 ∨ (p.kind = 3 ∧ p.seq = 0) ∨ (p.kind = 4 ∧ p.seq = 0 ∧ p.count = 0))))
instance (p : PP) : Decidable (PktOK p) := by unfold PktOK; infer_instance
def pktOK (p : PP) : Bool := decide (PktOK p)
def headP (K E S C : Nat) (L : Bool) (D : List Nat) : List Nat := [67, K] ++ (digs E 4 ++ (digs S 8 ++ (digs C 4 ++ ([lastN L] ++ (digs D.length 2 ++ D)))))
theorem headP_len (K E S C : Nat) (L : Bool) (D : List Nat) : (headP K E S C L D).length = 21 + D.length := by simp [headP, digs_len]; omega
theorem headP_lt {K E S C : Nat} {L : Bool} {D : List Nat} (hK : K < 256) (hD : ∀ x ∈ D, x < 256) : ∀ x ∈ headP K E S C L D, x < 256 := by
  intro x hx
  simp only [headP, List.mem_append, List.mem_cons, List.not_mem_nil, or_false] at hx
  rcases hx with (rfl | rfl) | h | h | h | rfl | h | h
  · omega
  · exact hK
  · exact digs_lt _ _ x h
  · exact digs_lt _ _ x h
  · exact digs_lt _ _ x h
  · exact lastN_lt _
  · exact digs_lt _ _ x h
  · exact hD x h
def encP (K E S C : Nat) (L : Bool) (D : List Nat) : List Nat := headP K E S C L D ++ digs (crcM (headP K E S C L D)) 4
theorem encP_len (K E S C : Nat) (L : Bool) (D : List Nat) : (encP K E S C L D).length = 25 + D.length := by simp [encP, headP_len, digs_len]; omega
def pktB (p : PP) : List Nat := encP p.kind.toNat p.epoch.toNat p.seq.toNat p.count.toNat p.last p.data
/-- The encoded packet, or nothing. -/
def pktR (p : PP) : List Nat := if pktOK p = true then pktB p else []
theorem pktR_ok {p : PP} (h : pktOK p = true) : pktR p = pktB p := by unfold pktR; rw [if_pos h]
theorem pktR_bad {p : PP} (h : pktOK p = false) : pktR p = [] := by unfold pktR; rw [if_neg (by simp [h])]
theorem pktOK_data {p : PP} (h : pktOK p = true) : p.data.length ≤ 100 := by
  have := of_decide_eq_true h
  unfold PktOK at this
  omega
theorem pktOK_kind {p : PP} (h : pktOK p = true) : 1 ≤ p.kind ∧ p.kind ≤ 4 := by
  have := of_decide_eq_true h
  unfold PktOK at this
  omega
theorem pktR_len (p : PP) : (pktR p).length ≤ 125 := by
  unfold pktR
  split
  · rename_i h
    have := pktOK_data h
    simp only [pktB, encP_len]; omega
  · simp
theorem pktR_lt {p : PP} (hD : ∀ x ∈ p.data, x < 256) : ∀ x ∈ pktR p, x < 256 := by
  intro x hx
  unfold pktR at hx
  split at hx
  · rename_i h
    have hk := pktOK_kind h
    simp only [pktB, encP, List.mem_append] at hx
    rcases hx with hx | hx
    · exact headP_lt (by omega) hD x hx
    · exact digs_lt _ _ x hx
  · simp at hx

/-! ### what is read -/
def pktG (b : List Nat) : PP := ⟨((b[1]?.getD 0 : Nat) : Int), ((num ((b.drop 2).take 4) : Nat) : Int), IntKind.i64.wrap ((num ((b.drop 6).take 8) : Nat) : Int), ((num ((b.drop 14).take 4) : Nat) : Int), b[18]?.getD 0 == 1, (b.drop 21).take (b.length - 25)⟩
def noPkt : PP := ⟨0, 0, 0, 0, false, []⟩
def okB (b : List Nat) : Bool := decide (25 ≤ b.length) && decide (pktR (pktG b) = b)
def pkP (b : List Nat) : PP := if okB b = true then pktG b else noPkt
def pkC (b : List Nat) : Int := if okB b = true then 0 else 3
theorem okB_short {b : List Nat} (h : b.length < 25) : okB b = false := by
  unfold okB; rw [decide_eq_false (by omega)]; rfl
theorem okB_long {b : List Nat} (h : 125 < b.length) : okB b = false := by
  unfold okB
  have h1 := pktR_len (pktG b)
  rw [decide_eq_false (p := pktR (pktG b) = b) (fun e => by rw [e] at h1; omega)]
  simp
theorem okB_no {b : List Nat} (h : pktR (pktG b) ≠ b) : okB b = false := by unfold okB; rw [decide_eq_false h]; simp
theorem okB_yes {b : List Nat} (h1 : 25 ≤ b.length) (h : pktR (pktG b) = b) : okB b = true := by unfold okB; rw [decide_eq_true h, decide_eq_true h1]; rfl
theorem pk_no {b : List Nat} (h : okB b = false) : pkP b = noPkt ∧ pkC b = 3 := by simp [pkP, pkC, h]
theorem pk_yes {b : List Nat} (h : okB b = true) : pkP b = pktG b ∧ pkC b = 0 := by simp [pkP, pkC, h]

end Go.Proofs.YtfppfjklakdlfaaDoor

/- laws.to..S: a copy -/
namespace Go.Proofs.YtfppfjklakdlfaaDoor
open Go.RowKit

theorem infoByte : (Tryd.prog.info? 5).map (fun i => (i.zero, i.size, i.bytes)) = some (some (.int .u8 0), 1, 1) := by kernel_rfl

set_option maxHeartbeats 400000 in
theorem toByteS_some (b off cap : Nat) (xs : List Nat) (w : World) (hc : ∀ i, (h : i < xs.length) → w.cell? ⟨b, off + i, none⟩ = some (.int .u8 ((xs[i] : Nat) : Int))) (hbB : xs ≠ [] → b < w.heap.size) (hn : xs.length ≤ 1099511627776) :
    Calls Tryd.prog 6 #[.slice (some ⟨b, off, none⟩) xs.length cap] w fun e w' => ∃ g, e = .returned (.slice (some ⟨g, 0, none⟩) xs.length xs.length) ∧ w'.ownsRow w.heap.size 5 1 (.slice (some ⟨g, 0, none⟩) xs.length xs.length) xs.length (byt xs) ∧ Below w.heap.size w w' := by
  obtain ⟨i0, hi, hz0, hz1, hz2⟩ := info_parts infoByte
  go_enter Tryd.func6, Tryd.ntmps6
  go_wp2_with (first | (at_make; refine wpList_make_full _ rfl (.tmp 6) (.tmp 6) 22 rfl w.heap.size 5 i0 (.int .u8 0) 1 Tryd.underlying22 hi hz0 hz1 .i64 .i64 _ _ xs.length rfl rfl rfl rfl (by rw [hz2]; omega) (by unfold maxLen; omega) (by simp) ?_))
  intro w1 ho hg1
  have hb1 : Below w.heap.size w w1 := (Below.refl _ w).grown hg1 (Nat.le_refl _) (by intro k h; cases h)
  clear hg1 hi hz0 hz1 hz2
  go_wp2
  go_loopw [4] (fun i wr => ∃ k : Nat, k ≤ xs.length ∧ i = .int .i64 k ∧ wr.ownsRow w.heap.size 5 1 (.slice (some ⟨w.heap.size, 0, none⟩) xs.length xs.length) xs.length ((byt xs).take k ++ (List.replicate xs.length (Value.int .u8 0)).drop k) ∧ Below w.heap.size w wr) (fun i _ => xs.length - (intOf i).toNat)
  case atStart => exact ⟨0, Nat.zero_le _, rfl, by simpa [made_list] using ho, hb1⟩
  case round =>
    obtain ⟨k, hk, rfl, how, hbe⟩ := hrel
    by_cases hlt : k < xs.length
    · have hcx : wr.cell? ⟨b, off + k, none⟩ = some (.int .u8 ((xs[k] : Nat) : Int)) := (hbe.cell (by exact hbB (by intro h; simp [h] at hlt))).trans (hc k hlt)
      have hfz := how.frozenAt k
      obtain ⟨o, hco⟩ := own_cell how hlt
      have hR := fill_round (byt_len xs) (by simp) (byt_at hlt) (Nat.le_refl _) how hbe
      clear how hbe ho hb1
      go_wp2
      go_roundw
      case rel => exact ⟨k + 1, by omega, by go_num, hR.1, hR.2⟩
      case measure => simp [intOf]; omega
    · obtain rfl : k = xs.length := by omega
      rw [fill_done (byt_len xs) (by simp)] at how
      go_wp2
      go_ret
      exact ⟨_, rfl, how, hbe⟩

set_option maxHeartbeats 400000 in
theorem toByteS_none (a : Option Addr) (cap : Nat) (w : World) :
    Calls Tryd.prog 6 #[.slice a 0 cap] w fun e w' => ∃ g, e = .returned (.slice (some ⟨g, 0, none⟩) 0 0) ∧ w'.ownsRow w.heap.size 5 1 (.slice (some ⟨g, 0, none⟩) 0 0) 0 [] ∧ Below w.heap.size w w' := by
  obtain ⟨i0, hi, hz0, hz1, hz2⟩ := info_parts infoByte
  go_enter Tryd.func6, Tryd.ntmps6
  go_wp2_with (first | (at_make; refine wpList_make_full _ rfl (.tmp 6) (.tmp 6) 22 rfl w.heap.size 5 i0 (.int .u8 0) 1 Tryd.underlying22 hi hz0 hz1 .i64 .i64 _ _ 0 rfl rfl rfl rfl (by omega) (by unfold maxLen; omega) (by simp) ?_))
  intro w1 ho hg1
  have hb1 : Below w.heap.size w w1 := (Below.refl _ w).grown hg1 (Nat.le_refl _) (by intro k h; cases h)
  clear hg1 hi hz0 hz1 hz2
  go_wp2
  refine wp_loop_rounds 1 ?_; rw [rounds_succ]
  go_wp2
  go_ret
  exact ⟨_, rfl, by simpa [made_list] using ho, hb1⟩

/-- A copy: new memory of the call's own, nothing old turned. -/
theorem toByteS_any (a : Option Addr) (cap : Nat) (xs : List Nat) (w : World) (hr : Rd w a (byt xs)) (hn : xs.length ≤ 1099511627776) :
    Calls Tryd.prog 6 #[.slice a xs.length cap] w fun e w' => ∃ g, e = .returned (.slice (some ⟨g, 0, none⟩) xs.length xs.length) ∧ w'.ownsRow w.heap.size 5 1 (.slice (some ⟨g, 0, none⟩) xs.length xs.length) xs.length (byt xs) ∧ Below w.heap.size w w' := by
  have hlt := hr.lt
  rcases hr with h0 | ⟨b, off, rfl, hc⟩
  · obtain rfl : xs = [] := by simpa [byt] using h0
    exact toByteS_none a cap w
  · exact toByteS_some b off cap xs w (rdByte hc) (fun h => hlt _ rfl (by simpa [byt] using h)) hn

end Go.Proofs.YtfppfjklakdlfaaDoor

/- laws.eq..S: two slices that read alike -/
namespace Go.Proofs.YtfppfjklakdlfaaDoor
open Go.RowKit

set_option maxHeartbeats 400000 in
theorem eqByteS_zero (a1 a2 : Option Addr) (c1 c2 : Nat) (w : World) :
    Calls Tryd.prog 9 #[.slice a1 0 c1, .slice a2 0 c2] w fun e w' => e = .returned (.bool true) ∧ ∃ m, w' = w.drewN m := by
  go_enter Tryd.func9, Tryd.ntmps9
  go_wp2
  refine wp_loop_rounds 1 ?_; rw [rounds_succ]
  go_wp2
  go_ret
  exact ⟨rfl, 0, rfl⟩

set_option maxHeartbeats 400000 in
theorem eqByteS_some (b1 o1 b2 o2 c1 c2 : Nat) (xs : List Nat) (w : World) (hx : ∀ i, (h : i < xs.length) → w.cell? ⟨b1, o1 + i, none⟩ = some (.int .u8 ((xs[i] : Nat) : Int))) (hy : ∀ i, (h : i < xs.length) → w.cell? ⟨b2, o2 + i, none⟩ = some (.int .u8 ((xs[i] : Nat) : Int))) (hn : xs.length ≤ 1099511627776) :
    Calls Tryd.prog 9 #[.slice (some ⟨b1, o1, none⟩) xs.length c1, .slice (some ⟨b2, o2, none⟩) xs.length c2] w fun e w' => e = .returned (.bool true) ∧ ∃ m, w' = w.drewN m := by
  go_enter Tryd.func9, Tryd.ntmps9
  go_wp2
  go_loopw [5] (fun i wr => ∃ k : Nat, k ≤ xs.length ∧ i = .int .i64 k ∧ ∃ m, wr = w.drewN m) (fun i _ => xs.length - (intOf i).toNat)
  case atStart => exact ⟨0, Nat.zero_le _, rfl, 0, rfl⟩
  case round =>
    obtain ⟨k, hk, rfl, m, rfl⟩ := hrel
    by_cases hlt : k < xs.length
    · have g1 := hx k hlt
      have g2 := hy k hlt
      have hki : (k : Int) < (xs.length : Int) := by omega
      clear hx hy
      go_wp2
      go_quiet (fail)
      go_wp2
      go_roundw
      case rel => exact ⟨k + 1, by omega, by go_num, _, rfl⟩
      case measure => simp [intOf]; omega
    · obtain rfl : k = xs.length := by omega
      go_wp2
      go_ret
      exact ⟨rfl, m, rfl⟩

theorem eqByteS_quiet (a1 a2 : Option Addr) (c1 c2 n : Nat) (xs : List Nat) (w : World) (h1 : Rd w a1 (byt xs)) (h2 : Rd w a2 (byt xs)) (hl : xs.length = n) (hn : n ≤ 1099511627776) :
    Calls Tryd.prog 9 #[.slice a1 n c1, .slice a2 n c2] w fun e w' => e = .returned (.bool true) ∧ ∃ m, w' = w.drewN m := by
  subst hl
  by_cases h0 : xs = []
  · subst h0
    exact eqByteS_zero a1 a2 c1 c2 w
  · have hne : byt xs ≠ [] := by simpa [byt] using h0
    rcases h1 with h | ⟨b1, o1, rfl, e1⟩
    · exact absurd h hne
    rcases h2 with h | ⟨b2, o2, rfl, e2⟩
    · exact absurd h hne
    exact eqByteS_some b1 o1 b2 o2 c1 c2 xs w (rdByte e1) (rdByte e2) hn

/-- Two slices that read alike: true. -/
theorem eqByteS_any (a1 a2 : Option Addr) (c1 c2 n : Nat) (xs : List Nat) (w : World) (h1 : Rd w a1 (byt xs)) (h2 : Rd w a2 (byt xs)) (hl : xs.length = n) (hn : n ≤ 1099511627776) :
    Calls Tryd.prog 9 #[.slice a1 n c1, .slice a2 n c2] w fun e w' => e = .returned (.bool true) ∧ Below w.heap.size w w' := by
  refine (eqByteS_quiet a1 a2 c1 c2 n xs w h1 h2 hl hn).mono ?_
  rintro e w' ⟨rfl, m, rfl⟩
  exact ⟨rfl, below_drewN (Below.refl _ _) m⟩

end Go.Proofs.YtfppfjklakdlfaaDoor

/- laws.szByteSS, toByteSS, eqByteSS. -/
namespace Go.Proofs.YtfppfjklakdlfaaDoor
open Go.RowKit

theorem infoSl1 : (Tryd.prog.info? 22).map (fun i => (i.zero, i.size, i.bytes)) = some (some (.slice none 0 0), 1, 24) := by kernel_rfl

set_option maxHeartbeats 1000000 in
theorem eqSS_any (a1 a2 : Option Addr) (c1 c2 : Nat) (xs : List (List Nat)) (w : World) (h1 : RdSl cSS w xs (.slice a1 xs.length c1)) (h2 : RdSl cSS w xs (.slice a2 xs.length c2)) (ht : totL List.length xs ≤ 1048576) :
    Calls Tryd.prog 34 #[.slice a1 xs.length c1, .slice a2 xs.length c2] w fun e w' => e = .returned (.bool true) ∧ Below w.heap.size w w' := by
  have H1 := hid h1
  have H2 := hid h2
  clear h1 h2
  have hlen : xs.length ≤ 1048576 := by unfold totL at ht; omega
  go_enter Tryd.func34, Tryd.ntmps34
  go_wp2
  go_loopw [5] (fun i wr => ∃ k : Nat, k ≤ xs.length ∧ i = .int .i64 k ∧ Below w.heap.size w wr) (fun i _ => xs.length - (intOf i).toNat)
  case atStart => exact ⟨0, Nat.zero_le _, rfl, Below.refl _ _⟩
  case round =>
    obtain ⟨k, hk, rfl, hbe⟩ := hrel
    have HB := hid hbe
    clear hbe
    by_cases hlt : k < xs.length
    · obtain ⟨b1, o1, a1', c1', rfl, g1, r1⟩ := (H1.out.later HB.out).row hlt
      obtain ⟨b2, o2, a2', c2', rfl, g2, r2⟩ := (H2.out.later HB.out).row hlt
      obtain ⟨_, _, e', -, -, -, q1, -⟩ := r1.bytes
      simp only [Value.slice.injEq] at e'
      obtain ⟨rfl, -, rfl⟩ := e'
      obtain ⟨_, _, e', -, -, -, q2, -⟩ := r2.bytes
      simp only [Value.slice.injEq] at e'
      obtain ⟨rfl, -, rfl⟩ := e'
      have HQ : Hid (∀ n, Calls Tryd.prog 9 #[.slice a1' xs[k].length c1', .slice a2' xs[k].length c2'] (wr.drewN n) fun e w' => e = .returned (.bool true) ∧ ∃ m, w' = (wr.drewN n).drewN m) := hid (fun n => by
        have hlk := tot_at List.length xs k hlt
        unfold totL at ht
        exact eqByteS_quiet _ _ _ _ _ xs[k] _ (q1.later (below_drewN (Below.refl _ _) n)) (q2.later (below_drewN (Below.refl _ _) n)) rfl (by omega))
      have hki : (k : Int) < (xs.length : Int) := by omega
      clear r1 r2 q1 q2
      go_wp2
      go_quiet ((go_at_call 9; exact Calls.quiet_of (HQ.out _)))
      go_wp2
      go_roundw
      case rel => exact ⟨k + 1, by omega, by go_num, below_drewN HB.out _⟩
      case measure => simp [intOf]; omega
    · obtain rfl : k = xs.length := by omega
      go_wp2
      go_ret
      exact ⟨rfl, HB.out⟩

end Go.Proofs.YtfppfjklakdlfaaDoor

/- laws.mark..S and laws.held..S -/
namespace Go.Proofs.YtfppfjklakdlfaaDoor
open Go.RowKit

/-- What 'mark' leaves, from k on. -/
def mkByte (k n : Nat) : List Nat := (List.range n).map fun i => (fun j : Nat => j % 256) (k + i)
theorem mkByte_len (k n : Nat) : (byt (mkByte k n)).length = n := by simp [byt, mkByte]
theorem mkByte_at (k n i : Nat) (h : i < n) : (byt (mkByte k n))[i]? = some (.int .u8 (((fun j : Nat => j % 256) (k + i) : Nat) : Int)) := by simp [byt, mkByte, h]

set_option maxHeartbeats 400000 in
theorem markByteS_zero (a : Option Addr) (cap m : Nat) (w : World) (_hm : m ≤ 1099511627776) :
    Calls Tryd.prog 10 #[.slice a 0 cap, .int .i64 m] w fun e w' => e = .returned (.int .i64 m) ∧ w' = w := by
  go_enter Tryd.func10, Tryd.ntmps10
  go_wp2
  refine wp_loop_rounds 1 ?_; rw [rounds_succ]
  go_wp2
  go_ret
  exact ⟨rfl, rfl⟩

set_option maxHeartbeats 400000 in
theorem markByteS_some (B g n cap m : Nat) (vs : List Value) (w : World) (ho : w.ownsRow B 5 1 (.slice (some ⟨g, 0, none⟩) n cap) n vs) (hn : n ≤ 1099511627776) (hm : m ≤ 1099511627776) :
    Calls Tryd.prog 10 #[.slice (some ⟨g, 0, none⟩) n cap, .int .i64 m] w fun e w' => e = .returned (.int .i64 ((m + n : Nat) : Int)) ∧ w'.ownsRow B 5 1 (.slice (some ⟨g, 0, none⟩) n cap) n (byt (mkByte m n)) ∧ w.grownBy w' (some g) := by
  have hvl : vs.length = n := by have := ho.1; omega
  have HV : Hid (vs.length = n) := hvl
  clear hvl
  go_enter Tryd.func10, Tryd.ntmps10
  go_wp2
  go_loopw [1, 5] (fun q i wr => ∃ k : Nat, k ≤ n ∧ i = .int .i64 k ∧ q = .int .i64 ((m + k : Nat) : Int) ∧ wr.ownsRow B 5 1 (.slice (some ⟨g, 0, none⟩) n cap) n ((byt (mkByte m n)).take k ++ vs.drop k) ∧ w.grownBy wr (some g)) (fun _ i _ => n - (intOf i).toNat)
  case atStart => exact ⟨0, Nat.zero_le _, rfl, rfl, by simpa using ho, World.grownBy.refl _ _⟩
  case round =>
    obtain ⟨k, hk, rfl, rfl, how, hgr⟩ := hrel
    by_cases hlt : k < n
    · have hfz := how.frozenAt k
      obtain ⟨o, hco⟩ := own_cell how hlt
      have hR := (World.ownsRow.stored how k (.int .u8 (((fun j : Nat => j % 256) (m + k) : Nat) : Int)))
      rw [set_take _ _ k _ (mkByte_at m n k hlt) (by rw [mkByte_len, HV.out]; exact Nat.le_refl _)] at hR
      have hG := grown_two hgr hR.2
      clear how hgr ho
      go_wp2
      go_roundw
      case rel => exact ⟨k + 1, by omega, by go_num, by go_num, hR.1, hG⟩
      case measure => simp [intOf]; omega
    · obtain rfl : k = n := by omega
      rw [fill_done (mkByte_len m k) HV.out] at how
      go_wp2
      go_ret
      exact ⟨rfl, how, hgr⟩

/-- Every element is set to its mark; no other block is touched. -/
theorem markByteS_any (B n m : Nat) (v : Value) (vs : List Value) (w : World) (ho : w.ownsRow B 5 1 v n vs) (hn : n ≤ 1099511627776) (hm : m ≤ 1099511627776) :
    Calls Tryd.prog 10 #[v, .int .i64 m] w fun e w' => e = .returned (.int .i64 ((m + n : Nat) : Int)) ∧ w'.ownsRow B 5 1 v n (byt (mkByte m n)) ∧ w.grownBy w' v.ownBlock := by
  rcases ho.2 with ⟨rfl, rfl⟩ | ⟨g, cap, cur, rfl, _⟩
  · refine (markByteS_zero none 0 m w hm).mono ?_
    rintro e w' ⟨rfl, rfl⟩
    exact ⟨rfl, by simpa [mkByte, byt] using World.ownsRow_nil _ _ _ _, World.grownBy.refl _ _⟩
  · exact markByteS_some B g n cap m vs w ho hn hm

end Go.Proofs.YtfppfjklakdlfaaDoor

/- laws.held..S -/
namespace Go.Proofs.YtfppfjklakdlfaaDoor
open Go.RowKit

set_option maxHeartbeats 400000 in
theorem heldByteS_zero (a : Option Addr) (cap m : Nat) (w : World) (_hm : m ≤ 1099511627776) :
    Calls Tryd.prog 65 #[.slice a 0 cap, .int .i64 m] w fun e w' => e = .returned (.int .i64 m) ∧ Below w.heap.size w w' := by
  go_enter Tryd.func65, Tryd.ntmps65
  go_wp2
  refine wp_loop_rounds 1 ?_; rw [rounds_succ]
  go_wp2
  go_ret
  exact ⟨rfl, Below.refl _ _⟩

set_option maxHeartbeats 400000 in
theorem heldByteS_some (b off n cap m : Nat) (w : World) (hx : ∀ i, i < n → w.cell? ⟨b, off + i, none⟩ = some (.int .u8 (((fun j : Nat => j % 256) (m + i) : Nat) : Int))) (hn : n ≤ 1099511627776) (hm : m ≤ 1099511627776) :
    Calls Tryd.prog 65 #[.slice (some ⟨b, off, none⟩) n cap, .int .i64 m] w fun e w' => e = .returned (.int .i64 ((m + n : Nat) : Int)) ∧ Below w.heap.size w w' := by
  go_enter Tryd.func65, Tryd.ntmps65
  go_wp2
  go_loop [1, 5] (fun q i => ∃ k : Nat, k ≤ n ∧ i = .int .i64 k ∧ q = .int .i64 ((m + k : Nat) : Int)) (fun _ i => n - (intOf i).toNat)
  case atStart => exact ⟨0, Nat.zero_le _, rfl, rfl⟩
  case round =>
    obtain ⟨k, hk, rfl, rfl⟩ := hrel
    by_cases hlt : k < n
    · have g1 := hx k hlt
      have hki : (k : Int) < (n : Int) := by omega
      clear hx
      go_wp2
      go_round
      case rel => exact ⟨k + 1, by omega, by go_num, by go_num⟩
      case measure => simp [intOf]; omega
    · obtain rfl : k = n := by omega
      go_wp2
      go_ret
      exact ⟨rfl, Below.refl _ _⟩

/-- The marks are there. -/
theorem heldByteS_any (a : Option Addr) (n cap m : Nat) (w : World) (hr : Rd w a (byt (mkByte m n))) (hn : n ≤ 1099511627776) (hm : m ≤ 1099511627776) :
    Calls Tryd.prog 65 #[.slice a n cap, .int .i64 m] w fun e w' => e = .returned (.int .i64 ((m + n : Nat) : Int)) ∧ Below w.heap.size w w' := by
  rcases hr with h0 | ⟨b, off, rfl, hc⟩
  · obtain rfl : n = 0 := by have := mkByte_len m n; rw [h0] at this; simpa using this.symm
    exact heldByteS_zero a cap m w hm
  · refine heldByteS_some b off n cap m w (fun i hi => ?_) hn hm
    have h1 := mkByte_at m n i hi
    have h2 := hc i (by rw [mkByte_len]; exact hi)
    rw [h2, ← h1, List.getElem?_eq_getElem]

end Go.Proofs.YtfppfjklakdlfaaDoor
