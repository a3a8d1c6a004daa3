import Derived.Test.YtfppfjklakdlfaaDoorJForms0
import Derived.Laws.BytesString
import Derived.Test.YtfppfjklakdlfaaDoorJForms12
namespace Go.Proofs.YtfppfjklakdlfaaDoor
open Go.RowKit
def bstr (xs : List Nat) : ByteArray := ⟨(xs.map fun x => UInt8.ofNat x).toArray⟩
theorem bstr_foldl (ns : List Nat) : ∀ s : ByteArray, ns.foldl (fun (r : ByteArray) (n : Nat) => r.push (UInt8.ofNat n)) s = ⟨s.data ++ (ns.map fun x => UInt8.ofNat x).toArray⟩ := by
  induction ns with
  | nil => intro s; simp
  | cons n ns ih =>
    intro s
    rw [List.foldl_cons, ih]
    simp [ByteArray.push]
theorem bstr_inj {xs ys : List Nat} (hx : ∀ x ∈ xs, x < 256) (hy : ∀ x ∈ ys, x < 256) (h : bstr xs = bstr ys) : xs = ys := by
  unfold bstr at h
  simp only [ByteArray.mk.injEq] at h
  have h' := congrArg Array.toList h
  simp only at h'
  clear h
  induction xs generalizing ys with
  | nil => cases ys <;> simp_all
  | cons x xs ih =>
    cases ys with
    | nil => simp at h'
    | cons y ys =>
      simp only [List.map_cons, List.cons.injEq] at h'
      have h1 : x = y := by
        have e := congrArg UInt8.toNat h'.1
        have a := hx x (by simp)
        have b := hy y (by simp)
        simp only [UInt8.toNat_ofNat'] at e
        omega
      rw [h1, ih (fun z hz => hx z (by simp [hz])) (fun z hz => hy z (by simp [hz])) h'.2]
theorem bstr_beq {xs ys : List Nat} (hx : ∀ x ∈ xs, x < 256) (hy : ∀ x ∈ ys, x < 256) : decide (xs = ys) = ((bstr xs).toList == (bstr ys).toList) := by
  rw [ByteArray.toList_eq, ByteArray.toList_eq]
  by_cases h : xs = ys
  · subst h; simp
  · have h1 : (bstr xs).data.toList ≠ (bstr ys).data.toList := fun e => h (bstr_inj hx hy (by
      have := Array.toList_inj.1 e
      cases hb : bstr xs; cases hc : bstr ys; simp_all))
    rw [decide_eq_false h]
    exact (beq_eq_false_iff_ne.2 h1).symm
theorem run_bstr {P : Program} {w : World} {src dst e : TypeId} (hs : P.underlying src = some (.slice e)) (he : P.underlying e = some (.int .u8)) (hd : P.underlying dst = some .string)
    {a : Option Addr} {xs : List Nat} {c : Nat} (h : Rd w a (byt xs)) : (convert src dst (.slice a xs.length c)).run P w = .ok (.string (bstr xs)) w := by
  rw [run_convert_bytes_string w src dst e a xs.length c hs he hd]
  cases a with
  | none =>
    obtain rfl : xs = [] := by
      rcases h with h | ⟨b, off, h, _⟩
      · simpa [byt] using h
      · cases h
    simp [Conv.bytesToString, Sem.run_pure, bstr]
    rfl
  | some a =>
    have hl : (loadCells a xs.length).run P w = .ok ((xs.map (fun x : Nat => (x : Int))).map (Value.int .u8)).toArray w := by
      have := run_loadCells_list (P := P) (w := w) a (byt xs) (by
        intro j v hj
        rcases h with h | ⟨b, off, h1, hc⟩
        · rw [h] at hj; simp at hj
        · cases h1
          obtain ⟨h2, h3⟩ := List.getElem?_eq_some_iff.1 hj
          have h4 := hc j h2
          have hadd : (⟨b, off, none⟩ : Addr).add j = ⟨b, off + j, none⟩ := by unfold Addr.add; split <;> simp_all
          rw [hadd, h4, h3])
      simpa [byt, List.map_map, Function.comp_def] using this
    rw [run_bytesToString w a _ _ _ hl, List.foldl_map]
    simp only [Int.toNat_natCast]
    rw [bstr_foldl]
    simp [bstr]
end Go.Proofs.YtfppfjklakdlfaaDoor
namespace Go.Proofs.YtfppfjklakdlfaaDoor
open Go.RowKit
set_option maxHeartbeats 400000 in
theorem l1same_any (a1 a2 : Option Addr) (c1 c2 : Nat) (xs ys : List Nat) (w : World) (h1 : Rd w a1 (byt xs)) (h2 : Rd w a2 (byt ys)) (hx : ∀ x ∈ xs, x < 256) (hy : ∀ x ∈ ys, x < 256) :
    Calls Tryd.prog 31 #[.slice a1 xs.length c1, .slice a2 ys.length c2] w fun e w' => e = .returned (.bool (decide (xs = ys))) ∧ w' = w := by
  have e1 := run_bstr (P := Tryd.prog) (c := c1) Tryd.underlying22 Tryd.underlying5 Tryd.underlying9 h1
  have e2 := run_bstr (P := Tryd.prog) (c := c2) Tryd.underlying22 Tryd.underlying5 Tryd.underlying9 h2
  have HD : Hid (decide (xs = ys) = ((bstr xs).toList == (bstr ys).toList)) := hid (bstr_beq hx hy)
  rw [HD.out]
  clear h1 h2
  generalize bstr xs = s at *
  generalize bstr ys = t at *
  go_enter Tryd.func31, Tryd.ntmps31
  go_wp2
  go_ret
  exact ⟨rfl, rfl⟩
end Go.Proofs.YtfppfjklakdlfaaDoor
namespace Go.Proofs.YtfppfjklakdlfaaDoor
open Go.RowKit
theorem pst_none {b : List Nat} {n k : Nat} (h : pst b n k = none) : ∀ j, k ≤ j → pst b n j = none := by
  intro j
  induction j with
  | zero => intro hj; have : k = 0 := by omega
            subst this; exact h
  | succ j ih =>
    intro hj
    by_cases e : k = j + 1
    · subst e; exact h
    · have := ih (by omega)
      simp [pst, this]
theorem pst_next {b : List Nat} {n k : Nat} {bs : List (List Nat)} {at_ : Nat} (h : pst b n k = some (bs, at_)) : pst b n (k + 1) =
    if b.length < 12 + 4 * k ∨ b.length < at_ ∨ b.length - at_ < num ((b.drop (8 + 4 * k)).take 4) then none
    else some (bs ++ [(b.drop at_).take (num ((b.drop (8 + 4 * k)).take 4))], at_ + evn (num ((b.drop (8 + 4 * k)).take 4))) := by
  simp [pst, h]
theorem pst_tot {b : List Nat} {n : Nat} : ∀ {k : Nat} {bs : List (List Nat)} {at_ : Nat}, pst b n k = some (bs, at_) → tot bs ≤ at_ ∧ tot bs ≤ b.length ∧ bs.length = k ∧ at_ ≤ 8 + evn (4 * n) + b.length + 7 * k := by
  intro k
  induction k with
  | zero =>
    intro bs at_ h
    simp only [pst, Option.some.injEq, Prod.mk.injEq] at h
    obtain ⟨rfl, rfl⟩ := h
    simp [tot]
  | succ k ih =>
    intro bs at_ h
    cases hp : pst b n k with
    | none => simp [pst, hp] at h
    | some r =>
      obtain ⟨bs0, at0⟩ := r
      obtain ⟨h1, h2, h3, h4⟩ := ih hp
      rw [pst_next hp] at h
      split at h
      · cases h
      · rename_i hc
        simp only [Option.some.injEq, Prod.mk.injEq] at h
        obtain ⟨rfl, rfl⟩ := h
        have he := evn_le (num ((b.drop (8 + 4 * k)).take 4))
        have hl : ((b.drop at0).take (num ((b.drop (8 + 4 * k)).take 4))).length = num ((b.drop (8 + 4 * k)).take 4) := by simp; omega
        have ht : tot (bs0 ++ [(b.drop at0).take (num ((b.drop (8 + 4 * k)).take 4))]) = tot bs0 + num ((b.drop (8 + 4 * k)).take 4) := by
          unfold tot; rw [List.map_append, List.sum_append]; simp only [List.map_cons, List.map_nil, List.sum_cons, List.sum_nil, hl]; omega
        rw [ht]
        refine ⟨by omega, by omega, by simp [h3], ?_⟩
        omega
def noMsg : PM := ⟨0, 0, 0, []⟩
def decP (b : List Nat) : PM := (decR b).getD noMsg
def decC (b : List Nat) : Int := if (decR b).isSome then 0 else 3
theorem dec_none {b : List Nat} (h : decR b = none) : decP b = noMsg ∧ decC b = 3 := by simp [decP, decC, h]
theorem dec_some {b : List Nat} {m : PM} (h : decR b = some m) : decP b = m ∧ decC b = 0 := by simp [decP, decC, h]
theorem decR_short {b : List Nat} (h : b.length < 12 ∨ 20000 < b.length) : decR b = none := by unfold decR parseM; rw [if_pos h]
theorem decR_stop {b : List Nat} {k : Nat} (hk : k ≤ nB b) (h : pst b (nB b) k = none) : decR b = none := by
  have h2 := pst_none h (nB b) hk
  unfold decR parseM
  split
  · rfl
  · rename_i m hp
    split at hp
    · cases hp
    · rw [h2] at hp; cases hp
theorem decR_end {b : List Nat} {bs : List (List Nat)} {at_ : Nat} (h1 : ¬ (b.length < 12 ∨ 20000 < b.length)) (h : pst b (nB b) (nB b) = some (bs, at_)) :
    decR b = if encR ⟨(b[2]?.getD 0 : Nat), (b[3]?.getD 0 : Nat), (num ((b.drop 4).take 2) : Nat), bs⟩ = b then some ⟨(b[2]?.getD 0 : Nat), (b[3]?.getD 0 : Nat), (num ((b.drop 4).take 2) : Nat), bs⟩ else none := by
  unfold decR parseM
  rw [if_neg h1, h]
set_option maxHeartbeats 1000000 in
theorem even_any (n : Nat) (w : World) (hn : n ≤ 1099511627776) : Calls Tryd.prog 29 #[.int .i64 (n : Int)] w fun e w' => e = .returned (.int .i64 ((evn n : Nat) : Int)) ∧ w' = w := by
  have HE : Hid (((evn n : Nat) : Int) = ((n : Int) + 7) / 8 * 8) := hid (by unfold evn; omega)
  go_enter Tryd.func29, Tryd.ntmps29
  go_wp2
  go_ret
  refine ⟨?_, rfl⟩
  rw [HE.out]
  first | rfl | (simp; omega)
set_option maxHeartbeats 2000000 in
theorem number_any (a : Option Addr) (cap : Nat) (xs : List Nat) (w : World) (hr : RdSl cByte w xs (.slice a xs.length cap)) (hl : xs.length ≤ 6) :
    Calls Tryd.prog 28 #[.slice a xs.length cap] w fun e w' => e = .returned (.int .i64 ((num xs : Nat) : Int)) ∧ w' = w := by
  have HR := hid hr
  have HBY := hid hr.rdB.2
  have HLT : Hid (∀ k, num (xs.drop k) < 281474976710656) := hid (fun k => by
    have h := num_lt (xs.drop k) (fun x hx => HBY.out x (List.mem_of_mem_drop hx))
    have h2 : (xs.drop k).length ≤ 6 := by simp; omega
    exact Nat.lt_of_lt_of_le h (Nat.le_trans (Nat.pow_le_pow_right (by omega) h2) (by decide)))
  clear hr
  go_enter Tryd.func28, Tryd.ntmps28
  go_wp2
  go_loop [3, 4] (fun v i => ∃ k : Nat, k ≤ xs.length ∧ i = .int .i64 ((k : Int) - 1) ∧ v = .int .i64 ((num (xs.drop k) : Nat) : Int)) (fun _ i => ((intOf i) + 1).toNat)
  case atStart => exact ⟨xs.length, Nat.le_refl _, rfl, by simp [num]⟩
  case round =>
    obtain ⟨k, hk, rfl, rfl⟩ := hrel
    have hlt := HLT.out k
    cases k with
    | zero =>
      have h0 : num (xs.drop 0) = num xs := by rw [List.drop_zero]
      rw [h0]
      go_wp2
      go_ret
      exact ⟨rfl, rfl⟩
    | succ k =>
      have hk' : k < xs.length := hk
      obtain ⟨b, off, rfl, hcb⟩ : ∃ b off, a = some ⟨b, off, none⟩ ∧ w.cell? ⟨b, off + k, none⟩ = some (.int .u8 (xs[k] : Int)) := by
        obtain ⟨b, off, v, e, ⟨h1, _⟩, h2⟩ := HR.out.at1 (k := k) rfl hk'
        simp only [List.cons.injEq, and_true] at h1
        exact ⟨b, off, e, by rw [h2, h1]⟩
      have HS := hid (num_drop xs k hk')
      have hx := HBY.out _ (List.getElem_mem hk')
      have hlt2 := HLT.out k
      rw [HS.out] at hlt2
      have hki : (((k + 1 : Nat) : Int) - 1) = (k : Int) := by omega
      rw [hki]
      generalize num (xs.drop (k + 1)) = t at *
      go_wp2
      go_round
      case rel => exact ⟨k, by omega, by go_num, by rw [HS.out]; go_num⟩
      case measure => simp [intOf]
end Go.Proofs.YtfppfjklakdlfaaDoor
