import Derived.Test.YtfaehioeepolhaaGreatRows
import Derived.WalkKit
import Derived.WalkSpells
import Derived.WalkLawsBesides
import Derived.BigQuiet
import Derived.Deep.QuietTactic
import Derived.ProofKit
import Derived.OpenShut
import Derived.ShutString
import Derived.ChangeOld
import Derived.Below
import Derived.Deep.Grids
namespace Go.Proofs.YtfaehioeepolhaaGreat
open Go.RowKit
def Rd (w : World) (a : Option Addr) (vs : List Value) : Prop :=
  vs = [] ∨ ∃ b off, a = some ⟨b, off, none⟩ ∧ ∀ i, (h : i < vs.length) → w.cell? ⟨b, off + i, none⟩ = some vs[i]
abbrev Own (w : World) (B : Nat) (e : TypeId) (v : Value) (vs : List Value) : Prop := w.ownsRow B e 1 v vs.length vs
def byt (xs : List Nat) : List Value := xs.map fun x : Nat => Value.int .u8 (x : Int)
def ints (xs : List Int) : List Value := xs.map fun x : Int => Value.int .i64 x
def IntIn (x : Int) : Prop := -9223372036854775808 ≤ x ∧ x ≤ 9223372036854775807
theorem byt_len (xs : List Nat) : (byt xs).length = xs.length := by simp [byt]
theorem ints_len (xs : List Int) : (ints xs).length = xs.length := by simp [ints]
theorem Rd.below {B : Nat} {w w' : World} {a : Option Addr} {vs : List Value} (h : Rd w a vs) (hb : Below B w w') (ha : ∀ x, a = some x → vs ≠ [] → x.block < B) : Rd w' a vs := by
  rcases h with h | ⟨b, off, rfl, hc⟩
  · exact .inl h
  · by_cases he : vs = []
    · exact .inl he
    · exact .inr ⟨b, off, rfl, fun i hi => by
        have hlt : b < B := ha _ rfl he
        have e : w'.cell? ⟨b, off + i, none⟩ = w.cell? ⟨b, off + i, none⟩ := hb.cell (p := ⟨b, off + i, none⟩) hlt
        rw [e]; exact hc i hi⟩
theorem Rd.lt {w : World} {a : Option Addr} {vs : List Value} (h : Rd w a vs) : ∀ x, a = some x → vs ≠ [] → x.block < w.heap.size := by
  intro x hx hne
  rcases h with h | ⟨b, off, rfl, hc⟩
  · exact absurd h hne
  · obtain rfl : (⟨b, off, none⟩ : Addr) = x := by simpa using hx
    have h0 : 0 < vs.length := by cases vs <;> simp_all
    exact World.block_lt_of_cell? w ⟨b, off + 0, none⟩ (hc 0 h0)
theorem Rd.later {w w' : World} {a : Option Addr} {vs : List Value} (h : Rd w a vs) (hb : Below w.heap.size w w') : Rd w' a vs := h.below hb h.lt
theorem Own.rd {w : World} {B : Nat} {e : TypeId} {v : Value} {vs : List Value} (h : Own w B e v vs) : ∃ a cap, v = .slice a vs.length cap ∧ Rd w a vs := by
  rcases h.2 with ⟨rfl, h0⟩ | ⟨g, cap, cur, rfl, hg, hh, hn, hc, hs, ht⟩
  · exact ⟨none, 0, by rw [h0], .inl (List.length_eq_zero_iff.1 h0)⟩
  · refine ⟨_, cap, rfl, .inr ⟨g, 0, rfl, fun i hi => ?_⟩⟩
    have := World.ownsRow.cellAt h i (by omega)
    rw [Nat.zero_add, this]
    simp [hi]
theorem Own.block {w : World} {B : Nat} {e : TypeId} {g n cap : Nat} {vs : List Value} (h : w.ownsRow B e 1 (.slice (some ⟨g, 0, none⟩) n cap) n vs) : B ≤ g ∧ g < w.heap.size :=
  World.ownsRow.lt h g rfl
theorem set_take (vs rest : List Value) (k : Nat) (u : Value) (hu : vs[k]? = some u) (hr : vs.length ≤ rest.length) :
    (vs.take k ++ rest.drop k).set k u = vs.take (k + 1) ++ rest.drop (k + 1) := by
  obtain ⟨hk, hu'⟩ := List.getElem?_eq_some_iff.1 hu
  apply List.ext_getElem?
  intro i
  simp only [List.getElem?_set, List.getElem?_append, List.length_take, List.getElem?_take, List.getElem?_drop]
  have h1 : min k vs.length = k := by omega
  have h2 : min (k + 1) vs.length = k + 1 := by omega
  have h3 : (vs.take k ++ rest.drop k).length = rest.length := by simp; omega
  rw [h1, h2, h3]
  by_cases e : k = i
  · subst e
    rw [if_pos rfl, if_pos (by omega), if_pos (by omega), if_pos (by omega), hu]
  · rw [if_neg e]
    by_cases l : i < k
    · rw [if_pos l, if_pos l, if_pos (by omega), if_pos (by omega)]
    · rw [if_neg l, if_neg (by omega), show k + (i - k) = i from by omega, show k + 1 + (i - (k + 1)) = i from by omega]
theorem fill_round {w wr : World} {B : Nat} {e : TypeId} {g n cap k : Nat} {u : Value} {vs rest : List Value} (hl : vs.length = n) (hr : rest.length = n) (hu : vs[k]? = some u) (hg : B ≤ g)
    (ho : wr.ownsRow B e 1 (.slice (some ⟨g, 0, none⟩) n cap) n (vs.take k ++ rest.drop k)) (hb : Below B w wr) :
    (wr.setCell ⟨g, k, none⟩ u).ownsRow B e 1 (.slice (some ⟨g, 0, none⟩) n cap) n (vs.take (k + 1) ++ rest.drop (k + 1)) ∧ Below B w (wr.setCell ⟨g, k, none⟩ u) := by
  refine ⟨?_, hb.setCell (by exact hg) _⟩
  have := (World.ownsRow.stored ho k u).1
  rwa [set_take vs rest k u hu (by omega)] at this
theorem own_cell {w : World} {B : Nat} {e : TypeId} {g n cap k : Nat} {vs : List Value} (ho : w.ownsRow B e 1 (.slice (some ⟨g, 0, none⟩) n cap) n vs) (hk : k < n) : ∃ o, w.cell? ⟨g, k, none⟩ = some o := by
  have h := ho.cellAt k (by omega)
  have hl : k < vs.length := by have := ho.1; omega
  exact ⟨vs[k], by rw [h]; simp [hl]⟩
theorem own_later {w w' : World} {B : Nat} {e : TypeId} {v : Value} {n : Nat} {vs : List Value} (h : w.ownsRow B e 1 v n vs) (hb : Below w.heap.size w w') : w'.ownsRow B e 1 v n vs :=
  h.kept (row := none) ⟨hb.os, hb.tape, hb.output, hb.size, fun k hk _ => hb.block k hk⟩ (by cases v.ownBlock <;> simp)
theorem rd_own {w : World} {B : Nat} {e : TypeId} {v : Value} {n : Nat} {vs : List Value} (h : w.ownsRow B e 1 v n vs) : ∃ a cap, v = .slice a n cap ∧ Rd w a vs := by
  have hn : vs.length = n := by have := h.1; omega
  subst hn
  exact Own.rd h
theorem rd_row {w : World} {B : Nat} {e : TypeId} {g n cap : Nat} {vs : List Value} (h : w.ownsRow B e 1 (.slice (some ⟨g, 0, none⟩) n cap) n vs) : Rd w (some ⟨g, 0, none⟩) vs := by
  obtain ⟨a, c, e, r⟩ := rd_own h
  simp only [Value.slice.injEq] at e
  obtain ⟨rfl, _⟩ := e
  exact r
theorem below_chain {a b c : World} (h : Below a.heap.size a b) (k : Below b.heap.size b c) : Below a.heap.size a c := h.trans (k.mono h.size)
theorem own_in {w : World} {B n g : Nat} {e : TypeId} {v : Value} {vs : List Value} (h : w.ownsRow B e 1 v n vs) (hg : v.ownBlock = some g) : B ≤ g ∧ g < w.heap.size := World.ownsRow.lt h g hg
theorem rd_at {w : World} {B : Nat} {e : TypeId} {a : Option Addr} {n cap : Nat} {vs : List Value} (h : w.ownsRow B e 1 (.slice a n cap) n vs) : Rd w a vs := by
  obtain ⟨a', c, e, r⟩ := rd_own h
  simp only [Value.slice.injEq] at e
  obtain ⟨rfl, _⟩ := e
  exact r
theorem grown_two {a b c : World} {g : Nat} (h : a.grownBy b (some g)) (k : b.grownBy c (some g)) : a.grownBy c (some g) :=
  ⟨k.os.trans h.os, k.tape.trans h.tape, k.output.trans h.output, Nat.le_trans h.size k.size, fun i hi hne => (k.block i (Nat.lt_of_lt_of_le hi h.size) hne).trans (h.block i hi hne)⟩
theorem fill_done {vs rest : List Value} {n : Nat} (hl : vs.length = n) (hr : rest.length = n) : vs.take n ++ rest.drop n = vs := by
  rw [List.take_of_length_le (by omega), List.drop_eq_nil_of_le (by omega), List.append_nil]
theorem byt_at {xs : List Nat} {k : Nat} (h : k < xs.length) : (byt xs)[k]? = some (.int .u8 (xs[k] : Int)) := by simp [byt, h]
theorem rdByte {w : World} {b off : Nat} {xs : List Nat} (hc : ∀ i, (h : i < (byt xs).length) → w.cell? ⟨b, off + i, none⟩ = some (byt xs)[i]) : ∀ i, (h : i < xs.length) → w.cell? ⟨b, off + i, none⟩ = some (.int .u8 ((xs[i] : Nat) : Int)) := by
  intro i h
  have := hc i (by rw [byt_len]; exact h)
  rw [this]
  simp [byt]
theorem rdInt {w : World} {b off : Nat} {xs : List Int} (hc : ∀ i, (h : i < (ints xs).length) → w.cell? ⟨b, off + i, none⟩ = some (ints xs)[i]) : ∀ i, (h : i < xs.length) → w.cell? ⟨b, off + i, none⟩ = some (.int .i64 (xs[i])) := by
  intro i h
  have := hc i (by rw [ints_len]; exact h)
  rw [this]
  simp [ints]
theorem hid {p : Prop} (h : p) : Hid p := h
theorem one_cell {v : Value} (h : v.oneCell' = true) : ∀ u ∈ [v], u.oneCell' = true := by
  intro u hu
  rw [List.mem_singleton] at hu
  rw [hu]; exact h
theorem made_list (z : Value) (n : Nat) : (madeCells #[z] n).toList = List.replicate n z := toList_madeCells_one z n
end Go.Proofs.YtfaehioeepolhaaGreat
namespace Go.Proofs.YtfaehioeepolhaaGreat
open Go.ChangeShapes Go.WideShapes Go.ChangeAt Go.RowKit
theorem own : ownKnob Tryz.prog.godebug = none := by kernel_rfl
theorem laidOut : laidOutB Tryz.prog = true := by kernel_rfl
def IsRow (k : IntKind) (w : World) (a : Option Addr) (len cap : Nat) (zs : List Int) : Prop :=
  (a = none ∧ len = 0 ∧ cap = 0 ∧ zs = []) ∨
  ∃ x, a = some x ∧ len ≤ cap ∧ cap ≤ maxLen ∧ zs.length = cap ∧ (∀ i, i < zs.length → w.cell? (x.add i) = some (.int k (zs.getD i 0))) ∧ ∀ n ∈ zs, (Lit.int k n).wf = true
theorem IsRow.len {k : IntKind} {w : World} {a : Option Addr} {len cap : Nat} {zs : List Int} (h : IsRow k w a len cap zs) : len ≤ maxLen := by
  rcases h with ⟨_, rfl, _⟩ | ⟨x, _, hl, hm, _⟩
  · exact Nat.zero_le _
  · omega
theorem IsRow.room {k : IntKind} {w : World} {a : Option Addr} {len cap : Nat} {zs : List Int} (h : IsRow k w a len cap zs) : len ≤ cap ∧ (a = none → cap = 0) := by
  rcases h with ⟨_, rfl, rfl, _⟩ | ⟨x, rfl, hl, _⟩
  · exact ⟨Nat.le_refl _, fun _ => rfl⟩
  · exact ⟨hl, fun h => by cases h⟩
theorem IsRow.rd {k : IntKind} {w : World} {a : Option Addr} {len cap : Nat} {zs : List Int} (h : IsRow k w a len cap zs) :
    (zs.take len).length = len ∧ Rd w a ((zs.take len).map (Value.int k)) ∧ ∀ n ∈ zs.take len, (Lit.int k n).wf = true := by
  rcases h with ⟨_, rfl, _, rfl⟩ | ⟨x, rfl, hl, hm, hz, hc, hw⟩
  · exact ⟨rfl, .inl rfl, by simp⟩
  · refine ⟨by simp; omega, ?_, fun n hn => hw n (List.mem_of_mem_take hn)⟩
    by_cases h0 : len = 0
    · subst h0; exact .inl rfl
    · obtain ⟨b, off, spot⟩ := x
      have h1 := hc 0 (by omega)
      have hspot : spot = none := by simpa [Addr.add] using World.cell?_spot h1
      subst hspot
      refine .inr ⟨b, off, rfl, fun i hi => ?_⟩
      have hi' : i < zs.length := by simp at hi; omega
      have h2 := hc i hi'
      have hadd : (⟨b, off, none⟩ : Addr).add i = ⟨b, off + i, none⟩ := by unfold Addr.add; split <;> simp_all
      rw [hadd] at h2
      rw [h2]
      simp [List.getD, hi']
theorem IsRow.bytes {w : World} {a : Option Addr} {len cap : Nat} {zs : List Int} (h : IsRow .u8 w a len cap zs) :
    ∃ xs : List Nat, len = xs.length ∧ (∀ x ∈ xs, x < 256) ∧ Rd w a (byt xs) := by
  obtain ⟨h1, h2, h3⟩ := h.rd
  refine ⟨(zs.take len).map Int.toNat, by simpa using h1.symm, ?_, ?_⟩
  · intro x hx
    obtain ⟨n, hn, rfl⟩ := List.mem_map.1 hx
    have := bounds_u8 (h3 n hn)
    omega
  · have e : byt ((zs.take len).map Int.toNat) = (zs.take len).map (Value.int .u8) := by
      simp only [byt, List.map_map]
      refine List.map_congr_left fun n hn => ?_
      have := bounds_u8 (h3 n hn)
      simp only [Function.comp]
      rw [show ((n.toNat : Nat) : Int) = n from by omega]
    rw [e]; exact h2
theorem IsRow.ints {w : World} {a : Option Addr} {len cap : Nat} {zs : List Int} (h : IsRow .i64 w a len cap zs) :
    ∃ xs : List Int, len = xs.length ∧ (∀ x ∈ xs, IntIn x) ∧ Rd w a (ints xs) := by
  obtain ⟨h1, h2, h3⟩ := h.rd
  exact ⟨zs.take len, h1.symm, fun x hx => bounds_i64 (h3 x hx), h2⟩
end Go.Proofs.YtfaehioeepolhaaGreat
namespace Go.Proofs.YtfaehioeepolhaaGreat
open Go.RowKit
def rest (l : Int) (n : Nat) : Int := if l - n < 0 then -1 else l - n
theorem rest_two {l : Int} {n m : Nat} (h : 0 ≤ rest l n) : rest (rest l n) m = rest l (n + m) := by
  unfold rest at *
  by_cases h1 : l - n < 0
  · rw [if_pos h1] at h; omega
  · rw [if_neg h1]
    by_cases h2 : l - n - m < 0
    · rw [if_pos h2, if_pos (by omega)]
    · rw [if_neg h2, if_neg (by omega)]; omega
theorem rest_neg {l : Int} {n m : Nat} (h : rest l n < 0) : rest l (n + m) = -1 := by
  unfold rest at *
  by_cases h1 : l - n < 0
  · rw [if_pos (by omega)]
  · rw [if_neg h1] at h; omega
theorem rest_le {l : Int} {n : Nat} (h : l ≤ 1048576) : rest l n ≤ 1048576 := by unfold rest; split <;> omega
theorem rest_fits {l : Int} {n : Nat} (h : 0 ≤ rest l n) : (n : Int) ≤ l := by unfold rest at h; split at h <;> omega
theorem rest_neg1 {l : Int} {n : Nat} (h : rest l n < 0) : rest l n = -1 := by unfold rest at *; split <;> simp_all <;> omega
set_option maxHeartbeats 400000 in
theorem szBytes_any (a : Option Addr) (n cap : Nat) (l : Int) (w : World) (hn : n ≤ maxLen) (h0 : 0 ≤ l) (h1 : l ≤ 1048576) :
    Calls Tryz.prog 83 #[.slice a n cap, .int .i64 l] w fun e w' => e = .returned (.int .i64 (rest l n)) ∧ w' = w := by
  unfold maxLen at hn
  unfold rest
  by_cases h : l - n < 0
  · rw [if_pos h]
    go_enter Tryz.func83, Tryz.ntmps83
    go_wp2
    go_ret
    exact ⟨rfl, rfl⟩
  · rw [if_neg h]
    go_enter Tryz.func83, Tryz.ntmps83
    go_wp2
    go_ret
    exact ⟨rfl, rfl⟩
end Go.Proofs.YtfaehioeepolhaaGreat
