/- Fill, Fld, FldMath, Cel. -/
import Derived.Test.YtmaccmgmcahopaaJWindow4
import Derived.Test.YtmaccmgmcahopaaJWindow2
/- spec.l1fill. -/
namespace Go.Proofs.Ytmaccmgmcahopaa
open Go.RowKit

theorem infoByteL : (Try.prog.info? 5).map (fun i => (i.zero, i.size, i.bytes)) = some (some (.int .u8 0), 1, 1) := by kernel_rfl
set_option maxRecDepth 100000 in
set_option maxHeartbeats 1000000 in
theorem fill_any (x n : Nat) (w : World) (hn : n ≤ 1048576) :
    Calls Try.prog 81 #[.int .u8 (x : Int), .int .i64 (n : Int)] w fun e w' => ∃ a c, e = .returned (.slice a n c) ∧ w'.ownsRow w.heap.size 5 1 (.slice a n c) n (byt (List.replicate n x)) ∧ Below w.heap.size w w' := by
  obtain ⟨i0, hi, hz0, hz1, hz2⟩ := info_parts infoByteL
  go_enter Try.func81, Try.ntmps81
  go_wp2
  go_loopw [5, 6] (fun v i wr => ∃ k : Nat, k ≤ n ∧ i = .int .i64 k ∧ wr.ownsRow w.heap.size 5 1 v k (byt (List.replicate k x)) ∧ Below w.heap.size w wr) (fun _ i _ => n - (intOf i).toNat)
  case atStart => exact ⟨0, Nat.zero_le _, rfl, World.ownsRow_nil _ _ _ _, Below.refl _ _⟩
  case round =>
    obtain ⟨k, hk, rfl, how, hbe⟩ := hrel
    have HO := hid how
    have HB := hid hbe
    clear how hbe
    by_cases hlt : k < n
    · have hki : (k : Int) < (n : Int) := by omega
      have hs := HB.out.size
      have HR1 : Hid (byt (List.replicate (k + 1) x) = byt (List.replicate k x) ++ [.int .u8 (x : Int)]) := hid (by rw [List.replicate_succ']; simp [byt])
      go_wp2_with (first | (at_builtin; refine wpList_append_own _ rfl _ _ 22 rfl w.heap.size 5 i0 (.int .u8 0) 1 1 Try.underlying22 hi hz0 hz1 hz2 rfl (by decide) _ k _ rfl (HO.out.alloc _) ⟨wr.heap.size, 0, none⟩ 1 1 [.int .u8 (x : Int)] rfl rfl (cell_one_new _ _ _) (one_cell rfl) (by unfold maxLen; omega) (by omega) (by simp; omega) ?_))
      intro v' w3 hown' hgrow _
      have HB3 : Hid (Below w.heap.size w w3) := hid ((HB.out.alloc hs _).grown hgrow (by simp; omega) (fun p hp => (own_in HO.out hp).1))
      have HO3 : Hid (w3.ownsRow w.heap.size 5 1 v' (k + 1) (byt (List.replicate (k + 1) x))) := hid (by rw [HR1.out]; exact hown')
      clear hown' hgrow
      go_wp2
      go_roundw
      case rel => exact ⟨k + 1, by omega, by go_num, HO3.out, HB3.out⟩
      case measure => simp [intOf]; omega
    · obtain rfl : k = n := by omega
      obtain ⟨a', c', e', -⟩ := rd_own HO.out
      subst e'
      go_wp2
      go_ret
      exact ⟨a', c', rfl, HO.out, HB.out⟩

end Go.Proofs.Ytmaccmgmcahopaa

/- Fields in memory. -/
namespace Go.Proofs.Ytmaccmgmcahopaa
open Go.RowKit

structure PF where
  name : List Nat
  kind : Int
  width : Int
deriving DecidableEq

def cField : Cod PF := cMap (cPair (cSl cByte 5) (cPair cInt cInt)) fun f => (f.name, f.kind, f.width)

theorem cField_rd {w : World} {f : PF} {cs : List Value} (h : cField.rd w f cs) : ∃ v, cs = [v, .int .i64 f.kind, .int .i64 f.width] ∧ RdSl cByte w f.name v ∧ IntIn f.kind ∧ IntIn f.width := by
  obtain ⟨c1, c2, rfl, ⟨v, rfl, h1⟩, c3, c4, rfl, ⟨rfl, h2⟩, rfl, h3⟩ := h
  exact ⟨v, rfl, h1, h2, h3⟩
theorem cField_mk {w : World} {f : PF} {v : Value} (h1 : RdSl cByte w f.name v) (h2 : IntIn f.kind) (h3 : IntIn f.width) : cField.rd w f [v, .int .i64 f.kind, .int .i64 f.width] :=
  ⟨[v], _, rfl, ⟨v, rfl, h1⟩, _, _, rfl, ⟨rfl, h2⟩, rfl, h3⟩
theorem cField_own {w : World} {f : PF} {v : Value} {bs : List Nat} (h1 : OwnSl cByte 5 w f.name v bs) (h2 : IntIn f.kind) (h3 : IntIn f.width) : cField.own w f [v, .int .i64 f.kind, .int .i64 f.width] bs :=
  ⟨[v], _, bs, [], rfl, by simp, ⟨v, rfl, h1⟩, _, _, [], [], rfl, rfl, ⟨rfl, h2, rfl⟩, rfl, h3, rfl⟩
theorem cField_owned {w : World} {f : PF} {cs : List Value} {bs : List Nat} (h : cField.own w f cs bs) : ∃ v, cs = [v, .int .i64 f.kind, .int .i64 f.width] ∧ OwnSl cByte 5 w f.name v bs ∧ IntIn f.kind ∧ IntIn f.width := by
  obtain ⟨c1, c2, b1, b2, rfl, rfl, ⟨v, rfl, h1⟩, c3, c4, b3, b4, rfl, rfl, ⟨rfl, h2, rfl⟩, rfl, h3, rfl⟩ := h
  exact ⟨v, rfl, by simpa using h1, h2, h3⟩
theorem cField_shape {w : World} {f : PF} {cs : List Value} (h : cField.rd w f cs) : ∃ a cap, cs = [.slice a f.name.length cap, .int .i64 f.kind, .int .i64 f.width] := by
  obtain ⟨v, rfl, ⟨a, cap, rfl, _⟩, _⟩ := cField_rd h
  exact ⟨a, cap, rfl⟩

end Go.Proofs.Ytmaccmgmcahopaa

/- What valid fields are. No program. -/
namespace Go.Proofs.Ytmaccmgmcahopaa

def nameB (c : Nat) : Bool := (decide (97 ≤ c) && decide (c ≤ 122)) || (decide (65 ≤ c) && decide (c ≤ 90)) || (decide (48 ≤ c) && decide (c ≤ 57)) || decide (c = 95)
theorem nameB_split (c : Nat) : ((c < 48 ∨ (58 ≤ c ∧ c ≤ 64) ∨ (91 ≤ c ∧ c ≤ 94) ∨ c = 96 ∨ 123 ≤ c) ∧ nameB c = false) ∨ (((48 ≤ c ∧ c ≤ 57) ∨ (65 ≤ c ∧ c ≤ 90) ∨ c = 95 ∨ (97 ≤ c ∧ c ≤ 122)) ∧ nameB c = true) := by
  by_cases h : c < 48 ∨ (58 ≤ c ∧ c ≤ 64) ∨ (91 ≤ c ∧ c ≤ 94) ∨ c = 96 ∨ 123 ≤ c
  · refine .inl ⟨h, ?_⟩
    simp [nameB]; omega
  · refine .inr ⟨by omega, ?_⟩
    simp [nameB]; omega
def nameOK (n : List Nat) : Bool := decide (1 ≤ n.length) && decide (n.length ≤ 20) && n.all nameB
def widthOK (w : Int) : Bool := decide (w = 1 ∨ w = 2 ∨ w = 4 ∨ w = 8)
def kindOK (f : PF) : Bool := if f.kind = 1 then widthOK f.width else decide (0 ≤ f.kind) && decide (f.kind ≤ 3) && decide (f.width = 0)
def fieldOK (f : PF) : Bool := nameOK f.name && kindOK f
def taken (fs : List PF) (n : List Nat) : Bool := fs.any fun f => decide (f.name = n)
/-- The first k fields are valid, each name new. -/
def okTo (fs : List PF) : Nat → Bool
  | 0 => true
  | k + 1 => okTo fs k && (match fs[k]? with | some f => fieldOK f && !taken (fs.take k) f.name | none => true)
def fieldsOK (fs : List PF) : Bool := decide (1 ≤ fs.length) && decide (fs.length ≤ 12) && okTo fs fs.length

theorem okTo_bad {fs : List PF} {k : Nat} (h : okTo fs k = false) : ∀ m, k ≤ m → okTo fs m = false := by
  intro m hm
  induction m with
  | zero => have : k = 0 := by omega
            subst this; exact h
  | succ m ih =>
    by_cases e : k = m + 1
    · subst e; exact h
    · simp [okTo, ih (by omega)]
theorem okTo_succ {fs : List PF} {k : Nat} (hk : k < fs.length) : okTo fs (k + 1) = (okTo fs k && (fieldOK fs[k] && !taken (fs.take k) fs[k].name)) := by simp [okTo, hk]
/-- A field that is not valid, or a name that is taken, ends it. -/
theorem fieldsOK_bad {fs : List PF} {k : Nat} (hk : k < fs.length) (h : fieldOK fs[k] = false ∨ taken (fs.take k) fs[k].name = true) : fieldsOK fs = false := by
  have : okTo fs (k + 1) = false := by rw [okTo_succ hk]; rcases h with h | h <;> simp [h]
  simp [fieldsOK, okTo_bad this fs.length (by omega)]
theorem taken_at {fs : List PF} {n : List Nat} {k : Nat} (hk : k < fs.length) (h : fs[k].name = n) : taken fs n = true := by
  simp only [taken, List.any_eq_true, decide_eq_true_eq]
  exact ⟨fs[k], List.getElem_mem hk, h⟩
theorem not_taken {fs : List PF} {n : List Nat} (h : ∀ k, (hk : k < fs.length) → fs[k].name ≠ n) : taken fs n = false := by
  simp only [taken, List.any_eq_false, decide_eq_true_eq]
  intro f hf
  obtain ⟨k, hk, rfl⟩ := List.getElem_of_mem hf
  exact h k hk
theorem all_bad {xs : List Nat} {p : Nat → Bool} {k : Nat} (hk : k < xs.length) (h : p xs[k] = false) : xs.all p = false := by
  simp only [List.all_eq_false]
  exact ⟨xs[k], List.getElem_mem hk, by simp [h]⟩
theorem all_ok {xs : List Nat} {p : Nat → Bool} (h : ∀ k, (hk : k < xs.length) → p xs[k] = true) : xs.all p = true := by
  simp only [List.all_eq_true]
  intro x hx
  obtain ⟨k, hk, rfl⟩ := List.getElem_of_mem hx
  exact h k hk

end Go.Proofs.Ytmaccmgmcahopaa

/- Cells in memory. -/
namespace Go.Proofs.Ytmaccmgmcahopaa
open Go.RowKit

structure PC where
  null : Bool
  num : Int
  text : List Nat
deriving DecidableEq

def cCell : Cod PC := cMap (cPair cBool (cPair cInt (cSl cByte 5))) fun f => (f.null, f.num, f.text)

theorem cCell_rd {w : World} {f : PC} {cs : List Value} (h : cCell.rd w f cs) : ∃ v, cs = [.bool f.null, .int .i64 f.num, v] ∧ RdSl cByte w f.text v ∧ IntIn f.num := by
  obtain ⟨c1, c2, rfl, h0, c3, c4, rfl, ⟨rfl, h2⟩, v, rfl, h3⟩ := h
  have h0 : c1 = [.bool f.null] := h0
  subst h0
  exact ⟨v, rfl, h3, h2⟩
theorem cCell_mk {w : World} {f : PC} {v : Value} (h1 : RdSl cByte w f.text v) (h2 : IntIn f.num) : cCell.rd w f [.bool f.null, .int .i64 f.num, v] :=
  ⟨[_], _, rfl, rfl, [_], _, rfl, ⟨rfl, h2⟩, v, rfl, h1⟩
theorem cCell_own {w : World} {f : PC} {v : Value} {bs : List Nat} (h1 : OwnSl cByte 5 w f.text v bs) (h2 : IntIn f.num) : cCell.own w f [.bool f.null, .int .i64 f.num, v] bs :=
  ⟨[_], _, [], bs, rfl, rfl, ⟨rfl, rfl⟩, [_], _, [], bs, rfl, rfl, ⟨rfl, h2, rfl⟩, v, rfl, h1⟩
theorem cCell_owned {w : World} {f : PC} {cs : List Value} {bs : List Nat} (h : cCell.own w f cs bs) : ∃ v, cs = [.bool f.null, .int .i64 f.num, v] ∧ OwnSl cByte 5 w f.text v bs ∧ IntIn f.num := by
  obtain ⟨c1, c2, b1, b2, rfl, rfl, ⟨h0, rfl⟩, c3, c4, b3, b4, rfl, rfl, ⟨rfl, h2, rfl⟩, v, rfl, h3⟩ := h
  have h0 : c1 = [.bool f.null] := h0
  subst h0
  exact ⟨v, rfl, by simpa using h3, h2⟩
theorem cCell_shape {w : World} {f : PC} {cs : List Value} (h : cCell.rd w f cs) : ∃ a cap, cs = [.bool f.null, .int .i64 f.num, .slice a f.text.length cap] := by
  obtain ⟨v, rfl, ⟨a, cap, rfl, _⟩, _⟩ := cCell_rd h
  exact ⟨a, cap, rfl⟩

end Go.Proofs.Ytmaccmgmcahopaa
