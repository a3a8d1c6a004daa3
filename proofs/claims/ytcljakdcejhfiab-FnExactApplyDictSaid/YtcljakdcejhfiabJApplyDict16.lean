import Derived.Test.YtcljakdcejhfiabJApplyDict0
import Derived.Laws.BytesString
namespace Go.Proofs.Ytcljakdcejhfiab
open Go.RowKit
def bstr (xs : List Nat) : ByteArray := ⟨(xs.map fun x => UInt8.ofNat x).toArray⟩
theorem bstr_foldl (ns : List Nat) : ∀ s : ByteArray, ns.foldl (fun (r : ByteArray) (n : Nat) => r.push (UInt8.ofNat n)) s = ⟨s.data ++ (ns.map fun x => UInt8.ofNat x).toArray⟩ := by
  induction ns with
  | nil => intro s; simp
  | cons n ns ih =>
    intro s
    rw [List.foldl_cons, ih]
    simp [ByteArray.push]
theorem bstr_inj {xs ys : List Nat} (hx : ∀ x ∈ xs, x < 256) (hy : ∀ x ∈ ys, x < 256) (h : bstr xs = bstr ys) : xs = ys := by
  unfold bstr at h
  simp only [ByteArray.mk.injEq] at h
  have h' := congrArg Array.toList h
  simp only at h'
  clear h
  induction xs generalizing ys with
  | nil => cases ys <;> simp_all
  | cons x xs ih =>
    cases ys with
    | nil => simp at h'
    | cons y ys =>
      simp only [List.map_cons, List.cons.injEq] at h'
      have h1 : x = y := by
        have e := congrArg UInt8.toNat h'.1
        have a := hx x (by simp)
        have b := hy y (by simp)
        simp only [UInt8.toNat_ofNat'] at e
        omega
      rw [h1, ih (fun z hz => hx z (by simp [hz])) (fun z hz => hy z (by simp [hz])) h'.2]
theorem bstr_beq {xs ys : List Nat} (hx : ∀ x ∈ xs, x < 256) (hy : ∀ x ∈ ys, x < 256) : decide (xs = ys) = ((bstr xs).toList == (bstr ys).toList) := by
  rw [ByteArray.toList_eq, ByteArray.toList_eq]
  by_cases h : xs = ys
  · subst h; simp
  · have h1 : (bstr xs).data.toList ≠ (bstr ys).data.toList := fun e => h (bstr_inj hx hy (by
      have := Array.toList_inj.1 e
      cases hb : bstr xs; cases hc : bstr ys; simp_all))
    rw [decide_eq_false h]
    exact (beq_eq_false_iff_ne.2 h1).symm
theorem bstr_size (xs : List Nat) : (bstr xs).size = xs.length := by simp [bstr, ByteArray.size]
theorem run_bstr {P : Program} {w : World} {src dst e : TypeId} (hs : P.underlying src = some (.slice e)) (he : P.underlying e = some (.int .u8)) (hd : P.underlying dst = some .string)
    {a : Option Addr} {xs : List Nat} {c : Nat} (h : Rd w a (byt xs)) : (convert src dst (.slice a xs.length c)).run P w = .ok (.string (bstr xs)) w := by
  rw [run_convert_bytes_string w src dst e a xs.length c hs he hd]
  cases a with
  | none =>
    obtain rfl : xs = [] := by
      rcases h with h | ⟨b, off, h, _⟩
      · simpa [byt] using h
      · cases h
    simp [Conv.bytesToString, Sem.run_pure, bstr]
    rfl
  | some a =>
    have hl : (loadCells a xs.length).run P w = .ok ((xs.map (fun x : Nat => (x : Int))).map (Value.int .u8)).toArray w := by
      have := run_loadCells_list (P := P) (w := w) a (byt xs) (by
        intro j v hj
        rcases h with h | ⟨b, off, h1, hc⟩
        · rw [h] at hj; simp at hj
        · cases h1
          obtain ⟨h2, h3⟩ := List.getElem?_eq_some_iff.1 hj
          have h4 := hc j h2
          have hadd : (⟨b, off, none⟩ : Addr).add j = ⟨b, off + j, none⟩ := by unfold Addr.add; split <;> simp_all
          rw [hadd, h4, h3])
      simpa [byt, List.map_map, Function.comp_def] using this
    rw [run_bytesToString w a _ _ _ hl, List.foldl_map]
    simp only [Int.toNat_natCast]
    rw [bstr_foldl]
    simp [bstr]
end Go.Proofs.Ytcljakdcejhfiab
