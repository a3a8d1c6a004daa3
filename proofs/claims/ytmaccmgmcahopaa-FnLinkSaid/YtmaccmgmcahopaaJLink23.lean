/- BSS, Msg, JoinSpec, MsgSpec, EncSpec, Str, SameL1, DecKit. -/
import Derived.Test.YtmaccmgmcahopaaJLink8
import Derived.Test.YtmaccmgmcahopaaJLink6
import Derived.Test.YtmaccmgmcahopaaJLink3
import Derived.Test.YtmaccmgmcahopaaJLink9
import Derived.Test.YtmaccmgmcahopaaJLink7
import Derived.Test.YtmaccmgmcahopaaJLink1
import Derived.Laws.AppendOwnNone
import Derived.Test.YtmaccmgmcahopaaJLink16
import Derived.Test.YtmaccmgmcahopaaJLink0
import Derived.Laws.BytesString
/- laws.szByteSS, toByteSS, eqByteSS. -/
namespace Go.Proofs.Ytmaccmgmcahopaa
open Go.RowKit

theorem infoSl1 : (Try.prog.info? 22).map (fun i => (i.zero, i.size, i.bytes)) = some (some (.slice none 0 0), 1, 24) := by kernel_rfl

end Go.Proofs.Ytmaccmgmcahopaa

/- Messages in memory: laws.toMessage, szMessage, eqMessage, markMessage. -/
namespace Go.Proofs.Ytmaccmgmcahopaa
open Go.RowKit

/-! ### blocks of four cells -/
/-- The message's four cells. -/
abbrev mcells (m : PM) (v : Value) : Array Value := #[.int .i64 m.kind, .int .i64 m.field, .int .i64 m.count, v]
structure PMIn (m : PM) : Prop where
  kind : IntIn m.kind
  field : IntIn m.field
  count : IntIn m.count

end Go.Proofs.Ytmaccmgmcahopaa

/- spec.JoinAligned. -/
namespace Go.Proofs.Ytmaccmgmcahopaa
open Go.RowKit

theorem infoByteJspec : (Try.prog.info? 5).map (fun i => (i.zero, i.size, i.bytes)) = some (some (.int .u8 0), 1, 1) := by kernel_rfl

theorem join_len (xss : List (List Nat)) : (join xss).length ≤ tot xss + 8 * xss.length := by
  have key : ∀ k, k ≤ xss.length → (join (xss.take k)).length ≤ tot (xss.take k) + 8 * k := by
    intro k
    induction k with
    | zero => intro _; simp [join]
    | succ k ih =>
      intro h
      have h1 := ih (by omega)
      rw [join_snoc xss k (by omega), joinStep_len, tot_snoc xss k (by omega)]
      have := padn_le ((join (xss.take k)).length + xss[k].length)
      omega
  have := key xss.length (Nat.le_refl _)
  rwa [List.take_length] at this

end Go.Proofs.Ytmaccmgmcahopaa

/- spec.l4encode. -/
namespace Go.Proofs.Ytmaccmgmcahopaa
open Go.RowKit

end Go.Proofs.Ytmaccmgmcahopaa

/- spec.EncodeMessage. -/
namespace Go.Proofs.Ytmaccmgmcahopaa
open Go.RowKit

theorem tot_le_join (xss : List (List Nat)) : tot xss ≤ (join xss).length := by
  have key : ∀ k, k ≤ xss.length → tot (xss.take k) ≤ (join (xss.take k)).length := by
    intro k
    induction k with
    | zero => intro _; simp [tot]
    | succ k ih =>
      intro h
      have h1 := join_next xss k (by omega)
      have h2 := tot_snoc xss k (by omega)
      have h3 := (evn_le xss[k].length).1
      have := ih (by omega)
      omega
  have := key xss.length (Nat.le_refl _)
  rwa [List.take_length] at this
theorem encB_ge (m : PM) : tot m.bufs ≤ (encB m).length := by
  have h := tot_le_join (lensM m.bufs :: m.bufs)
  have h2 : tot (lensM m.bufs :: m.bufs) = 4 * m.bufs.length + tot m.bufs := by simp [tot, lensM_len]
  simp only [encB, encM, bodyM, List.length_append, headM_len]
  omega
theorem encR_bad {m : PM} (h : msgOK m = false) : encR m = [] := by unfold encR; rw [if_neg (by simp [h])]
theorem encR_big {m : PM} (h : 20000 < (encB m).length) : encR m = [] := by unfold encR; rw [if_neg (by omega)]
theorem encR_ok {m : PM} (h : msgOK m = true) (hl : (encB m).length ≤ 20000) : encR m = encB m := by unfold encR; rw [if_pos ⟨h, hl⟩]
theorem encR_len (m : PM) : (encR m).length ≤ 20000 := by
  unfold encR
  split
  · rename_i h; exact h.2
  · simp
end Go.Proofs.Ytmaccmgmcahopaa

/- Bytes as a string. No program. -/
namespace Go.Proofs.Ytmaccmgmcahopaa
open Go.RowKit

def bstr (xs : List Nat) : ByteArray := ⟨(xs.map fun x => UInt8.ofNat x).toArray⟩

theorem bstr_foldl (ns : List Nat) : ∀ s : ByteArray, ns.foldl (fun (r : ByteArray) (n : Nat) => r.push (UInt8.ofNat n)) s = ⟨s.data ++ (ns.map fun x => UInt8.ofNat x).toArray⟩ := by
  induction ns with
  | nil => intro s; simp
  | cons n ns ih =>
    intro s
    rw [List.foldl_cons, ih]
    simp [ByteArray.push]

theorem bstr_inj {xs ys : List Nat} (hx : ∀ x ∈ xs, x < 256) (hy : ∀ x ∈ ys, x < 256) (h : bstr xs = bstr ys) : xs = ys := by
  unfold bstr at h
  simp only [ByteArray.mk.injEq] at h
  have h' := congrArg Array.toList h
  simp only at h'
  clear h
  induction xs generalizing ys with
  | nil => cases ys <;> simp_all
  | cons x xs ih =>
    cases ys with
    | nil => simp at h'
    | cons y ys =>
      simp only [List.map_cons, List.cons.injEq] at h'
      have h1 : x = y := by
        have e := congrArg UInt8.toNat h'.1
        have a := hx x (by simp)
        have b := hy y (by simp)
        simp only [UInt8.toNat_ofNat'] at e
        omega
      rw [h1, ih (fun z hz => hx z (by simp [hz])) (fun z hz => hy z (by simp [hz])) h'.2]
theorem bstr_eq {xs ys : List Nat} (hx : ∀ x ∈ xs, x < 256) (hy : ∀ x ∈ ys, x < 256) : bstr xs = bstr ys ↔ xs = ys := ⟨bstr_inj hx hy, fun h => by rw [h]⟩
theorem bstr_beq {xs ys : List Nat} (hx : ∀ x ∈ xs, x < 256) (hy : ∀ x ∈ ys, x < 256) : decide (xs = ys) = ((bstr xs).toList == (bstr ys).toList) := by
  rw [ByteArray.toList_eq, ByteArray.toList_eq]
  by_cases h : xs = ys
  · subst h; simp
  · have h1 : (bstr xs).data.toList ≠ (bstr ys).data.toList := fun e => h (bstr_inj hx hy (by
      have := Array.toList_inj.1 e
      cases hb : bstr xs; cases hc : bstr ys; simp_all))
    rw [decide_eq_false h]
    exact (beq_eq_false_iff_ne.2 h1).symm
theorem bstr_size (xs : List Nat) : (bstr xs).size = xs.length := by simp [bstr, ByteArray.size]

/-- string(b). -/
theorem run_bstr {P : Program} {w : World} {src dst e : TypeId} (hs : P.underlying src = some (.slice e)) (he : P.underlying e = some (.int .u8)) (hd : P.underlying dst = some .string)
    {a : Option Addr} {xs : List Nat} {c : Nat} (h : Rd w a (byt xs)) : (convert src dst (.slice a xs.length c)).run P w = .ok (.string (bstr xs)) w := by
  rw [run_convert_bytes_string w src dst e a xs.length c hs he hd]
  cases a with
  | none =>
    obtain rfl : xs = [] := by
      rcases h with h | ⟨b, off, h, _⟩
      · simpa [byt] using h
      · cases h
    simp [Conv.bytesToString, Sem.run_pure, bstr]
    rfl
  | some a =>
    have hl : (loadCells a xs.length).run P w = .ok ((xs.map (fun x : Nat => (x : Int))).map (Value.int .u8)).toArray w := by
      have := run_loadCells_list (P := P) (w := w) a (byt xs) (by
        intro j v hj
        rcases h with h | ⟨b, off, h1, hc⟩
        · rw [h] at hj; simp at hj
        · cases h1
          obtain ⟨h2, h3⟩ := List.getElem?_eq_some_iff.1 hj
          have h4 := hc j h2
          have hadd : (⟨b, off, none⟩ : Addr).add j = ⟨b, off + j, none⟩ := by unfold Addr.add; split <;> simp_all
          rw [hadd, h4, h3])
      simpa [byt, List.map_map, Function.comp_def] using this
    rw [run_bytesToString w a _ _ _ hl, List.foldl_map]
    simp only [Int.toNat_natCast]
    rw [bstr_foldl]
    simp [bstr]

end Go.Proofs.Ytmaccmgmcahopaa

/- spec.l1same: are two texts the same? -/
namespace Go.Proofs.Ytmaccmgmcahopaa
open Go.RowKit

end Go.Proofs.Ytmaccmgmcahopaa

/- spec.l1number, l4even; what is read, step by step. -/
namespace Go.Proofs.Ytmaccmgmcahopaa
open Go.RowKit

theorem pst_none {b : List Nat} {n k : Nat} (h : pst b n k = none) : ∀ j, k ≤ j → pst b n j = none := by
  intro j
  induction j with
  | zero => intro hj; have : k = 0 := by omega
            subst this; exact h
  | succ j ih =>
    intro hj
    by_cases e : k = j + 1
    · subst e; exact h
    · have := ih (by omega)
      simp [pst, this]
theorem pst_next {b : List Nat} {n k : Nat} {bs : List (List Nat)} {at_ : Nat} (h : pst b n k = some (bs, at_)) : pst b n (k + 1) =
    if b.length < 12 + 4 * k ∨ b.length < at_ ∨ b.length - at_ < num ((b.drop (8 + 4 * k)).take 4) then none
    else some (bs ++ [(b.drop at_).take (num ((b.drop (8 + 4 * k)).take 4))], at_ + evn (num ((b.drop (8 + 4 * k)).take 4))) := by
  simp [pst, h]
theorem pst_tot {b : List Nat} {n : Nat} : ∀ {k : Nat} {bs : List (List Nat)} {at_ : Nat}, pst b n k = some (bs, at_) → tot bs ≤ at_ ∧ tot bs ≤ b.length ∧ bs.length = k ∧ at_ ≤ 8 + evn (4 * n) + b.length + 7 * k := by
  intro k
  induction k with
  | zero =>
    intro bs at_ h
    simp only [pst, Option.some.injEq, Prod.mk.injEq] at h
    obtain ⟨rfl, rfl⟩ := h
    simp [tot]
  | succ k ih =>
    intro bs at_ h
    cases hp : pst b n k with
    | none => simp [pst, hp] at h
    | some r =>
      obtain ⟨bs0, at0⟩ := r
      obtain ⟨h1, h2, h3, h4⟩ := ih hp
      rw [pst_next hp] at h
      split at h
      · cases h
      · rename_i hc
        simp only [Option.some.injEq, Prod.mk.injEq] at h
        obtain ⟨rfl, rfl⟩ := h
        have he := evn_le (num ((b.drop (8 + 4 * k)).take 4))
        have hl : ((b.drop at0).take (num ((b.drop (8 + 4 * k)).take 4))).length = num ((b.drop (8 + 4 * k)).take 4) := by simp; omega
        have ht : tot (bs0 ++ [(b.drop at0).take (num ((b.drop (8 + 4 * k)).take 4))]) = tot bs0 + num ((b.drop (8 + 4 * k)).take 4) := by
          unfold tot; rw [List.map_append, List.sum_append]; simp only [List.map_cons, List.map_nil, List.sum_cons, List.sum_nil, hl]; omega
        rw [ht]
        refine ⟨by omega, by omega, by simp [h3], ?_⟩
        omega
def noMsg : PM := ⟨0, 0, 0, []⟩
def decP (b : List Nat) : PM := (decR b).getD noMsg
def decC (b : List Nat) : Int := if (decR b).isSome then 0 else 3
theorem dec_none {b : List Nat} (h : decR b = none) : decP b = noMsg ∧ decC b = 3 := by simp [decP, decC, h]
theorem dec_some {b : List Nat} {m : PM} (h : decR b = some m) : decP b = m ∧ decC b = 0 := by simp [decP, decC, h]
theorem decR_short {b : List Nat} (h : b.length < 12 ∨ 20000 < b.length) : decR b = none := by unfold decR parseM; rw [if_pos h]
theorem decR_stop {b : List Nat} {k : Nat} (hk : k ≤ nB b) (h : pst b (nB b) k = none) : decR b = none := by
  have h2 := pst_none h (nB b) hk
  unfold decR parseM
  split
  · rfl
  · rename_i m hp
    split at hp
    · cases hp
    · rw [h2] at hp; cases hp
theorem decR_end {b : List Nat} {bs : List (List Nat)} {at_ : Nat} (h1 : ¬ (b.length < 12 ∨ 20000 < b.length)) (h : pst b (nB b) (nB b) = some (bs, at_)) :
    decR b = if encR ⟨(b[2]?.getD 0 : Nat), (b[3]?.getD 0 : Nat), (num ((b.drop 4).take 2) : Nat), bs⟩ = b then some ⟨(b[2]?.getD 0 : Nat), (b[3]?.getD 0 : Nat), (num ((b.drop 4).take 2) : Nat), bs⟩ else none := by
  unfold decR parseM
  rw [if_neg h1, h]

end Go.Proofs.Ytmaccmgmcahopaa
