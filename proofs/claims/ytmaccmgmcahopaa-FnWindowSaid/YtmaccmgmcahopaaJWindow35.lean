import Derived.Test.YtmaccmgmcahopaaJWindow34
import Derived.Test.YtmaccmgmcahopaaJWindow4
import Derived.Test.YtmaccmgmcahopaaJWindow5
import Derived.Test.YtmaccmgmcahopaaJWindow10
import Derived.Test.YtmaccmgmcahopaaJWindow8
namespace Go.Proofs.Ytmaccmgmcahopaa
open Go.RowKit
end Go.Proofs.Ytmaccmgmcahopaa
namespace Go.Proofs.Ytmaccmgmcahopaa
open Go.RowKit
theorem digs2 (n : Nat) : digs n 2 = [n % 256, n / 256 % 256] := by simp [digs, List.range_succ]
theorem digs4 (n : Nat) : digs n 4 = [n % 256, n / 256 % 256, n / 65536 % 256, n / 16777216 % 256] := by simp [digs, List.range_succ]
theorem digs8 (n : Nat) : digs n 8 = [n % 256, n / 256 % 256, n / 65536 % 256, n / 16777216 % 256, n / 4294967296 % 256, n / 1099511627776 % 256, n / 281474976710656 % 256, n / 72057594037927936 % 256] := by simp [digs, List.range_succ]
theorem encP_at (K E S C : Nat) (L : Bool) (D : List Nat) : (encP K E S C L D)[1]?.getD 0 = K ∧ ((encP K E S C L D).drop 2).take 4 = digs E 4 ∧ ((encP K E S C L D).drop 6).take 8 = digs S 8 ∧ ((encP K E S C L D).drop 14).take 4 = digs C 4 ∧ (encP K E S C L D)[18]?.getD 0 = lastN L ∧ ((encP K E S C L D).drop 21).take D.length = D := by
  have e : encP K E S C L D = [67, K] ++ (digs E 4 ++ (digs S 8 ++ (digs C 4 ++ ([lastN L] ++ (digs D.length 2 ++ (D ++ digs (crcM (headP K E S C L D)) 4)))))) := by simp [encP, headP]
  generalize digs (crcM (headP K E S C L D)) 4 = Z at e
  rw [e]
  simp only [digs2, digs4, digs8]
  refine ⟨by simp, by simp, by simp, by simp, by simp, by simp⟩
theorem pktG_enc {p : PP} (h : pktOK p = true) : pktG (pktB p) = p := by
  have hk := pktOK_kind h
  have hd := of_decide_eq_true h
  unfold PktOK at hd
  obtain ⟨h1, h2, h3, h4, h5, h6, -⟩ := hd
  obtain ⟨kind, epoch, seq, count, last, data⟩ := p
  dsimp only at *
  obtain ⟨e1, e2, e3, e4, e5, e6⟩ := encP_at kind.toNat epoch.toNat seq.toNat count.toNat last data
  have hl := encP_len kind.toNat epoch.toNat seq.toNat count.toNat last data
  unfold pktB pktG
  dsimp only
  rw [hl, show 25 + data.length - 25 = data.length from by omega, e1, e2, e3, e4, e5, e6, num_digsM, num_digsM, num_digsM]
  have w1 : epoch.toNat % 256 ^ 4 = epoch.toNat := Nat.mod_eq_of_lt (by omega)
  have w2 : seq.toNat % 256 ^ 8 = seq.toNat := Nat.mod_eq_of_lt (by omega)
  have w3 : count.toNat % 256 ^ 4 = count.toNat := Nat.mod_eq_of_lt (by omega)
  have w4 : IntKind.i64.wrap ((seq.toNat : Nat) : Int) = seq := by simp [IntKind.wrap, IntKind.bits, IntKind.signed]; omega
  rw [w1, w2, w3, w4]
  have w5 : (lastN last == 1) = last := by cases last <;> rfl
  rw [w5]
  congr 1 <;> omega
theorem pk_round {p : PP} (h : pktR p ≠ []) : pkP (pktR p) = p ∧ pkC (pktR p) = 0 := by
  have hk : pktOK p = true := by
    cases hc : pktOK p with
    | true => rfl
    | false => exact absurd (pktR_bad hc) h
  have hg := pktG_enc hk
  rw [pktR_ok hk]
  have hl : 25 ≤ (pktB p).length := by show 25 ≤ (encP _ _ _ _ _ _).length; rw [encP_len]; omega
  have := pk_yes (okB_yes hl (by rw [hg, pktR_ok hk]))
  rw [hg] at this
  exact this
end Go.Proofs.Ytmaccmgmcahopaa
