import Derived.Test.YtfaehioeepolhaaGreatJValidReceiver7
import Derived.Test.YtfaehioeepolhaaGreatJValidReceiver26
import Derived.Carry
import Derived.Handy
import Derived.Test.YtfaehioeepolhaaGreatJValidReceiver33
import Derived.Test.YtfaehioeepolhaaGreatJValidReceiver0
import Derived.Test.YtfaehioeepolhaaGreatJValidReceiver11
namespace Go.Proofs.YtfaehioeepolhaaGreat
open Go.RowKit Go.Maps Go.WideMaps
theorem wf64 {n : Int} (h1 : -9223372036854775808 ≤ n) (h2 : n ≤ 9223372036854775807) : (Lit.int .i64 n).wf = true := by
  simp [Lit.wf, IntKind.min, IntKind.max, IntKind.bits, IntKind.signed]; omega
theorem dictField1 (x y : Value) (w : World) : (Instr.field 200 (.agg #[x, y]) 1).run Tryz.prog w = .ok y w := by kernel_rfl
theorem natBeq (a b : Nat) : ((a : Int) == (b : Int)) = decide (a = b) := by
  by_cases h : a = b
  · subst h; simp
  · rw [decide_eq_false h]; simp; omega
theorem keyed : Keyed Tryz.prog 9 := string_keyed Tryz.underlying9
set_option maxHeartbeats 1000000 in
theorem bytesOfTexts_any (a : Option Addr) (cap : Nat) (vs : List (List Nat)) (w : World) (hr : RdSl cSS w vs (.slice a vs.length cap)) (ht : totL List.length vs ≤ 1048576) :
    Calls Tryz.prog 154 #[.slice a vs.length cap] w fun e w' => e = .returned (.int .i64 ((tot vs : Nat) : Int)) ∧ w' = w := by
  have HR := hid hr
  clear hr
  rw [totL_tot] at ht
  go_enter Tryz.func154, Tryz.ntmps154
  go_wp2
  go_loop [3, 5, 8] (fun s _ i => ∃ k : Nat, k ≤ vs.length ∧ i = .int .i64 k ∧ s = .int .i64 ((tot (vs.take k) : Nat) : Int)) (fun _ _ i => vs.length - (intOf i).toNat)
  case atStart => exact ⟨0, Nat.zero_le _, rfl, by simp [tot]⟩
  case round =>
    obtain ⟨k, hk, rfl, rfl⟩ := hrel
    by_cases hlt : k < vs.length
    · obtain ⟨b, off, a', c', rfl, hcb, -⟩ := HR.out.row hlt
      have hki : (k : Int) < (vs.length : Int) := by omega
      have HTS := hid (tot_snoc vs k hlt)
      have h3 := tot_take vs k
      have h4 := len_le_tot vs k hlt
      generalize tot (vs.take k) = t at *
      go_wp2
      go_round
      case rel => exact ⟨k + 1, by omega, by go_num, by rw [HTS.out]; go_num⟩
      case measure => simp [intOf]; omega
    · obtain rfl : k = vs.length := by omega
      have HF : Hid (tot (vs.take vs.length) = tot vs) := hid (by rw [List.take_length])
      rw [HF.out]
      go_wp2
      go_ret
      exact ⟨rfl, rfl⟩
abbrev OwnsDict (w : World) (m : Nat) (vs : List (List Nat)) (k : Nat) : Prop := w.ownsMap Tryz.prog 9 (plainElem Tryz.prog 3) m k (dmap vs k)
set_option maxHeartbeats 2000000 in
theorem newDict_any (a : Option Addr) (cap : Nat) (vs : List (List Nat)) (w : World) (hr : RdSl cSS w vs (.slice a vs.length cap)) (ht : totL List.length vs ≤ 1048576) :
    Calls Tryz.prog 180 #[.slice a vs.length cap] w fun e w' => ∃ m, e = .returned (.agg #[.slice a vs.length cap, .map (some m)]) ∧ w.heap.size ≤ m ∧ OwnsDict w' m vs vs.length ∧ Below w.heap.size w w' := by
  have hmm := @run_makeMap Tryz.prog
  have HR := hid hr
  clear hr
  rw [totL_tot] at ht
  have HT := hid ht
  have hlen : vs.length ≤ 1048576 := by omega
  clear ht
  go_enter Tryz.func180, Tryz.ntmps180
  go_wp2
  go_loopw [4, 5, 9] (fun _ _ i wr => ∃ k : Nat, k ≤ vs.length ∧ i = .int .i64 k ∧ OwnsDict wr (w.heap.size + 1) vs k ∧ wr.heap[w.heap.size]? = some (.cells #[.slice none 0 0, .map none] 200 (0, 0)) ∧ Below w.heap.size w wr) (fun _ _ i _ => vs.length - (intOf i).toNat)
  case atStart => exact ⟨0, Nat.zero_le _, rfl, by have h := World.ownsMap_made (H := Unit) (w.alloc (.cells #[.slice none 0 0, .map none] 200)) Tryz.prog 9 (plainElem Tryz.prog 3); rw [show (w.alloc (.cells #[.slice none 0 0, .map none] 200)).heap.size = w.heap.size + 1 from by simp] at h; exact h, (heap2 (w := w) _ _ (Below.refl _ _)).1, below_new2 _ _ _⟩
  case round =>
    obtain ⟨k, hk, rfl, how, hblk, hbe⟩ := hrel
    have HO := hid how
    have HK := hid hblk
    have HB := hid hbe
    clear how hblk hbe
    by_cases hlt : k < vs.length
    · obtain ⟨b, off, a', c', rfl, hcb, hrr⟩ := (HR.out.later HB.out).row hlt
      obtain ⟨_, _, e', -, -, -, hrd, hby⟩ := hrr.bytes
      simp only [Value.slice.injEq] at e'
      obtain ⟨rfl, -, rfl⟩ := e'
      have hcv := run_bstr (P := Tryz.prog) (c := c') Tryz.underlying23 Tryz.underlying5 Tryz.underlying9 hrd
      have hkl : vs[k].length ≤ 1048576 := by have := len_le_tot vs k hlt; have := HT.out; omega
      have HKEY : Hid (keyOf Tryz.prog 9 (.string (bstr vs[k])) = some (skey vs[k])) := hid (keyOf_string_mk Tryz.underlying9 (by rw [bstr_size]; unfold maxLen; omega))
      have HVAL : Hid (plainElem (H := Unit) Tryz.prog 3 (.int .i64 (k : Int)) = some (.lit (.int .i64 (k : Int)), [])) := hid (plainElem_int Tryz.underlying3 (wf64 (by omega) (by omega)))
      have hki : (k : Int) < (vs.length : Int) := by omega
      clear hrr hrd hby
      go_wp2_with (first | (at_mapUpdate; refine wpList_mapUpdate_own _ rfl _ _ _ 198 rfl 9 3 keyed Tryz.underlying198 (plainElem Tryz.prog 3) (w.heap.size + 1) k (dmap vs k) rfl HO.out (by unfold maxLen; omega) _ _ _ rfl rfl HKEY.out _ [] HVAL.out ?_))
      intro w1 hown1 hgrow1
      have HO1 : Hid (OwnsDict w1 (w.heap.size + 1) vs (k + 1)) := hid (by unfold OwnsDict; rw [dmap_succ hlt]; exact hown1)
      have HK1 : Hid (w1.heap[w.heap.size]? = some (.cells #[.slice none 0 0, .map none] 200 (0, 0))) := hid ((hgrow1.block w.heap.size (by have := HB.out.size; have := HO.out.lt; omega) (by simp)).trans HK.out)
      have HB1 : Hid (Below w.heap.size w w1) := hid (HB.out.grown hgrow1 HB.out.size (fun j hj => by cases hj; omega))
      clear hown1 hgrow1
      go_wp2
      go_roundw
      case rel => exact ⟨k + 1, by omega, by go_num, HO1.out, HK1.out, HB1.out⟩
      case measure => simp [intOf]; omega
    · obtain rfl : k = vs.length := by omega
      have c0 := cell_of_row wr _ 0 _ _ _ HK.out
      have c1 := cell_of_row wr _ 1 _ _ _ HK.out
      have f0 := frozen_of_row wr _ 0 _ _ HK.out
      have f1 := frozen_of_row wr _ 1 _ _ HK.out
      simp at c0 c1
      go_wp2
      refine bodyPost_ret (results_cell_row rfl _ _ w.heap.size 200 #[.slice a vs.length cap, .map (some (w.heap.size + 1))] (0, 0) _ rfl (set2 HK.out) Tryz.underlying200 rfl (by kernel_rfl)) rfl ?_
      exact ⟨w.heap.size + 1, rfl, by omega, (HO.out.setCell (a := ⟨w.heap.size, 0, none⟩) (by simp) _).setCell (a := ⟨w.heap.size, 1, none⟩) (by simp) _, (HB.out.setCell (p := ⟨w.heap.size, 0, none⟩) (Nat.le_refl _) _).setCell (p := ⟨w.heap.size, 1, none⟩) (Nat.le_refl _) _⟩
end Go.Proofs.YtfaehioeepolhaaGreat
namespace Go.Proofs.YtfaehioeepolhaaGreat
open Go.RowKit Go.Maps
set_option maxHeartbeats 400000 in
theorem validRows_any (r : Int) (w : World) : Calls Tryz.prog 153 #[.int .i64 r] w fun e w' => e = .returned (.bool (decide (0 ≤ r ∧ r ≤ 100))) ∧ w' = w := by
  by_cases h0 : 0 ≤ r
  · by_cases h1 : r ≤ 100
    · rw [decide_eq_true ⟨h0, h1⟩]
      go_enter Tryz.func153, Tryz.ntmps153
      go_wp2
      go_ret
      exact ⟨by simp, rfl⟩
    · rw [decide_eq_false (fun h => h1 h.2)]
      go_enter Tryz.func153, Tryz.ntmps153
      go_wp2
      go_ret
      exact ⟨by simp, rfl⟩
  · rw [decide_eq_false (fun h => h0 h.1)]
    have hd : decide (0 ≤ r) = false := decide_eq_false h0
    go_enter Tryz.func153, Tryz.ntmps153
    go_wp2
    go_ret
    exact ⟨by simp; try omega, rfl⟩
set_option maxHeartbeats 1000000 in
theorem differentTexts_any (a : Option Addr) (cap : Nat) (xs : List PC) (w : World) (hr : RdSl cCell w xs (.slice a xs.length cap)) (hl : xs.length + tot (nn xs) ≤ 1048576) :
    Calls Tryz.prog 158 #[.slice a xs.length cap] w fun e w' => e = .returned (.int .i64 ((diff xs : Nat) : Int)) ∧ Below w.heap.size w w' := by
  have HQ := hid (textsOfCells_any a cap xs w hr (by omega))
  have hnl := nn_len xs
  clear hr
  go_enter Tryz.func158, Tryz.ntmps158
  go_wp2_with fail
  refine HQ.out.mono ?_
  rintro e w2 ⟨v, rfl, hv, b2⟩
  obtain ⟨a2, c2, rfl, -⟩ := id hv
  have HOK := hid hv.allOK
  have HN := hid (newDict_any a2 c2 (nn xs) w2 hv (by rw [totL_tot]; omega))
  have HB2 := hid b2
  clear hv b2
  go_wp2_with fail
  refine HN.out.mono ?_
  rintro e w3 ⟨m, rfl, hm, ho, b3⟩
  have HS : Hid (Maps.size (dmap (nn xs) (nn xs).length) = cnt (nn xs) (nn xs).length) := hid (dmap_size HOK.out (nn xs).length (Nat.le_refl _))
  have HB3 := hid (below_chain HB2.out b3)
  have hfd := dictField1 (.slice a2 (nn xs).length c2) (.map (some m)) w3
  have hln := ho.len Tryz.underlying198 3
  rw [HS.out] at hln
  clear ho b3
  have HD : Hid (diff xs = cnt (nn xs) (nn xs).length) := hid rfl
  generalize cnt (nn xs) (nn xs).length = c at *
  go_wp2
  go_ret
  exact ⟨by rw [HD.out]; rfl, HB3.out⟩
end Go.Proofs.YtfaehioeepolhaaGreat
namespace Go.Proofs.YtfaehioeepolhaaGreat
open Go.RowKit
theorem infoByteP : (Tryz.prog.info? 5).map (fun i => (i.zero, i.size, i.bytes)) = some (some (.int .u8 0), 1, 1) := by kernel_rfl
def PkiPost (w : World) (R : List Nat × Int) (e : Ending) (w' : World) : Prop :=
  ∃ a c, e = .returned (.tuple #[.slice a R.1.length c, .int .i64 R.2]) ∧ w'.ownsRow w.heap.size 5 1 (.slice a R.1.length c) R.1.length (byt R.1) ∧ Below w.heap.size w w'
theorem pkiPost_mk {w w' : World} {R : List Nat} {n c : Nat} {C : Int} {a : Option Addr} (hl : R.length = n) (ho : w'.ownsRow w.heap.size 5 1 (.slice a n c) n (byt R)) (hb : Below w.heap.size w w') :
    PkiPost w (R, C) (.returned (.tuple #[.slice a n c, .int .i64 C])) w' := by
  subst hl
  exact ⟨a, c, rfl, ho, hb⟩
theorem pkiPost_nil {w w' : World} (C : Int) (hb : Below w.heap.size w w') : PkiPost w ([], C) (.returned (.tuple #[.slice none 0 0, .int .i64 C])) w' :=
  ⟨none, 0, rfl, World.ownsRow_nil _ _ _ _, hb⟩
theorem byt_snoc (xs : List Nat) (d : Nat) : byt (xs ++ [d]) = byt xs ++ [.int .u8 (d : Int)] := by simp [byt]
end Go.Proofs.YtfaehioeepolhaaGreat
