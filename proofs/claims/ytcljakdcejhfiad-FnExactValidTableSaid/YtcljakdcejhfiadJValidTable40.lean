import Derived.Test.YtcljakdcejhfiadJValidTable38
import Derived.Test.YtcljakdcejhfiadJValidTable39
import Derived.Test.YtcljakdcejhfiadJValidTable0
import Derived.Test.YtcljakdcejhfiadJValidTable23
namespace Go.Proofs.Ytcljakdcejhfiad
open Go.RowKit Go.Maps
set_option maxHeartbeats 400000 in
theorem validRows_any (r : Int) (w : World) : Calls Try.prog 52 #[.int .i64 r] w fun e w' => e = .returned (.bool (decide (0 ≤ r ∧ r ≤ 100))) ∧ w' = w := by
  by_cases h0 : 0 ≤ r
  · by_cases h1 : r ≤ 100
    · rw [decide_eq_true ⟨h0, h1⟩]
      go_enter Try.func52, Try.ntmps52
      go_wp2
      go_ret
      exact ⟨by simp, rfl⟩
    · rw [decide_eq_false (fun h => h1 h.2)]
      go_enter Try.func52, Try.ntmps52
      go_wp2
      go_ret
      exact ⟨by simp, rfl⟩
  · rw [decide_eq_false (fun h => h0 h.1)]
    have hd : decide (0 ≤ r) = false := decide_eq_false h0
    go_enter Try.func52, Try.ntmps52
    go_wp2
    go_ret
    exact ⟨by simp; try omega, rfl⟩
set_option maxHeartbeats 1000000 in
theorem differentTexts_any (a : Option Addr) (cap : Nat) (xs : List PC) (w : World) (hr : RdSl cCell w xs (.slice a xs.length cap)) (hl : xs.length + tot (nn xs) ≤ 1048576) :
    Calls Try.prog 57 #[.slice a xs.length cap] w fun e w' => e = .returned (.int .i64 ((diff xs : Nat) : Int)) ∧ Below w.heap.size w w' := by
  have HQ := hid (textsOfCells_any a cap xs w hr (by omega))
  have hnl := nn_len xs
  clear hr
  go_enter Try.func57, Try.ntmps57
  go_wp2_with fail
  refine HQ.out.mono ?_
  rintro e w2 ⟨v, rfl, hv, b2⟩
  obtain ⟨a2, c2, rfl, -⟩ := id hv
  have HOK := hid hv.allOK
  have HN := hid (newDict_any a2 c2 (nn xs) w2 hv (by rw [totL_tot]; omega))
  have HB2 := hid b2
  clear hv b2
  go_wp2_with fail
  refine HN.out.mono ?_
  rintro e w3 ⟨m, rfl, hm, ho, b3⟩
  have HS : Hid (Maps.size (dmap (nn xs) (nn xs).length) = cnt (nn xs) (nn xs).length) := hid (dmap_size HOK.out (nn xs).length (Nat.le_refl _))
  have HB3 := hid (below_chain HB2.out b3)
  have hfd := dictField1 (.slice a2 (nn xs).length c2) (.map (some m)) w3
  have hln := ho.len Try.underlying131 3
  rw [HS.out] at hln
  clear ho b3
  have HD : Hid (diff xs = cnt (nn xs) (nn xs).length) := hid rfl
  generalize cnt (nn xs) (nn xs).length = c at *
  go_wp2
  go_ret
  exact ⟨by rw [HD.out]; rfl, HB3.out⟩
end Go.Proofs.Ytcljakdcejhfiad
namespace Go.Proofs.Ytcljakdcejhfiad
open Go.RowKit
theorem infoByteP : (Try.prog.info? 5).map (fun i => (i.zero, i.size, i.bytes)) = some (some (.int .u8 0), 1, 1) := by kernel_rfl
def PkiPost (w : World) (R : List Nat × Int) (e : Ending) (w' : World) : Prop :=
  ∃ a c, e = .returned (.tuple #[.slice a R.1.length c, .int .i64 R.2]) ∧ w'.ownsRow w.heap.size 5 1 (.slice a R.1.length c) R.1.length (byt R.1) ∧ Below w.heap.size w w'
theorem pkiPost_mk {w w' : World} {R : List Nat} {n c : Nat} {C : Int} {a : Option Addr} (hl : R.length = n) (ho : w'.ownsRow w.heap.size 5 1 (.slice a n c) n (byt R)) (hb : Below w.heap.size w w') :
    PkiPost w (R, C) (.returned (.tuple #[.slice a n c, .int .i64 C])) w' := by
  subst hl
  exact ⟨a, c, rfl, ho, hb⟩
theorem pkiPost_nil {w w' : World} (C : Int) (hb : Below w.heap.size w w') : PkiPost w ([], C) (.returned (.tuple #[.slice none 0 0, .int .i64 C])) w' :=
  ⟨none, 0, rfl, World.ownsRow_nil _ _ _ _, hb⟩
theorem byt_snoc (xs : List Nat) (d : Nat) : byt (xs ++ [d]) = byt xs ++ [.int .u8 (d : Int)] := by simp [byt]
end Go.Proofs.Ytcljakdcejhfiad
