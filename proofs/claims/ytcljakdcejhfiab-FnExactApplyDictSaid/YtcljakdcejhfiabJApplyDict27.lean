import Derived.Test.YtcljakdcejhfiabJApplyDict26
namespace Go.Proofs.Ytcljakdcejhfiab
open Go.RowKit Go.Maps Go.WideMaps
set_option maxHeartbeats 1000000 in
theorem implDict_any (a : Option Addr) (cap : Nat) (vs : List (List Nat)) (w : World) (hr : RdSl cSS w vs (.slice a vs.length cap)) (ht : totL List.length vs ≤ 1048576) :
    Calls Try.prog 73 #[.slice a vs.length cap] w fun e w' => e = .returned (.bool (dictOK vs)) ∧ Below w.heap.size w w' := by
  have hlen : vs.length ≤ 1048576 := by unfold totL at ht; omega
  by_cases h1 : 40 < vs.length
  · have HD := hid (dictOK_len (vs := vs) (by omega))
    go_enter Try.func73, Try.ntmps73
    go_wp2
    go_ret
    exact ⟨by rw [HD.out]; rfl, Below.refl _ _⟩
  have HQ := hid (bytesOfTexts_any a cap vs w hr ht)
  have HN := hid (newDict_any a cap vs w hr ht)
  have HOK := hid hr.allOK
  have HT : Hid (¬ tot vs ≤ 4000 → dictOK vs = false) := hid dictOK_tot
  have HC : Hid (tot vs ≤ 4000 → dictOK vs = decide (cnt vs vs.length = vs.length)) := hid (dictOK_cnt vs (by omega))
  have htot : tot vs ≤ 1048576 := by rw [totL_tot] at ht; omega
  clear hr ht
  generalize tot vs = t at *
  by_cases h2 : 4000 < t
  · have HX := hid (HT.out (by omega))
    go_enter Try.func73, Try.ntmps73
    go_wp2_with fail
    refine HQ.out.mono ?_
    rintro e w ⟨rfl, rfl⟩
    go_wp2
    go_ret
    exact ⟨by rw [HX.out]; rfl, Below.refl _ _⟩
  · have HX := hid (HC.out (by omega))
    go_enter Try.func73, Try.ntmps73
    go_wp2_with fail
    refine HQ.out.mono ?_
    rintro e w ⟨rfl, rfl⟩
    go_wp2_with fail
    refine HN.out.mono ?_
    rintro e w2 ⟨m, rfl, hm, ho, b2⟩
    have HS : Hid (Maps.size (dmap vs vs.length) = cnt vs vs.length) := hid (dmap_size HOK.out vs.length (Nat.le_refl _))
    have HO := hid ho
    have HB := hid b2
    clear ho b2
    have hfd := dictField1 (.slice a vs.length cap) (.map (some m)) w2
    have hln := HO.out.len Try.underlying100 3
    rw [HS.out] at hln
    have hcn := cnt_le vs vs.length
    generalize hc : cnt vs vs.length = c at *
    go_wp2
    go_ret
    exact ⟨by rw [HX.out]; simp; exact natBeq _ _, HB.out⟩
end Go.Proofs.Ytcljakdcejhfiab
