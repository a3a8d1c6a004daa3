import Derived.Test.YtcljakdcejhfiabJValidFields6
import Derived.Test.YtcljakdcejhfiabJValidFields10
import Derived.Test.YtcljakdcejhfiabJValidFields11
import Derived.Test.YtcljakdcejhfiabJValidFields12
import Derived.Test.YtcljakdcejhfiabJValidFields18
import Derived.Test.YtcljakdcejhfiabJValidFields31
namespace Go.Proofs.Ytcljakdcejhfiab
open Go.RowKit
set_option maxHeartbeats 2000000 in
theorem validFields_walk (a : Option Addr) (len cap : Nat) (w : World) (h : FieldsIn w a len cap) :
    Calls Try.prog 5 #[.slice a len cap] w fun e w' => e = .returned (.bool true) ∧ Below w.heap.size w w' := by
  obtain ⟨xs, rfl, hr⟩ := h
  have HR := hid hr
  clear hr
  go_enter Try.func5, Try.ntmps5
  go_wp2_with fail
  refine (szFieldS_any a cap xs 1048576 w HR.out (by omega) (by omega)).mono ?_
  rintro e w1 ⟨rfl, b1⟩
  have HB1 := hid b1
  clear b1
  by_cases hneg : rest 1048576 (totL (fun f : PF => f.name.length) xs) < 0
  · generalize rest 1048576 (totL (fun f : PF => f.name.length) xs) = r at *
    go_wp2
    go_ret
    exact ⟨rfl, HB1.out⟩
  have ht : totL (fun f : PF => f.name.length) xs ≤ 1048576 := by have := rest_fits (l := 1048576) (n := totL (fun f : PF => f.name.length) xs) (by omega); omega
  generalize rest 1048576 (totL (fun f : PF => f.name.length) xs) = r at *
  go_wp2_with fail
  refine (toFieldS_any a cap xs w1 (HR.out.later HB1.out) ht).mono ?_
  rintro e w2 ⟨v2, bs2, rfl, o2, -, -, b2⟩
  obtain ⟨a2, c2, rfl, -⟩ := id o2.rd
  have B2 := below_chain HB1.out b2
  go_wp2_with fail
  refine (specFields_any a2 c2 xs w2 o2.rd).mono ?_
  rintro e w3 ⟨rfl, b3⟩
  have B3 := below_chain B2 b3
  go_wp2_with fail
  refine (toFieldS_any a cap xs w3 (HR.out.later B3) ht).mono ?_
  rintro e w4 ⟨v4, bs4, rfl, o4, -, -, b4⟩
  obtain ⟨a4, c4, rfl, -⟩ := id o4.rd
  have B4 := below_chain B3 b4
  go_wp2_with fail
  refine (implFields_any a4 c4 xs w4 o4.rd).mono ?_
  rintro e w5 ⟨rfl, b5⟩
  have B5 := below_chain B4 b5
  generalize fieldsOK xs = q
  have hq : (q != q) = false := by simp
  go_wp2_with fail
  refine (toFieldS_any a cap xs w5 (HR.out.later B5) ht).mono ?_
  rintro e w6 ⟨v6, bs6, rfl, o6, -, -, b6⟩
  obtain ⟨a6, c6, rfl, -⟩ := id o6.rd
  have B6 := below_chain B5 b6
  go_wp2_with fail
  refine (eqFieldS_any a4 a6 c4 c6 xs w6 (o4.rd.later (below_chain b5 b6)) o6.rd ht).mono ?_
  rintro e w7 ⟨rfl, b7⟩
  have HB7 := hid (below_chain B6 b7)
  go_wp2
  go_ret
  exact ⟨rfl, HB7.out⟩
end Go.Proofs.Ytcljakdcejhfiab
