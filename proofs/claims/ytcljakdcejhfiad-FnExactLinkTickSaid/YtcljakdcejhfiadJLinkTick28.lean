import Derived.Test.YtcljakdcejhfiadJLinkTick7
import Derived.Test.YtcljakdcejhfiadJLinkTick26
import Derived.Test.YtcljakdcejhfiadJLinkTick27
import Derived.Test.YtcljakdcejhfiadJLinkTick25
namespace Go.Proofs.Ytcljakdcejhfiad
open Go.RowKit
theorem own_built {w : World} {B : Nat} {e : TypeId} {cs : Array Value} (hB : B ≤ w.heap.size) (hm : cs.size ≤ maxLen) : (w.alloc (.cells cs e)).ownsRow B e 1 (.slice (some ⟨w.heap.size, 0, none⟩) cs.size cs.size) cs.size cs.toList :=
  ⟨by simp, .inr ⟨w.heap.size, cs.size, cs, rfl, hB, heap_alloc_new w _, Nat.le_refl _, hm, by simp, by rw [Nat.mul_one]; exact List.take_of_length_le (by simp)⟩⟩
theorem U_nat (n : Nat) (h : n < 18446744073709551616) : U (n : Int) = n := by
  unfold U
  have : IntKind.u64.wrap (n : Int) = n := by
    rw [U_eq, U]
    simp [IntKind.wrap, IntKind.bits, IntKind.signed]
    omega
  rw [this]; simp
theorem wrap_u8 (n : Nat) (h : n < 256) : IntKind.u8.wrap (n : Int) = n := by
  simp [IntKind.wrap, IntKind.bits, IntKind.signed]; omega
theorem crcM_lt (xs : List Nat) (h : ∀ x ∈ xs, x < 256) : crcM xs < 4294967296 := by
  have h1 := crcTake_lt xs h xs.length
  rw [List.take_length] at h1
  unfold crcM
  have : crcFold xs ^^^ 4294967295 < 2 ^ 32 := Nat.xor_lt_two_pow (by omega) (by omega)
  omega
theorem infoByteM : (Try.prog.info? 5).map (fun i => (i.zero, i.size, i.bytes)) = some (some (.int .u8 0), 1, 1) := by kernel_rfl
def EncPost (w : World) (R : List Nat) (e : Ending) (w' : World) : Prop :=
  ∃ a c, e = .returned (.slice a R.length c) ∧ w'.ownsRow w.heap.size 5 1 (.slice a R.length c) R.length (byt R) ∧ Below w.heap.size w w'
theorem encPost_nil {w w' : World} {R : List Nat} (hb : Below w.heap.size w w') (hR : R = []) : EncPost w R (.returned (.slice none 0 0)) w' := by
  subst hR
  exact ⟨none, 0, rfl, World.ownsRow_nil _ _ _ _, hb⟩
end Go.Proofs.Ytcljakdcejhfiad
namespace Go.Proofs.Ytcljakdcejhfiad
open Go.RowKit
theorem sum_le_mul {α : Type} (f : α → Nat) (m : Nat) : ∀ (l : List α), (∀ x ∈ l, f x ≤ m) → (l.map f).sum ≤ m * l.length
  | [], _ => by simp
  | x :: l, h => by
    have h1 := sum_le_mul f m l (fun y hy => h y (List.mem_cons_of_mem _ hy))
    have h2 := h x (by simp)
    simp only [List.map_cons, List.sum_cons, List.length_cons]
    rw [Nat.mul_add, Nat.mul_one]
    omega
end Go.Proofs.Ytcljakdcejhfiad
namespace Go.Proofs.Ytcljakdcejhfiad
open Go.RowKit
set_option linter.unusedVariables false in
def soT (B lo gm gO b off c n k : Nat) (s : PW) (an : Option Addr) (cn : Nat) (acc : Value) (e nx t : Int) (xs : List PW) : Nat → FX
  | 0 => FX.eq (.pointer (some ⟨gm, 3, none⟩))
  | 1 => FX.eq (acc)
  | 2 => FX.eq (.pointer (some ⟨gO, 3, none⟩))
  | 3 => FX.eq (.slice (some ⟨b, off, none⟩) n c)
  | 4 => FX.eq (.int .i64 (k : Int))
  | 5 => FX.eq (.pointer (some ⟨b, off + k * 7, none⟩))
  | 6 => FX.eq (.pointer (some ⟨b, off + k * 7, none⟩))
  | 7 => FX.eq (.agg #[.int .i64 s.pkt.kind, .int .i64 s.pkt.epoch, .int .i64 s.pkt.seq, .int .i64 s.pkt.count, .bool s.pkt.last, .slice an s.pkt.data.length cn])
  | 8 => FX.pre [17, 19] (fcPk lo s.pkt)
  | 9 => FX.eq (.pointer (some ⟨gO, 3, none⟩))
  | 10 => FX.eq (.slice (some ⟨b, off, none⟩) n c)
  | 11 => FX.eq (.int .i64 (k : Int))
  | 12 => FX.eq (.pointer (some ⟨b, off + k * 7, none⟩))
  | 13 => FX.eq (.pointer (some ⟨b, off + k * 7 + 6, none⟩))
  | 14 => FX.eq (.int .i64 s.at_)
  | 15 => FX.pre [17, 19] (fcSn lo s)
  | 16 => FX.pre [17, 19] (fcOneS lo s)
  | 17 => FX.pre [19] (fcGotS B gm e nx t acc (xs ++ [s]))
  | 18 => FX.eq (.pointer (some ⟨gm, 3, none⟩))
  | 19 => FX.is (fcPutS B gm e nx t (xs ++ [s]))
  | _ => FX.eq undef
end Go.Proofs.Ytcljakdcejhfiad
