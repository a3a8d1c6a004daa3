import Derived.Test.YtcljakdcejhfiacJLinkAcked4
import Derived.Test.YtcljakdcejhfiacJLinkAcked12
namespace Go.Proofs.Ytcljakdcejhfiac
open Go.ChangeShapes Go.WideShapes Go.ChangeAt Go.RowKit
theorem opens_Pkt {H : Type} (enc : TypeId × Value → H) (W : World) : Opens enc Try.prog W 133 cPkt :=
  opens_struct6 Try.underlying133 rfl rfl rfl rfl rfl rfl rfl (by kernel_rfl) (by kernel_rfl) (by kernel_rfl) (by kernel_rfl) (by kernel_rfl) (by kernel_rfl) (by kernel_rfl) (opens_int Try.underlying3) (opens_int Try.underlying3) (opens_int Try.underlying3) (opens_int Try.underlying3) (opens_bool Try.underlying4) (opens_slice Try.underlying37 (by kernel_rfl) (by decide) (opens_byte Try.underlying5) 5) (fun x y z u v s => ⟨x, y, z, u, v, s⟩) (fun _ _ _ _ _ _ => rfl)
end Go.Proofs.Ytcljakdcejhfiac
