import Derived.Test.YtcljakdcejhfiabJValidIn6
import Derived.Test.YtcljakdcejhfiabJValidIn15
namespace Go.Proofs.Ytcljakdcejhfiab
open Go.ChangeShapes Go.WideShapes Go.ChangeAt Go.RowKit
theorem opens_Pkt {H : Type} (enc : TypeId × Value → H) (W : World) : Opens enc Try.prog W 32 cPkt :=
  opens_struct6 Try.underlying32 rfl rfl rfl rfl rfl rfl rfl (by kernel_rfl) (by kernel_rfl) (by kernel_rfl) (by kernel_rfl) (by kernel_rfl) (by kernel_rfl) (by kernel_rfl) (opens_int Try.underlying3) (opens_int Try.underlying3) (opens_int Try.underlying3) (opens_int Try.underlying3) (opens_bool Try.underlying4) (opens_slice Try.underlying24 (by kernel_rfl) (by decide) (opens_byte Try.underlying5) 5) (fun x y z u v s => ⟨x, y, z, u, v, s⟩) (fun _ _ _ _ _ _ => rfl)
end Go.Proofs.Ytcljakdcejhfiab
