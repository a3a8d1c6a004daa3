import Derived.Test.YtcljakdcejhfiacJEncodeMessage1
import Derived.Test.YtcljakdcejhfiacJEncodeMessage4
import Derived.Test.YtcljakdcejhfiacJEncodeMessage6
namespace Go.Proofs.Ytcljakdcejhfiac
open Go.ChangeShapes Go.WideShapes Go.ChangeAt Go.RowKit
theorem opens_SS {H : Type} (enc : TypeId × Value → H) (W : World) : Opens enc Try.prog W 33 (cSl cSS 37) :=
  opens_slice Try.underlying33 (by kernel_rfl) (by decide) (opens_slice Try.underlying37 (by kernel_rfl) (by decide) (opens_byte Try.underlying5) _) _
end Go.Proofs.Ytcljakdcejhfiac
