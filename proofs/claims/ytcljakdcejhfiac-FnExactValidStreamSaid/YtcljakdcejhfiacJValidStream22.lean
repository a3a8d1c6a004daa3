import Derived.Test.YtcljakdcejhfiacJValidStream17
import Derived.Test.YtcljakdcejhfiacJValidStream11
import Derived.Test.YtcljakdcejhfiacJValidStream20
import Derived.Test.YtcljakdcejhfiacJValidStream21
namespace Go.Proofs.Ytcljakdcejhfiac
open Go.RowKit
structure PMIn (m : PM) : Prop where
  kind : IntIn m.kind
  field : IntIn m.field
  count : IntIn m.count
end Go.Proofs.Ytcljakdcejhfiac
