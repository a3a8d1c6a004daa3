import Derived.Test.YtfaehioeepolhaaGreatJValidReceiver0
namespace Go.Proofs.YtfaehioeepolhaaGreat
open Go.RowKit
end Go.Proofs.YtfaehioeepolhaaGreat
namespace Go.Proofs.YtfaehioeepolhaaGreat
open Go.RowKit
end Go.Proofs.YtfaehioeepolhaaGreat
