import Derived.Test.YtfaehioeepolhabGreatJSend42
import Derived.Test.YtfaehioeepolhabGreatJSend26
import Derived.Test.YtfaehioeepolhabGreatJSend46
import Derived.Test.YtfaehioeepolhabGreatJSend47
import Derived.Test.YtfaehioeepolhabGreatJSend38
namespace Go.Proofs.YtfaehioeepolhabGreat
open Go.RowKit
theorem OwnSnd.lt4 {w : World} {r : PSnd} {a0 a3 a1 a2 b2 : Option Addr} {c0 c3 c1 c2 d2 : Nat} {fs ts os bs ds : List Nat} (h : OwnSnd w r a0 c0 a3 c3 a1 c1 a2 c2 b2 d2 fs ts os bs ds) : ∀ x ∈ ((fs ++ ts) ++ (os ++ (bs ++ ds))), x < w.heap.size := fun y hy => by
  rcases List.mem_append.1 hy with k | k
  · rcases List.mem_append.1 k with k | k
    · exact h.f.lt y k
    · exact h.t.lt y k
  · rcases List.mem_append.1 k with k | k
    · exact h.o.lt y k
    · exact ltS9 h.s y k
theorem OwnSnd.kept4 {w w' : World} {r : PSnd} {a0 a3 a1 a2 b2 : Option Addr} {c0 c3 c1 c2 d2 : Nat} {fs ts os bs ds : List Nat} (h : OwnSnd w r a0 c0 a3 c3 a1 c1 a2 c2 b2 d2 fs ts os bs ds) (hk : ∀ x ∈ ((fs ++ ts) ++ (os ++ (bs ++ ds))), w'.heap[x]? = w.heap[x]?) : OwnSnd w' r a0 c0 a3 c3 a1 c1 a2 c2 b2 d2 fs ts os bs ds :=
  ⟨h.f.kept (fun x hx => hk x (List.mem_append_left _ (List.mem_append_left _ hx))), h.t.kept (fun x hx => hk x (List.mem_append_left _ (List.mem_append_right _ hx))), h.o.kept (fun x hx => hk x (List.mem_append_right _ (List.mem_append_left _ hx))), keptSt h.s (fun x hx => hk x (List.mem_append_right _ (List.mem_append_right _ hx)))⟩
theorem OwnSnd.later4 {w w' : World} {r : PSnd} {a0 a3 a1 a2 b2 : Option Addr} {c0 c3 c1 c2 d2 : Nat} {fs ts os bs ds : List Nat} (h : OwnSnd w r a0 c0 a3 c3 a1 c1 a2 c2 b2 d2 fs ts os bs ds) (hb : Below w.heap.size w w') : OwnSnd w' r a0 c0 a3 c3 a1 c1 a2 c2 b2 d2 fs ts os bs ds := h.kept4 (fun x hx => hb.block x (h.lt4 x hx))
end Go.Proofs.YtfaehioeepolhabGreat
