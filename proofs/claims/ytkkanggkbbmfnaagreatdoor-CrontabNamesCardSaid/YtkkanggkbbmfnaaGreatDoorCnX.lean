
/- an expression's text -/
import Derived.Test.YtkkanggkbbmfnaaGreatDoorCnTw
import Derived.Test.YtkkanggkbbmfnaaGreatDoorHd
namespace Go.Proofs.YtkkanggkbbmfnaaGreatDoor.Cn
open Go.RowKit Go.Lib Go.Proofs.YtkkanggkbbmfnaaGreatDoor.Ht
set_option linter.unusedVariables false

theorem lens_five (x0 x1 x2 x3 x4 : L) (h0 : x0.length ≤ 200) (h1 : x1.length ≤ 200) (h2 : x2.length ≤ 200) (h3 : x3.length ≤ 200) (h4 : x4.length ≤ 200) : (join [x0, x1, x2, x3, x4] [32]).length ≤ 100000 := by
  rw [join_length]
  simp only [lens, List.map_cons, List.map_nil, List.sum_cons, List.sum_nil, List.length_cons, List.length_nil]
  omega
end Go.Proofs.YtkkanggkbbmfnaaGreatDoor.Cn
