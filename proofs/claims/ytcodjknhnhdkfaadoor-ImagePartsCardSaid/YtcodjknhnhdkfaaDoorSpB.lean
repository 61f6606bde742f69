
/- specs as bytes: the document's -/
import Derived.Test.YtcodjknhnhdkfaaDoorSp3
import Derived.Test.YtcodjknhnhdkfaaDoorHd
import Derived.Shelf.Abstract
namespace Go.Proofs.YtcodjknhnhdkfaaDoor.Sp
open Go.RowKit Go.Lib Go.Shelf Rf By Ht
set_option linter.unusedVariables false
set_option maxRecDepth 20000
/-- bytes as a text's value -/
abbrev T (l : List UInt8) : Value := .string ⟨l.toArray⟩
theorem t_app (x y : List UInt8) : (⟨x.toArray⟩ : ByteArray) ++ ⟨y.toArray⟩ = ⟨(x ++ y).toArray⟩ := Rf.bytes_app x y
theorem t_size (l : List UInt8) : (⟨l.toArray⟩ : ByteArray).size = l.length := Rf.bytes_size l
theorem join (k l : List UInt8) (hk : k.length ≤ 100000) (hl : l.length ≤ 100000) : ∃ A, A = k ++ l ∧ (⟨k.toArray⟩ : ByteArray) ++ ⟨l.toArray⟩ = ⟨A.toArray⟩ ∧ A.length = k.length + l.length ∧ k.length + l.length ≤ 9223372036854775807 :=
  ⟨_, rfl, t_app k l, List.length_append, by omega⟩
/-- one of middling length -/
def Spc.med (x : Spc) : Prop := (∀ d ∈ x.ds, d.size ≤ 1000) ∧ x.nm.size ≤ 1000 ∧ x.tn.size ≤ 1000 ∧ x.n ≤ 1000 ∧ x.cr.size ≤ 1000 ∧ (rowB x.ds).length ≤ 20000
theorem Spc.few.med {x : Spc} (h : x.few) (hl : x.ds.length = x.n) : x.med := by
  obtain ⟨h1, h2, h3, h4, h5⟩ := h
  have h6 := row_len h1
  exact ⟨fun d hd => by have := h1 d hd; omega, by omega, by omega, by omega, by omega, by omega⟩
theorem text_lenm {s : ByteArray} (h : s.size ≤ 1000) : (textB s).length ≤ 1010 := by
  unfold textB
  have := uvarint_length64 (show U64 s.size by unfold U64; omega)
  have e : s.data.toList.length = s.size := Array.length_toList
  rw [List.length_append, e]
  omega
theorem row_take (l : List ByteArray) (k : Nat) : (rowB (l.take k)).length ≤ (rowB l).length := by
  have := congrArg (fun l => (rowB l).length) (List.take_append_drop k l)
  simp only [rowB, List.flatMap_append, List.length_append] at this ⊢
  omega
end Go.Proofs.YtcodjknhnhdkfaaDoor.Sp
