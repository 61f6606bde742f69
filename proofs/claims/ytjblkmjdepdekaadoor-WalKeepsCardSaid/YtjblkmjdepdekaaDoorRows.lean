/-
  NARROWER THAN 'FOR EVERY INPUT', by the rows' own cells (each row's printed sentence says how): WalKeeps: laid · WalTorn: laid · WalRoom: laid · WalNone: laid · WalTurns: laid.
  DERIVED. THE GIVEN ROWS OF THIS SEAT. 5 by the template 'for every input the law returns true; each argument reads behind the call as it read before'; 0 by the template 'total and deterministic' (their statements: YtjblkmjdepdekaaDoorTotals.lean).
  GIVEN WITH THE SEED: the statements are not yours to turn. If you find one false, say at which input.
  Laid BY PROGRAM, IN A SANDBOX (cutbox-rows.mjs): the forced cells as the released guide's own fill.sh prints them over the translation fe2ac0d009b83974… (all of the seat's roots in one cut). By AI agents, Wed Nov 11 2026. No macro, syntax, notation, axiom, sorry.
-/
import Derived.Test.YtjblkmjdepdekaaDoorChecked
import GoSem.Claim
import GoSem.ClaimJoined
import GoSem.ClaimMapViews
import Derived.JoinedTies
import Derived.KernelRfl
namespace Go.Proofs.YtjblkmjdepdekaaDoor
/- THE CELL 'sum', in the pinned program and in every row, IS THE sha256 OF THE DUMP (.gsa) THAT YtjblkmjdepdekaaDoorProg.lean LOADS. Nothing in Lean hashes anything: it is a label: what it is worth is what the hold of that sum in a sandbox is worth. -/
noncomputable def Tryd.pinned : Pinned := { name := "ytjblkmjdepdekaadoor", sum := "fe2ac0d009b83974499272104104ee8b96e616de4ce24a353fe31e0acd17c756", checked := Tryd.checked }
namespace Rows
def none {H : Type} : Left H := { results := [], args := [] }

/- WHAT THE LISTED PACKAGE-LEVEL VARIABLES READ AS WHEN THE CALL BEGINS. Each datum BY PROGRAM (the guide's laid-datum.mjs) off the statement by which the dump's own 'gosem.cut.vars' lays the variable. In a bare row this is a premise. The card (YtjblkmjdepdekaaDoorCards.lean) ties it to the program's text. -/
def laid_compline_crc_nibbles {H : Type} : DataW H := .agg [.lit (.int .u32 0), .lit (.int .u32 498536548), .lit (.int .u32 997073096), .lit (.int .u32 651767980), .lit (.int .u32 1994146192), .lit (.int .u32 1802195444), .lit (.int .u32 1303535960), .lit (.int .u32 1342533948), .lit (.int .u32 3988292384), .lit (.int .u32 4027552580), .lit (.int .u32 3604390888), .lit (.int .u32 3412177804), .lit (.int .u32 2607071920), .lit (.int .u32 2262029012), .lit (.int .u32 2685067896), .lit (.int .u32 3183342108)]

/-- 'complinelaw05.WalKeeps': WHATEVER THE INPUT: true; the input reads as it did. -/
def walKeepsSpec : ChangeSpec := { name := "walKeeps", fn := fun _ => fun
  | [d] => { results := [.lit (.bool true)], args := [d] }
  | _ => none }
def walKeepsRow : OpenClaim := { program := "ytjblkmjdepdekaadoor", sum := "fe2ac0d009b83974499272104104ee8b96e616de4ce24a353fe31e0acd17c756", func := "compline/complinelaw05.WalKeeps", spec := "walKeeps", unfollowed := true, recurses := true, named := ["compline/crc.nibbles"], apart := false, laid := [("compline/crc.nibbles", laid_compline_crc_nibbles)] }
def WalKeepsSaid : Prop := walKeepsRow.holds Tryd.pinned (OpenSpec.ofChange walKeepsSpec)

/-- ITS FALSE NEIGHBOUR: 'it returns false'. Refute it at one input. -/
def walKeepsWrong : ChangeSpec := { name := "walKeeps", fn := fun _ => fun
  | [d] => { results := [.lit (.bool false)], args := [d] }
  | _ => none }
def WalKeepsWrongFalsely : Prop := walKeepsRow.holds Tryd.pinned (OpenSpec.ofChange walKeepsWrong)

/-- 'complinelaw05.WalTorn': WHATEVER THE INPUT: true; the input reads as it did. -/
def walTornSpec : ChangeSpec := { name := "walTorn", fn := fun _ => fun
  | [d1, d2, d3] => { results := [.lit (.bool true)], args := [d1, d2, d3] }
  | _ => none }
def walTornRow : OpenClaim := { program := "ytjblkmjdepdekaadoor", sum := "fe2ac0d009b83974499272104104ee8b96e616de4ce24a353fe31e0acd17c756", func := "compline/complinelaw05.WalTorn", spec := "walTorn", unfollowed := true, recurses := true, named := ["compline/crc.nibbles"], apart := false, laid := [("compline/crc.nibbles", laid_compline_crc_nibbles)] }
def WalTornSaid : Prop := walTornRow.holds Tryd.pinned (OpenSpec.ofChange walTornSpec)

/-- ITS FALSE NEIGHBOUR: 'it returns false'. Refute it at one input. -/
def walTornWrong : ChangeSpec := { name := "walTorn", fn := fun _ => fun
  | [d1, d2, d3] => { results := [.lit (.bool false)], args := [d1, d2, d3] }
  | _ => none }
def WalTornWrongFalsely : Prop := walTornRow.holds Tryd.pinned (OpenSpec.ofChange walTornWrong)

/-- 'complinelaw05.WalRoom': WHATEVER THE INPUT: true; the input reads as it did. -/
def walRoomSpec : ChangeSpec := { name := "walRoom", fn := fun _ => fun
  | [d1, d2] => { results := [.lit (.bool true)], args := [d1, d2] }
  | _ => none }
def walRoomRow : OpenClaim := { program := "ytjblkmjdepdekaadoor", sum := "fe2ac0d009b83974499272104104ee8b96e616de4ce24a353fe31e0acd17c756", func := "compline/complinelaw05.WalRoom", spec := "walRoom", unfollowed := true, recurses := true, named := ["compline/crc.nibbles"], apart := false, laid := [("compline/crc.nibbles", laid_compline_crc_nibbles)] }
def WalRoomSaid : Prop := walRoomRow.holds Tryd.pinned (OpenSpec.ofChange walRoomSpec)

/-- ITS FALSE NEIGHBOUR: 'it returns false'. Refute it at one input. -/
def walRoomWrong : ChangeSpec := { name := "walRoom", fn := fun _ => fun
  | [d1, d2] => { results := [.lit (.bool false)], args := [d1, d2] }
  | _ => none }
def WalRoomWrongFalsely : Prop := walRoomRow.holds Tryd.pinned (OpenSpec.ofChange walRoomWrong)

/-- 'complinelaw05.WalNone': WHATEVER THE INPUT: true; the input reads as it did. -/
def walNoneSpec : ChangeSpec := { name := "walNone", fn := fun _ => fun
  | [d] => { results := [.lit (.bool true)], args := [d] }
  | _ => none }
def walNoneRow : OpenClaim := { program := "ytjblkmjdepdekaadoor", sum := "fe2ac0d009b83974499272104104ee8b96e616de4ce24a353fe31e0acd17c756", func := "compline/complinelaw05.WalNone", spec := "walNone", unfollowed := true, recurses := true, named := ["compline/crc.nibbles"], apart := false, laid := [("compline/crc.nibbles", laid_compline_crc_nibbles)] }
def WalNoneSaid : Prop := walNoneRow.holds Tryd.pinned (OpenSpec.ofChange walNoneSpec)

/-- ITS FALSE NEIGHBOUR: 'it returns false'. Refute it at one input. -/
def walNoneWrong : ChangeSpec := { name := "walNone", fn := fun _ => fun
  | [d] => { results := [.lit (.bool false)], args := [d] }
  | _ => none }
def WalNoneWrongFalsely : Prop := walNoneRow.holds Tryd.pinned (OpenSpec.ofChange walNoneWrong)

/-- 'complinelaw05.WalTurns': WHATEVER THE INPUT: true; the input reads as it did. -/
def walTurnsSpec : ChangeSpec := { name := "walTurns", fn := fun _ => fun
  | [d1, d2] => { results := [.lit (.bool true)], args := [d1, d2] }
  | _ => none }
def walTurnsRow : OpenClaim := { program := "ytjblkmjdepdekaadoor", sum := "fe2ac0d009b83974499272104104ee8b96e616de4ce24a353fe31e0acd17c756", func := "compline/complinelaw05.WalTurns", spec := "walTurns", unfollowed := true, recurses := true, named := ["compline/crc.nibbles"], apart := false, laid := [("compline/crc.nibbles", laid_compline_crc_nibbles)] }
def WalTurnsSaid : Prop := walTurnsRow.holds Tryd.pinned (OpenSpec.ofChange walTurnsSpec)

/-- ITS FALSE NEIGHBOUR: 'it returns false'. Refute it at one input. -/
def walTurnsWrong : ChangeSpec := { name := "walTurns", fn := fun _ => fun
  | [d1, d2] => { results := [.lit (.bool false)], args := [d1, d2] }
  | _ => none }
def WalTurnsWrongFalsely : Prop := walTurnsRow.holds Tryd.pinned (OpenSpec.ofChange walTurnsWrong)

/- THE SECOND FORM. 'bulk': how many values and letters a reading holds, each counted each time it is reached (what is shared counts as often as it is met; a slice's spare places count too). A statement '..UptoSaid' is the law's where the arguments, and the package variables that the reading takes, are together of bulk at most 1048576: NARROWER than '..Said'. Prove '..Said' where nothing that the law and all that it calls make is longer than what came in: it says more and counts as full. Else prove '..UptoSaid'. A law counts once. -/
mutual
def uptoBulk {H : Type} : DataW H → Nat
  | .lit (.string bytes) => bytes.length + 1
  | .lit _ => 1
  | .nil => 1
  | .ptr d => uptoBulk d + 1
  | .slice elems spare => uptoBulkAll elems + uptoBulkAll spare + 1
  | .agg parts => uptoBulkAll parts + 1
  | .iface _ d => uptoBulk d + 1
  | .map entries => uptoBulkEntries entries + 1
  | .held _ => 1
def uptoBulkAll {H : Type} : List (DataW H) → Nat
  | [] => 0
  | d :: r => uptoBulk d + uptoBulkAll r
def uptoBulkEntries {H : Type} : List (Lit × DataW H) → Nat
  | [] => 0
  | x :: r => uptoBulkEntry x + uptoBulkEntries r
def uptoBulkEntry {H : Type} : Lit × DataW H → Nat
  | (.string bytes, d) => bytes.length + uptoBulk d + 1
  | (_, d) => uptoBulk d + 1
 end
def uptoSmall : (H : Type) → List (DataW H) → Bool := fun _ ds => decide (uptoBulkAll ds ≤ 1048576)
def OpenSpec.upto (s : _root_.Go.ChangeSpec) : _root_.Go.OpenSpec := { _root_.Go.OpenSpec.ofChange s with cond := some uptoSmall }

/-- 'complinelaw05.WalKeeps', WHERE WHAT IT READS IS OF BULK AT MOST 1048576: true; the input reads as it did. -/
def walKeepsUptoRow : OpenClaim := { program := "ytjblkmjdepdekaadoor", sum := "fe2ac0d009b83974499272104104ee8b96e616de4ce24a353fe31e0acd17c756", func := "compline/complinelaw05.WalKeeps", spec := "walKeeps", unfollowed := true, recurses := true, named := ["compline/crc.nibbles"], apart := false, laid := [("compline/crc.nibbles", laid_compline_crc_nibbles)], narrowed := true }
def WalKeepsUptoSaid : Prop := walKeepsUptoRow.holds Tryd.pinned (OpenSpec.upto walKeepsSpec)

/-- 'complinelaw05.WalTorn', WHERE WHAT IT READS IS OF BULK AT MOST 1048576: true; the input reads as it did. -/
def walTornUptoRow : OpenClaim := { program := "ytjblkmjdepdekaadoor", sum := "fe2ac0d009b83974499272104104ee8b96e616de4ce24a353fe31e0acd17c756", func := "compline/complinelaw05.WalTorn", spec := "walTorn", unfollowed := true, recurses := true, named := ["compline/crc.nibbles"], apart := false, laid := [("compline/crc.nibbles", laid_compline_crc_nibbles)], narrowed := true }
def WalTornUptoSaid : Prop := walTornUptoRow.holds Tryd.pinned (OpenSpec.upto walTornSpec)

/-- 'complinelaw05.WalRoom', WHERE WHAT IT READS IS OF BULK AT MOST 1048576: true; the input reads as it did. -/
def walRoomUptoRow : OpenClaim := { program := "ytjblkmjdepdekaadoor", sum := "fe2ac0d009b83974499272104104ee8b96e616de4ce24a353fe31e0acd17c756", func := "compline/complinelaw05.WalRoom", spec := "walRoom", unfollowed := true, recurses := true, named := ["compline/crc.nibbles"], apart := false, laid := [("compline/crc.nibbles", laid_compline_crc_nibbles)], narrowed := true }
def WalRoomUptoSaid : Prop := walRoomUptoRow.holds Tryd.pinned (OpenSpec.upto walRoomSpec)

/-- 'complinelaw05.WalNone', WHERE WHAT IT READS IS OF BULK AT MOST 1048576: true; the input reads as it did. -/
def walNoneUptoRow : OpenClaim := { program := "ytjblkmjdepdekaadoor", sum := "fe2ac0d009b83974499272104104ee8b96e616de4ce24a353fe31e0acd17c756", func := "compline/complinelaw05.WalNone", spec := "walNone", unfollowed := true, recurses := true, named := ["compline/crc.nibbles"], apart := false, laid := [("compline/crc.nibbles", laid_compline_crc_nibbles)], narrowed := true }
def WalNoneUptoSaid : Prop := walNoneUptoRow.holds Tryd.pinned (OpenSpec.upto walNoneSpec)

/-- 'complinelaw05.WalTurns', WHERE WHAT IT READS IS OF BULK AT MOST 1048576: true; the input reads as it did. -/
def walTurnsUptoRow : OpenClaim := { program := "ytjblkmjdepdekaadoor", sum := "fe2ac0d009b83974499272104104ee8b96e616de4ce24a353fe31e0acd17c756", func := "compline/complinelaw05.WalTurns", spec := "walTurns", unfollowed := true, recurses := true, named := ["compline/crc.nibbles"], apart := false, laid := [("compline/crc.nibbles", laid_compline_crc_nibbles)], narrowed := true }
def WalTurnsUptoSaid : Prop := walTurnsUptoRow.holds Tryd.pinned (OpenSpec.upto walTurnsSpec)

end Rows
end Go.Proofs.YtjblkmjdepdekaaDoor
