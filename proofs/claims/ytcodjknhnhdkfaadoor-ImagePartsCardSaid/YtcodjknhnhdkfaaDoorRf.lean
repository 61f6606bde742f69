
/- the document's numbers and texts as bytes (without a writer) -/
import Derived.Test.YtcodjknhnhdkfaaDoorBy
import Derived.WalkKit
import Derived.ProofKit
import Derived.OneCell
import Derived.WalkSpells
import Derived.Lib.Varint
import Derived.Lib.VarintMem
import Derived.Lib.Zigzag
import Derived.Lib.Hide
import Derived.Lib.BufferRead
import Derived.Laws.IdiomStrings
import Derived.Lib.AppendStr
import Derived.Deep.RegionHeld3
import Derived.Deep.RegionWith
namespace Go.Proofs.YtcodjknhnhdkfaaDoor.Rf
open Go.RowKit Go.Lib Go.Proofs.YtcodjknhnhdkfaaDoor.By
def U64 (n : Nat) : Prop := n < 18446744073709551616
theorem U64.div {n : Nat} (h : U64 n) (k : Nat) : U64 (n / k) := by unfold U64 at *; exact Nat.lt_of_le_of_lt (Nat.div_le_self _ _) h
/-- 'string(b)' -/
theorem str_of {w : World} {a : Option Addr} {len cap : Nat} {l : List UInt8} (h : IsB w a len cap l) : (convert 22 9 (.slice a len cap)).run Tryd.prog w = .ok (.string ⟨l.toArray⟩) w := by
  obtain ⟨rfl, ⟨rfl, h0, rfl⟩ | ⟨x, rfl, _, _, hcs⟩⟩ := h
  · obtain rfl : l = [] := List.length_eq_zero_iff.1 h0
    exact run_convert_nil_bytes w 22 9 5 0 Tryd.underlying22 Tryd.underlying5 Tryd.underlying9
  · exact run_convert_bytes_back w 22 9 5 x cap l Tryd.underlying22 Tryd.underlying5 Tryd.underlying9 (fun j hj => hcs j _ (by simp [byteCells, hj]))

theorem isB_one (w : World) (c : UInt8) : IsB (w.alloc (.cells #[.int .u8 c.toNat] 5)) (some ⟨w.heap.size, 0, none⟩) 1 1 [c] :=
  ⟨rfl, .inr ⟨_, rfl, by simp, by simp [maxLen], fun j u hu => by
    match j, hu with
    | 0, hu => simp [byteCells] at hu; subst hu; simp [Addr.add]⟩⟩
/-- a text's bytes -/
def textB (s : ByteArray) : List UInt8 := uvarint s.size ++ s.data.toList

/-! ### the document's -/
theorem bytes_app (a b : List UInt8) : (⟨a.toArray⟩ : ByteArray) ++ ⟨b.toArray⟩ = ⟨(a ++ b).toArray⟩ := by
  apply ByteArray.ext
  simp [ByteArray.data_append]
theorem bytes_size (l : List UInt8) : (⟨l.toArray⟩ : ByteArray).size = l.length := by
  show l.toArray.size = _; simp
theorem bytes_cons (c : UInt8) (r : List UInt8) : (⟨#[c]⟩ : ByteArray) ++ ⟨r.toArray⟩ = ⟨(c :: r).toArray⟩ := bytes_app [c] r

theorem zig_u64 {x : Int} (hx : (Lit.int .i64 x).wf = true) : U64 (zigzag x) := by
  have hb : -9223372036854775808 ≤ x ∧ x ≤ 9223372036854775807 := by simpa [Lit.wf, IntKind.min, IntKind.max, IntKind.signed, IntKind.bits] using hx
  exact zigzag_lt hb.1 hb.2
end Go.Proofs.YtcodjknhnhdkfaaDoor.Rf
