
/- an expression's text: its values, written out -/
import Derived.Test.YtkkanggkbbmfnaaGreatDoorCnT
import Derived.Test.YtkkanggkbbmfnaaGreatDoorBy
import Derived.Shelf.Spec.TrailingZeros
namespace Go.Proofs.YtkkanggkbbmfnaaGreatDoor.Cn
open Go.RowKit Go.Lib
set_option linter.unusedVariables false

/-- what a text reads beside: the table of the library -/
structure Gd (w : World) : Prop where
  gl : Gl w
  db : ∀ j, j < 64 → w.cell? ⟨5, j, none⟩ = some (.int .u8 (deBruijn64tab.getD j 0 : Nat))
theorem Gd.old {w w' : World} (h : Gd w) (hb : Below w.heap.size w w') : Gd w' :=
  ⟨h.gl.old hb, fun j hj => (hb.cell (World.block_lt_of_cell? _ _ (h.db j hj))).trans (h.db j hj)⟩
set_option maxRecDepth 20000 in
set_option maxHeartbeats 1000000 in
theorem tz_core (x k idx : Nat) (w : World) (h0 : ((x : Int) == 0) = false)
    (key : IntKind.u64.wrap (bits BinOp.and IntKind.u64 (x : Int) (IntKind.u64.wrap (-(x : Int))) * 285870213051353865) / 288230376151711744 = (idx : Int))
    (hi : idx < 64) (hk : k < 64) (hcell : w.cell? ⟨5, idx, none⟩ = some (.int .u8 (k : Nat))) :
    Calls Tryz.prog 94 #[.int .u64 x] w fun e w' => e = .returned (.int .i64 (k : Nat)) ∧ w' = w := by
  go_enter Tryz.func94, Tryz.ntmps94
  go_wp2_with (simp only [key])
  go_ret
  exact ⟨rfl, rfl⟩
theorem tz_any (x : Nat) (hx0 : x ≠ 0) (hx : x < 18446744073709551616) (w : World) (hg : Gd w) :
    Calls Tryz.prog 94 #[u x] w fun e w' => e = .returned (.int .i64 (ctz 64 x : Nat)) ∧ w' = w := by
  obtain ⟨hlow, hk⟩ := lowest_bit 64 x hx0 hx
  obtain ⟨hi, htab⟩ := deBruijn64_at _ hk
  have hcell := hg.db _ hi
  rw [htab] at hcell
  exact tz_core x _ _ w (by simp; omega) (tz64_key x _ hx hx0 hlow) hi hk hcell
theorem info9 : (Tryz.prog.info? 9).map (fun i => (i.zero, i.size, i.bytes)) = some (some (.string ⟨#[]⟩), 1, 16) := by kernel_rfl
theorem bytes_eq (x : ByteArray) (l : L) (h : x.data.toList = l) : x = ⟨l.toArray⟩ := by subst h; cases x; simp
/-- the values' texts as cells -/
abbrev decs (l : List Nat) : List Value := l.map fun j => S (decDigits j)
end Go.Proofs.YtkkanggkbbmfnaaGreatDoor.Cn
