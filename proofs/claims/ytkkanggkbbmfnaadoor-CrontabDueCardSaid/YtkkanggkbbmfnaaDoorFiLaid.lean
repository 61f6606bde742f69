
/- the tables that a text reads, out of what the row lists -/
import Derived.Test.YtkkanggkbbmfnaaDoorCnLaid
import Derived.Test.YtkkanggkbbmfnaaDoorCnTw
import Derived.Lib.LaidTab
namespace Go.Proofs.YtkkanggkbbmfnaaDoor.FiL
open Go.ChangeShapes Go.WideShapes Go.ChangeAt Go.RowKit Go.Proofs.YtkkanggkbbmfnaaDoor.Cn Go.Proofs.YtkkanggkbbmfnaaDoor.CnL

def laidL : List (String × DataW Unit) := [("math/bits.deBruijn64tab", Rows.laid_math_bits_deBruijn64tab), ("unicode/utf8.acceptRanges", Rows.laid_unicode_utf8_acceptRanges), ("compline/cron.fields", Rows.laid_compline_cron_fields), ("unicode/utf8.first", Rows.laid_unicode_utf8_first)]
theorem tab_of {W : World} {l : List (String × DataW Unit)} (h : laidMet Tryd.prog l W) (hm : ("math/bits.deBruijn64tab", Rows.laid_math_bits_deBruijn64tab) ∈ l) :
    ∀ j, j < 64 → W.cell? ⟨1, j, none⟩ = some (.int .u8 (Lib.deBruijn64tab.getD j 0 : Nat)) := by
  obtain ⟨g, t, cs, fuel, p, hg, ht, hv, hd⟩ := Lib.laidMet.reads h hm
  obtain rfl := Option.some.inj ((show Tryd.prog.globalNamed "math/bits.deBruijn64tab" = some 1 by kernel_rfl).symm.trans hg)
  obtain rfl := Option.some.inj ((show (Tryd.prog.globals[1]?).map (·.type) = some 110 by kernel_rfl).symm.trans ht)
  have hd2 : DataW.trod (fun _ => ()) Tryd.prog W 0 (fun _ => true) false fuel 110 cs.toList = some (Lib.tabData .u8 (Lib.deBruijn64tab.map fun n => ((n : Nat) : Int)), p) := hd
  have hc := Lib.cells_of_tab Tryd.underlying110 Tryd.underlying5 (by kernel_rfl) (by kernel_rfl) hd2
  intro j hj
  rw [World.var?_cell hg hv j, ← Array.getElem?_toList, hc]
  have hlen : Lib.deBruijn64tab.length = 64 := rfl
  simp only [List.getElem?_map, List.getD]
  rw [List.getElem?_eq_getElem (by omega : j < Lib.deBruijn64tab.length)]
  rfl
theorem gl_of {W : World} (h : laidMetH Tryd.prog laidL W) (hsh : W.ShapedOpen Tryd.prog) : Gd W := by
  rw [MakeChecks.laidMetH_plain _ _ _ (by kernel_rfl)] at h
  exact ⟨⟨mx_of hsh, fields_of h (.tail _ (.tail _ (.head _)))⟩, tab_of h (.head _)⟩
theorem met_laid (os : Os) (args : Array Value) : laidMetH Tryd.prog laidL ((World.laidAll Tryd.prog os laidL).forCall (fun _ _ => 0) ⟨#[], args, []⟩).memory := by
  rw [MakeChecks.laidMetH_plain _ _ _ (by kernel_rfl)]; exact laidMet_laidAll _ (by kernel_rfl) (by kernel_rfl)
end Go.Proofs.YtkkanggkbbmfnaaDoor.FiL
