/- the package's table of fields, out of what the row lists; the library's variable, out of the world's shape -/
import Derived.Test.YtcodjknhnhdkfaaGreatDoorBr31
import Derived.Test.YtcodjknhnhdkfaaGreatDoorSh
import Derived.Test.YtcodjknhnhdkfaaGreatDoorTie
import Derived.Test.YtcodjknhnhdkfaaGreatDoorCards
import Derived.OpenShut
import Derived.LaidMore
import Derived.Lay
import Derived.SevenTiedAt
import Derived.Stop.Joined
import Derived.Lib.LaidU8
import Derived.Shelf.Vars
namespace Go.Proofs.YtcodjknhnhdkfaaGreatDoor.CnL
open Go.ChangeShapes Go.WideShapes Go.ChangeAt Go.RowKit Go.Proofs.YtcodjknhnhdkfaaGreatDoor.Cn

theorem three_of {α : Type} {l : List α} (h : l.length = 3) : ∃ a b c, l = [a, b, c] := by
  match l, h with
  | [a, b, c], _ => exact ⟨a, b, c, rfl⟩
theorem field3 {w : World} {base fuel : Nat} {sp : Nat → Bool} {held : Bool} {enc : TypeId × Value → Unit} {cs : List Value} {x y : Int} {l : List UInt8} {p : List MemPlace}
    (h : DataW.trod enc Tryz.prog w base sp held fuel 164 cs = some (.agg [.lit (.int .i64 x), .lit (.int .i64 y), .lit (.string l)], p)) :
    cs = [.int .i64 x, .int .i64 y, S l] := by
  obtain ⟨xs, n, _, ex, hl, hn, hel⟩ := DataW.trod_struct Tryz.underlying164 h
  have c3 : Tryz.prog.cellsOf 164 = 3 := by kernel_rfl
  have c1 : Tryz.prog.cellsOf 3 = 1 := by kernel_rfl
  have cS : Tryz.prog.cellsOf 9 = 1 := by kernel_rfl
  have e3 : xs.map (·.1) = [.lit (.int .i64 x), .lit (.int .i64 y), .lit (.string l)] := (DataW.agg.inj (Prod.mk.inj ex).1).symm
  have hn3 : xs.length = 3 := hn
  clear hn ex
  obtain ⟨q0, q1, q2, rfl⟩ : ∃ q0 q1 q2, xs = [q0, q1, q2] := three_of hn3
  obtain ⟨v0, v1, v2, rfl⟩ : ∃ q0 q1 q2, cs = [q0, q1, q2] := by
    rw [c3] at hl
    exact three_of hl
  simp only [List.map_cons, List.map_nil, List.cons.injEq, and_true] at e3
  have g0 := hel 0 _ rfl
  have h0 : DataW.trod enc Tryz.prog w base sp held n 3 (List.take (Tryz.prog.cellsOf 3) (List.drop 0 [v0, v1, v2])) = some q0 := g0
  rw [c1] at h0
  have g1 := hel 1 _ rfl
  have h1 : DataW.trod enc Tryz.prog w base sp held n 3 (List.take (Tryz.prog.cellsOf 3) (List.drop 1 [v0, v1, v2])) = some q1 := g1
  rw [c1] at h1
  have g2 := hel 2 _ rfl
  have h2 : DataW.trod enc Tryz.prog w base sp held n 9 (List.take (Tryz.prog.cellsOf 9) (List.drop 2 [v0, v1, v2])) = some q2 := g2
  rw [cS] at h2
  obtain ⟨z0, a0, b0, _⟩ := DataW.trod_int Tryz.underlying3 h0
  obtain ⟨z1, a1, b1, _⟩ := DataW.trod_int Tryz.underlying3 h1
  obtain ⟨s2, a2, b2, _⟩ := DataW.trod_string Tryz.underlying9 h2
  simp at a0 a1 a2
  rw [a0, a1, a2]
  rw [b0] at e3; rw [b1] at e3; rw [b2] at e3
  simp at e3
  obtain ⟨rfl, rfl, e⟩ := e3
  rw [← e]
theorem fifteen {α : Type} {c : List α} (h : c.length = 15) : c = (c.drop (0 * 3)).take 3 ++ ((c.drop (1 * 3)).take 3 ++ ((c.drop (2 * 3)).take 3 ++ ((c.drop (3 * 3)).take 3 ++ (c.drop (4 * 3)).take 3))) := by
  match c, h with
  | [_, _, _, _, _, _, _, _, _, _, _, _, _, _, _], _ => rfl
set_option maxRecDepth 20000 in
theorem fields_of {W : World} {l : List (String × DataW Unit)} (h : laidMet Tryz.prog l W) (hm : ("compline/cron.fields", Rows.laid_compline_cron_fields) ∈ l) :
    ∀ (k : Nat) (v : Value), fldC[k]? = some v → W.cell? ⟨0, k, none⟩ = some v := by
  obtain ⟨g, t, cs, fuel, p, hg, ht, hv, hd⟩ := Lib.laidMet.reads h hm
  obtain rfl := Option.some.inj ((show Tryz.prog.globalNamed "compline/cron.fields" = some 0 by kernel_rfl).symm.trans hg)
  obtain rfl := Option.some.inj ((show (Tryz.prog.globals[0]?).map (·.type) = some 165 by kernel_rfl).symm.trans ht)
  obtain ⟨xs, m, _, ex, hl, hn, hel⟩ := DataW.trod_array Tryz.underlying165 hd
  have c15 : Tryz.prog.cellsOf 165 = 15 := by kernel_rfl
  have c3 : Tryz.prog.cellsOf 164 = 3 := by kernel_rfl
  have e5 : xs.map (·.1) = [.agg [.lit (.int .i64 0), .lit (.int .i64 59), .lit (.string [])], .agg [.lit (.int .i64 0), .lit (.int .i64 23), .lit (.string [])], .agg [.lit (.int .i64 1), .lit (.int .i64 31), .lit (.string [])], .agg [.lit (.int .i64 1), .lit (.int .i64 12), .lit (.string (fds 3).nm)], .agg [.lit (.int .i64 0), .lit (.int .i64 7), .lit (.string (fds 4).nm)]] := (DataW.agg.inj (Prod.mk.inj ex).1).symm
  have hpiece : ∀ (i : Nat) (x y : Int) (l : List UInt8), i < 5 → (xs.map (·.1))[i]? = some (.agg [.lit (.int .i64 x), .lit (.int .i64 y), .lit (.string l)]) → (cs.toList.drop (i * 3)).take 3 = [.int .i64 x, .int .i64 y, S l] := by
    intro i x y l hi hx
    have h1 := hel i hi
    rw [c3] at h1
    rw [List.getElem?_map, Option.map_eq_some_iff] at hx
    obtain ⟨⟨d, q⟩, hq, hd'⟩ := hx
    dsimp only at hd'
    rw [hq, hd'] at h1
    exact field3 h1
  rw [c15] at hl
  rw [e5] at hpiece
  have p0 := hpiece 0 _ _ _ (by decide) rfl
  have p1 := hpiece 1 _ _ _ (by decide) rfl
  have p2 := hpiece 2 _ _ _ (by decide) rfl
  have p3 := hpiece 3 _ _ _ (by decide) rfl
  have p4 := hpiece 4 _ _ _ (by decide) rfl
  have hall : cs.toList = fldC.toList := by
    have e : cs.toList = (cs.toList.drop (0 * 3)).take 3 ++ ((cs.toList.drop (1 * 3)).take 3 ++ ((cs.toList.drop (2 * 3)).take 3 ++ ((cs.toList.drop (3 * 3)).take 3 ++ (cs.toList.drop (4 * 3)).take 3))) := by
      obtain ⟨c, hc⟩ : ∃ c, c = cs.toList := ⟨_, rfl⟩
      rw [← hc] at hl ⊢
      exact fifteen hl
    rw [e, p0, p1, p2, p3, p4]; rfl
  intro k v hk
  rw [World.var?_cell (by kernel_rfl) hv k]
  rw [← Array.getElem?_toList, hall, Array.getElem?_toList]
  exact hk
theorem mx_of {W : World} (hsh : W.ShapedOpen Tryz.prog) : Mx W :=
  cell_of_shapedOpen_int (g := 1) (t := 3) (zero := #[.int .i64 0]) hsh (of_decide_eq_true (by kernel_rfl)) (by kernel_rfl) (by kernel_rfl) (by kernel_rfl) (by kernel_rfl) Tryz.underlying3
def laidL : List (String × DataW Unit) := [("unicode/utf8.acceptRanges", Rows.laid_unicode_utf8_acceptRanges), ("compline/cron.fields", Rows.laid_compline_cron_fields), ("unicode/utf8.first", Rows.laid_unicode_utf8_first)]
theorem gl_of {W : World} (h : laidMetH Tryz.prog laidL W) (hsh : W.ShapedOpen Tryz.prog) : Gl W := by
  rw [MakeChecks.laidMetH_plain _ _ _ (by kernel_rfl)] at h
  exact ⟨mx_of hsh, fields_of h (.tail _ (.head _))⟩
theorem met_laid (os : Os) (args : Array Value) : laidMetH Tryz.prog laidL ((World.laidAll Tryz.prog os laidL).forCall (fun _ _ => 0) ⟨#[], args, []⟩).memory := by
  rw [MakeChecks.laidMetH_plain _ _ _ (by kernel_rfl)]; exact laidMet_laidAll _ (by kernel_rfl) (by kernel_rfl)
end Go.Proofs.YtcodjknhnhdkfaaGreatDoor.CnL
