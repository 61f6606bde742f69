
/- heap's example -/
import Derived.Test.YtpeapbhhlfbolaaHpXD
namespace Go.Proofs.Ytpeapbhhlfbolaa.HpV
open Go.RowKit Go.Lib Go.Sort Hp HpD
set_option linter.unusedVariables false
set_option maxRecDepth 20000
theorem str_app (a b : List UInt8) : (⟨(a ++ b).toArray⟩ : ByteArray) = ⟨a.toArray⟩ ++ ⟨b.toArray⟩ := by simp [ByteArray.ext_iff]
def three : List (K × Int) := [([99], 1), ([97], 2), ([98], 2)]
def cab : List UInt8 := [99, 97, 98]
def strlen : Value → Nat
  | .string s => s.size
  | _ => 0
theorem lst_three {j : Nat} (h : j < 3) : ∃ x, three.drop j = x :: three.drop (j + 1) ∧ Lst (three.drop j) x ∧ x.1 = [cab.getD j 0] ∧ cut x.1 (three.drop j) = three.drop (j + 1) := by
  match j, h with
  | 0, _ => exact ⟨([99], 1), rfl, ⟨by decide, by decide⟩, rfl, by decide⟩
  | 1, _ => exact ⟨([97], 2), rfl, ⟨by decide, by decide⟩, rfl, by decide⟩
  | 2, _ => exact ⟨([98], 2), rfl, ⟨by decide, by decide⟩, rfl, by decide⟩
theorem lives_any (w : World) : Calls Try.prog 6 #[] w fun e w' => e = .returned (.bool true) ∧ Below w.heap.size w w' := by
  have k1 : wk [98] := by unfold wk; decide
  have k2 : wk [97] := by unfold wk; decide
  have k3 : wk [99] := by unfold wk; decide
  have HK := Lib.hid (And.intro k1 (And.intro k2 k3))
  clear k1 k2 k3
  go_enter Try.func6, Try.ntmps6
  go_wp2_with fail
  refine (new_x w).mono ?_
  rintro e w1 ⟨rfl, h1, b1⟩
  have p1 := h1.put b1.size HK.out.1 2 (by decide)
  have HB1 := Lib.hid b1
  clear h1 b1
  unfold ek er at p1
  go_wp2_with fail
  refine p1.mono ?_
  rintro e w2 ⟨rfl, h2, b2⟩
  have b2' := HB1.out.trans b2
  have p2 := h2.put b2'.size HK.out.2.1 2 (by decide)
  have HB2 := Lib.hid b2'
  clear h2 b2 b2' p1
  unfold ek er at p2
  go_wp2_with fail
  refine p2.mono ?_
  rintro e w3 ⟨rfl, h3, b3⟩
  have b3' := HB2.out.trans b3
  have p3 := h3.put b3'.size HK.out.2.2 1 (by decide)
  have HB3 := Lib.hid b3'
  clear h3 b3 b3' p2
  unfold ek er at p3
  go_wp2_with fail
  refine p3.mono ?_
  rintro e w4 ⟨rfl, h4, b4⟩
  have h4' : Hx w.heap.size w4 w.heap.size three := h4.perm (by decide)
  have HB4 := Lib.hid (And.intro h4' (HB3.out.trans b4))
  clear h4 b4 p3 h4'
  go_wp2_with fail
  go_loopw [2] (fun s wr => ∃ j : Nat, j ≤ 3 ∧ s = .string ⟨(cab.take j).toArray⟩ ∧ Hx w.heap.size wr w.heap.size (three.drop j) ∧ Below w.heap.size w wr) (fun s _ => 3 - strlen s)
  case atStart => exact ⟨0, by decide, rfl, HB4.out.1, HB4.out.2⟩
  case round =>
    obtain ⟨j, hj, rfl, hx, hb⟩ := hrel
    have hlen := hx.len
    have hl3 : (three.drop j).length = 3 - j := by simp [three]
    rw [hl3] at hlen
    have hsz : (⟨(cab.take j).toArray⟩ : ByteArray).size = j := by
      show (cab.take j).toArray.size = j
      simp [cab]; omega
    by_cases hlt : j < 3
    · obtain ⟨x, hd, hlst, hkey, hcut⟩ := lst_three hlt
      have hp := hx.pop hb.size (by rw [hd]; simp) (by rw [hl3]; omega)
      have HX := Lib.hid (And.intro hlst (And.intro hkey (And.intro hcut (And.intro hb hsz))))
      have hgt : ((3 - j : Nat) : Int) > 0 := by omega
      have HP := Lib.hid hp
      have HJ := Lib.hid hlt
      clear hlst hkey hcut hb hx hp hl3 hd hj hlt hsz
      go_wp2_with fail
      refine hlen.mono ?_
      rintro e w5 ⟨rfl, rfl⟩
      clear hlen
      go_wp2_with fail
      refine HP.out.mono ?_
      rintro e w6 ⟨y, hy, rfl, h6, b6⟩
      obtain rfl := hy.one HX.out.1
      rw [HX.out.2.2.1] at h6
      have H6 := Lib.hid (And.intro h6 (HX.out.2.2.2.1.trans b6))
      unfold item ek er
      rw [HX.out.2.1]
      obtain ⟨c, hc⟩ : ∃ c, c = cab.getD j 0 := ⟨_, rfl⟩
      rw [← hc]
      have HC := Lib.hid hc
      clear h6 b6 hy hc HP
      have hsz := HX.out.2.2.2.2
      have hj := HJ.out
      go_wp2_with fail
      have hb6 : Below w6.heap.size w6 (w6.alloc (.cells #[.string ⟨#[c]⟩, .int .i64 y.2] 76)) := (Below.refl _ _).alloc (Nat.le_refl _) _
      have hstr : (⟨(List.take j cab).toArray⟩ ++ ⟨#[c]⟩ : ByteArray) = ⟨(List.take (j + 1) cab).toArray⟩ := by
        have h1 : List.take (j + 1) cab = List.take j cab ++ [c] := by
          rw [List.take_add_one, HC.out]
          have : j < cab.length := hj
          rw [List.getD_eq_getElem?_getD, List.getElem?_eq_getElem this]; rfl
        rw [h1, str_app]
      rw [hstr]
      exact ⟨⟨j + 1, hj, rfl, H6.out.1.old hb6, H6.out.2.trans (hb6.mono H6.out.2.size)⟩, by
        have h2 : strlen (.string ⟨(List.take (j + 1) cab).toArray⟩) = j + 1 := by show (List.take (j + 1) cab).toArray.size = j + 1; simp [cab]; omega
        have h3 : strlen (.string ⟨(List.take j cab).toArray⟩) = j := hsz
        rw [h2, h3]; omega⟩
    · obtain rfl : j = 3 := by omega
      have HX := Lib.hid hb
      clear hb hx hl3 hj hlt
      go_wp2_with fail
      refine hlen.mono ?_
      rintro e w5 ⟨rfl, rfl⟩
      clear hlen
      go_wp2_with fail
      go_ret
      exact ⟨by simp [cab], HX.out⟩
end Go.Proofs.Ytpeapbhhlfbolaa.HpV
