/- the walk of CrcSums -/
import Derived.Test.YtdjondmhckoelaaDoorCr
namespace Go.Proofs.YtdjondmhckoelaaDoor.Cr
open Go.RowKit Go.Lib Go.Proofs.YtdjondmhckoelaaDoor.By

theorem below_two {w a b : World} (h1 : Below w.heap.size w a) (h2 : Below a.heap.size a b) : Below w.heap.size w b := h1.trans (h2.mono h1.size)

set_option maxHeartbeats 2000000 in
theorem sums_walk (a1 : Option Addr) (n1 c1 : Nat) (l1 : List UInt8) (a2 : Option Addr) (n2 c2 : Nat) (l2 : List UInt8) (w : World) (h1 : IsB w a1 n1 c1 l1) (h2 : IsB w a2 n2 c2 l2) (hn : Nibs w) :
    Calls Tryd.prog 3 #[.slice a1 n1 c1, .slice a2 n2 c2] w fun e w' => e = .returned (.bool true) ∧ Below w.heap.size w w' := by
  have m1 := h1.le
  have m2 := h2.le
  unfold maxLen at m1 m2
  obtain rfl : l1.length = n1 := h1.1
  obtain rfl : l2.length = n2 := h2.1
  have HL := Lib.hid (lives_any w hn)
  have HN := Lib.hid hn
  have H1 := Lib.hid h1
  have H2 := Lib.hid h2
  clear h1 h2 hn
  by_cases b1 : 300 < l1.length
  · go_enter Tryd.func3, Tryd.ntmps3
    go_wp2_with fail
    refine HL.out.mono ?_
    rintro e wa ⟨rfl, hb⟩
    have HL2 := Lib.hid (lives_any wa (HN.out.old hb))
    have HB := Lib.hid hb
    clear hb
    go_wp2_with fail
    refine HL2.out.mono ?_
    rintro e wb ⟨rfl, hb2⟩
    go_wp2
    go_ret
    exact ⟨rfl, below_two HB.out hb2⟩
  · by_cases b2 : 300 < l2.length
    · go_enter Tryd.func3, Tryd.ntmps3
      go_wp2_with fail
      refine HL.out.mono ?_
      rintro e wa ⟨rfl, hb⟩
      have HL2 := Lib.hid (lives_any wa (HN.out.old hb))
      have HB := Lib.hid hb
      clear hb
      go_wp2_with fail
      refine HL2.out.mono ?_
      rintro e wb ⟨rfl, hb2⟩
      go_wp2
      go_ret
      exact ⟨rfl, below_two HB.out hb2⟩
    · go_enter Tryd.func3, Tryd.ntmps3
      go_wp2_with fail
      refine HL.out.mono ?_
      rintro e wa ⟨rfl, hb⟩
      have hb1 : Below w.heap.size w (wa.alloc (.cells #[] 5)) := hb.alloc hb.size _
      have i1 := H1.out.old hb1
      have i2 := H2.out.old hb1
      have HB := Lib.hid (And.intro hb hb1)
      have hsz := hb.size
      clear hb hb1
      go_wp2_with (at_builtin; refine wpList_append_bytes rfl _ _ rfl wa.heap.size _ 0 [] rfl ?c0 a1 l1.length c1 l1 rfl i1 ?c1 ?c2 ?_)
      case c0 => exact World.ownsRow_made wa #[] 0 (Nat.le_refl _) (Nat.zero_le _) rfl
      case c1 => omega
      case c2 => simp
      · intro ao cp w1 hown hg
        have hb1 : Below w.heap.size w w1 := HB.out.2.grown hg (by simp; omega) (fun k hk => by simp [Value.ownBlock] at hk; omega)
        have hge : wa.heap.size ≤ w1.heap.size := by have := hg.size; simp at this; omega
        have i2 := H2.out.old hb1
        have HB1 := Lib.hid hb1
        clear hb1 hg HB
        go_wp2_with (at_builtin; refine wpList_append_bytes rfl _ _ rfl wa.heap.size _ l1.length l1 rfl hown a2 l2.length c2 l2 rfl i2 ?c1 ?c2 ?_)
        case c1 => omega
        case c2 => exact hge
        · intro ao2 cp2 w2 hown2 hg2
          have hb2 : Below w.heap.size w w2 := HB1.out.grown hg2 HB1.out.size (fun k hk => by have := (hown.lt k hk).1; omega)
          rw [← List.length_append] at hown2
          obtain ⟨x2, y2, hv, hib⟩ := isB_own hown2
          simp only [Value.slice.injEq, true_and] at hv
          obtain ⟨rfl, rfl⟩ := hv
          rw [List.length_append] at hib
          have hn2 := HN.out.old hb2
          have S1 := sum_any a1 l1.length c1 l1 w2 (H1.out.old hb2) hn2
          have R1 := ref_any a1 l1.length c1 l1 w2 (H1.out.old hb2)
          have M2 := more_any (sum l1) a2 l2.length c2 l2 w2 (sum_u32 _) (H2.out.old hb2) hn2
          rw [more_sum] at M2
          have R2 := ref_any ao2 (l1.length + l2.length) cp2 (l1 ++ l2) w2 hib
          have S0 := sum_any none 0 0 [] w2 (isB_nil w2) hn2
          rw [show sum [] = 0 from rfl] at S0
          obtain ⟨s1, hs1⟩ : ∃ s1, s1 = sum l1 := ⟨_, rfl⟩
          obtain ⟨s2, hs2⟩ : ∃ s2, s2 = sum (l1 ++ l2) := ⟨_, rfl⟩
          rw [← hs1] at S1 R1 M2
          rw [← hs2] at M2 R2
          have HS := Lib.hid (And.intro S1 (And.intro R1 (And.intro M2 (And.intro R2 S0))))
          have HB2 := Lib.hid hb2
          clear S1 R1 M2 R2 S0 hib hown2 hown hg2 hn2 i1 i2 hge hsz hs1 hs2 hb2
          go_wp2_with fail
          ((with_reducible refine HS.out.1.mono ?_); rintro e w' ⟨rfl, rfl⟩)
          go_wp2_with fail
          ((with_reducible refine HS.out.2.1.mono ?_); rintro e w' ⟨rfl, rfl⟩)
          go_wp2_with fail
          ((with_reducible refine HS.out.1.mono ?_); rintro e w' ⟨rfl, rfl⟩)
          go_wp2_with fail
          ((with_reducible refine HS.out.2.2.1.mono ?_); rintro e w' ⟨rfl, rfl⟩)
          go_wp2_with fail
          ((with_reducible refine HS.out.2.2.2.1.mono ?_); rintro e w' ⟨rfl, rfl⟩)
          go_wp2_with fail
          ((with_reducible refine HS.out.2.2.2.2.mono ?_); rintro e w' ⟨rfl, rfl⟩)
          go_wp2
          go_ret
          exact ⟨rfl, HB2.out⟩
end Go.Proofs.YtdjondmhckoelaaDoor.Cr
