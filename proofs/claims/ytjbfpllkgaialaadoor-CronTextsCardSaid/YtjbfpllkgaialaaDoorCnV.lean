
/- expressions: CronTexts' walk -/
import Derived.Test.YtjbfpllkgaialaaDoorCnX
import Derived.Test.YtjbfpllkgaialaaDoorCnB
namespace Go.Proofs.YtjbfpllkgaialaaDoor.Cn
open Go.RowKit Go.Lib
set_option linter.unusedVariables false

set_option maxRecDepth 20000 in
set_option maxHeartbeats 8000000 in
theorem texts_in (s : L) (hl : s.length ≤ 200) (w : World) (hg : Gd w) :
    Calls Tryd.prog 4 #[S s] w fun e w' => e = .returned (.bool true) ∧ Below w.heap.size w w' := by
  have hz := size_S s
  have hlI : ((s.length : Nat) : Int) ≤ 200 := by omega
  have hP := fun W hW => parse_any s W hW
  have hok := exOk_parse s
  have hT := fun W hW => Text_any (parseV s) hok W hW
  have hzt := size_S (exT (parseV s))
  have hQ := fun W hW => parse_any (exT (parseV s)) W hW
  have hb := fun h => back (s := s) h
  have hlong : 128 < (exT (parseV s)).length → parseE (exT (parseV s)) = 15 := fun h => by unfold parseE; rw [if_pos h]
  generalize parseV s = X at hP hT hzt hQ hb hlong
  generalize parseE s = e at hP hb
  generalize exT X = T at hT hzt hQ hb hlong
  generalize parseV T = Y at hQ hb
  generalize parseE T = f at hQ hb hlong
  have HG := Lib.hid hg
  have HH := Lib.hid (And.intro hP (And.intro hT (And.intro hQ (And.intro hb hlong))))
  clear hP hT hQ hb hlong hg hok hl
  go_enter Tryd.func4, Tryd.ntmps4
  go_wp2_with fail
  refine (lives07_any w HG.out.gl).mono ?_
  rintro q w1 ⟨rfl, hb1⟩
  have H1 := Lib.hid hb1
  clear hb1
  go_wp2_with fail
  refine (HH.out.1 w1 (HG.out.old H1.out).gl).mono ?_
  rintro q w2 ⟨rfl, hb⟩
  have hb2 := H1.out.trans (hb.mono H1.out.size)
  obtain ⟨a1, a2, a3⟩ := cell_new w2 (exC X) 25
  have H2 := Lib.hid (And.intro (hb2.trans (a1.mono hb2.size)) a2)
  clear hb hb2 a1 a2 a3
  by_cases he : e = 0
  · subst he
    go_wp2_with fail
    refine (HH.out.2.1 _ (HG.out.old H2.out.1)).mono ?_
    rintro q w3 ⟨rfl, hb⟩
    have H3 := Lib.hid (And.intro (H2.out.1.trans (hb.mono H2.out.1.size)) (old_blk hb H2.out.2))
    clear hb
    go_wp2_with fail
    refine (HH.out.2.2.1 _ (HG.out.old H3.out.1).gl).mono ?_
    rintro q w4 ⟨rfl, hb⟩
    have hb4 := H3.out.1.trans (hb.mono H3.out.1.size)
    have hx4 := old_blk hb H3.out.2
    obtain ⟨a1, a2, a3⟩ := cell_new w4 (exC Y) 25
    have H4 := Lib.hid (And.intro (hb4.trans (a1.mono hb4.size)) (And.intro (old_blk a1 hx4) a2))
    clear hb hb4 hx4 a1 a2 a3
    by_cases hl : 128 < T.length
    · have hf := HH.out.2.2.2.2 hl
      have hlT : (128 : Int) < (T.length : Nat) := by omega
      subst hf
      go_wp2_with fail
      go_ret
      exact ⟨rfl, H4.out.1⟩
    · obtain ⟨hf, hY⟩ := HH.out.2.2.2.1 trivial (by omega)
      have hlT : ¬ (128 : Int) < (T.length : Nat) := by omega
      subst hf
      subst hY
      obtain ⟨⟨c0, c1, c2, c3, c4, c5, c6⟩, _⟩ := seven H4.out.2.1
      go_wp2_with fail
      refine (HH.out.2.1 _ (HG.out.old H4.out.1)).mono ?_
      rintro q w5 ⟨rfl, hb⟩
      go_wp2_with fail
      go_ret
      exact ⟨rfl, H4.out.1.trans (hb.mono H4.out.1.size)⟩
  · have heI : ((e : Int) != 0) = true := by simp; omega
    go_wp2_with fail
    go_ret
    exact ⟨rfl, H2.out.1⟩
theorem texts_long (s : L) (hl : 200 < s.length) (w : World) (hg : Gd w) :
    Calls Tryd.prog 4 #[S s] w fun e w' => e = .returned (.bool true) ∧ Below w.heap.size w w' := by
  have hz := size_S s
  have hlI : (200 : Int) < (s.length : Nat) := by omega
  have HG := Lib.hid hg
  clear hg
  go_enter Tryd.func4, Tryd.ntmps4
  go_wp2_with fail
  refine (lives07_any w HG.out.gl).mono ?_
  rintro q w1 ⟨rfl, hb1⟩
  have H1 := Lib.hid hb1
  clear hb1
  go_wp2_with fail
  refine (lives07_any w1 (HG.out.old H1.out).gl).mono ?_
  rintro q w2 ⟨rfl, hb2⟩
  go_wp2_with fail
  go_ret
  exact ⟨rfl, H1.out.trans (hb2.mono H1.out.size)⟩
theorem texts_law (a : ByteArray) (w : World) (hg : Gd w) :
    Calls Tryd.prog 4 #[.string a] w fun e w' => e = .returned (.bool true) ∧ Below w.heap.size w w' := by
  rw [show Value.string a = S a.data.toList by cases a; simp [S]]
  by_cases h : a.data.toList.length ≤ 200
  · exact texts_in _ h w hg
  · exact texts_long _ (by omega) w hg
end Go.Proofs.YtjbfpllkgaialaaDoor.Cn
