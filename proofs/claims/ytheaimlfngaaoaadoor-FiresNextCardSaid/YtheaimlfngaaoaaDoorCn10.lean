
/- expressions: CronLists' walk -/
import Derived.Test.YtheaimlfngaaoaaDoorCn9
namespace Go.Proofs.YtheaimlfngaaoaaDoor.Cn
open Go.RowKit Go.Lib Go.Proofs.YtheaimlfngaaoaaDoor.Ht
set_option linter.unusedVariables false

theorem str_app (a b : L) : (⟨a.toArray⟩ : ByteArray) ++ ⟨b.toArray⟩ = ⟨(a ++ b).toArray⟩ := by apply ByteArray.ext; simp
theorem errF_append (f : Fd) : ∀ (ps qs : List L), errF f (ps ++ qs) = if errF f ps = 0 then errF f qs else errF f ps
  | [], qs => by rw [List.nil_append, errF, if_pos rfl]
  | p :: ps, qs => by
    have ih := errF_append f ps qs
    rw [List.cons_append, errF, errF]
    by_cases h : errP f p = 0
    · rw [if_pos h, if_pos h, ih]
    · rw [if_neg h, if_neg h, if_neg h]
theorem parseE_cons {a r : L} (ha : (32 : UInt8) ∉ a) (hl : a.length + 1 + r.length ≤ 128) :
    parseE (a ++ 32 :: r) = if (sp 32 r).length = 4 then (if errF (fds 0) (sp 44 a) = 0 then errs 1 (sp 32 r) else errF (fds 0) (sp 44 a)) else 2 := by
  have e1 : sp 32 (a ++ 32 :: r) = a :: sp 32 r := by rw [sp_app, sp_free ha]; rfl
  unfold parseE
  rw [if_neg (by rw [List.length_append, List.length_cons]; omega), e1, List.length_cons]
  by_cases h : (sp 32 r).length = 4
  · rw [if_pos h, if_pos (by omega)]; rfl
  · rw [if_neg h, if_neg (by omega)]
theorem exOf_cons (a : L) (R : List L) : exOf (a :: R) = ⟨mk (setF (fds 0) (sp 44 a)), fv 1 (R.getD 0 []), fv 2 (R.getD 1 []), fv 3 (R.getD 2 []), mk (fold (setF (fds 4) (sp 44 (R.getD 3 [])))), decide (R.getD 1 [] = [42]), decide (R.getD 3 [] = [42])⟩ := rfl
theorem parseV_cons {a r : L} (ha : (32 : UInt8) ∉ a) (h : parseE (a ++ 32 :: r) = 0) : parseV (a ++ 32 :: r) = exOf (a :: sp 32 r) := by
  unfold parseV
  rw [if_pos h, sp_app, sp_free ha]; rfl
theorem setF_append (f : Fd) (ps qs : List L) : mk (setF f (ps ++ qs)) = mk (setF f ps) ||| mk (setF f qs) := by
  rw [mk_or]
  refine mk_congr fun x _ => ?_
  unfold setF
  rw [List.any_append]
theorem hb_or (n m : Nat) (x : Int) : hb (n ||| m) x = (hb n x || hb m x) := by
  unfold hb
  rw [Nat.testBit_or]
  cases decide (0 ≤ x) <;> rfl
theorem names_or (a b c d e f : Nat) (x y : Bool) (mo dd wd h mi : Int) :
    namesB ⟨a ||| b, c, d, e, f, x, y⟩ mo dd wd h mi = (namesB ⟨a, c, d, e, f, x, y⟩ mo dd wd h mi || namesB ⟨b, c, d, e, f, x, y⟩ mo dd wd h mi) := by
  unfold namesB
  dsimp only
  rw [hb_or]
  generalize (hb c h && (hb e mo && if (x || y) = true then hb d dd && hb f wd else hb d dd || hb f wd)) = Z
  cases hb a mi <;> cases hb b mi <;> cases Z <;> rfl
/-- what a list of two comes to -/
structure Lst (a b r : L) : Prop where
  bad : parseE (a ++ 32 :: r) ≠ 0 ∨ parseE (b ++ 32 :: r) ≠ 0 → parseE ((a ++ 44 :: b) ++ 32 :: r) ≠ 0
  good : parseE (a ++ 32 :: r) = 0 → parseE (b ++ 32 :: r) = 0 → parseE ((a ++ 44 :: b) ++ 32 :: r) = 0
  min : parseE (a ++ 32 :: r) = 0 → parseE (b ++ 32 :: r) = 0 → (parseV ((a ++ 44 :: b) ++ 32 :: r)).a = (parseV (a ++ 32 :: r)).a ||| (parseV (b ++ 32 :: r)).a
  tick : parseE (a ++ 32 :: r) = 0 → parseE (b ++ 32 :: r) = 0 → ∀ (t : Int) (x y z : Bool), AtIs (parseV (a ++ 32 :: r)) t x → AtIs (parseV (b ++ 32 :: r)) t y → AtIs (parseV ((a ++ 44 :: b) ++ 32 :: r)) t z → z = (x || y)
theorem lst {a b r : L} (ha : (32 : UInt8) ∉ a) (hb : (32 : UInt8) ∉ b) (la : a.length ≤ 20) (lb : b.length ≤ 20) (lr : r.length ≤ 60) : Lst a b r := by
  have hab : (32 : UInt8) ∉ a ++ 44 :: b := by
    rw [List.mem_append, List.mem_cons, not_or, not_or]; exact ⟨ha, by decide, hb⟩
  have ea := parseE_cons (r := r) ha (by omega)
  have eb := parseE_cons (r := r) hb (by omega)
  have eab := parseE_cons (r := r) hab (by rw [List.length_append, List.length_cons]; omega)
  rw [sp_app, errF_append] at eab
  have good : parseE (a ++ 32 :: r) = 0 → parseE (b ++ 32 :: r) = 0 → parseE ((a ++ 44 :: b) ++ 32 :: r) = 0 := by
    intro h1 h2
    rw [ea] at h1; rw [eb] at h2; rw [eab]
    split at h1
    · rename_i hR
      rw [if_pos hR] at h2 ⊢
      split at h1
      · rename_i h3
        split at h2
        · rename_i h4
          rw [if_pos h3, if_pos h4]; exact h2
        · omega
      · omega
    · omega
  refine ⟨?_, good, ?_, ?_⟩
  · intro h3 h4
    rw [eab] at h4
    rw [ea, eb] at h3
    split at h4
    · rename_i hR
      rw [if_pos hR, if_pos hR] at h3
      by_cases h5 : errF (fds 0) (sp 44 a) = 0
      · rw [if_pos h5] at h4 h3
        by_cases h6 : errF (fds 0) (sp 44 b) = 0
        · rw [if_pos h6] at h4 h3; omega
        · rw [if_neg h6] at h4; omega
      · rw [if_neg h5, if_neg h5] at h4; omega
    · omega
  · intro h1 h2
    rw [parseV_cons hab (good h1 h2), parseV_cons ha h1, parseV_cons hb h2, exOf_cons, exOf_cons, exOf_cons, sp_app]
    exact setF_append _ _ _
  · intro h1 h2 t x y z
    rw [parseV_cons hab (good h1 h2), parseV_cons ha h1, parseV_cons hb h2, exOf_cons, exOf_cons, exOf_cons, sp_app, setF_append]
    rintro (⟨o1, rfl⟩ | ⟨o1, y1, mo, d, wd, hh, mi, hi, rfl⟩) (⟨o2, rfl⟩ | ⟨o2, y2, mo2, d2, wd2, hh2, mi2, hj, rfl⟩) (⟨o3, rfl⟩ | ⟨o3, y3, mo3, d3, wd3, hh3, mi3, hk, rfl⟩)
    all_goals first | omega | skip
    · rfl
    · obtain ⟨rfl, rfl, rfl, rfl, rfl, rfl⟩ := hi.same hj
      obtain ⟨rfl, rfl, rfl, rfl, rfl, rfl⟩ := hi.same hk
      exact names_or _ _ _ _ _ _ _ _ _ _ _ _ _
end Go.Proofs.YtheaimlfngaaoaaDoor.Cn
