
/- expressions: CronNames' walk -/
import Derived.Test.YtheaimlfngaaoaaDoorRc6
import Derived.Test.YtheaimlfngaaoaaDoorCa6
namespace Go.Proofs.YtheaimlfngaaoaaDoor.Cn
open Go.RowKit Go.Lib
set_option linter.unusedVariables false

theorem hb_mk {p : Nat → Bool} {x : Nat} (h : x < 64) : hb (mk p) ((x : Nat) : Int) = p x := by
  unfold hb
  rw [Int.toNat_natCast, mk_bit]
  simp [h]
theorem fp_day {d : Nat} (h1 : 1 ≤ d) (h2 : d ≤ 31) : fp 2 (sp 44 [42]) d = true := by
  have e : sp 44 [42] = [[42]] := by decide
  unfold fp
  rw [if_neg (by decide), e]
  unfold setF
  rw [List.any_cons, List.any_nil, Bool.or_false, read_star _ (fds_ok 2)]
  have : (fds 2).lo = 1 ∧ (fds 2).hi = 31 := ⟨rfl, rfl⟩
  unfold inP
  simp [this.1, this.2, Nat.mod_one]; omega
theorem fp_wd {d : Nat} (h2 : d ≤ 6) : fp 4 (sp 44 [42]) d = true := by
  have e : sp 44 [42] = [[42]] := by decide
  have hs : ∀ y, y ≤ 7 → setF (fds 4) (sp 44 [42]) y = true := fun y hy => by
    rw [e]
    unfold setF
    rw [List.any_cons, List.any_nil, Bool.or_false, read_star _ (fds_ok 4)]
    have : (fds 4).lo = 0 ∧ (fds 4).hi = 7 := ⟨rfl, rfl⟩
    unfold inP
    simp [this.1, this.2, Nat.mod_one]; omega
  unfold fp
  rw [if_pos rfl]
  unfold fold
  rw [hs d (by omega)]
  have : ¬ d = 7 := by omega
  simp [this]
/-- a moment's numbers -/
theorem moment_nat {t y mo d wd h mi : Int} (i : Ca.IsM t y mo d wd h mi) : ∃ mo' d' wd' h' mi' : Nat, mo = (mo' : Nat) ∧ d = (d' : Nat) ∧ wd = (wd' : Nat) ∧ h = (h' : Nat) ∧ mi = (mi' : Nat) ∧ mo' ≤ 12 ∧ 1 ≤ d' ∧ d' ≤ 31 ∧ wd' ≤ 6 ∧ h' ≤ 23 ∧ mi' ≤ 59 := by
  have h1 := i.m1; have h2 := i.m2; have h3 := i.d1; have h4 := i.d2; have h5 := Ca.dm_le y mo; have h6 := i.wd; have h7 := i.h; have h8 := i.mi
  exact ⟨mo.toNat, d.toNat, wd.toNat, h.toNat, mi.toNat, by omega, by omega, by omega, by omega, by omega, by omega, by omega, by omega, by omega, by omega, by omega⟩
theorem names_same {s : L} (hs : parseE s = 0) {mo d wd h mi : Nat} (hmo : mo ≤ 12) (hd1 : 1 ≤ d) (hd : d ≤ 31) (hwd : wd ≤ 6) (hh : h ≤ 23) (hmi : mi ≤ 59) :
    namesB (parseV s) (mo : Nat) (d : Nat) (wd : Nat) (h : Nat) (mi : Nat) = namedR (fun j => fp j (sp 44 ((sp 32 s).getD j []))) ((sp 32 s).getD 2 []) ((sp 32 s).getD 4 []) mo d wd h mi := by
  have hV : parseV s = exOf (sp 32 s) := by unfold parseV; rw [if_pos hs]
  rw [hV]
  generalize sp 32 s = ts
  unfold namesB exOf fv
  dsimp only
  rw [hb_mk (by omega), hb_mk (by omega), hb_mk (by omega), hb_mk (by omega), hb_mk (by omega)]
  unfold namedR
  dsimp only
  have e0 : ∀ z, fp 0 (sp 44 (ts.getD 0 [])) z = setF (fds 0) (sp 44 (ts.getD 0 [])) z := fun z => by unfold fp; rw [if_neg (by decide)]
  have e1 : ∀ z, fp 1 (sp 44 (ts.getD 1 [])) z = setF (fds 1) (sp 44 (ts.getD 1 [])) z := fun z => by unfold fp; rw [if_neg (by decide)]
  have e2 : ∀ z, fp 2 (sp 44 (ts.getD 2 [])) z = setF (fds 2) (sp 44 (ts.getD 2 [])) z := fun z => by unfold fp; rw [if_neg (by decide)]
  have e3 : ∀ z, fp 3 (sp 44 (ts.getD 3 [])) z = setF (fds 3) (sp 44 (ts.getD 3 [])) z := fun z => by unfold fp; rw [if_neg (by decide)]
  have e4 : ∀ z, fp 4 (sp 44 (ts.getD 4 [])) z = fold (setF (fds 4) (sp 44 (ts.getD 4 []))) z := fun z => by unfold fp; rw [if_pos rfl]
  rw [← e0, ← e1, ← e2, ← e3, ← e4]
  congr 3
  have d2 : ts.getD 2 [] = [42] → fp 2 (sp 44 (ts.getD 2 [])) d = true := fun h => by rw [h]; exact fp_day hd1 hd
  have d4 : ts.getD 4 [] = [42] → fp 4 (sp 44 (ts.getD 4 [])) wd = true := fun h => by rw [h]; exact fp_wd hwd
  generalize fp 2 (sp 44 (ts.getD 2 [])) d = D at d2 ⊢
  generalize fp 4 (sp 44 (ts.getD 4 [])) wd = W at d4 ⊢
  by_cases h2 : ts.getD 2 [] = [42]
  · rw [d2 h2, if_pos h2, decide_eq_true h2]; simp
  · rw [if_neg h2, decide_eq_false h2]
    by_cases h4 : ts.getD 4 [] = [42]
    · rw [d4 h4, if_pos h4, decide_eq_true h4]; simp
    · rw [if_neg h4, decide_eq_false h4]; simp
end Go.Proofs.YtheaimlfngaaoaaDoor.Cn
