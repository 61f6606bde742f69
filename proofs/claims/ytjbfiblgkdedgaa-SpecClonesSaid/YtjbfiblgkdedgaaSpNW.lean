
/- SpecNames, walked -/
import Derived.Test.YtjbfiblgkdedgaaSp1
import Derived.Test.YtjbfiblgkdedgaaRf
namespace Go.Proofs.Ytjbfiblgkdedgaa.Sp
open Go.RowKit Go.Lib
set_option linter.unusedVariables false
set_option maxRecDepth 20000
theorem lives14_any (w : World) : Calls Try.prog 5 #[] w fun e w' => e = .returned (.bool true) ∧ Below w.heap.size w w' := by
  have H1 := Lib.hid (fun w => name_any ⟨#[97, 46, 49]⟩ (by decide) w)
  have H2 := Lib.hid (fun w => name_any ⟨#[46, 97]⟩ (by decide) w)
  have H3 := Lib.hid (fun w => final_any 5 w)
  have e1 : nmB (⟨#[97, 46, 49]⟩ : ByteArray).data.toList = true := by decide
  have e2 : nmB (⟨#[46, 97]⟩ : ByteArray).data.toList = false := by decide
  rw [e1] at H1
  rw [e2] at H2
  clear e1 e2
  go_enter Try.func5, Try.ntmps5
  go_wp2_with fail
  refine (H1.out _).mono ?_
  rintro e w1 ⟨rfl, b1⟩
  have B1 := Lib.hid b1
  clear b1
  go_wp2_with fail
  refine (H2.out _).mono ?_
  rintro e w2 ⟨rfl, b2⟩
  have B2 := Lib.hid b2
  clear b2
  go_wp2_with fail
  refine (H3.out _).mono ?_
  rintro e w3 ⟨rfl, rfl⟩
  go_wp2_with fail
  go_ret
  exact ⟨rfl, B1.out.trans (B2.out.mono B1.out.size)⟩
/-- what may stand behind a text -/
def mayB (e : Bool) (m : Nat) : Bool := fiB m || (!e && (decide (48 ≤ m) && decide (m ≤ 57) || decide (m = 45) || decide (m = 46)))
theorem nm_more (l : List UInt8) (c : UInt8) : nmB (l ++ [c]) = (((nmB l || l.isEmpty) && mayB l.isEmpty c.toNat) && decide (l.length + 1 ≤ 24)) := by
  match l with
  | [] => simp [nmB, mayB, laL]
  | a :: r =>
    have e1 : laL (r ++ [c]) = (laL r && laB c.toNat) := by unfold laL; rw [List.all_append]; simp
    have e2 : mayB (a :: r).isEmpty c.toNat = laB c.toNat := by unfold mayB laB; simp [Bool.or_assoc]
    have e3 : decide ((r ++ [c]).length < 24) = decide (r.length + 1 + 1 ≤ 24) := decide_eq_decide.2 (by simp; omega)
    rw [e2]
    show (decide ((r ++ [c]).length < 24) && fiB a.toNat && laL (r ++ [c])) = _
    rw [e1, e3]
    show _ = ((decide (r.length < 24) && fiB a.toNat && laL r || false) && laB c.toNat && decide (r.length + 1 + 1 ≤ 24))
    by_cases h : r.length + 1 + 1 ≤ 24
    · rw [decide_eq_true h, decide_eq_true (show r.length < 24 by omega)]
      cases fiB a.toNat <;> cases laL r <;> cases laB c.toNat <;> rfl
    · rw [decide_eq_false h]
      simp
set_option maxHeartbeats 8000000 in
theorem names_any (s : ByteArray) (hs : s.size ≤ maxLen) (m : Nat) (hm : m < 256) (w : World) : Calls Try.prog 4 #[.string s, .int .u8 m] w fun e w' => e = .returned (.bool true) ∧ Below w.heap.size w w' := by
  have HL := Lib.hid (fun w => lives14_any w)
  by_cases h40 : 40 < s.size
  · have h40' : (40 : Int) < (s.size : Int) := by omega
    go_enter Try.func4, Try.ntmps4
    go_wp2_with fail
    refine (HL.out _).mono ?_
    rintro e w1 ⟨rfl, b1⟩
    have B1 := Lib.hid b1
    clear b1
    go_wp2_with fail
    refine (HL.out _).mono ?_
    rintro e w2 ⟨rfl, b2⟩
    have B2 := Lib.hid b2
    clear b2
    go_wp2_with fail
    go_ret
    exact ⟨rfl, B1.out.trans (B2.out.mono B1.out.size)⟩
  have h40' : ¬ (40 : Int) < (s.size : Int) := by omega
  obtain ⟨cb, hcb⟩ : ∃ cb : UInt8, cb.toNat = m := ⟨m.toUInt8, toUInt8_toNat hm⟩
  have hcv : ∀ (U : World) (b : Nat), U.cell? ⟨b, 0, none⟩ = some (.int .u8 (m : Int)) → (convert 30 9 (.slice (some ⟨b, 0, none⟩) 1 1)).run Try.prog U = .ok (.string ⟨#[cb]⟩) U := fun U b h =>
    Rf.str_of (l := [cb]) ⟨rfl, .inr ⟨_, rfl, by simp, by simp [maxLen], fun j u hu => by
      match j, hu with
      | 0, hu => simp [byteCells] at hu; subst hu; rw [hcb]; simpa [Addr.add] using h⟩⟩
  obtain ⟨M, hM⟩ : ∃ M, M = s ++ (⟨#[cb]⟩ : ByteArray) := ⟨_, rfl⟩
  have hMd : M.data.toList = s.data.toList ++ [cb] := by rw [hM]; simp [ByteArray.data_append]
  have hl : s.data.toList.length = s.size := Array.length_toList
  have hMs : M.size = s.size + 1 := by
    have : M.data.toList.length = M.size := Array.length_toList
    rw [← this, hMd, List.length_append, hl]; rfl
  have HN := Lib.hid (fun w => name_any s (by unfold maxLen at hs; omega) w)
  have HM := Lib.hid (fun w => name_any M (by omega) w)
  have hy := nm_more s.data.toList cb
  rw [← hMd, hcb, hl, ← hMs] at hy
  generalize hx : nmB s.data.toList = x at HN hy
  generalize nmB M.data.toList = y at HM hy
  have he : s.toList.isEmpty = s.data.toList.isEmpty := by rw [ByteArray.toList_eq]
  have hxe : s.data.toList.isEmpty = true → x = false := fun h => by rw [← hx, List.isEmpty_iff.1 h]; rfl
  have hz : decide ((0 : Int) < (s.size : Int)) = !s.data.toList.isEmpty := by
    cases hd : s.data.toList with
    | nil => rw [hd] at hl; rw [← hl]; rfl
    | cons a r => rw [hd] at hl; rw [← hl]; simp
  generalize s.data.toList.isEmpty = E at hy he hxe hz
  have h24 : decide (M.size ≤ 24) = decide ((M.size : Int) ≤ 24) := decide_eq_decide.2 (by omega)
  rw [h24] at hy
  have hM' := hM.symm
  have hsz := hMs
  clear hM hMd hl hx hcb h24
  have hc : (97 ≤ m ∧ m ≤ 122) ∨ (97 ≤ m ∧ ¬ m ≤ 122) ∨ (¬ 97 ≤ m ∧ 48 ≤ m ∧ m ≤ 57) ∨ (¬ 97 ≤ m ∧ 48 ≤ m ∧ ¬ m ≤ 57) ∨ (m = 45) ∨ (m = 46) ∨ (¬ 97 ≤ m ∧ ¬ 48 ≤ m ∧ ¬ m = 45 ∧ ¬ m = 46) := by omega
  have hxE : (x = true ∧ E = false) ∨ (x = false ∧ E = false) ∨ (x = false ∧ E = true) := by
    cases x with
    | true => cases E with
      | true => exact absurd (hxe rfl) (by simp)
      | false => exact .inl ⟨rfl, rfl⟩
    | false => cases E with
      | true => exact .inr (.inr ⟨rfl, rfl⟩)
      | false => exact .inr (.inl ⟨rfl, rfl⟩)
  clear hxe
  rcases hc with hc | hc | hc | hc | hc | hc | hc
  · have k1 : fiB m = true := by unfold fiB; simp; omega
    have k2 : (decide (48 ≤ m) && decide (m ≤ 57) || decide (m = 45) || decide (m = 46)) = false := by simp; omega
    unfold mayB at hy
    rw [k1, k2] at hy
    have j97 : decide ((97 : Int) ≤ (m : Int)) = true := decide_eq_true (by omega)
    have j122 : decide ((m : Int) ≤ 122) = true := decide_eq_true (by omega)
    have j48 : decide ((48 : Int) ≤ (m : Int)) = true := decide_eq_true (by omega)
    have j57 : decide ((m : Int) ≤ 57) = false := decide_eq_false (by omega)
    have j45 : ((m : Int) == 45) = false := beq_eq_false_iff_ne.2 (by omega)
    have j46 : ((m : Int) == 46) = false := beq_eq_false_iff_ne.2 (by omega)
    clear k1 k2 hc
    rcases hxE with ⟨rfl, rfl⟩ | ⟨rfl, rfl⟩ | ⟨rfl, rfl⟩
    all_goals
      first | (have hzp : 0 < s.size := by simpa using hz) | (have hzp : ¬ 0 < s.size := by simpa using hz)
      clear hz
      go_enter Try.func4, Try.ntmps4
      go_wp2_with fail
      refine (HL.out _).mono ?_
      rintro e w1 ⟨rfl, b1⟩
      have B1 := Lib.hid b1
      clear b1
      go_wp2_with fail
      refine (HN.out _).mono ?_
      rintro e w2 ⟨rfl, b2⟩
      have B2 := Lib.hid b2
      clear b2
      go_wp2_with fail
      refine (HM.out _).mono ?_
      rintro e w3 ⟨rfl, b3⟩
      have B3 := Lib.hid b3
      clear b3
      go_wp2_with fail
      go_ret
      refine ⟨by first | rfl | (simp only [hy]; rfl) | (subst hy; simp), ?_⟩
      have B2' := B2.out
      have B12 := (((Below.refl w1.heap.size w1).alloc (Nat.le_refl _) _).trans (B2'.mono (by simp)))
      exact B1.out.trans ((B12.trans (B3.out.mono B12.size)).mono B1.out.size)
  · have k1 : fiB m = false := by unfold fiB; simp; omega
    have k2 : (decide (48 ≤ m) && decide (m ≤ 57) || decide (m = 45) || decide (m = 46)) = false := by simp; omega
    unfold mayB at hy
    rw [k1, k2] at hy
    have j97 : decide ((97 : Int) ≤ (m : Int)) = true := decide_eq_true (by omega)
    have j122 : decide ((m : Int) ≤ 122) = false := decide_eq_false (by omega)
    have j48 : decide ((48 : Int) ≤ (m : Int)) = true := decide_eq_true (by omega)
    have j57 : decide ((m : Int) ≤ 57) = false := decide_eq_false (by omega)
    have j45 : ((m : Int) == 45) = false := beq_eq_false_iff_ne.2 (by omega)
    have j46 : ((m : Int) == 46) = false := beq_eq_false_iff_ne.2 (by omega)
    clear k1 k2 hc
    rcases hxE with ⟨rfl, rfl⟩ | ⟨rfl, rfl⟩ | ⟨rfl, rfl⟩
    all_goals
      first | (have hzp : 0 < s.size := by simpa using hz) | (have hzp : ¬ 0 < s.size := by simpa using hz)
      clear hz
      go_enter Try.func4, Try.ntmps4
      go_wp2_with fail
      refine (HL.out _).mono ?_
      rintro e w1 ⟨rfl, b1⟩
      have B1 := Lib.hid b1
      clear b1
      go_wp2_with fail
      refine (HN.out _).mono ?_
      rintro e w2 ⟨rfl, b2⟩
      have B2 := Lib.hid b2
      clear b2
      go_wp2_with fail
      refine (HM.out _).mono ?_
      rintro e w3 ⟨rfl, b3⟩
      have B3 := Lib.hid b3
      clear b3
      go_wp2_with fail
      go_ret
      refine ⟨by first | rfl | (simp only [hy]; rfl) | (subst hy; simp), ?_⟩
      have B2' := B2.out
      have B12 := (((Below.refl w1.heap.size w1).alloc (Nat.le_refl _) _).trans (B2'.mono (by simp)))
      exact B1.out.trans ((B12.trans (B3.out.mono B12.size)).mono B1.out.size)
  · have k1 : fiB m = false := by unfold fiB; simp; omega
    have k2 : (decide (48 ≤ m) && decide (m ≤ 57) || decide (m = 45) || decide (m = 46)) = true := by simp; omega
    unfold mayB at hy
    rw [k1, k2] at hy
    have j97 : decide ((97 : Int) ≤ (m : Int)) = false := decide_eq_false (by omega)
    have j122 : decide ((m : Int) ≤ 122) = true := decide_eq_true (by omega)
    have j48 : decide ((48 : Int) ≤ (m : Int)) = true := decide_eq_true (by omega)
    have j57 : decide ((m : Int) ≤ 57) = true := decide_eq_true (by omega)
    have j45 : ((m : Int) == 45) = false := beq_eq_false_iff_ne.2 (by omega)
    have j46 : ((m : Int) == 46) = false := beq_eq_false_iff_ne.2 (by omega)
    clear k1 k2 hc
    rcases hxE with ⟨rfl, rfl⟩ | ⟨rfl, rfl⟩ | ⟨rfl, rfl⟩
    all_goals
      first | (have hzp : 0 < s.size := by simpa using hz) | (have hzp : ¬ 0 < s.size := by simpa using hz)
      clear hz
      go_enter Try.func4, Try.ntmps4
      go_wp2_with fail
      refine (HL.out _).mono ?_
      rintro e w1 ⟨rfl, b1⟩
      have B1 := Lib.hid b1
      clear b1
      go_wp2_with fail
      refine (HN.out _).mono ?_
      rintro e w2 ⟨rfl, b2⟩
      have B2 := Lib.hid b2
      clear b2
      go_wp2_with fail
      refine (HM.out _).mono ?_
      rintro e w3 ⟨rfl, b3⟩
      have B3 := Lib.hid b3
      clear b3
      go_wp2_with fail
      go_ret
      refine ⟨by first | rfl | (simp only [hy]; rfl) | (subst hy; simp), ?_⟩
      have B2' := B2.out
      have B12 := (((Below.refl w1.heap.size w1).alloc (Nat.le_refl _) _).trans (B2'.mono (by simp)))
      exact B1.out.trans ((B12.trans (B3.out.mono B12.size)).mono B1.out.size)
  · have k1 : fiB m = false := by unfold fiB; simp; omega
    have k2 : (decide (48 ≤ m) && decide (m ≤ 57) || decide (m = 45) || decide (m = 46)) = false := by simp; omega
    unfold mayB at hy
    rw [k1, k2] at hy
    have j97 : decide ((97 : Int) ≤ (m : Int)) = false := decide_eq_false (by omega)
    have j122 : decide ((m : Int) ≤ 122) = true := decide_eq_true (by omega)
    have j48 : decide ((48 : Int) ≤ (m : Int)) = true := decide_eq_true (by omega)
    have j57 : decide ((m : Int) ≤ 57) = false := decide_eq_false (by omega)
    have j45 : ((m : Int) == 45) = false := beq_eq_false_iff_ne.2 (by omega)
    have j46 : ((m : Int) == 46) = false := beq_eq_false_iff_ne.2 (by omega)
    clear k1 k2 hc
    rcases hxE with ⟨rfl, rfl⟩ | ⟨rfl, rfl⟩ | ⟨rfl, rfl⟩
    all_goals
      first | (have hzp : 0 < s.size := by simpa using hz) | (have hzp : ¬ 0 < s.size := by simpa using hz)
      clear hz
      go_enter Try.func4, Try.ntmps4
      go_wp2_with fail
      refine (HL.out _).mono ?_
      rintro e w1 ⟨rfl, b1⟩
      have B1 := Lib.hid b1
      clear b1
      go_wp2_with fail
      refine (HN.out _).mono ?_
      rintro e w2 ⟨rfl, b2⟩
      have B2 := Lib.hid b2
      clear b2
      go_wp2_with fail
      refine (HM.out _).mono ?_
      rintro e w3 ⟨rfl, b3⟩
      have B3 := Lib.hid b3
      clear b3
      go_wp2_with fail
      go_ret
      refine ⟨by first | rfl | (simp only [hy]; rfl) | (subst hy; simp), ?_⟩
      have B2' := B2.out
      have B12 := (((Below.refl w1.heap.size w1).alloc (Nat.le_refl _) _).trans (B2'.mono (by simp)))
      exact B1.out.trans ((B12.trans (B3.out.mono B12.size)).mono B1.out.size)
  · have k1 : fiB m = false := by unfold fiB; simp; omega
    have k2 : (decide (48 ≤ m) && decide (m ≤ 57) || decide (m = 45) || decide (m = 46)) = true := by simp; omega
    unfold mayB at hy
    rw [k1, k2] at hy
    have j97 : decide ((97 : Int) ≤ (m : Int)) = false := decide_eq_false (by omega)
    have j122 : decide ((m : Int) ≤ 122) = true := decide_eq_true (by omega)
    have j48 : decide ((48 : Int) ≤ (m : Int)) = false := decide_eq_false (by omega)
    have j57 : decide ((m : Int) ≤ 57) = true := decide_eq_true (by omega)
    have j45 : ((m : Int) == 45) = true := beq_iff_eq.2 (by omega)
    have j46 : ((m : Int) == 46) = false := beq_eq_false_iff_ne.2 (by omega)
    clear k1 k2 hc
    rcases hxE with ⟨rfl, rfl⟩ | ⟨rfl, rfl⟩ | ⟨rfl, rfl⟩
    all_goals
      first | (have hzp : 0 < s.size := by simpa using hz) | (have hzp : ¬ 0 < s.size := by simpa using hz)
      clear hz
      go_enter Try.func4, Try.ntmps4
      go_wp2_with fail
      refine (HL.out _).mono ?_
      rintro e w1 ⟨rfl, b1⟩
      have B1 := Lib.hid b1
      clear b1
      go_wp2_with fail
      refine (HN.out _).mono ?_
      rintro e w2 ⟨rfl, b2⟩
      have B2 := Lib.hid b2
      clear b2
      go_wp2_with fail
      refine (HM.out _).mono ?_
      rintro e w3 ⟨rfl, b3⟩
      have B3 := Lib.hid b3
      clear b3
      go_wp2_with fail
      go_ret
      refine ⟨by first | rfl | (simp only [hy]; rfl) | (subst hy; simp), ?_⟩
      have B2' := B2.out
      have B12 := (((Below.refl w1.heap.size w1).alloc (Nat.le_refl _) _).trans (B2'.mono (by simp)))
      exact B1.out.trans ((B12.trans (B3.out.mono B12.size)).mono B1.out.size)
  · have k1 : fiB m = false := by unfold fiB; simp; omega
    have k2 : (decide (48 ≤ m) && decide (m ≤ 57) || decide (m = 45) || decide (m = 46)) = true := by simp; omega
    unfold mayB at hy
    rw [k1, k2] at hy
    have j97 : decide ((97 : Int) ≤ (m : Int)) = false := decide_eq_false (by omega)
    have j122 : decide ((m : Int) ≤ 122) = true := decide_eq_true (by omega)
    have j48 : decide ((48 : Int) ≤ (m : Int)) = false := decide_eq_false (by omega)
    have j57 : decide ((m : Int) ≤ 57) = true := decide_eq_true (by omega)
    have j45 : ((m : Int) == 45) = false := beq_eq_false_iff_ne.2 (by omega)
    have j46 : ((m : Int) == 46) = true := beq_iff_eq.2 (by omega)
    clear k1 k2 hc
    rcases hxE with ⟨rfl, rfl⟩ | ⟨rfl, rfl⟩ | ⟨rfl, rfl⟩
    all_goals
      first | (have hzp : 0 < s.size := by simpa using hz) | (have hzp : ¬ 0 < s.size := by simpa using hz)
      clear hz
      go_enter Try.func4, Try.ntmps4
      go_wp2_with fail
      refine (HL.out _).mono ?_
      rintro e w1 ⟨rfl, b1⟩
      have B1 := Lib.hid b1
      clear b1
      go_wp2_with fail
      refine (HN.out _).mono ?_
      rintro e w2 ⟨rfl, b2⟩
      have B2 := Lib.hid b2
      clear b2
      go_wp2_with fail
      refine (HM.out _).mono ?_
      rintro e w3 ⟨rfl, b3⟩
      have B3 := Lib.hid b3
      clear b3
      go_wp2_with fail
      go_ret
      refine ⟨by first | rfl | (simp only [hy]; rfl) | (subst hy; simp), ?_⟩
      have B2' := B2.out
      have B12 := (((Below.refl w1.heap.size w1).alloc (Nat.le_refl _) _).trans (B2'.mono (by simp)))
      exact B1.out.trans ((B12.trans (B3.out.mono B12.size)).mono B1.out.size)
  · have k1 : fiB m = false := by unfold fiB; simp; omega
    have k2 : (decide (48 ≤ m) && decide (m ≤ 57) || decide (m = 45) || decide (m = 46)) = false := by simp; omega
    unfold mayB at hy
    rw [k1, k2] at hy
    have j97 : decide ((97 : Int) ≤ (m : Int)) = false := decide_eq_false (by omega)
    have j122 : decide ((m : Int) ≤ 122) = true := decide_eq_true (by omega)
    have j48 : decide ((48 : Int) ≤ (m : Int)) = false := decide_eq_false (by omega)
    have j57 : decide ((m : Int) ≤ 57) = true := decide_eq_true (by omega)
    have j45 : ((m : Int) == 45) = false := beq_eq_false_iff_ne.2 (by omega)
    have j46 : ((m : Int) == 46) = false := beq_eq_false_iff_ne.2 (by omega)
    clear k1 k2 hc
    rcases hxE with ⟨rfl, rfl⟩ | ⟨rfl, rfl⟩ | ⟨rfl, rfl⟩
    all_goals
      first | (have hzp : 0 < s.size := by simpa using hz) | (have hzp : ¬ 0 < s.size := by simpa using hz)
      clear hz
      go_enter Try.func4, Try.ntmps4
      go_wp2_with fail
      refine (HL.out _).mono ?_
      rintro e w1 ⟨rfl, b1⟩
      have B1 := Lib.hid b1
      clear b1
      go_wp2_with fail
      refine (HN.out _).mono ?_
      rintro e w2 ⟨rfl, b2⟩
      have B2 := Lib.hid b2
      clear b2
      go_wp2_with fail
      refine (HM.out _).mono ?_
      rintro e w3 ⟨rfl, b3⟩
      have B3 := Lib.hid b3
      clear b3
      go_wp2_with fail
      go_ret
      refine ⟨by first | rfl | (simp only [hy]; rfl) | (subst hy; simp), ?_⟩
      have B2' := B2.out
      have B12 := (((Below.refl w1.heap.size w1).alloc (Nat.le_refl _) _).trans (B2'.mono (by simp)))
      exact B1.out.trans ((B12.trans (B3.out.mono B12.size)).mono B1.out.size)
end Go.Proofs.Ytjbfiblgkdedgaa.Sp
