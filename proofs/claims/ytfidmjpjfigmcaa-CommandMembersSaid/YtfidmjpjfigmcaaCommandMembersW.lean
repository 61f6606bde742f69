
/- members: the law, walked -/
import Derived.Test.YtfidmjpjfigmcaaCm5
import Derived.Test.YtfidmjpjfigmcaaHd
import Derived.BigQuiet
import Derived.WalkSmall
import Derived.Shelf.Abstract
namespace Go.Proofs.Ytfidmjpjfigmcaa.Cm
open Go.RowKit Go.Lib Go.Shelf Wn Rf By Ht
set_option linter.unusedVariables false
set_option maxRecDepth 20000
theorem memB_inj {xs ys : List Int} (hx : areM xs = true) (hy : areM ys = true) (h : memB xs = memB ys) : xs = ys := by
  have h1 := areM_all hx
  have h2 := areM_all hy
  unfold memB at h
  obtain ⟨e1, e2⟩ := uvr_inj _ _ _ _ h
  have e3 : (xs.map Int.toNat).flatMap uvarint ++ [] = (ys.map Int.toNat).flatMap uvarint ++ [] := by rw [nat_flat, nat_flat, e2]
  have e4 := (flat_inj uvr_inj _ _ _ _ (by simpa using e1) e3).1
  have e5 := congrArg (List.map small) e4
  rwa [small_nat xs h1, small_nat ys h2] at e5
theorem str_neq (l : List UInt8) : ((⟨l.toArray⟩ : ByteArray).toList == (⟨l.toArray⟩ : ByteArray).toList) = true := by simp
set_option maxHeartbeats 4000000 in
theorem members_law (a0 : Option Addr) (n0 c0 : Nat) (xs : List Int) (a1 : Option Addr) (n1 c1 : Nat) (l : List UInt8) (w : World) (hd : Da iv w a0 n0 xs) (hi : IsB w a1 n1 c1 l) (hm : n0 ≤ maxLen) :
    Calls Try.prog 4 #[.slice a0 n0 c0, .slice a1 n1 c1] w fun e w' => e = .returned (.bool true) ∧ Below w.heap.size w w' := by
  have hmix : Try.prog.follows .mixedOrders = true := by kernel_rfl
  have HL := Lib.hid lives18_any
  have hl := hd.1
  have hl1 := hi.1
  have HD := Lib.hid (And.intro hd hi)
  clear hd hi
  unfold maxLen at hm
  have hle := HD.out.2.le
  unfold maxLen at hle
  go_enter Try.func4, Try.ntmps4
  go_wp2_with fail
  refine (HL.out w).mono ?_
  rintro e w1 ⟨rfl, b1⟩
  have B1 := Lib.hid b1
  clear b1
  by_cases g1 : 60 < n0
  · go_wp2_with fail
    refine (HL.out w1).mono ?_
    rintro e w2 ⟨rfl, b2⟩
    have B2 := Lib.hid (B1.out.trans (b2.mono B1.out.size))
    clear b2
    go_wp2_with fail
    go_ret
    exact ⟨rfl, B2.out⟩
  by_cases g2 : 60 < n1
  · go_wp2_with fail
    refine (HL.out w1).mono ?_
    rintro e w2 ⟨rfl, b2⟩
    have B2 := Lib.hid (B1.out.trans (b2.mono B1.out.size))
    clear b2
    go_wp2_with fail
    go_ret
    exact ⟨rfl, B2.out⟩
  have HO := Lib.hid (MembersOf_any a1 n1 c1 l w1 (HD.out.2.old B1.out) (by omega))
  go_wp2_with fail
  refine HO.out.mono ?_
  rintro e w2 ⟨v, ys, er, rfl, hbad, hok, hfw, b2⟩
  have B2 := Lib.hid (B1.out.trans (b2.mono B1.out.size))
  clear b2 HO hfw
  by_cases he : er = 0
  · subst he
    obtain ⟨ao, co, rfl, hda, hy, hly⟩ := hok rfl
    have hy7 := (areM_len hy).1
    have HR := Lib.hid (fun (W : World) (h : Below w2.heap.size w2 W) => by
      have := Right_any ao ys.length co ys W (hda.old h) (by omega)
      rw [hy] at this
      exact this)
    have HM := Lib.hid (fun (W : World) (h : Below w2.heap.size w2 W) => by
      have := refMembers_any ao ys.length co ys W (hda.old h) hy
      rw [← hly] at this
      exact this)
    have HC := Lib.hid (fun (W : World) (h : Below w2.heap.size w2 W) => str_of ((HD.out.2.old B2.out).old h))
    obtain ⟨S, hS⟩ : ∃ S : ByteArray, S = ⟨l.toArray⟩ := ⟨_, rfl⟩
    rw [← hS] at HM HC
    have hSS : (S.toList == S.toList) = true := by simp
    clear hbad hok hda hly hS
    go_wp2_with fail
    refine begin' 22 (fun ZZ => Below w2.heap.size w2 ZZ) hmix ((Below.refl _ w2).drew) (fun hS0 => ?_)
    refine Ht.takeD 8 (i := 0) ⟨some 30, _, _, _, _, _⟩ (.int .i64 0) rfl (by kernel_rfl) (by kernel_rfl) (by decide) (by kernel_rfl) (by kernel_rfl) (by kernel_rfl) hS0 (Or.inl ⟨by rfl, by (intro X hX; go_simp)⟩) ?_
    simp only [Act.put, List.setIfInBounds_toArray, List.set_cons_zero, List.set_cons_succ]
    refine Ht.takeD 8 (i := 1) ⟨some 31, _, _, _, _, _⟩ (.bool true) rfl (by kernel_rfl) (by kernel_rfl) (by decide) (by kernel_rfl) (by kernel_rfl) (by kernel_rfl) hS0 (Or.inl ⟨by rfl, by (intro X hX; go_simp)⟩) ?_
    simp only [Act.put, List.setIfInBounds_toArray, List.set_cons_zero, List.set_cons_succ]
    refine Ht.takeD 8 (i := 2) ⟨some 32, _, _, _, _, _⟩ (.bool true) rfl (by kernel_rfl) (by kernel_rfl) (by decide) (by kernel_rfl) (by kernel_rfl) (by kernel_rfl) hS0 (Or.inl ⟨by rfl, by (intro X hX; go_simp)⟩) ?_
    simp only [Act.put, List.setIfInBounds_toArray, List.set_cons_zero, List.set_cons_succ]
    refine Ht.takeD 8 (i := 3) ⟨some 33, _, _, _, _, _⟩ (.slice ao ys.length co) rfl (by kernel_rfl) (by kernel_rfl) (by decide) (by kernel_rfl) (by kernel_rfl) (by kernel_rfl) hS0 (Or.inl ⟨by rfl, by (intro X hX; go_simp)⟩) ?_
    simp only [Act.put, List.setIfInBounds_toArray, List.set_cons_zero, List.set_cons_succ]
    refine Ht.step (i := 4) ⟨some 34, _, _, _, _, _⟩ rfl (by kernel_rfl) (by rfl) (fun K hK => ?_)
    refine Ht.enter 12 #[.slice ao ys.length co] (by have hen := fun args w => enters_of (P := Try.prog) Try.func12 (by kernel_rfl) rfl args w; go_simp) (HR.out _ hS0) ?_
    rintro e v1 ⟨rfl, rfl⟩
    refine ⟨_, rfl, hK _ _ (fun hn => hS0) (fun hnx => ?_)⟩
    clear hK K hnx
    try simp only [Act.put, List.setIfInBounds_toArray, List.set_cons_zero, List.set_cons_succ]
    refine Ht.takeD 8 (i := 5) ⟨some 35, _, _, _, _, _⟩ (.bool false) rfl (by kernel_rfl) (by kernel_rfl) (by decide) (by kernel_rfl) (by kernel_rfl) (by kernel_rfl) hS0 (Or.inl ⟨by rfl, by (intro X hX; go_simp)⟩) ?_
    simp only [Act.put, List.setIfInBounds_toArray, List.set_cons_zero, List.set_cons_succ]
    refine Ht.takeD 8 (i := 6) ⟨some 36, _, _, _, _, _⟩ (.bool false) rfl (by kernel_rfl) (by kernel_rfl) (by decide) (by kernel_rfl) (by kernel_rfl) (by kernel_rfl) hS0 (Or.inl ⟨by rfl, by (intro X hX; go_simp)⟩) ?_
    simp only [Act.put, List.setIfInBounds_toArray, List.set_cons_zero, List.set_cons_succ]
    refine Ht.takeD 8 (i := 7) ⟨some 37, _, _, _, _, _⟩ (.slice ao ys.length co) rfl (by kernel_rfl) (by kernel_rfl) (by decide) (by kernel_rfl) (by kernel_rfl) (by kernel_rfl) hS0 (Or.inl ⟨by rfl, by (intro X hX; go_simp)⟩) ?_
    simp only [Act.put, List.setIfInBounds_toArray, List.set_cons_zero, List.set_cons_succ]
    refine Ht.takeD 8 (i := 9) ⟨some 39, _, _, _, _, _⟩ (.slice a1 n1 c1) rfl (by kernel_rfl) (by kernel_rfl) (by decide) (by kernel_rfl) (by kernel_rfl) (by kernel_rfl) hS0 (Or.inl ⟨by rfl, by (intro X hX; go_simp)⟩) ?_
    simp only [Act.put, List.setIfInBounds_toArray, List.set_cons_zero, List.set_cons_succ]
    refine Ht.takeD 8 (i := 10) ⟨some 40, _, _, _, _, _⟩ (.string S) rfl (by kernel_rfl) (by kernel_rfl) (by decide) (by kernel_rfl) (by kernel_rfl) (by kernel_rfl) hS0 (Or.inl ⟨by rfl, by (intro X hX; have := HC.out X hX; go_simp)⟩) ?_
    simp only [Act.put, List.setIfInBounds_toArray, List.set_cons_zero, List.set_cons_succ]
    refine Ht.step (i := 8) ⟨some 38, _, _, _, _, _⟩ rfl (by kernel_rfl) (by rfl) (fun K hK => ?_)
    refine Ht.enter 13 #[.slice ao ys.length co] (by have hen := fun args w => enters_of (P := Try.prog) Try.func13 (by kernel_rfl) rfl args w; go_simp) (HM.out _ hS0) ?_
    rintro e v2 ⟨rfl, b3⟩
    have B3 := Lib.hid b3
    have q3 : Below w2.heap.size w2 v2 := hS0.trans (B3.out.mono hS0.size)
    clear b3
    refine ⟨_, rfl, hK _ _ (fun hn => q3) (fun hnx => ?_)⟩
    clear hK K hnx
    try simp only [Act.put, List.setIfInBounds_toArray, List.set_cons_zero, List.set_cons_succ]
    refine Ht.takeD 8 (i := 11) ⟨some 41, _, _, _, _, _⟩ (.bool false) rfl (by kernel_rfl) (by kernel_rfl) (by decide) (by kernel_rfl) (by kernel_rfl) (by kernel_rfl) q3 (Or.inl ⟨by rfl, by (intro X hX; have := hSS; go_simp)⟩) ?_
    simp only [Act.put, List.setIfInBounds_toArray, List.set_cons_zero, List.set_cons_succ]
    refine Ht.takeD 8 (i := 12) ⟨some 42, _, _, _, _, _⟩ (.bool false) rfl (by kernel_rfl) (by kernel_rfl) (by decide) (by kernel_rfl) (by kernel_rfl) (by kernel_rfl) q3 (Or.inl ⟨by rfl, by (intro X hX; go_simp)⟩) ?_
    simp only [Act.put, List.setIfInBounds_toArray, List.set_cons_zero, List.set_cons_succ]
    refine Ht.takeD 8 (i := 13) ⟨some 43, _, _, _, _, _⟩ (.bool false) rfl (by kernel_rfl) (by kernel_rfl) (by decide) (by kernel_rfl) (by kernel_rfl) (by kernel_rfl) q3 (Or.inl ⟨by rfl, by (intro X hX; go_simp)⟩) ?_
    simp only [Act.put, List.setIfInBounds_toArray, List.set_cons_zero, List.set_cons_succ]
    refine Ht.takeD 8 (i := 14) ⟨some 44, _, _, _, _, _⟩ (.bool false) rfl (by kernel_rfl) (by kernel_rfl) (by decide) (by kernel_rfl) (by kernel_rfl) (by kernel_rfl) q3 (Or.inl ⟨by rfl, by (intro X hX; go_simp)⟩) ?_
    simp only [Act.put, List.setIfInBounds_toArray, List.set_cons_zero, List.set_cons_succ]
    refine Ht.takeD 8 (i := 15) ⟨some 45, _, _, _, _, _⟩ (.int .i64 0) rfl (by kernel_rfl) (by kernel_rfl) (by decide) (by kernel_rfl) (by kernel_rfl) (by kernel_rfl) q3 (Or.inl ⟨by rfl, by (intro X hX; go_simp)⟩) ?_
    simp only [Act.put, List.setIfInBounds_toArray, List.set_cons_zero, List.set_cons_succ]
    refine Ht.takeD 8 (i := 16) ⟨some 46, _, _, _, _, _⟩ (.bool false) rfl (by kernel_rfl) (by kernel_rfl) (by decide) (by kernel_rfl) (by kernel_rfl) (by kernel_rfl) q3 (Or.inl ⟨by rfl, by (intro X hX; go_simp)⟩) ?_
    simp only [Act.put, List.setIfInBounds_toArray, List.set_cons_zero, List.set_cons_succ]
    refine Ht.takeD 8 (i := 17) ⟨some 47, _, _, _, _, _⟩ (.bool false) rfl (by kernel_rfl) (by kernel_rfl) (by decide) (by kernel_rfl) (by kernel_rfl) (by kernel_rfl) q3 (Or.inl ⟨by rfl, by (intro X hX; go_simp)⟩) ?_
    simp only [Act.put, List.setIfInBounds_toArray, List.set_cons_zero, List.set_cons_succ]
    refine Ht.takeD 8 (i := 18) ⟨some 48, _, _, _, _, _⟩ (undef) rfl (by kernel_rfl) (by kernel_rfl) (by decide) (by kernel_rfl) (by kernel_rfl) (by kernel_rfl) q3 (Or.inr ⟨by rfl, by rfl⟩) ?_
    simp only [Act.put, List.setIfInBounds_toArray, List.set_cons_zero, List.set_cons_succ]
    refine Ht.takeD 8 (i := 19) ⟨some 49, _, _, _, _, _⟩ (undef) rfl (by kernel_rfl) (by kernel_rfl) (by decide) (by kernel_rfl) (by kernel_rfl) (by kernel_rfl) q3 (Or.inr ⟨by rfl, by rfl⟩) ?_
    simp only [Act.put, List.setIfInBounds_toArray, List.set_cons_zero, List.set_cons_succ]
    refine Ht.takeD 8 (i := 20) ⟨some 50, _, _, _, _, _⟩ (undef) rfl (by kernel_rfl) (by kernel_rfl) (by decide) (by kernel_rfl) (by kernel_rfl) (by kernel_rfl) q3 (Or.inr ⟨by rfl, by rfl⟩) ?_
    simp only [Act.put, List.setIfInBounds_toArray, List.set_cons_zero, List.set_cons_succ]
    refine Ht.takeD 8 (i := 21) ⟨some 51, _, _, _, _, _⟩ (.bool false) rfl (by kernel_rfl) (by kernel_rfl) (by decide) (by kernel_rfl) (by kernel_rfl) (by kernel_rfl) q3 (Or.inl ⟨by rfl, by (intro X hX; go_simp)⟩) ?_
    simp only [Act.put, List.setIfInBounds_toArray, List.set_cons_zero, List.set_cons_succ]
    refine Ht.step (i := 22) ⟨some 52, _, _, _, _, _⟩ rfl (by kernel_rfl) (by rfl) (fun K hK => ?_)
    go_simp
    refine hK _ _ (fun hn => absurd rfl hn) (fun hnx => ?_)
    clear hK K hnx
    try simp only [Act.put, List.setIfInBounds_toArray, List.set_cons_zero, List.set_cons_succ]
    refine done (by kernel_rfl) ?_
    have Q3 := Lib.hid (B2.out.trans (q3.mono B2.out.size))
    clear q3 hS0 HR HM HC
    go_wp2_with fail
    by_cases hx : areM xs = true
    · have HY := Lib.hid (Members_yes a0 n0 c0 xs v2 (HD.out.1.old Q3.out) hx)
      have hx7 := (areM_len hx).1
      have hB20 : (memB xs).length ≤ 20 := by
        unfold memB
        have := uvarint_length64 (show xs.length < 18446744073709551616 by omega)
        rw [List.length_append, flat_small (areM_all hx)]
        omega
      obtain ⟨M, hM⟩ : ∃ M, M = memB xs := ⟨_, rfl⟩
      rw [← hM] at HY hB20
      have HM := Lib.hid (And.intro hM hx)
      clear hM hx
      go_wp2_with fail
      refine HY.out.mono ?_
      rintro e w4 ⟨a4, c4, rfl, hi4, b4⟩
      have B4 := Lib.hid (And.intro hi4 (Q3.out.trans (b4.mono Q3.out.size)))
      clear hi4 b4 HY
      have HRt := Lib.hid (Right_any a0 n0 c0 xs w4 (HD.out.1.old B4.out.2) (by omega))
      rw [HM.out.2] at HRt
      go_wp2_with fail
      refine HRt.out.mono ?_
      rintro e w5 ⟨rfl, rfl⟩
      clear HRt
      have HO := Lib.hid (MembersOf_any a4 M.length c4 M w5 B4.out.1 (by omega))
      go_wp2_with fail
      refine HO.out.mono ?_
      rintro e w6 ⟨v6, zs, er6, rfl, hbad6, hok6, hfw6, b6⟩
      obtain rfl := hfw6 xs HM.out.2 HM.out.1
      obtain ⟨a6, c6, rfl, hd6, hz6, hl6⟩ := hok6 rfl
      obtain rfl := memB_inj HM.out.2 hz6 (HM.out.1.symm.trans hl6)
      rw [hl] at hd6 ⊢
      have B6 := Lib.hid (And.intro (B4.out.2.trans (b6.mono B4.out.2.size)) (And.intro b6 hd6))
      have HMR := Lib.hid (fun (W : World) (h : Below w6.heap.size w6 W) => by
        have := refMembers_any a0 n0 c0 xs W ((HD.out.1.old B6.out.1).old h) HM.out.2
        rw [← HM.out.1] at this
        exact this)
      have HC := Lib.hid (fun (W : World) (h : Below w6.heap.size w6 W) => str_of ((B4.out.1.old B6.out.2.1).old h))
      obtain ⟨T, hT⟩ : ∃ T : ByteArray, T = ⟨M.toArray⟩ := ⟨_, rfl⟩
      rw [← hT] at HMR HC
      have hTT : (T.toList == T.toList) = true := by simp
      clear hbad6 hok6 hfw6 b6 hd6 hz6 hl6 HO hT
      go_wp2_with fail
      refine begin' 19 (fun ZZ => Below w6.heap.size w6 ZZ) hmix ((Below.refl _ w6).drew) (fun hS0 => ?_)
      refine Ht.takeD 8 (i := 0) ⟨some 73, _, _, _, _, _⟩ (.int .i64 0) rfl (by kernel_rfl) (by kernel_rfl) (by decide) (by kernel_rfl) (by kernel_rfl) (by kernel_rfl) hS0 (Or.inl ⟨by rfl, by (intro X hX; go_simp)⟩) ?_
      simp only [Act.put, List.setIfInBounds_toArray, List.set_cons_zero, List.set_cons_succ]
      refine Ht.takeD 8 (i := 1) ⟨some 74, _, _, _, _, _⟩ (.bool false) rfl (by kernel_rfl) (by kernel_rfl) (by decide) (by kernel_rfl) (by kernel_rfl) (by kernel_rfl) hS0 (Or.inl ⟨by rfl, by (intro X hX; go_simp)⟩) ?_
      simp only [Act.put, List.setIfInBounds_toArray, List.set_cons_zero, List.set_cons_succ]
      refine Ht.takeD 8 (i := 2) ⟨some 75, _, _, _, _, _⟩ (.bool false) rfl (by kernel_rfl) (by kernel_rfl) (by decide) (by kernel_rfl) (by kernel_rfl) (by kernel_rfl) hS0 (Or.inl ⟨by rfl, by (intro X hX; go_simp)⟩) ?_
      simp only [Act.put, List.setIfInBounds_toArray, List.set_cons_zero, List.set_cons_succ]
      refine Ht.takeD 8 (i := 3) ⟨some 76, _, _, _, _, _⟩ (.slice a4 M.length c4) rfl (by kernel_rfl) (by kernel_rfl) (by decide) (by kernel_rfl) (by kernel_rfl) (by kernel_rfl) hS0 (Or.inl ⟨by rfl, by (intro X hX; go_simp)⟩) ?_
      simp only [Act.put, List.setIfInBounds_toArray, List.set_cons_zero, List.set_cons_succ]
      refine Ht.takeD 8 (i := 4) ⟨some 77, _, _, _, _, _⟩ (.string T) rfl (by kernel_rfl) (by kernel_rfl) (by decide) (by kernel_rfl) (by kernel_rfl) (by kernel_rfl) hS0 (Or.inl ⟨by rfl, by (intro X hX; have := HC.out X hX; go_simp)⟩) ?_
      simp only [Act.put, List.setIfInBounds_toArray, List.set_cons_zero, List.set_cons_succ]
      refine Ht.takeD 8 (i := 5) ⟨some 78, _, _, _, _, _⟩ (.slice a0 n0 c0) rfl (by kernel_rfl) (by kernel_rfl) (by decide) (by kernel_rfl) (by kernel_rfl) (by kernel_rfl) hS0 (Or.inl ⟨by rfl, by (intro X hX; go_simp)⟩) ?_
      simp only [Act.put, List.setIfInBounds_toArray, List.set_cons_zero, List.set_cons_succ]
      refine Ht.step (i := 6) ⟨some 79, _, _, _, _, _⟩ rfl (by kernel_rfl) (by rfl) (fun K hK => ?_)
      refine Ht.enter 13 #[.slice a0 n0 c0] (by have hen := fun args w => enters_of (P := Try.prog) Try.func13 (by kernel_rfl) rfl args w; go_simp) (HMR.out _ hS0) ?_
      rintro e v7 ⟨rfl, b7⟩
      have B7 := Lib.hid b7
      have q7 : Below w6.heap.size w6 v7 := hS0.trans (B7.out.mono hS0.size)
      clear b7
      refine ⟨_, rfl, hK _ _ (fun hn => q7) (fun hnx => ?_)⟩
      clear hK K hnx
      try simp only [Act.put, List.setIfInBounds_toArray, List.set_cons_zero, List.set_cons_succ]
      refine Ht.takeD 8 (i := 7) ⟨some 80, _, _, _, _, _⟩ (.bool false) rfl (by kernel_rfl) (by kernel_rfl) (by decide) (by kernel_rfl) (by kernel_rfl) (by kernel_rfl) q7 (Or.inl ⟨by rfl, by (intro X hX; have := hTT; go_simp)⟩) ?_
      simp only [Act.put, List.setIfInBounds_toArray, List.set_cons_zero, List.set_cons_succ]
      refine Ht.takeD 8 (i := 8) ⟨some 81, _, _, _, _, _⟩ (.bool false) rfl (by kernel_rfl) (by kernel_rfl) (by decide) (by kernel_rfl) (by kernel_rfl) (by kernel_rfl) q7 (Or.inl ⟨by rfl, by (intro X hX; go_simp)⟩) ?_
      simp only [Act.put, List.setIfInBounds_toArray, List.set_cons_zero, List.set_cons_succ]
      refine Ht.takeD 8 (i := 9) ⟨some 82, _, _, _, _, _⟩ (.bool false) rfl (by kernel_rfl) (by kernel_rfl) (by decide) (by kernel_rfl) (by kernel_rfl) (by kernel_rfl) q7 (Or.inl ⟨by rfl, by (intro X hX; go_simp)⟩) ?_
      simp only [Act.put, List.setIfInBounds_toArray, List.set_cons_zero, List.set_cons_succ]
      refine Ht.takeD 8 (i := 10) ⟨some 83, _, _, _, _, _⟩ (.int .i64 0) rfl (by kernel_rfl) (by kernel_rfl) (by decide) (by kernel_rfl) (by kernel_rfl) (by kernel_rfl) q7 (Or.inl ⟨by rfl, by (intro X hX; go_simp)⟩) ?_
      simp only [Act.put, List.setIfInBounds_toArray, List.set_cons_zero, List.set_cons_succ]
      refine Ht.takeD 8 (i := 11) ⟨some 84, _, _, _, _, _⟩ (.bool false) rfl (by kernel_rfl) (by kernel_rfl) (by decide) (by kernel_rfl) (by kernel_rfl) (by kernel_rfl) q7 (Or.inl ⟨by rfl, by (intro X hX; go_simp)⟩) ?_
      simp only [Act.put, List.setIfInBounds_toArray, List.set_cons_zero, List.set_cons_succ]
      refine Ht.takeD 8 (i := 12) ⟨some 85, _, _, _, _, _⟩ (.bool false) rfl (by kernel_rfl) (by kernel_rfl) (by decide) (by kernel_rfl) (by kernel_rfl) (by kernel_rfl) q7 (Or.inl ⟨by rfl, by (intro X hX; go_simp)⟩) ?_
      simp only [Act.put, List.setIfInBounds_toArray, List.set_cons_zero, List.set_cons_succ]
      refine Ht.takeD 8 (i := 13) ⟨some 86, _, _, _, _, _⟩ (.bool false) rfl (by kernel_rfl) (by kernel_rfl) (by decide) (by kernel_rfl) (by kernel_rfl) (by kernel_rfl) q7 (Or.inl ⟨by rfl, by (intro X hX; go_simp)⟩) ?_
      simp only [Act.put, List.setIfInBounds_toArray, List.set_cons_zero, List.set_cons_succ]
      refine Ht.takeD 8 (i := 14) ⟨some 87, _, _, _, _, _⟩ (.slice a6 n0 c6) rfl (by kernel_rfl) (by kernel_rfl) (by decide) (by kernel_rfl) (by kernel_rfl) (by kernel_rfl) q7 (Or.inl ⟨by rfl, by (intro X hX; go_simp)⟩) ?_
      simp only [Act.put, List.setIfInBounds_toArray, List.set_cons_zero, List.set_cons_succ]
      refine Ht.takeD 8 (i := 15) ⟨some 88, _, _, _, _, _⟩ (.int .i64 n0) rfl (by kernel_rfl) (by kernel_rfl) (by decide) (by kernel_rfl) (by kernel_rfl) (by kernel_rfl) q7 (Or.inl ⟨by rfl, by (intro X hX; go_simp)⟩) ?_
      simp only [Act.put, List.setIfInBounds_toArray, List.set_cons_zero, List.set_cons_succ]
      refine Ht.takeD 8 (i := 16) ⟨some 89, _, _, _, _, _⟩ (.slice a0 n0 c0) rfl (by kernel_rfl) (by kernel_rfl) (by decide) (by kernel_rfl) (by kernel_rfl) (by kernel_rfl) q7 (Or.inl ⟨by rfl, by (intro X hX; go_simp)⟩) ?_
      simp only [Act.put, List.setIfInBounds_toArray, List.set_cons_zero, List.set_cons_succ]
      refine Ht.takeD 8 (i := 17) ⟨some 90, _, _, _, _, _⟩ (.int .i64 n0) rfl (by kernel_rfl) (by kernel_rfl) (by decide) (by kernel_rfl) (by kernel_rfl) (by kernel_rfl) q7 (Or.inl ⟨by rfl, by (intro X hX; go_simp)⟩) ?_
      simp only [Act.put, List.setIfInBounds_toArray, List.set_cons_zero, List.set_cons_succ]
      refine Ht.takeD 8 (i := 18) ⟨some 91, _, _, _, _, _⟩ (.bool false) rfl (by kernel_rfl) (by kernel_rfl) (by decide) (by kernel_rfl) (by kernel_rfl) (by kernel_rfl) q7 (Or.inl ⟨by rfl, by (intro X hX; go_simp)⟩) ?_
      simp only [Act.put, List.setIfInBounds_toArray, List.set_cons_zero, List.set_cons_succ]
      refine Ht.step (i := 19) ⟨some 92, _, _, _, _, _⟩ rfl (by kernel_rfl) (by rfl) (fun K hK => ?_)
      go_simp
      refine hK _ _ (fun hn => absurd rfl hn) (fun hnx => ?_)
      clear hK K hnx
      try simp only [Act.put, List.setIfInBounds_toArray, List.set_cons_zero, List.set_cons_succ]
      refine done (by kernel_rfl) ?_
      have Q7 := Lib.hid (And.intro q7 (B6.out.1.trans (q7.mono B6.out.1.size)))
      clear q7 hS0 HMR HC
      go_wp2_with fail
      go_loopw [95] (fun s95 wr => ∃ k : Nat, s95 = .int .i64 k ∧ k ≤ n0 ∧ Below v7.heap.size v7 wr) (fun s95 _ => n0 - (RowKit.intOf s95).toNat)
      case atStart => exact ⟨0, rfl, Nat.zero_le _, Below.refl _ _⟩
      case round =>
        obtain ⟨k, rfl, hk, hb⟩ := hrel
        by_cases hlt : k < n0
        · have hkl : k < xs.length := by omega
          have hbb := Q7.out.2.trans (hb.mono Q7.out.2.size)
          have hda := HD.out.1.old hbb
          have hdb := (B6.out.2.2.old Q7.out.1).old hb
          rcases hda.2.2 with h0 | ⟨b, o, rfl, hcell⟩
          · omega
          rcases hdb.2.2 with h0 | ⟨b', o', rfl, hcell'⟩
          · omega
          have hc := hcell k hkl
          have hc' := hcell' k hkl
          obtain ⟨x, hx⟩ : ∃ x, x = xs[k] := ⟨_, rfl⟩
          rw [← hx] at hc hc'
          simp only [iv] at hc hc'
          have HK := Lib.hid hb
          clear hb hbb hda hdb hcell hcell' hx
          go_wp2_with fail
          go_quiet (fail)
          go_wp2_with fail
          go_roundw
          case rel => exact ⟨k + 1, rfl, hlt, below_drewN HK.out nq⟩
          case measure => simp only [RowKit.intOf]; omega
        · have HK := Lib.hid (Q7.out.2.trans (hb.mono Q7.out.2.size))
          clear hb
          go_wp2_with fail
          go_ret
          exact ⟨rfl, HK.out⟩
    · rw [Bool.not_eq_true] at hx
      have HY := Lib.hid (Members_no a0 n0 c0 xs v2 (HD.out.1.old Q3.out) (by omega) hx)
      have HRt := Lib.hid (Right_any a0 n0 c0 xs v2 (HD.out.1.old Q3.out) (by omega))
      rw [hx] at HRt
      clear hx
      go_wp2_with fail
      refine HY.out.mono ?_
      rintro e w4 ⟨rfl, rfl⟩
      clear HY
      go_wp2_with fail
      refine HRt.out.mono ?_
      rintro e w5 ⟨rfl, rfl⟩
      clear HRt
      go_wp2_with fail
      go_ret
      exact ⟨rfl, Q3.out⟩
  · obtain rfl := hbad he
    have hne : (er == 0) = false := by simpa using he
    have hne2 : (er != 0) = true := by simpa using he
    clear hbad hok
    go_wp2_with fail
    go_quiet (fail)
    obtain ⟨V, hV⟩ : ∃ V, V = w2.drewN nq := ⟨_, rfl⟩
    have Q3 := Lib.hid (show Below w.heap.size w V by rw [hV]; exact below_drewN B2.out nq)
    rw [← hV]
    clear hV
    go_wp2_with fail
    by_cases hx : areM xs = true
    · have HY := Lib.hid (Members_yes a0 n0 c0 xs V (HD.out.1.old Q3.out) hx)
      have hx7 := (areM_len hx).1
      have hB20 : (memB xs).length ≤ 20 := by
        unfold memB
        have := uvarint_length64 (show xs.length < 18446744073709551616 by omega)
        rw [List.length_append, flat_small (areM_all hx)]
        omega
      obtain ⟨M, hM⟩ : ∃ M, M = memB xs := ⟨_, rfl⟩
      rw [← hM] at HY hB20
      have HM := Lib.hid (And.intro hM hx)
      clear hM hx
      go_wp2_with fail
      refine HY.out.mono ?_
      rintro e w4 ⟨a4, c4, rfl, hi4, b4⟩
      have B4 := Lib.hid (And.intro hi4 (Q3.out.trans (b4.mono Q3.out.size)))
      clear hi4 b4 HY
      have HRt := Lib.hid (Right_any a0 n0 c0 xs w4 (HD.out.1.old B4.out.2) (by omega))
      rw [HM.out.2] at HRt
      go_wp2_with fail
      refine HRt.out.mono ?_
      rintro e w5 ⟨rfl, rfl⟩
      clear HRt
      have HO := Lib.hid (MembersOf_any a4 M.length c4 M w5 B4.out.1 (by omega))
      go_wp2_with fail
      refine HO.out.mono ?_
      rintro e w6 ⟨v6, zs, er6, rfl, hbad6, hok6, hfw6, b6⟩
      obtain rfl := hfw6 xs HM.out.2 HM.out.1
      obtain ⟨a6, c6, rfl, hd6, hz6, hl6⟩ := hok6 rfl
      obtain rfl := memB_inj HM.out.2 hz6 (HM.out.1.symm.trans hl6)
      rw [hl] at hd6 ⊢
      have B6 := Lib.hid (And.intro (B4.out.2.trans (b6.mono B4.out.2.size)) (And.intro b6 hd6))
      have HMR := Lib.hid (fun (W : World) (h : Below w6.heap.size w6 W) => by
        have := refMembers_any a0 n0 c0 xs W ((HD.out.1.old B6.out.1).old h) HM.out.2
        rw [← HM.out.1] at this
        exact this)
      have HC := Lib.hid (fun (W : World) (h : Below w6.heap.size w6 W) => str_of ((B4.out.1.old B6.out.2.1).old h))
      obtain ⟨T, hT⟩ : ∃ T : ByteArray, T = ⟨M.toArray⟩ := ⟨_, rfl⟩
      rw [← hT] at HMR HC
      have hTT : (T.toList == T.toList) = true := by simp
      clear hbad6 hok6 hfw6 b6 hd6 hz6 hl6 HO hT
      go_wp2_with fail
      refine begin' 19 (fun ZZ => Below w6.heap.size w6 ZZ) hmix ((Below.refl _ w6).drew) (fun hS0 => ?_)
      refine Ht.takeD 8 (i := 0) ⟨some 73, _, _, _, _, _⟩ (.int .i64 0) rfl (by kernel_rfl) (by kernel_rfl) (by decide) (by kernel_rfl) (by kernel_rfl) (by kernel_rfl) hS0 (Or.inl ⟨by rfl, by (intro X hX; go_simp)⟩) ?_
      simp only [Act.put, List.setIfInBounds_toArray, List.set_cons_zero, List.set_cons_succ]
      refine Ht.takeD 8 (i := 1) ⟨some 74, _, _, _, _, _⟩ (.bool false) rfl (by kernel_rfl) (by kernel_rfl) (by decide) (by kernel_rfl) (by kernel_rfl) (by kernel_rfl) hS0 (Or.inl ⟨by rfl, by (intro X hX; go_simp)⟩) ?_
      simp only [Act.put, List.setIfInBounds_toArray, List.set_cons_zero, List.set_cons_succ]
      refine Ht.takeD 8 (i := 2) ⟨some 75, _, _, _, _, _⟩ (.bool false) rfl (by kernel_rfl) (by kernel_rfl) (by decide) (by kernel_rfl) (by kernel_rfl) (by kernel_rfl) hS0 (Or.inl ⟨by rfl, by (intro X hX; go_simp)⟩) ?_
      simp only [Act.put, List.setIfInBounds_toArray, List.set_cons_zero, List.set_cons_succ]
      refine Ht.takeD 8 (i := 3) ⟨some 76, _, _, _, _, _⟩ (.slice a4 M.length c4) rfl (by kernel_rfl) (by kernel_rfl) (by decide) (by kernel_rfl) (by kernel_rfl) (by kernel_rfl) hS0 (Or.inl ⟨by rfl, by (intro X hX; go_simp)⟩) ?_
      simp only [Act.put, List.setIfInBounds_toArray, List.set_cons_zero, List.set_cons_succ]
      refine Ht.takeD 8 (i := 4) ⟨some 77, _, _, _, _, _⟩ (.string T) rfl (by kernel_rfl) (by kernel_rfl) (by decide) (by kernel_rfl) (by kernel_rfl) (by kernel_rfl) hS0 (Or.inl ⟨by rfl, by (intro X hX; have := HC.out X hX; go_simp)⟩) ?_
      simp only [Act.put, List.setIfInBounds_toArray, List.set_cons_zero, List.set_cons_succ]
      refine Ht.takeD 8 (i := 5) ⟨some 78, _, _, _, _, _⟩ (.slice a0 n0 c0) rfl (by kernel_rfl) (by kernel_rfl) (by decide) (by kernel_rfl) (by kernel_rfl) (by kernel_rfl) hS0 (Or.inl ⟨by rfl, by (intro X hX; go_simp)⟩) ?_
      simp only [Act.put, List.setIfInBounds_toArray, List.set_cons_zero, List.set_cons_succ]
      refine Ht.step (i := 6) ⟨some 79, _, _, _, _, _⟩ rfl (by kernel_rfl) (by rfl) (fun K hK => ?_)
      refine Ht.enter 13 #[.slice a0 n0 c0] (by have hen := fun args w => enters_of (P := Try.prog) Try.func13 (by kernel_rfl) rfl args w; go_simp) (HMR.out _ hS0) ?_
      rintro e v7 ⟨rfl, b7⟩
      have B7 := Lib.hid b7
      have q7 : Below w6.heap.size w6 v7 := hS0.trans (B7.out.mono hS0.size)
      clear b7
      refine ⟨_, rfl, hK _ _ (fun hn => q7) (fun hnx => ?_)⟩
      clear hK K hnx
      try simp only [Act.put, List.setIfInBounds_toArray, List.set_cons_zero, List.set_cons_succ]
      refine Ht.takeD 8 (i := 7) ⟨some 80, _, _, _, _, _⟩ (.bool false) rfl (by kernel_rfl) (by kernel_rfl) (by decide) (by kernel_rfl) (by kernel_rfl) (by kernel_rfl) q7 (Or.inl ⟨by rfl, by (intro X hX; have := hTT; go_simp)⟩) ?_
      simp only [Act.put, List.setIfInBounds_toArray, List.set_cons_zero, List.set_cons_succ]
      refine Ht.takeD 8 (i := 8) ⟨some 81, _, _, _, _, _⟩ (.bool false) rfl (by kernel_rfl) (by kernel_rfl) (by decide) (by kernel_rfl) (by kernel_rfl) (by kernel_rfl) q7 (Or.inl ⟨by rfl, by (intro X hX; go_simp)⟩) ?_
      simp only [Act.put, List.setIfInBounds_toArray, List.set_cons_zero, List.set_cons_succ]
      refine Ht.takeD 8 (i := 9) ⟨some 82, _, _, _, _, _⟩ (.bool false) rfl (by kernel_rfl) (by kernel_rfl) (by decide) (by kernel_rfl) (by kernel_rfl) (by kernel_rfl) q7 (Or.inl ⟨by rfl, by (intro X hX; go_simp)⟩) ?_
      simp only [Act.put, List.setIfInBounds_toArray, List.set_cons_zero, List.set_cons_succ]
      refine Ht.takeD 8 (i := 10) ⟨some 83, _, _, _, _, _⟩ (.int .i64 0) rfl (by kernel_rfl) (by kernel_rfl) (by decide) (by kernel_rfl) (by kernel_rfl) (by kernel_rfl) q7 (Or.inl ⟨by rfl, by (intro X hX; go_simp)⟩) ?_
      simp only [Act.put, List.setIfInBounds_toArray, List.set_cons_zero, List.set_cons_succ]
      refine Ht.takeD 8 (i := 11) ⟨some 84, _, _, _, _, _⟩ (.bool false) rfl (by kernel_rfl) (by kernel_rfl) (by decide) (by kernel_rfl) (by kernel_rfl) (by kernel_rfl) q7 (Or.inl ⟨by rfl, by (intro X hX; go_simp)⟩) ?_
      simp only [Act.put, List.setIfInBounds_toArray, List.set_cons_zero, List.set_cons_succ]
      refine Ht.takeD 8 (i := 12) ⟨some 85, _, _, _, _, _⟩ (.bool false) rfl (by kernel_rfl) (by kernel_rfl) (by decide) (by kernel_rfl) (by kernel_rfl) (by kernel_rfl) q7 (Or.inl ⟨by rfl, by (intro X hX; go_simp)⟩) ?_
      simp only [Act.put, List.setIfInBounds_toArray, List.set_cons_zero, List.set_cons_succ]
      refine Ht.takeD 8 (i := 13) ⟨some 86, _, _, _, _, _⟩ (.bool false) rfl (by kernel_rfl) (by kernel_rfl) (by decide) (by kernel_rfl) (by kernel_rfl) (by kernel_rfl) q7 (Or.inl ⟨by rfl, by (intro X hX; go_simp)⟩) ?_
      simp only [Act.put, List.setIfInBounds_toArray, List.set_cons_zero, List.set_cons_succ]
      refine Ht.takeD 8 (i := 14) ⟨some 87, _, _, _, _, _⟩ (.slice a6 n0 c6) rfl (by kernel_rfl) (by kernel_rfl) (by decide) (by kernel_rfl) (by kernel_rfl) (by kernel_rfl) q7 (Or.inl ⟨by rfl, by (intro X hX; go_simp)⟩) ?_
      simp only [Act.put, List.setIfInBounds_toArray, List.set_cons_zero, List.set_cons_succ]
      refine Ht.takeD 8 (i := 15) ⟨some 88, _, _, _, _, _⟩ (.int .i64 n0) rfl (by kernel_rfl) (by kernel_rfl) (by decide) (by kernel_rfl) (by kernel_rfl) (by kernel_rfl) q7 (Or.inl ⟨by rfl, by (intro X hX; go_simp)⟩) ?_
      simp only [Act.put, List.setIfInBounds_toArray, List.set_cons_zero, List.set_cons_succ]
      refine Ht.takeD 8 (i := 16) ⟨some 89, _, _, _, _, _⟩ (.slice a0 n0 c0) rfl (by kernel_rfl) (by kernel_rfl) (by decide) (by kernel_rfl) (by kernel_rfl) (by kernel_rfl) q7 (Or.inl ⟨by rfl, by (intro X hX; go_simp)⟩) ?_
      simp only [Act.put, List.setIfInBounds_toArray, List.set_cons_zero, List.set_cons_succ]
      refine Ht.takeD 8 (i := 17) ⟨some 90, _, _, _, _, _⟩ (.int .i64 n0) rfl (by kernel_rfl) (by kernel_rfl) (by decide) (by kernel_rfl) (by kernel_rfl) (by kernel_rfl) q7 (Or.inl ⟨by rfl, by (intro X hX; go_simp)⟩) ?_
      simp only [Act.put, List.setIfInBounds_toArray, List.set_cons_zero, List.set_cons_succ]
      refine Ht.takeD 8 (i := 18) ⟨some 91, _, _, _, _, _⟩ (.bool false) rfl (by kernel_rfl) (by kernel_rfl) (by decide) (by kernel_rfl) (by kernel_rfl) (by kernel_rfl) q7 (Or.inl ⟨by rfl, by (intro X hX; go_simp)⟩) ?_
      simp only [Act.put, List.setIfInBounds_toArray, List.set_cons_zero, List.set_cons_succ]
      refine Ht.step (i := 19) ⟨some 92, _, _, _, _, _⟩ rfl (by kernel_rfl) (by rfl) (fun K hK => ?_)
      go_simp
      refine hK _ _ (fun hn => absurd rfl hn) (fun hnx => ?_)
      clear hK K hnx
      try simp only [Act.put, List.setIfInBounds_toArray, List.set_cons_zero, List.set_cons_succ]
      refine done (by kernel_rfl) ?_
      have Q7 := Lib.hid (And.intro q7 (B6.out.1.trans (q7.mono B6.out.1.size)))
      clear q7 hS0 HMR HC
      go_wp2_with fail
      go_loopw [95] (fun s95 wr => ∃ k : Nat, s95 = .int .i64 k ∧ k ≤ n0 ∧ Below v7.heap.size v7 wr) (fun s95 _ => n0 - (RowKit.intOf s95).toNat)
      case atStart => exact ⟨0, rfl, Nat.zero_le _, Below.refl _ _⟩
      case round =>
        obtain ⟨k, rfl, hk, hb⟩ := hrel
        by_cases hlt : k < n0
        · have hkl : k < xs.length := by omega
          have hbb := Q7.out.2.trans (hb.mono Q7.out.2.size)
          have hda := HD.out.1.old hbb
          have hdb := (B6.out.2.2.old Q7.out.1).old hb
          rcases hda.2.2 with h0 | ⟨b, o, rfl, hcell⟩
          · omega
          rcases hdb.2.2 with h0 | ⟨b', o', rfl, hcell'⟩
          · omega
          have hc := hcell k hkl
          have hc' := hcell' k hkl
          obtain ⟨x, hx⟩ : ∃ x, x = xs[k] := ⟨_, rfl⟩
          rw [← hx] at hc hc'
          simp only [iv] at hc hc'
          have HK := Lib.hid hb
          clear hb hbb hda hdb hcell hcell' hx
          go_wp2_with fail
          go_quiet (fail)
          go_wp2_with fail
          go_roundw
          case rel => exact ⟨k + 1, rfl, hlt, below_drewN HK.out nq⟩
          case measure => simp only [RowKit.intOf]; omega
        · have HK := Lib.hid (Q7.out.2.trans (hb.mono Q7.out.2.size))
          clear hb
          go_wp2_with fail
          go_ret
          exact ⟨rfl, HK.out⟩
    · rw [Bool.not_eq_true] at hx
      have HY := Lib.hid (Members_no a0 n0 c0 xs V (HD.out.1.old Q3.out) (by omega) hx)
      have HRt := Lib.hid (Right_any a0 n0 c0 xs V (HD.out.1.old Q3.out) (by omega))
      rw [hx] at HRt
      clear hx
      go_wp2_with fail
      refine HY.out.mono ?_
      rintro e w4 ⟨rfl, rfl⟩
      clear HY
      go_wp2_with fail
      refine HRt.out.mono ?_
      rintro e w5 ⟨rfl, rfl⟩
      clear HRt
      go_wp2_with fail
      go_ret
      exact ⟨rfl, Q3.out⟩
end Go.Proofs.Ytfidmjpjfigmcaa.Cm
