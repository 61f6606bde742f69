
/- expressions: CronNames' walk -/
import Derived.Test.YtjbfpllkgaialaaDoorRc6
import Derived.Test.YtjbfpllkgaialaaDoorCa6
namespace Go.Proofs.YtjbfpllkgaialaaDoor.Cn
open Go.RowKit Go.Lib
set_option linter.unusedVariables false

theorem hb_mk {p : Nat → Bool} {x : Nat} (h : x < 64) : hb (mk p) ((x : Nat) : Int) = p x := by
  unfold hb
  rw [Int.toNat_natCast, mk_bit]
  simp [h]
theorem fp_day {d : Nat} (h1 : 1 ≤ d) (h2 : d ≤ 31) : fp 2 (sp 44 [42]) d = true := by
  have e : sp 44 [42] = [[42]] := by decide
  unfold fp
  rw [if_neg (by decide), e]
  unfold setF
  rw [List.any_cons, List.any_nil, Bool.or_false, read_star _ (fds_ok 2)]
  have : (fds 2).lo = 1 ∧ (fds 2).hi = 31 := ⟨rfl, rfl⟩
  unfold inP
  simp [this.1, this.2, Nat.mod_one]; omega
theorem fp_wd {d : Nat} (h2 : d ≤ 6) : fp 4 (sp 44 [42]) d = true := by
  have e : sp 44 [42] = [[42]] := by decide
  have hs : ∀ y, y ≤ 7 → setF (fds 4) (sp 44 [42]) y = true := fun y hy => by
    rw [e]
    unfold setF
    rw [List.any_cons, List.any_nil, Bool.or_false, read_star _ (fds_ok 4)]
    have : (fds 4).lo = 0 ∧ (fds 4).hi = 7 := ⟨rfl, rfl⟩
    unfold inP
    simp [this.1, this.2, Nat.mod_one]; omega
  unfold fp
  rw [if_pos rfl]
  unfold fold
  rw [hs d (by omega)]
  have : ¬ d = 7 := by omega
  simp [this]
/-- a moment's numbers -/
theorem moment_nat {t y mo d wd h mi : Int} (i : Ca.IsM t y mo d wd h mi) : ∃ mo' d' wd' h' mi' : Nat, mo = (mo' : Nat) ∧ d = (d' : Nat) ∧ wd = (wd' : Nat) ∧ h = (h' : Nat) ∧ mi = (mi' : Nat) ∧ mo' ≤ 12 ∧ 1 ≤ d' ∧ d' ≤ 31 ∧ wd' ≤ 6 ∧ h' ≤ 23 ∧ mi' ≤ 59 := by
  have h1 := i.m1; have h2 := i.m2; have h3 := i.d1; have h4 := i.d2; have h5 := Ca.dm_le y mo; have h6 := i.wd; have h7 := i.h; have h8 := i.mi
  exact ⟨mo.toNat, d.toNat, wd.toNat, h.toNat, mi.toNat, by omega, by omega, by omega, by omega, by omega, by omega, by omega, by omega, by omega, by omega, by omega⟩
theorem names_same {s : L} (hs : parseE s = 0) {mo d wd h mi : Nat} (hmo : mo ≤ 12) (hd1 : 1 ≤ d) (hd : d ≤ 31) (hwd : wd ≤ 6) (hh : h ≤ 23) (hmi : mi ≤ 59) :
    namesB (parseV s) (mo : Nat) (d : Nat) (wd : Nat) (h : Nat) (mi : Nat) = namedR (fun j => fp j (sp 44 ((sp 32 s).getD j []))) ((sp 32 s).getD 2 []) ((sp 32 s).getD 4 []) mo d wd h mi := by
  have hV : parseV s = exOf (sp 32 s) := by unfold parseV; rw [if_pos hs]
  rw [hV]
  generalize sp 32 s = ts
  unfold namesB exOf fv
  dsimp only
  rw [hb_mk (by omega), hb_mk (by omega), hb_mk (by omega), hb_mk (by omega), hb_mk (by omega)]
  unfold namedR
  dsimp only
  have e0 : ∀ z, fp 0 (sp 44 (ts.getD 0 [])) z = setF (fds 0) (sp 44 (ts.getD 0 [])) z := fun z => by unfold fp; rw [if_neg (by decide)]
  have e1 : ∀ z, fp 1 (sp 44 (ts.getD 1 [])) z = setF (fds 1) (sp 44 (ts.getD 1 [])) z := fun z => by unfold fp; rw [if_neg (by decide)]
  have e2 : ∀ z, fp 2 (sp 44 (ts.getD 2 [])) z = setF (fds 2) (sp 44 (ts.getD 2 [])) z := fun z => by unfold fp; rw [if_neg (by decide)]
  have e3 : ∀ z, fp 3 (sp 44 (ts.getD 3 [])) z = setF (fds 3) (sp 44 (ts.getD 3 [])) z := fun z => by unfold fp; rw [if_neg (by decide)]
  have e4 : ∀ z, fp 4 (sp 44 (ts.getD 4 [])) z = fold (setF (fds 4) (sp 44 (ts.getD 4 []))) z := fun z => by unfold fp; rw [if_pos rfl]
  rw [← e0, ← e1, ← e2, ← e3, ← e4]
  congr 3
  have d2 : ts.getD 2 [] = [42] → fp 2 (sp 44 (ts.getD 2 [])) d = true := fun h => by rw [h]; exact fp_day hd1 hd
  have d4 : ts.getD 4 [] = [42] → fp 4 (sp 44 (ts.getD 4 [])) wd = true := fun h => by rw [h]; exact fp_wd hwd
  generalize fp 2 (sp 44 (ts.getD 2 [])) d = D at d2 ⊢
  generalize fp 4 (sp 44 (ts.getD 4 [])) wd = W at d4 ⊢
  by_cases h2 : ts.getD 2 [] = [42]
  · rw [d2 h2, if_pos h2, decide_eq_true h2]; simp
  · rw [if_neg h2, decide_eq_false h2]
    by_cases h4 : ts.getD 4 [] = [42]
    · rw [d4 h4, if_pos h4, decide_eq_true h4]; simp
    · rw [if_neg h4, decide_eq_false h4]; simp
theorem lives_twice (s : L) (t : Int) (hl : 200 < s.length) (w : World) (hg : Gl w) :
    Calls Tryd.prog 3 #[S s, .int .i64 t] w fun e w' => e = .returned (.bool true) ∧ Below w.heap.size w w' := by
  have hz := size_S s
  have hlI : (200 : Int) < (s.length : Nat) := by omega
  have HG := Lib.hid hg
  clear hg
  go_enter Tryd.func3, Tryd.ntmps3
  go_wp2_with fail
  refine (lives07_any w HG.out).mono ?_
  rintro q w1 ⟨rfl, hb1⟩
  have H1 := Lib.hid hb1
  clear hb1
  go_wp2_with fail
  refine (lives07_any w1 (HG.out.old H1.out)).mono ?_
  rintro q w2 ⟨rfl, hb2⟩
  go_wp2_with fail
  go_ret
  exact ⟨rfl, H1.out.trans (hb2.mono H1.out.size)⟩
set_option maxRecDepth 20000 in
set_option maxHeartbeats 8000000 in
theorem cronnames_in (s : L) (t : Int) (ht : Ca.I64 t) (hl : s.length ≤ 200) (w : World) (hg : Gl w) :
    Calls Tryd.prog 3 #[S s, .int .i64 t] w fun e w' => e = .returned (.bool true) ∧ Below w.heap.size w w' := by
  have hz := size_S s
  have hlI : ((s.length : Nat) : Int) ≤ 200 := by omega
  have hP := fun W hW => parse_any s W hW
  have hok := exOk_parse s
  obtain ⟨X, hX⟩ : ∃ x, x = parseV s := ⟨_, rfl⟩
  obtain ⟨e, he⟩ : ∃ x, x = parseE s := ⟨_, rfl⟩
  rw [← hX, ← he] at hP
  rw [← hX] at hok
  have hA := fun W => at_any X hok t ht W
  have HG := Lib.hid hg
  have HX := Lib.hid (And.intro hX (And.intro he (And.intro hP (And.intro hA (And.intro ht hok)))))
  clear hP hA hok hX he ht hg hl
  go_enter Tryd.func3, Tryd.ntmps3
  go_wp2_with fail
  refine (lives07_any w HG.out).mono ?_
  rintro q w1 ⟨rfl, hb1⟩
  have H1 := Lib.hid hb1
  clear hb1
  go_wp2_with fail
  refine (HX.out.2.2.1 w1 (HG.out.old H1.out)).mono ?_
  rintro q w2 ⟨rfl, hb⟩
  have hb2 := H1.out.trans (hb.mono H1.out.size)
  obtain ⟨a1, a2, a3⟩ := cell_new w2 (exC X) 25
  have H2 := Lib.hid (And.intro (hb2.trans (a1.mono hb2.size)) a2)
  clear hb hb2 a1 a2 a3
  by_cases he0 : e = 0
  · subst he0
    by_cases ho : t < 0 ∨ 1099511627776 < t
    · have hb0 : ∀ b, AtIs X t b → b = false := fun b hb => by
        rcases hb with ⟨_, h⟩ | ⟨h, _⟩
        · exact h
        · omega
      have HO := Lib.hid hb0
      clear hb0
      rcases (show t < 0 ∨ (0 ≤ t ∧ 1099511627776 < t) by omega) with h | ⟨h, h'⟩
      all_goals
        clear ho
        go_wp2_with fail
        refine (HX.out.2.2.2.1 _).mono ?_
        rintro q w3 ⟨⟨b, rfl, hb⟩, hb3⟩
        obtain rfl := HO.out b hb
        go_wp2_with fail
        go_ret
        exact ⟨rfl, H2.out.1.trans (hb3.mono H2.out.1.size)⟩
    · have h0 : 0 ≤ t := by omega
      have h1 : t ≤ 1099511627776 := by omega
      clear ho
      go_wp2_with fail
      refine (rparse_any s HX.out.2.1.symm _).mono ?_
      rintro q w3 ⟨v6, g5, c5, ms, rfl, hms, hpm⟩
      have hb3 := H2.out.1.trans (hpm.bel.mono H2.out.1.size)
      have hx3 := old_blk hpm.bel H2.out.2
      have H3 := Lib.hid (And.intro hms (And.intro hpm (And.intro hb3 hx3)))
      clear hms hpm hb3 hx3
      go_wp2_with fail
      refine (Ca.Moment_in t w3 h0 h1).mono ?_
      rintro q w4 ⟨y, mo, d, wd, h, mi, rfl, him, hb⟩
      obtain ⟨mo, d, wd, h, mi, rfl, rfl, rfl, rfl, rfl, n1, n2, n3, n4, n5, n6⟩ := moment_nat him
      obtain ⟨a1, a2, a3⟩ := cell_new w4 (Ca.momC y mo d wd h mi) 35
      have hpm5 := (H3.out.2.1.old hb).old a1
      have hb5 := (H3.out.2.2.1.trans (hb.mono H3.out.2.2.1.size))
      have hx5 := old_blk a1 (old_blk hb H3.out.2.2.2)
      have h5 : (sp 32 s).length = 5 := by
        have h9 := HX.out.2.1
        unfold parseE at h9
        split at h9
        · cases h9
        · split at h9
          · assumption
          · cases h9
      have hnm := named_any (sp 32 s) h5 _ _ g5 c5 v6 ms H3.out.1 hpm5 y mo d wd h mi n1 n3 n4 n5 n6
      have hsame := names_same HX.out.2.1.symm n1 n2 n3 n4 n5 n6
      rw [← HX.out.1] at hsame
      obtain ⟨R, hR⟩ : ∃ R, R = namedR (fun j => fp j (sp 44 ((sp 32 s).getD j []))) ((sp 32 s).getD 2 []) ((sp 32 s).getD 4 []) mo d wd h mi := ⟨_, rfl⟩
      rw [← hR] at hnm hsame
      have H5 := Lib.hid (And.intro (hb5.trans (a1.mono hb5.size)) (And.intro hx5 (And.intro a2 (And.intro him (And.intro hsame hnm)))))
      have hnA := fun W => names_any X HX.out.2.2.2.2.2 y mo d wd h mi (isM_in him).1 (isM_in him).2.1 (isM_in him).2.2.1 (isM_in him).2.2.2.1 (isM_in him).2.2.2.2 W
      rw [hsame] at hnA
      have HA := Lib.hid hnA
      clear him hb a1 a2 a3 hpm5 hb5 hx5 h5 hnm hsame hR hnA n1 n2 n3 n4 n5 n6
      go_wp2_with fail
      refine H5.out.2.2.2.2.2.mono ?_
      rintro q w6 ⟨rfl, hb6⟩
      have H6 := Lib.hid (And.intro (H5.out.1.trans (hb6.mono H5.out.1.size)) (And.intro (old_blk hb6 H5.out.2.1) (old_blk hb6 H5.out.2.2.1)))
      clear hb6
      obtain ⟨⟨x0, x1, x2, x3, x4, x5, x6⟩, _⟩ := seven H6.out.2.1
      go_wp2_with fail
      refine (HX.out.2.2.2.1 _).mono ?_
      rintro q w7 ⟨⟨b, rfl, hb⟩, hb7⟩
      have hbR : b = R := by
        rcases hb with ⟨h9, _⟩ | ⟨_, y', mo', d', wd', hh', mi', hj, hbb⟩
        · omega
        · obtain ⟨rfl, rfl, rfl, rfl, rfl, rfl⟩ := H5.out.2.2.2.1.same hj
          rw [hbb]; exact H5.out.2.2.2.2.1
      subst hbR
      have H7 := Lib.hid (And.intro (H6.out.1.trans (hb7.mono H6.out.1.size)) (And.intro (old_blk hb7 H6.out.2.1) (old_blk hb7 H6.out.2.2)))
      clear hb hb7 x0 x1 x2 x3 x4 x5 x6
      obtain ⟨⟨x0, x1, x2, x3, x4, x5, x6⟩, _⟩ := seven H7.out.2.1
      obtain ⟨⟨z0, z1, z2, z3, z4, z5⟩, _⟩ := Ca.mom_cells H7.out.2.2
      go_wp2_with fail
      refine (HA.out _).mono ?_
      rintro q w8 ⟨rfl, hb8⟩
      go_wp2_with fail
      go_ret
      exact ⟨rfl, H7.out.1.trans (hb8.mono H7.out.1.size)⟩
  · have heI : ((e : Int) != 0) = true := by simp; omega
    go_wp2_with fail
    go_ret
    exact ⟨rfl, H2.out.1⟩
theorem names_law (a : ByteArray) (t : Int) (ht : (Lit.int .i64 t).wf = true) (w : World) (hg : Gl w) :
    Calls Tryd.prog 3 #[.string a, .int .i64 t] w fun e w' => e = .returned (.bool true) ∧ Below w.heap.size w w' := by
  have ht2 : Ca.I64 t := by simpa [Ca.I64, Lit.wf, IntKind.min, IntKind.max, IntKind.signed, IntKind.bits] using ht
  rw [show Value.string a = S a.data.toList by cases a; simp [S]]
  by_cases h : a.data.toList.length ≤ 200
  · exact cronnames_in _ t ht2 h w hg
  · exact lives_twice _ t (by omega) w hg
end Go.Proofs.YtjbfpllkgaialaaDoor.Cn
