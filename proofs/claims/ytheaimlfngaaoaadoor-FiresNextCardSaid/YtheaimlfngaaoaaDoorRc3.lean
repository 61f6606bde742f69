
/- the document's answer for an expression: a part that is right -/
import Derived.Test.YtheaimlfngaaoaaDoorRcM
namespace Go.Proofs.YtheaimlfngaaoaaDoor.Cn
open Go.RowKit Go.Lib Go.Proofs.YtheaimlfngaaoaaDoor.Ht
set_option linter.unusedVariables false
set_option linter.unusedSimpArgs false

abbrev ints (l : List Nat) : List Value := l.map fun n => .int .i64 (n : Nat)
theorem info3 : (Tryd.prog.info? 3).map (fun i => (i.zero, i.size, i.bytes)) = some (some (.int .i64 0), 1, 8) := by kernel_rfl
/-- what is told of a part: its values -/
def TellsP (p : Pt) (w : World) (e : Ending) (w' : World) : Prop :=
  (∃ v k, e = .returned (.tuple #[v, .int .i64 0]) ∧ w'.ownsRow w.heap.size 3 1 v k (ints (vals p.1 p.2.2 k)) ∧ k ≤ 60 ∧ ∀ z, z ∈ vals p.1 p.2.2 k ↔ inP p z = true) ∧ Below w.heap.size w w'
theorem fiI_some {c : UInt8} {l : L} {k : Nat} (h : fi c l = some k) : fiI c l = (k : Nat) := by unfold fiI; rw [h]
theorem fiI_none {c : UInt8} {l : L} (h : fi c l = none) : fiI c l = -1 := by unfold fiI; rw [h]
set_option maxRecDepth 20000 in
set_option maxHeartbeats 16000000 in
theorem rpart_any (i : Nat) (hi : i < 5) (s : L) (hs : s.length ≤ 1000) (h : errP (fds i) s = 0) (w : World) :
    Calls Tryd.prog 21 #[.int .i64 (i : Nat), S s] w (TellsP (readT (fds i) s).1 w) := by
  have hform := form_of h
  obtain ⟨q1, q2, q3, q4⟩ := part_in h
  have q5 : (readT (fds i) s).1.2.2 ≤ 60 := by
    unfold errP at h
    split at h
    · split at h
      · rename_i hm
        unfold mayB at hm
        simp only [Bool.and_eq_true, decide_eq_true_eq] at hm
        exact hm.2
      · cases h
    · cases h
  obtain ⟨⟨x, y, d⟩, hp⟩ : ∃ p, p = (readT (fds i) s).1 := ⟨_, rfl⟩
  rw [← hp] at hform q1 q2 q3 q4 q5 ⊢
  dsimp only at q1 q2 q3 q4 q5
  clear hp h
  have hh := (fds_ok i).hi
  have hll := (fds_ok i).lo
  obtain ⟨i0, hi0, hz0, hz1, hz2⟩ := info_parts info3
  have hz := size_S s
  have hmix : Tryd.prog.follows .mixedOrders = true := by kernel_rfl
  have HB := Lib.hid (bounds_any i hi w)
  have hnum := fun (t : L) (ht : t.length ≤ 1000) (W : World) => rnumber_any i hi t ht W
  have hnum0 : ∀ (t : L) (d : Nat) (ht : t.length ≤ 1000), dgT t = (d, true) → ∀ W : World, Calls Tryd.prog 38 #[.int .i64 0, S t] W fun e w' => e = .returned (.int .i64 (d : Nat)) ∧ Below W.heap.size W w' := fun t d ht hd W => by
    have := rnumber_any 0 (by decide) t ht W
    rw [nI_dg hd] at this
    exact this
  obtain ⟨lo, hlo⟩ : ∃ x, x = (fds i).lo := ⟨_, rfl⟩
  obtain ⟨hi', hhi⟩ : ∃ x, x = (fds i).hi := ⟨_, rfl⟩
  have HH := Lib.hid (And.intro hnum (And.intro hnum0 (And.intro hlo hhi)))
  rw [← hlo] at HB q1 hll; rw [← hhi] at HB q3 hh
  clear hnum hnum0 hlo hhi hi
  have hsI : ((s.length : Nat) : Int) ≤ 1000 := by omega
  go_enter Tryd.func21, Tryd.ntmps21
  go_wp2_with fail
  refine HB.out.mono ?_
  rintro e w1 ⟨rfl, hb1⟩
  have H1 := Lib.hid hb1
  clear hb1
  go_wp2_with fail
  refine (rat_any s hs 47 w1).mono ?_
  rintro e w2 ⟨rfl, rfl⟩
  rcases hform with ⟨n, f1, f2, f3, f4, f5⟩ | ⟨f1, f2, f3⟩ | ⟨k, f1, f2, f3⟩
  · -- NUM
    cases f5
    have hA := fiI_none f2
    rw [hA]
    go_wp2_with fail
    refine (rat_any s hs 45 w2).mono ?_
    rintro e w3 ⟨rfl, rfl⟩
    rw [fiI_none f3]
    have hstar : (s == [42]) = false := by simpa using f4
    have hn := HH.out.1 s hs w3
    rw [nI_of f1] at hn
    have HN := Lib.hid hn
    clear hn f1 f2 f3 f4 hA
    go_wp2_with fail
    refine HN.out.mono ?_
    rintro e w4 ⟨rfl, hb⟩
    have HW := Lib.hid (H1.out.trans (hb.mono H1.out.size))
    clear hb
    have Q1 : ((lo : Nat) : Int) ≤ ((x : Nat) : Int) := by omega
    have Q2 : ((x : Nat) : Int) ≤ ((x : Nat) : Int) := by omega
    have Q3 : ((x : Nat) : Int) ≤ ((hi' : Nat) : Int) := by omega
    have Q4 : (1 : Int) ≤ ((1 : Nat) : Int) := by omega
    have Q5 : ((1 : Nat) : Int) ≤ 60 := by omega
    go_wp2_with fail
    simp only [show decide (x < lo) = false from decide_eq_false (by omega), show decide (hi' < x) = false from decide_eq_false (by omega), show decide (x < x) = false from decide_eq_false (by omega), show decide (1 < 1) = false from decide_eq_false (by omega), show decide (60 < 1) = false from decide_eq_false (by omega), show decide (((1 : Nat) : Int) < 1) = false from decide_eq_false (by omega), show decide ((60 : Int) < ((1 : Nat) : Int)) = false from decide_eq_false (by omega), Bool.or_false, Bool.false_or]
    go_loopw [16, 15] (fun z v wr => ∃ k : Nat, z = .int .i64 ((x + k * 1 : Nat) : Int) ∧ k ≤ 60 ∧ (∀ j, j < k → x + j * 1 ≤ x) ∧ wr.ownsRow w.heap.size 3 1 v k (ints (vals x 1 k)) ∧ Below w.heap.size w wr) (fun z _ _ => 300 - (RowKit.intOf z).toNat)
    case atStart => exact ⟨0, by simp, by omega, fun j hj => absurd hj (Nat.not_lt_zero j), World.ownsRow_nil _ _ _ _, HW.out⟩
    case round =>
      obtain ⟨k, rfl, hk, hj, hown, hbel⟩ := hrel
      have hkd : k ≤ k * 1 := Nat.le_mul_of_pos_right k (by omega)
      have hks : x + (k + 1) * 1 = x + k * 1 + 1 := by rw [Nat.add_mul]; omega
      have HJ := Lib.hid (And.intro hj (And.intro hbel hks))
      clear hj hbel hks
      generalize hK : x + k * 1 = K at HJ
      have hkK : k ≤ K := by omega
      have HK := Lib.hid hK
      clear hK hkd
      by_cases hle : K ≤ x
      · have hleI : ((K : Nat) : Int) ≤ ((x : Nat) : Int) := by omega
        go_wp2_with (at_builtin; refine wpList_append_own _ rfl _ _ 62 rfl w.heap.size 3 i0 (.int .i64 0) 1 8 Tryd.underlying62 hi0 hz0 hz1 hz2 rfl (by decide) _ _ _ rfl (hown.alloc _) ⟨wr.heap.size, 0, none⟩ 1 1 [.int .i64 (K : Nat)] rfl rfl ?c1 ?c2 ?c3 ?c4 ?c5 ?_)
        case c1 =>
          intro j u hj
          match j, hj with
          | 0, hj => simp at hj; subst hj; simp [Addr.add]
        case c2 => intro u hu; simp at hu; subst hu; rfl
        case c3 => have : maxLen = 9223372036854775807 := rfl; omega
        case c4 => omega
        case c5 => have := HJ.out.2.1.size; first | omega | (simp; omega)
        intro v' w9 hown' hgrow _
        have hb9 : Below w.heap.size w w9 := (HJ.out.2.1.alloc HJ.out.2.1.size _).grown hgrow (by have := HJ.out.2.1.size; simp; omega) (fun g hg => (hown.lt g hg).1)
        obtain ⟨ao, cp, rfl⟩ : ∃ ao cp, v' = .slice ao (k + 1) cp := by
          rcases hown'.2 with ⟨rfl, h9⟩ | ⟨g, cap, cur, rfl, _⟩
          · omega
          · exact ⟨_, _, rfl⟩
        have HR := Lib.hid (And.intro hown' hb9)
        clear hown' hgrow hb9 hown
        go_wp2_with fail
        go_roundw
        case rel =>
          refine ⟨k + 1, ?_, by omega, ?_, ?_, HR.out.2⟩
          · rw [HJ.out.2.2]; exact congrArg (Value.int .i64) (by omega)
          · intro j hj'
            by_cases hjk : j = k
            · subst hjk; rw [HK.out]; exact hle
            · exact HJ.out.1 j (by omega)
          · have e1 : ints (vals x 1 (k + 1)) = ints (vals x 1 k) ++ [.int .i64 (K : Nat)] := by rw [vals_next, HK.out]; simp [ints]
            rw [e1]; exact HR.out.1
        case measure => simp [RowKit.intOf]; omega
      · have hleI : ¬ ((K : Nat) : Int) ≤ ((x : Nat) : Int) := by omega
        obtain ⟨ao, cp, rfl⟩ : ∃ ao cp, u15 = .slice ao k cp := by
          rcases hown.2 with ⟨rfl, h9⟩ | ⟨g, cap, cur, rfl, _⟩
          · exact ⟨_, _, by rw [h9]⟩
          · exact ⟨_, _, rfl⟩
        go_wp2_with fail
        go_ret2
        exact ⟨⟨_, k, rfl, hown, hk, vals_mem (by omega) (by rw [HK.out]; omega) HJ.out.1⟩, HJ.out.2.1⟩
  · -- SPAN
    obtain rfl : d = 1 := f3
    rw [fiI_none f1]
    clear f1
    rcases f2 with ⟨e1, e2, e3⟩ | ⟨e0, m, e1, e2, e3⟩
    · dsimp only at e2 e3
      rw [← HH.out.2.2.1] at e2
      rw [← HH.out.2.2.2] at e3
      subst e1
      subst e2
      subst e3
      go_wp2_with fail
      refine (rat_any [42] (by decide) 45 w2).mono ?_
      rintro e w3 ⟨rfl, rfl⟩
      rw [fiI_none (show fi 45 [42] = none by decide)]
      have HW := Lib.hid H1.out
      have Q1 : ((x : Nat) : Int) ≤ ((x : Nat) : Int) := by omega
      have Q2 : ((x : Nat) : Int) ≤ ((y : Nat) : Int) := by omega
      have Q3 : ((y : Nat) : Int) ≤ ((y : Nat) : Int) := by omega
      have Q4 : (1 : Int) ≤ ((1 : Nat) : Int) := by omega
      have Q5 : ((1 : Nat) : Int) ≤ 60 := by omega
      go_wp2_with fail
      simp only [show decide (x < x) = false from decide_eq_false (by omega), show decide (y < y) = false from decide_eq_false (by omega), show decide (y < x) = false from decide_eq_false (by omega), show decide (1 < 1) = false from decide_eq_false (by omega), show decide (60 < 1) = false from decide_eq_false (by omega), show decide (((1 : Nat) : Int) < 1) = false from decide_eq_false (by omega), show decide ((60 : Int) < ((1 : Nat) : Int)) = false from decide_eq_false (by omega), Bool.or_false, Bool.false_or]
      go_loopw [16, 15] (fun z v wr => ∃ k : Nat, z = .int .i64 ((x + k * 1 : Nat) : Int) ∧ k ≤ 60 ∧ (∀ j, j < k → x + j * 1 ≤ y) ∧ wr.ownsRow w.heap.size 3 1 v k (ints (vals x 1 k)) ∧ Below w.heap.size w wr) (fun z _ _ => 300 - (RowKit.intOf z).toNat)
      case atStart => exact ⟨0, by simp, by omega, fun j hj => absurd hj (Nat.not_lt_zero j), World.ownsRow_nil _ _ _ _, HW.out⟩
      case round =>
        obtain ⟨k, rfl, hk, hj, hown, hbel⟩ := hrel
        have hkd : k ≤ k * 1 := Nat.le_mul_of_pos_right k (by omega)
        have hks : x + (k + 1) * 1 = x + k * 1 + 1 := by rw [Nat.add_mul]; omega
        have HJ := Lib.hid (And.intro hj (And.intro hbel hks))
        clear hj hbel hks
        generalize hK : x + k * 1 = K at HJ
        have hkK : k ≤ K := by omega
        have HK := Lib.hid hK
        clear hK hkd
        by_cases hle : K ≤ y
        · have hleI : ((K : Nat) : Int) ≤ ((y : Nat) : Int) := by omega
          go_wp2_with (at_builtin; refine wpList_append_own _ rfl _ _ 62 rfl w.heap.size 3 i0 (.int .i64 0) 1 8 Tryd.underlying62 hi0 hz0 hz1 hz2 rfl (by decide) _ _ _ rfl (hown.alloc _) ⟨wr.heap.size, 0, none⟩ 1 1 [.int .i64 (K : Nat)] rfl rfl ?c1 ?c2 ?c3 ?c4 ?c5 ?_)
          case c1 =>
            intro j u hj
            match j, hj with
            | 0, hj => simp at hj; subst hj; simp [Addr.add]
          case c2 => intro u hu; simp at hu; subst hu; rfl
          case c3 => have : maxLen = 9223372036854775807 := rfl; omega
          case c4 => omega
          case c5 => have := HJ.out.2.1.size; first | omega | (simp; omega)
          intro v' w9 hown' hgrow _
          have hb9 : Below w.heap.size w w9 := (HJ.out.2.1.alloc HJ.out.2.1.size _).grown hgrow (by have := HJ.out.2.1.size; simp; omega) (fun g hg => (hown.lt g hg).1)
          obtain ⟨ao, cp, rfl⟩ : ∃ ao cp, v' = .slice ao (k + 1) cp := by
            rcases hown'.2 with ⟨rfl, h9⟩ | ⟨g, cap, cur, rfl, _⟩
            · omega
            · exact ⟨_, _, rfl⟩
          have HR := Lib.hid (And.intro hown' hb9)
          clear hown' hgrow hb9 hown
          go_wp2_with fail
          go_roundw
          case rel =>
            refine ⟨k + 1, ?_, by omega, ?_, ?_, HR.out.2⟩
            · rw [HJ.out.2.2]; exact congrArg (Value.int .i64) (by omega)
            · intro j hj'
              by_cases hjk : j = k
              · subst hjk; rw [HK.out]; exact hle
              · exact HJ.out.1 j (by omega)
            · have e1 : ints (vals x 1 (k + 1)) = ints (vals x 1 k) ++ [.int .i64 (K : Nat)] := by rw [vals_next, HK.out]; simp [ints]
              rw [e1]; exact HR.out.1
          case measure => simp [RowKit.intOf]; omega
        · have hleI : ¬ ((K : Nat) : Int) ≤ ((y : Nat) : Int) := by omega
          obtain ⟨ao, cp, rfl⟩ : ∃ ao cp, u15 = .slice ao k cp := by
            rcases hown.2 with ⟨rfl, h9⟩ | ⟨g, cap, cur, rfl, _⟩
            · exact ⟨_, _, by rw [h9]⟩
            · exact ⟨_, _, rfl⟩
          go_wp2_with fail
          go_ret2
          exact ⟨⟨_, k, rfl, hown, hk, vals_mem (by omega) (by rw [HK.out]; omega) HJ.out.1⟩, HJ.out.2.1⟩
    · dsimp only at e2 e3
      go_wp2_with fail
      refine (rat_any s hs 45 w2).mono ?_
      rintro e w3 ⟨rfl, rfl⟩
      rw [fiI_some e1]
      obtain ⟨g1, g2, g3⟩ := fi_some e1
      have hstar : (s == [42]) = false := by simpa using e0
      have hzA := size_S s
      have hsa : (⟨s.toArray⟩ : ByteArray).extract 0 m = ⟨(s.take m).toArray⟩ := by rw [sub_S]; simp
      have hsb : (⟨s.toArray⟩ : ByteArray).extract (m + 1) s.length = ⟨(s.drop (m + 1)).toArray⟩ := by rw [sub_S, List.take_of_length_le (by rw [List.length_drop]; omega)]
      have hm0 : ((m : Nat) : Int) ≤ ((s.length : Nat) : Int) := by omega
      have hm00 : (0 : Int) ≤ ((m : Nat) : Int) := by omega
      have hm1 : IntKind.i64.wrap (((m : Nat) : Int) + 1) = ((m : Nat) : Int) + 1 := IntWalk.i64_in _ (by omega)
      have hm2 : ((m : Nat) : Int) + 1 ≤ ((s.length : Nat) : Int) := by omega
      have hm3 : (0 : Int) ≤ ((m : Nat) : Int) + 1 := by omega
      have HX := Lib.hid (show (∀ W : World, Calls Tryd.prog 38 #[.int .i64 (i : Nat), S (s.take m)] W fun e w' => e = .returned (.int .i64 (x : Nat)) ∧ Below W.heap.size W w') ∧ (∀ W : World, Calls Tryd.prog 38 #[.int .i64 (i : Nat), S (s.drop (m + 1))] W fun e w' => e = .returned (.int .i64 (y : Nat)) ∧ Below W.heap.size W w') from
        ⟨fun W => by have := HH.out.1 (s.take m) (by rw [List.length_take]; omega) W; rw [nI_of e2] at this; exact this, fun W => by have := HH.out.1 (s.drop (m + 1)) (by rw [List.length_drop]; omega) W; rw [nI_of e3] at this; exact this⟩)
      clear g2 g3 e1 e2 e3 e0
      go_wp2_with fail
      refine begin' 13 (fun _ => True) hmix trivial (fun hS0 => ?_)
      refine Ht.takeN (i := 0) ⟨some 46, _, _, _, _, _⟩ (.int .i64 (i : Nat)) rfl (Nat.le_refl 13) (by kernel_rfl) (by kernel_rfl) (by kernel_rfl) (by kernel_rfl) hS0 (Or.inl ⟨by rfl, by (intro X hX; go_simp)⟩) ?_
      simp only [Act.put, List.setIfInBounds_toArray, List.set_cons_zero, List.set_cons_succ]
      refine Ht.takeN (i := 1) ⟨some 47, _, _, _, _, _⟩ (S s) rfl (Nat.le_refl 13) (by kernel_rfl) (by kernel_rfl) (by kernel_rfl) (by kernel_rfl) hS0 (Or.inl ⟨by rfl, by (intro X hX; go_simp)⟩) ?_
      simp only [Act.put, List.setIfInBounds_toArray, List.set_cons_zero, List.set_cons_succ]
      refine Ht.takeN (i := 2) ⟨some 48, _, _, _, _, _⟩ (.int .i64 (m : Nat)) rfl (Nat.le_refl 13) (by kernel_rfl) (by kernel_rfl) (by kernel_rfl) (by kernel_rfl) hS0 (Or.inl ⟨by rfl, by (intro X hX; go_simp)⟩) ?_
      simp only [Act.put, List.setIfInBounds_toArray, List.set_cons_zero, List.set_cons_succ]
      refine Ht.takeN (i := 3) ⟨some 49, _, _, _, _, _⟩ (S (s.take m)) rfl (Nat.le_refl 13) (by kernel_rfl) (by kernel_rfl) (by kernel_rfl) (by kernel_rfl) hS0 (Or.inl ⟨by rfl, by (intro X hX; have := And.intro hsa hm0; go_simp)⟩) ?_
      simp only [Act.put, List.setIfInBounds_toArray, List.set_cons_zero, List.set_cons_succ]
      refine Ht.takeN (i := 5) ⟨some 51, _, _, _, _, _⟩ (.int .i64 (i : Nat)) rfl (Nat.le_refl 13) (by kernel_rfl) (by kernel_rfl) (by kernel_rfl) (by kernel_rfl) hS0 (Or.inl ⟨by rfl, by (intro X hX; go_simp)⟩) ?_
      simp only [Act.put, List.setIfInBounds_toArray, List.set_cons_zero, List.set_cons_succ]
      refine Ht.takeN (i := 6) ⟨some 52, _, _, _, _, _⟩ (S s) rfl (Nat.le_refl 13) (by kernel_rfl) (by kernel_rfl) (by kernel_rfl) (by kernel_rfl) hS0 (Or.inl ⟨by rfl, by (intro X hX; go_simp)⟩) ?_
      simp only [Act.put, List.setIfInBounds_toArray, List.set_cons_zero, List.set_cons_succ]
      refine Ht.takeN (i := 7) ⟨some 53, _, _, _, _, _⟩ (.int .i64 (m : Nat)) rfl (Nat.le_refl 13) (by kernel_rfl) (by kernel_rfl) (by kernel_rfl) (by kernel_rfl) hS0 (Or.inl ⟨by rfl, by (intro X hX; go_simp)⟩) ?_
      simp only [Act.put, List.setIfInBounds_toArray, List.set_cons_zero, List.set_cons_succ]
      refine Ht.takeN (i := 8) ⟨some 54, _, _, _, _, _⟩ (.int .i64 ((m : Nat) + 1)) rfl (Nat.le_refl 13) (by kernel_rfl) (by kernel_rfl) (by kernel_rfl) (by kernel_rfl) hS0 (Or.inl ⟨by rfl, by (intro X hX; have := hm1; go_simp)⟩) ?_
      simp only [Act.put, List.setIfInBounds_toArray, List.set_cons_zero, List.set_cons_succ]
      refine Ht.takeN (i := 9) ⟨some 55, _, _, _, _, _⟩ (S (s.drop (m + 1))) rfl (Nat.le_refl 13) (by kernel_rfl) (by kernel_rfl) (by kernel_rfl) (by kernel_rfl) hS0 (Or.inl ⟨by rfl, by (intro X hX; have := And.intro hsb (And.intro hm2 hm3); go_simp)⟩) ?_
      simp only [Act.put, List.setIfInBounds_toArray, List.set_cons_zero, List.set_cons_succ]
      refine Ht.step (i := 4) ⟨some 50, _, _, _, _, _⟩ rfl (by kernel_rfl) (by rfl) (fun K hK => ?_)
      refine Ht.enter 38 #[.int .i64 (i : Nat), S (s.take m)] (by have hen := fun args w => enters_of (P := Tryd.prog) Tryd.func38 (by kernel_rfl) rfl args w; go_simp) (HX.out.1 _) ?_
      rintro e A1 ⟨rfl, hb1⟩
      have HA1 := Lib.hid hb1
      clear hb1
      refine ⟨_, rfl, hK _ _ (fun _ => trivial) (fun _ => ?_)⟩
      clear hK K
      simp only [Act.put, List.setIfInBounds_toArray, List.set_cons_zero, List.set_cons_succ]
      refine Ht.step (i := 10) ⟨some 56, _, _, _, _, _⟩ rfl (by kernel_rfl) (by rfl) (fun K hK => ?_)
      refine Ht.enter 38 #[.int .i64 (i : Nat), S (s.drop (m + 1))] (by have hen := fun args w => enters_of (P := Tryd.prog) Tryd.func38 (by kernel_rfl) rfl args w; go_simp) (HX.out.2 _) ?_
      rintro e A2 ⟨rfl, hb2⟩
      have HA2 := Lib.hid (HA1.out.trans (hb2.mono HA1.out.size))
      clear hb2
      refine ⟨_, rfl, hK _ _ (fun _ => trivial) (fun _ => ?_)⟩
      clear hK K
      simp only [Act.put, List.setIfInBounds_toArray, List.set_cons_zero, List.set_cons_succ]
      refine Ht.takeN (i := 11) ⟨some 11, _, _, _, _, _⟩ (.int .i64 (x : Nat)) rfl (Nat.le_refl 13) (by kernel_rfl) (by kernel_rfl) (by kernel_rfl) (by kernel_rfl) trivial (Or.inl ⟨by rfl, by (intro X hX; go_simp)⟩) ?_
      simp only [Act.put, List.setIfInBounds_toArray, List.set_cons_zero, List.set_cons_succ]
      refine Ht.takeN (i := 12) ⟨some 12, _, _, _, _, _⟩ (.int .i64 (y : Nat)) rfl (Nat.le_refl 13) (by kernel_rfl) (by kernel_rfl) (by kernel_rfl) (by kernel_rfl) trivial (Or.inl ⟨by rfl, by (intro X hX; go_simp)⟩) ?_
      simp only [Act.put, List.setIfInBounds_toArray, List.set_cons_zero, List.set_cons_succ]
      refine done (by kernel_rfl) ?_
      have HW := Lib.hid (H1.out.trans ((Below.trans (Below.drew (Below.refl w3.heap.size w3)) HA2.out).mono H1.out.size))
      have Q1 : ((lo : Nat) : Int) ≤ ((x : Nat) : Int) := by omega
      have Q2 : ((x : Nat) : Int) ≤ ((y : Nat) : Int) := by omega
      have Q3 : ((y : Nat) : Int) ≤ ((hi' : Nat) : Int) := by omega
      have Q4 : (1 : Int) ≤ ((1 : Nat) : Int) := by omega
      have Q5 : ((1 : Nat) : Int) ≤ 60 := by omega
      go_wp2_with fail
      simp only [show decide (x < lo) = false from decide_eq_false (by omega), show decide (hi' < y) = false from decide_eq_false (by omega), show decide (y < x) = false from decide_eq_false (by omega), show decide (1 < 1) = false from decide_eq_false (by omega), show decide (60 < 1) = false from decide_eq_false (by omega), show decide (((1 : Nat) : Int) < 1) = false from decide_eq_false (by omega), show decide ((60 : Int) < ((1 : Nat) : Int)) = false from decide_eq_false (by omega), Bool.or_false, Bool.false_or]
      go_loopw [16, 15] (fun z v wr => ∃ k : Nat, z = .int .i64 ((x + k * 1 : Nat) : Int) ∧ k ≤ 60 ∧ (∀ j, j < k → x + j * 1 ≤ y) ∧ wr.ownsRow w.heap.size 3 1 v k (ints (vals x 1 k)) ∧ Below w.heap.size w wr) (fun z _ _ => 300 - (RowKit.intOf z).toNat)
      case atStart => exact ⟨0, by simp, by omega, fun j hj => absurd hj (Nat.not_lt_zero j), World.ownsRow_nil _ _ _ _, HW.out⟩
      case round =>
        obtain ⟨k, rfl, hk, hj, hown, hbel⟩ := hrel
        have hkd : k ≤ k * 1 := Nat.le_mul_of_pos_right k (by omega)
        have hks : x + (k + 1) * 1 = x + k * 1 + 1 := by rw [Nat.add_mul]; omega
        have HJ := Lib.hid (And.intro hj (And.intro hbel hks))
        clear hj hbel hks
        generalize hK : x + k * 1 = K at HJ
        have hkK : k ≤ K := by omega
        have HK := Lib.hid hK
        clear hK hkd
        by_cases hle : K ≤ y
        · have hleI : ((K : Nat) : Int) ≤ ((y : Nat) : Int) := by omega
          go_wp2_with (at_builtin; refine wpList_append_own _ rfl _ _ 62 rfl w.heap.size 3 i0 (.int .i64 0) 1 8 Tryd.underlying62 hi0 hz0 hz1 hz2 rfl (by decide) _ _ _ rfl (hown.alloc _) ⟨wr.heap.size, 0, none⟩ 1 1 [.int .i64 (K : Nat)] rfl rfl ?c1 ?c2 ?c3 ?c4 ?c5 ?_)
          case c1 =>
            intro j u hj
            match j, hj with
            | 0, hj => simp at hj; subst hj; simp [Addr.add]
          case c2 => intro u hu; simp at hu; subst hu; rfl
          case c3 => have : maxLen = 9223372036854775807 := rfl; omega
          case c4 => omega
          case c5 => have := HJ.out.2.1.size; first | omega | (simp; omega)
          intro v' w9 hown' hgrow _
          have hb9 : Below w.heap.size w w9 := (HJ.out.2.1.alloc HJ.out.2.1.size _).grown hgrow (by have := HJ.out.2.1.size; simp; omega) (fun g hg => (hown.lt g hg).1)
          obtain ⟨ao, cp, rfl⟩ : ∃ ao cp, v' = .slice ao (k + 1) cp := by
            rcases hown'.2 with ⟨rfl, h9⟩ | ⟨g, cap, cur, rfl, _⟩
            · omega
            · exact ⟨_, _, rfl⟩
          have HR := Lib.hid (And.intro hown' hb9)
          clear hown' hgrow hb9 hown
          go_wp2_with fail
          go_roundw
          case rel =>
            refine ⟨k + 1, ?_, by omega, ?_, ?_, HR.out.2⟩
            · rw [HJ.out.2.2]; exact congrArg (Value.int .i64) (by omega)
            · intro j hj'
              by_cases hjk : j = k
              · subst hjk; rw [HK.out]; exact hle
              · exact HJ.out.1 j (by omega)
            · have e1 : ints (vals x 1 (k + 1)) = ints (vals x 1 k) ++ [.int .i64 (K : Nat)] := by rw [vals_next, HK.out]; simp [ints]
              rw [e1]; exact HR.out.1
          case measure => simp [RowKit.intOf]; omega
        · have hleI : ¬ ((K : Nat) : Int) ≤ ((y : Nat) : Int) := by omega
          obtain ⟨ao, cp, rfl⟩ : ∃ ao cp, u15 = .slice ao k cp := by
            rcases hown.2 with ⟨rfl, h9⟩ | ⟨g, cap, cur, rfl, _⟩
            · exact ⟨_, _, by rw [h9]⟩
            · exact ⟨_, _, rfl⟩
          go_wp2_with fail
          go_ret2
          exact ⟨⟨_, k, rfl, hown, hk, vals_mem (by omega) (by rw [HK.out]; omega) HJ.out.1⟩, HJ.out.2.1⟩
  · -- STEP
    obtain ⟨k1, k2, k3⟩ := fi_some f1
    rw [fiI_some f1]
    have hsl1 : (⟨s.toArray⟩ : ByteArray).extract (k + 1) s.length = ⟨(s.drop (k + 1)).toArray⟩ := by rw [sub_S, List.take_of_length_le (by rw [List.length_drop]; omega)]
    have hsl2 : (⟨s.toArray⟩ : ByteArray).extract 0 k = ⟨(s.take k).toArray⟩ := by rw [sub_S]; simp
    have hk0 : (0 : Int) ≤ ((k : Nat) : Int) := by omega
    have hk1 : ((k : Nat) : Int) ≤ ((s.length : Nat) : Int) := by omega
    have hk2 : ((k : Nat) : Int) + 1 ≤ ((s.length : Nat) : Int) := by omega
    have hk3 : (0 : Int) ≤ ((k : Nat) : Int) + 1 := by omega
    have hlA : (s.take k).length ≤ 1000 := by rw [List.length_take]; omega
    have HD := Lib.hid (HH.out.2.1 (s.drop (k + 1)) d (by rw [List.length_drop]; omega) f3)
    have F2 := Lib.hid f2
    generalize s.take k = A at hsl2 hlA F2
    generalize s.drop (k + 1) = B at hsl1 HD
    have hlAI : ((A.length : Nat) : Int) ≤ 1000 := by omega
    have hzAA := size_S A
    clear f1 f2 f3 k2 k3
    go_wp2_with fail
    refine (HD.out w2).mono ?_
    rintro e w3 ⟨rfl, hb3⟩
    have H3 := Lib.hid (H1.out.trans (hb3.mono H1.out.size))
    clear hb3
    have hd0 : (0 : Int) ≤ ((d : Nat) : Int) := by omega
    rcases F2.out with ⟨e1, e2, e3⟩ | ⟨e0, m, e1, e2, e3⟩
    · rw [← HH.out.2.2.1] at e2
      rw [← HH.out.2.2.2] at e3
      subst e1
      subst e2
      subst e3
      go_wp2_with fail
      refine (rat_any [42] (by decide) 45 w3).mono ?_
      rintro e w4 ⟨rfl, rfl⟩
      rw [fiI_none (show fi 45 [42] = none by decide)]
      have HW := Lib.hid H3.out
      have Q1 : ((x : Nat) : Int) ≤ ((x : Nat) : Int) := by omega
      have Q2 : ((x : Nat) : Int) ≤ ((y : Nat) : Int) := by omega
      have Q3 : ((y : Nat) : Int) ≤ ((y : Nat) : Int) := by omega
      have Q4 : (1 : Int) ≤ ((d : Nat) : Int) := by omega
      have Q5 : ((d : Nat) : Int) ≤ 60 := by omega
      go_wp2_with fail
      simp only [show decide (x < x) = false from decide_eq_false (by omega), show decide (y < y) = false from decide_eq_false (by omega), show decide (y < x) = false from decide_eq_false (by omega), show decide (d < 1) = false from decide_eq_false (by omega), show decide (60 < d) = false from decide_eq_false (by omega), show decide (((d : Nat) : Int) < 1) = false from decide_eq_false (by omega), show decide ((60 : Int) < ((d : Nat) : Int)) = false from decide_eq_false (by omega), Bool.or_false, Bool.false_or]
      go_loopw [16, 15] (fun z v wr => ∃ k : Nat, z = .int .i64 ((x + k * d : Nat) : Int) ∧ k ≤ 60 ∧ (∀ j, j < k → x + j * d ≤ y) ∧ wr.ownsRow w.heap.size 3 1 v k (ints (vals x d k)) ∧ Below w.heap.size w wr) (fun z _ _ => 300 - (RowKit.intOf z).toNat)
      case atStart => exact ⟨0, by simp, by omega, fun j hj => absurd hj (Nat.not_lt_zero j), World.ownsRow_nil _ _ _ _, HW.out⟩
      case round =>
        obtain ⟨k, rfl, hk, hj, hown, hbel⟩ := hrel
        have hkd : k ≤ k * d := Nat.le_mul_of_pos_right k (by omega)
        have hks : x + (k + 1) * d = x + k * d + d := by rw [Nat.add_mul]; omega
        have HJ := Lib.hid (And.intro hj (And.intro hbel hks))
        clear hj hbel hks
        generalize hK : x + k * d = K at HJ
        have hkK : k ≤ K := by omega
        have HK := Lib.hid hK
        clear hK hkd
        by_cases hle : K ≤ y
        · have hleI : ((K : Nat) : Int) ≤ ((y : Nat) : Int) := by omega
          go_wp2_with (at_builtin; refine wpList_append_own _ rfl _ _ 62 rfl w.heap.size 3 i0 (.int .i64 0) 1 8 Tryd.underlying62 hi0 hz0 hz1 hz2 rfl (by decide) _ _ _ rfl (hown.alloc _) ⟨wr.heap.size, 0, none⟩ 1 1 [.int .i64 (K : Nat)] rfl rfl ?c1 ?c2 ?c3 ?c4 ?c5 ?_)
          case c1 =>
            intro j u hj
            match j, hj with
            | 0, hj => simp at hj; subst hj; simp [Addr.add]
          case c2 => intro u hu; simp at hu; subst hu; rfl
          case c3 => have : maxLen = 9223372036854775807 := rfl; omega
          case c4 => omega
          case c5 => have := HJ.out.2.1.size; first | omega | (simp; omega)
          intro v' w9 hown' hgrow _
          have hb9 : Below w.heap.size w w9 := (HJ.out.2.1.alloc HJ.out.2.1.size _).grown hgrow (by have := HJ.out.2.1.size; simp; omega) (fun g hg => (hown.lt g hg).1)
          obtain ⟨ao, cp, rfl⟩ : ∃ ao cp, v' = .slice ao (k + 1) cp := by
            rcases hown'.2 with ⟨rfl, h9⟩ | ⟨g, cap, cur, rfl, _⟩
            · omega
            · exact ⟨_, _, rfl⟩
          have HR := Lib.hid (And.intro hown' hb9)
          clear hown' hgrow hb9 hown
          go_wp2_with fail
          go_roundw
          case rel =>
            refine ⟨k + 1, ?_, by omega, ?_, ?_, HR.out.2⟩
            · rw [HJ.out.2.2]; exact congrArg (Value.int .i64) (by omega)
            · intro j hj'
              by_cases hjk : j = k
              · subst hjk; rw [HK.out]; exact hle
              · exact HJ.out.1 j (by omega)
            · have e1 : ints (vals x d (k + 1)) = ints (vals x d k) ++ [.int .i64 (K : Nat)] := by rw [vals_next, HK.out]; simp [ints]
              rw [e1]; exact HR.out.1
          case measure => simp [RowKit.intOf]; omega
        · have hleI : ¬ ((K : Nat) : Int) ≤ ((y : Nat) : Int) := by omega
          obtain ⟨ao, cp, rfl⟩ : ∃ ao cp, u15 = .slice ao k cp := by
            rcases hown.2 with ⟨rfl, h9⟩ | ⟨g, cap, cur, rfl, _⟩
            · exact ⟨_, _, by rw [h9]⟩
            · exact ⟨_, _, rfl⟩
          go_wp2_with fail
          go_ret2
          exact ⟨⟨_, k, rfl, hown, hk, vals_mem (by omega) (by rw [HK.out]; omega) HJ.out.1⟩, HJ.out.2.1⟩
    · go_wp2_with fail
      refine (rat_any A hlA 45 w3).mono ?_
      rintro e w4 ⟨rfl, rfl⟩
      rw [fiI_some e1]
      obtain ⟨g1, g2, g3⟩ := fi_some e1
      have hstar : (A == [42]) = false := by simpa using e0
      have hzA := size_S A
      have hsa : (⟨A.toArray⟩ : ByteArray).extract 0 m = ⟨(A.take m).toArray⟩ := by rw [sub_S]; simp
      have hsb : (⟨A.toArray⟩ : ByteArray).extract (m + 1) A.length = ⟨(A.drop (m + 1)).toArray⟩ := by rw [sub_S, List.take_of_length_le (by rw [List.length_drop]; omega)]
      have hm0 : ((m : Nat) : Int) ≤ ((A.length : Nat) : Int) := by omega
      have hm00 : (0 : Int) ≤ ((m : Nat) : Int) := by omega
      have hm1 : IntKind.i64.wrap (((m : Nat) : Int) + 1) = ((m : Nat) : Int) + 1 := IntWalk.i64_in _ (by omega)
      have hm2 : ((m : Nat) : Int) + 1 ≤ ((A.length : Nat) : Int) := by omega
      have hm3 : (0 : Int) ≤ ((m : Nat) : Int) + 1 := by omega
      have HX := Lib.hid (show (∀ W : World, Calls Tryd.prog 38 #[.int .i64 (i : Nat), S (A.take m)] W fun e w' => e = .returned (.int .i64 (x : Nat)) ∧ Below W.heap.size W w') ∧ (∀ W : World, Calls Tryd.prog 38 #[.int .i64 (i : Nat), S (A.drop (m + 1))] W fun e w' => e = .returned (.int .i64 (y : Nat)) ∧ Below W.heap.size W w') from
        ⟨fun W => by have := HH.out.1 (A.take m) (by rw [List.length_take]; omega) W; rw [nI_of e2] at this; exact this, fun W => by have := HH.out.1 (A.drop (m + 1)) (by rw [List.length_drop]; omega) W; rw [nI_of e3] at this; exact this⟩)
      clear g2 g3 e1 e2 e3 e0
      go_wp2_with fail
      refine begin' 13 (fun _ => True) hmix trivial (fun hS0 => ?_)
      refine Ht.takeN (i := 0) ⟨some 46, _, _, _, _, _⟩ (.int .i64 (i : Nat)) rfl (Nat.le_refl 13) (by kernel_rfl) (by kernel_rfl) (by kernel_rfl) (by kernel_rfl) hS0 (Or.inl ⟨by rfl, by (intro X hX; go_simp)⟩) ?_
      simp only [Act.put, List.setIfInBounds_toArray, List.set_cons_zero, List.set_cons_succ]
      refine Ht.takeN (i := 1) ⟨some 47, _, _, _, _, _⟩ (S A) rfl (Nat.le_refl 13) (by kernel_rfl) (by kernel_rfl) (by kernel_rfl) (by kernel_rfl) hS0 (Or.inl ⟨by rfl, by (intro X hX; go_simp)⟩) ?_
      simp only [Act.put, List.setIfInBounds_toArray, List.set_cons_zero, List.set_cons_succ]
      refine Ht.takeN (i := 2) ⟨some 48, _, _, _, _, _⟩ (.int .i64 (m : Nat)) rfl (Nat.le_refl 13) (by kernel_rfl) (by kernel_rfl) (by kernel_rfl) (by kernel_rfl) hS0 (Or.inl ⟨by rfl, by (intro X hX; go_simp)⟩) ?_
      simp only [Act.put, List.setIfInBounds_toArray, List.set_cons_zero, List.set_cons_succ]
      refine Ht.takeN (i := 3) ⟨some 49, _, _, _, _, _⟩ (S (A.take m)) rfl (Nat.le_refl 13) (by kernel_rfl) (by kernel_rfl) (by kernel_rfl) (by kernel_rfl) hS0 (Or.inl ⟨by rfl, by (intro X hX; have := And.intro hsa hm0; go_simp)⟩) ?_
      simp only [Act.put, List.setIfInBounds_toArray, List.set_cons_zero, List.set_cons_succ]
      refine Ht.takeN (i := 5) ⟨some 51, _, _, _, _, _⟩ (.int .i64 (i : Nat)) rfl (Nat.le_refl 13) (by kernel_rfl) (by kernel_rfl) (by kernel_rfl) (by kernel_rfl) hS0 (Or.inl ⟨by rfl, by (intro X hX; go_simp)⟩) ?_
      simp only [Act.put, List.setIfInBounds_toArray, List.set_cons_zero, List.set_cons_succ]
      refine Ht.takeN (i := 6) ⟨some 52, _, _, _, _, _⟩ (S A) rfl (Nat.le_refl 13) (by kernel_rfl) (by kernel_rfl) (by kernel_rfl) (by kernel_rfl) hS0 (Or.inl ⟨by rfl, by (intro X hX; go_simp)⟩) ?_
      simp only [Act.put, List.setIfInBounds_toArray, List.set_cons_zero, List.set_cons_succ]
      refine Ht.takeN (i := 7) ⟨some 53, _, _, _, _, _⟩ (.int .i64 (m : Nat)) rfl (Nat.le_refl 13) (by kernel_rfl) (by kernel_rfl) (by kernel_rfl) (by kernel_rfl) hS0 (Or.inl ⟨by rfl, by (intro X hX; go_simp)⟩) ?_
      simp only [Act.put, List.setIfInBounds_toArray, List.set_cons_zero, List.set_cons_succ]
      refine Ht.takeN (i := 8) ⟨some 54, _, _, _, _, _⟩ (.int .i64 ((m : Nat) + 1)) rfl (Nat.le_refl 13) (by kernel_rfl) (by kernel_rfl) (by kernel_rfl) (by kernel_rfl) hS0 (Or.inl ⟨by rfl, by (intro X hX; have := hm1; go_simp)⟩) ?_
      simp only [Act.put, List.setIfInBounds_toArray, List.set_cons_zero, List.set_cons_succ]
      refine Ht.takeN (i := 9) ⟨some 55, _, _, _, _, _⟩ (S (A.drop (m + 1))) rfl (Nat.le_refl 13) (by kernel_rfl) (by kernel_rfl) (by kernel_rfl) (by kernel_rfl) hS0 (Or.inl ⟨by rfl, by (intro X hX; have := And.intro hsb (And.intro hm2 hm3); go_simp)⟩) ?_
      simp only [Act.put, List.setIfInBounds_toArray, List.set_cons_zero, List.set_cons_succ]
      refine Ht.step (i := 4) ⟨some 50, _, _, _, _, _⟩ rfl (by kernel_rfl) (by rfl) (fun K hK => ?_)
      refine Ht.enter 38 #[.int .i64 (i : Nat), S (A.take m)] (by have hen := fun args w => enters_of (P := Tryd.prog) Tryd.func38 (by kernel_rfl) rfl args w; go_simp) (HX.out.1 _) ?_
      rintro e A1 ⟨rfl, hb1⟩
      have HA1 := Lib.hid hb1
      clear hb1
      refine ⟨_, rfl, hK _ _ (fun _ => trivial) (fun _ => ?_)⟩
      clear hK K
      simp only [Act.put, List.setIfInBounds_toArray, List.set_cons_zero, List.set_cons_succ]
      refine Ht.step (i := 10) ⟨some 56, _, _, _, _, _⟩ rfl (by kernel_rfl) (by rfl) (fun K hK => ?_)
      refine Ht.enter 38 #[.int .i64 (i : Nat), S (A.drop (m + 1))] (by have hen := fun args w => enters_of (P := Tryd.prog) Tryd.func38 (by kernel_rfl) rfl args w; go_simp) (HX.out.2 _) ?_
      rintro e A2 ⟨rfl, hb2⟩
      have HA2 := Lib.hid (HA1.out.trans (hb2.mono HA1.out.size))
      clear hb2
      refine ⟨_, rfl, hK _ _ (fun _ => trivial) (fun _ => ?_)⟩
      clear hK K
      simp only [Act.put, List.setIfInBounds_toArray, List.set_cons_zero, List.set_cons_succ]
      refine Ht.takeN (i := 11) ⟨some 11, _, _, _, _, _⟩ (.int .i64 (x : Nat)) rfl (Nat.le_refl 13) (by kernel_rfl) (by kernel_rfl) (by kernel_rfl) (by kernel_rfl) trivial (Or.inl ⟨by rfl, by (intro X hX; go_simp)⟩) ?_
      simp only [Act.put, List.setIfInBounds_toArray, List.set_cons_zero, List.set_cons_succ]
      refine Ht.takeN (i := 12) ⟨some 12, _, _, _, _, _⟩ (.int .i64 (y : Nat)) rfl (Nat.le_refl 13) (by kernel_rfl) (by kernel_rfl) (by kernel_rfl) (by kernel_rfl) trivial (Or.inl ⟨by rfl, by (intro X hX; go_simp)⟩) ?_
      simp only [Act.put, List.setIfInBounds_toArray, List.set_cons_zero, List.set_cons_succ]
      refine done (by kernel_rfl) ?_
      have HW := Lib.hid (H3.out.trans ((Below.trans (Below.drew (Below.refl w4.heap.size w4)) HA2.out).mono H3.out.size))
      have Q1 : ((lo : Nat) : Int) ≤ ((x : Nat) : Int) := by omega
      have Q2 : ((x : Nat) : Int) ≤ ((y : Nat) : Int) := by omega
      have Q3 : ((y : Nat) : Int) ≤ ((hi' : Nat) : Int) := by omega
      have Q4 : (1 : Int) ≤ ((d : Nat) : Int) := by omega
      have Q5 : ((d : Nat) : Int) ≤ 60 := by omega
      go_wp2_with fail
      simp only [show decide (x < lo) = false from decide_eq_false (by omega), show decide (hi' < y) = false from decide_eq_false (by omega), show decide (y < x) = false from decide_eq_false (by omega), show decide (d < 1) = false from decide_eq_false (by omega), show decide (60 < d) = false from decide_eq_false (by omega), show decide (((d : Nat) : Int) < 1) = false from decide_eq_false (by omega), show decide ((60 : Int) < ((d : Nat) : Int)) = false from decide_eq_false (by omega), Bool.or_false, Bool.false_or]
      go_loopw [16, 15] (fun z v wr => ∃ k : Nat, z = .int .i64 ((x + k * d : Nat) : Int) ∧ k ≤ 60 ∧ (∀ j, j < k → x + j * d ≤ y) ∧ wr.ownsRow w.heap.size 3 1 v k (ints (vals x d k)) ∧ Below w.heap.size w wr) (fun z _ _ => 300 - (RowKit.intOf z).toNat)
      case atStart => exact ⟨0, by simp, by omega, fun j hj => absurd hj (Nat.not_lt_zero j), World.ownsRow_nil _ _ _ _, HW.out⟩
      case round =>
        obtain ⟨k, rfl, hk, hj, hown, hbel⟩ := hrel
        have hkd : k ≤ k * d := Nat.le_mul_of_pos_right k (by omega)
        have hks : x + (k + 1) * d = x + k * d + d := by rw [Nat.add_mul]; omega
        have HJ := Lib.hid (And.intro hj (And.intro hbel hks))
        clear hj hbel hks
        generalize hK : x + k * d = K at HJ
        have hkK : k ≤ K := by omega
        have HK := Lib.hid hK
        clear hK hkd
        by_cases hle : K ≤ y
        · have hleI : ((K : Nat) : Int) ≤ ((y : Nat) : Int) := by omega
          go_wp2_with (at_builtin; refine wpList_append_own _ rfl _ _ 62 rfl w.heap.size 3 i0 (.int .i64 0) 1 8 Tryd.underlying62 hi0 hz0 hz1 hz2 rfl (by decide) _ _ _ rfl (hown.alloc _) ⟨wr.heap.size, 0, none⟩ 1 1 [.int .i64 (K : Nat)] rfl rfl ?c1 ?c2 ?c3 ?c4 ?c5 ?_)
          case c1 =>
            intro j u hj
            match j, hj with
            | 0, hj => simp at hj; subst hj; simp [Addr.add]
          case c2 => intro u hu; simp at hu; subst hu; rfl
          case c3 => have : maxLen = 9223372036854775807 := rfl; omega
          case c4 => omega
          case c5 => have := HJ.out.2.1.size; first | omega | (simp; omega)
          intro v' w9 hown' hgrow _
          have hb9 : Below w.heap.size w w9 := (HJ.out.2.1.alloc HJ.out.2.1.size _).grown hgrow (by have := HJ.out.2.1.size; simp; omega) (fun g hg => (hown.lt g hg).1)
          obtain ⟨ao, cp, rfl⟩ : ∃ ao cp, v' = .slice ao (k + 1) cp := by
            rcases hown'.2 with ⟨rfl, h9⟩ | ⟨g, cap, cur, rfl, _⟩
            · omega
            · exact ⟨_, _, rfl⟩
          have HR := Lib.hid (And.intro hown' hb9)
          clear hown' hgrow hb9 hown
          go_wp2_with fail
          go_roundw
          case rel =>
            refine ⟨k + 1, ?_, by omega, ?_, ?_, HR.out.2⟩
            · rw [HJ.out.2.2]; exact congrArg (Value.int .i64) (by omega)
            · intro j hj'
              by_cases hjk : j = k
              · subst hjk; rw [HK.out]; exact hle
              · exact HJ.out.1 j (by omega)
            · have e1 : ints (vals x d (k + 1)) = ints (vals x d k) ++ [.int .i64 (K : Nat)] := by rw [vals_next, HK.out]; simp [ints]
              rw [e1]; exact HR.out.1
          case measure => simp [RowKit.intOf]; omega
        · have hleI : ¬ ((K : Nat) : Int) ≤ ((y : Nat) : Int) := by omega
          obtain ⟨ao, cp, rfl⟩ : ∃ ao cp, u15 = .slice ao k cp := by
            rcases hown.2 with ⟨rfl, h9⟩ | ⟨g, cap, cur, rfl, _⟩
            · exact ⟨_, _, by rw [h9]⟩
            · exact ⟨_, _, rfl⟩
          go_wp2_with fail
          go_ret2
          exact ⟨⟨_, k, rfl, hown, hk, vals_mem (by omega) (by rw [HK.out]; omega) HJ.out.1⟩, HJ.out.2.1⟩
end Go.Proofs.YtheaimlfngaaoaaDoor.Cn
