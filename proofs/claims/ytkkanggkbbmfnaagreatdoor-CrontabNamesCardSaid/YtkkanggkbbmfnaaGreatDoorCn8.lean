
/- expressions: is a moment, a tick, named; the chapter's example -/
import Derived.Test.YtkkanggkbbmfnaaGreatDoorCn7
import Derived.Test.YtkkanggkbbmfnaaGreatDoorCa2
namespace Go.Proofs.YtkkanggkbbmfnaaGreatDoor.Cn
open Go.RowKit Go.Lib Go.Proofs.YtkkanggkbbmfnaaGreatDoor.Ht
set_option linter.unusedVariables false

/-- is a number among values -/
def hb (n : Nat) (x : Int) : Bool := decide (0 ≤ x) && n.testBit x.toNat
def namesB (e : Ex) (mo d wd h mi : Int) : Bool :=
  hb e.a mi && (hb e.b h && (hb e.d mo && (if (e.x || e.y) = true then hb e.c d && hb e.e wd else hb e.c d || hb e.e wd)))
structure ExOk (e : Ex) : Prop where
  a : e.a < 18446744073709551616
  b : e.b < 18446744073709551616
  c : e.c < 18446744073709551616
  d : e.d < 18446744073709551616
  e : e.e < 18446744073709551616
theorem exOk_parse (s : L) : ExOk (parseV s) := by
  unfold parseV
  split
  · exact ⟨mk_lt _, mk_lt _, mk_lt _, mk_lt _, mk_lt _⟩
  · exact ⟨by decide, by decide, by decide, by decide, by decide⟩
theorem has_hb (n : Nat) (x : Int) (w : World) (hn : n < 18446744073709551616) (hx : Ca.I64 x) :
    Calls Tryz.prog 95 #[.int .u64 (n : Nat), .int .i64 x] w fun e w' => e = .returned (.bool (hb n x)) ∧ w' = w := has_any n x w hn hx.2 hx.1
set_option maxRecDepth 20000 in
set_option maxHeartbeats 4000000 in
theorem names_any (e : Ex) (he : ExOk e) (y mo d wd h mi : Int) (hmo : Ca.I64 mo) (hd : Ca.I64 d) (hwd : Ca.I64 wd) (hh : Ca.I64 h) (hmi : Ca.I64 mi) (w : World) :
    Calls Tryz.prog 70 #[exv e, Ca.mom y mo d wd h mi] w fun r w' => r = .returned (.bool (namesB e mo d wd h mi)) ∧ Below w.heap.size w w' := by
  have q1 := fun W => has_hb e.a mi W he.a hmi
  have q2 := fun W => has_hb e.b h W he.b hh
  have q3 := fun W => has_hb e.d mo W he.d hmo
  have q4 := fun W => has_hb e.c d W he.c hd
  have q5 := fun W => has_hb e.e wd W he.e hwd
  unfold namesB
  generalize hb e.a mi = B1 at q1 ⊢
  generalize hb e.b h = B2 at q2 ⊢
  generalize hb e.d mo = B3 at q3 ⊢
  generalize hb e.c d = B4 at q4 ⊢
  generalize hb e.e wd = B5 at q5 ⊢
  clear he hmo hd hwd hh hmi
  obtain ⟨ea, eb, ec, ed, ee, ex, ey⟩ := e
  dsimp only at q1 q2 q3 q4 q5 ⊢
  obtain ⟨R, hR⟩ : ∃ R, R = (B1 && (B2 && (B3 && (if (ex || ey) = true then B4 && B5 else B4 || B5)))) := ⟨_, rfl⟩
  rw [← hR]
  have HR := Lib.hid hR
  clear hR
  obtain ⟨V, hV⟩ : ∃ V, V = (w.alloc (.cells #[u ea, u eb, u ec, u ed, u ee, .bool ex, .bool ey] 57)).alloc (.cells (Ca.momC y mo d wd h mi) 111) := ⟨_, rfl⟩
  obtain ⟨b1, b2, b3, b4⟩ := two_new w #[u ea, u eb, u ec, u ed, u ee, .bool ex, .bool ey] 57 (Ca.momC y mo d wd h mi) 111
  rw [← hV] at b1 b2 b3 b4
  obtain ⟨⟨c0, c1, c2, c3, c4, c5, c6⟩, _⟩ := seven b2
  obtain ⟨⟨m0, m1, m2, m3, m4, m5⟩, _⟩ := Ca.mom_cells b3
  have HS1 := Lib.hid (show V.drew.heap[w.heap.size]? = some (.cells #[u ea, u eb, u ec, u ed, u ee, .bool ex, .bool ey] 57 (0, 0)) ∧ V.drew.heap[w.heap.size + 1]? = some (.cells (Ca.momC y mo d wd h mi) 111 (0, 0)) from ⟨b2, b3⟩)
  have HV := Lib.hid (And.intro hV b1)
  have HQ := Lib.hid (And.intro q1 (And.intro q2 (And.intro q3 (And.intro q4 q5))))
  clear hV b1 b2 b3 b4 q1 q2 q3 q4 q5
  have hmix : Tryz.prog.follows .mixedOrders = true := by kernel_rfl
  go_enter Tryz.func70, Tryz.ntmps70
  go_wp2_with fail
  rw [← HV.out.1]
  go_wp2_with fail
  refine (HQ.out.1 _).mono ?_
  rintro r w1 ⟨rfl, rfl⟩
  cases B1
  · go_wp2_with fail
    go_ret
    exact ⟨by rw [HR.out]; rfl, HV.out.2⟩
  go_wp2_with fail
  refine (HQ.out.2.1 _).mono ?_
  rintro r w1 ⟨rfl, rfl⟩
  cases B2
  · go_wp2_with fail
    go_ret
    exact ⟨by rw [HR.out]; rfl, HV.out.2⟩
  go_wp2_with fail
  refine (HQ.out.2.2.1 _).mono ?_
  rintro r w1 ⟨rfl, rfl⟩
  cases B3
  · go_wp2_with fail
    go_ret
    exact ⟨by rw [HR.out]; rfl, HV.out.2⟩
  go_wp2_with fail
  -- REGION3
  refine begin' 12 (fun Y => Y.heap[w.heap.size]? = some (.cells #[u ea, u eb, u ec, u ed, u ee, .bool ex, .bool ey] 57 (0, 0)) ∧ Y.heap[w.heap.size + 1]? = some (.cells (Ca.momC y mo d wd h mi) 111 (0, 0))) hmix HS1.out (fun hS0 => ?_)
  refine Ht.takeN (i := 0) ⟨some 29, _, _, _, _, _⟩ (.pointer (some ⟨w.heap.size, 2, none⟩)) rfl (Nat.le_refl 12) (by kernel_rfl) (by kernel_rfl) (by kernel_rfl) (by kernel_rfl) hS0 (Or.inl ⟨by rfl, by (intro X hX; go_simp)⟩) ?_
  simp only [Act.put, List.setIfInBounds_toArray, List.set_cons_zero, List.set_cons_succ]
  refine Ht.takeN (i := 1) ⟨some 30, _, _, _, _, _⟩ (u ec) rfl (Nat.le_refl 12) (by kernel_rfl) (by kernel_rfl) (by kernel_rfl) (by kernel_rfl) hS0 (Or.inl ⟨by rfl, by (intro X hX; obtain ⟨⟨c0, c1, c2, c3, c4, c5, c6⟩, _⟩ := seven hX.1; go_simp)⟩) ?_
  simp only [Act.put, List.setIfInBounds_toArray, List.set_cons_zero, List.set_cons_succ]
  refine Ht.takeN (i := 2) ⟨some 31, _, _, _, _, _⟩ (.pointer (some ⟨w.heap.size + 1, 2, none⟩)) rfl (Nat.le_refl 12) (by kernel_rfl) (by kernel_rfl) (by kernel_rfl) (by kernel_rfl) hS0 (Or.inl ⟨by rfl, by (intro X hX; go_simp)⟩) ?_
  simp only [Act.put, List.setIfInBounds_toArray, List.set_cons_zero, List.set_cons_succ]
  refine Ht.takeN (i := 3) ⟨some 32, _, _, _, _, _⟩ (.int .i64 d) rfl (Nat.le_refl 12) (by kernel_rfl) (by kernel_rfl) (by kernel_rfl) (by kernel_rfl) hS0 (Or.inl ⟨by rfl, by (intro X hX; obtain ⟨⟨m0, m1, m2, m3, m4, m5⟩, _⟩ := Ca.mom_cells hX.2; go_simp)⟩) ?_
  simp only [Act.put, List.setIfInBounds_toArray, List.set_cons_zero, List.set_cons_succ]
  refine Ht.takeN (i := 5) ⟨some 34, _, _, _, _, _⟩ (.pointer (some ⟨w.heap.size, 4, none⟩)) rfl (Nat.le_refl 12) (by kernel_rfl) (by kernel_rfl) (by kernel_rfl) (by kernel_rfl) hS0 (Or.inl ⟨by rfl, by (intro X hX; go_simp)⟩) ?_
  simp only [Act.put, List.setIfInBounds_toArray, List.set_cons_zero, List.set_cons_succ]
  refine Ht.takeN (i := 6) ⟨some 35, _, _, _, _, _⟩ (u ee) rfl (Nat.le_refl 12) (by kernel_rfl) (by kernel_rfl) (by kernel_rfl) (by kernel_rfl) hS0 (Or.inl ⟨by rfl, by (intro X hX; obtain ⟨⟨c0, c1, c2, c3, c4, c5, c6⟩, _⟩ := seven hX.1; go_simp)⟩) ?_
  simp only [Act.put, List.setIfInBounds_toArray, List.set_cons_zero, List.set_cons_succ]
  refine Ht.takeN (i := 7) ⟨some 36, _, _, _, _, _⟩ (.pointer (some ⟨w.heap.size + 1, 3, none⟩)) rfl (Nat.le_refl 12) (by kernel_rfl) (by kernel_rfl) (by kernel_rfl) (by kernel_rfl) hS0 (Or.inl ⟨by rfl, by (intro X hX; go_simp)⟩) ?_
  simp only [Act.put, List.setIfInBounds_toArray, List.set_cons_zero, List.set_cons_succ]
  refine Ht.takeN (i := 8) ⟨some 37, _, _, _, _, _⟩ (.int .i64 wd) rfl (Nat.le_refl 12) (by kernel_rfl) (by kernel_rfl) (by kernel_rfl) (by kernel_rfl) hS0 (Or.inl ⟨by rfl, by (intro X hX; obtain ⟨⟨m0, m1, m2, m3, m4, m5⟩, _⟩ := Ca.mom_cells hX.2; go_simp)⟩) ?_
  simp only [Act.put, List.setIfInBounds_toArray, List.set_cons_zero, List.set_cons_succ]
  refine Ht.step (i := 4) ⟨some 33, _, _, _, _, _⟩ rfl (by kernel_rfl) (by rfl) (fun K hK => ?_)
  refine Ht.enter 95 #[u ec, .int .i64 d] (by have hen := fun args w => enters_of (P := Tryz.prog) Tryz.func95 (by kernel_rfl) rfl args w; go_simp) (HQ.out.2.2.2.1 _) ?_
  rintro e A1 ⟨rfl, rfl⟩
  refine ⟨_, rfl, hK _ _ (fun _ => hS0) (fun _ => ?_)⟩
  clear hK K
  simp only [Act.put, List.setIfInBounds_toArray, List.set_cons_zero, List.set_cons_succ]
  refine Ht.step (i := 9) ⟨some 38, _, _, _, _, _⟩ rfl (by kernel_rfl) (by rfl) (fun K hK => ?_)
  refine Ht.enter 95 #[u ee, .int .i64 wd] (by have hen := fun args w => enters_of (P := Tryz.prog) Tryz.func95 (by kernel_rfl) rfl args w; go_simp) (HQ.out.2.2.2.2 _) ?_
  rintro e A1 ⟨rfl, rfl⟩
  refine ⟨_, rfl, hK _ _ (fun _ => hS0) (fun _ => ?_)⟩
  clear hK K
  simp only [Act.put, List.setIfInBounds_toArray, List.set_cons_zero, List.set_cons_succ]
  refine Ht.takeN (i := 10) ⟨some 5, _, _, _, _, _⟩ (.bool B4) rfl (Nat.le_refl 12) (by kernel_rfl) (by kernel_rfl) (by kernel_rfl) (by kernel_rfl) hS0 (Or.inl ⟨by rfl, by (intro X hX; go_simp)⟩) ?_
  simp only [Act.put, List.setIfInBounds_toArray, List.set_cons_zero, List.set_cons_succ]
  refine Ht.takeN (i := 11) ⟨some 6, _, _, _, _, _⟩ (.bool B5) rfl (Nat.le_refl 12) (by kernel_rfl) (by kernel_rfl) (by kernel_rfl) (by kernel_rfl) hS0 (Or.inl ⟨by rfl, by (intro X hX; go_simp)⟩) ?_
  simp only [Act.put, List.setIfInBounds_toArray, List.set_cons_zero, List.set_cons_succ]
  refine done (by kernel_rfl) ?_
  -- END3
  obtain ⟨⟨c0, c1, c2, c3, c4, c5, c6⟩, _⟩ := seven HS1.out.1
  cases ex
  · cases ey
    · go_wp2_with fail
      all_goals
        go_ret
        exact ⟨by rw [HR.out]; cases B4 <;> cases B5 <;> simp_all, HV.out.2.trans ⟨rfl, rfl, rfl, Nat.le_refl _, fun _ _ => rfl⟩⟩
    · go_wp2_with fail
      all_goals
        go_ret
        exact ⟨by rw [HR.out]; cases B4 <;> cases B5 <;> simp_all, HV.out.2.trans ⟨rfl, rfl, rfl, Nat.le_refl _, fun _ _ => rfl⟩⟩
  · go_wp2_with fail
    all_goals
      go_ret
      exact ⟨by rw [HR.out]; cases B4 <;> cases B5 <;> simp_all, HV.out.2.trans ⟨rfl, rfl, rfl, Nat.le_refl _, fun _ _ => rfl⟩⟩
end Go.Proofs.YtkkanggkbbmfnaaGreatDoor.Cn
