
/- HeapPlays, walked -/
import Derived.Test.YtpeapbhhlfbolaaHeapPlaysK
import Derived.Test.YtpeapbhhlfbolaaHpV
namespace Go.Proofs.Ytpeapbhhlfbolaa.HpA
open Go.RowKit Go.Lib Go.Sort Hp Rg Ht
set_option linter.unusedVariables false
set_option maxRecDepth 20000
/-- acts that lie in a row -/
def InA (W : World) (a : Option Addr) (n c : Nat) : Prop :=
  n ≤ c ∧ c ≤ 9223372036854775807 ∧ (n = 0 ∨ ∃ b o, a = some ⟨b, o, none⟩ ∧ ∀ i, i < n → ∃ kd ky rk : Int, (0 ≤ ky ∧ ky < 256) ∧ W.cell? ⟨b, o + i * 3, none⟩ = some (.int .i64 kd) ∧ W.cell? ⟨b, o + i * 3 + 1, none⟩ = some (.int .u8 ky) ∧ W.cell? ⟨b, o + i * 3 + 2, none⟩ = some (.int .i64 rk))
theorem put_ne {k : K} {r : Int} {m : List (K × Int)} : HpA.put k r m ≠ [] := by unfold HpA.put; simp
set_option maxHeartbeats 4000000 in
theorem plays_any (w : World) (a : Option Addr) (n c : Nat) (hi : InA w a n c) :
    Calls Try.prog 3 #[.slice a n c] w fun e w' => e = .returned (.bool true) ∧ Below w.heap.size w w' := by
  have hmix : Try.prog.follows .mixedOrders = true := by kernel_rfl
  have HLV := Lib.hid (fun W => HpV.lives_any W)
  have HI := Lib.hid hi
  have hn1 := hi.1
  have hn2 := hi.2.1
  clear hi
  by_cases h60 : n ≤ 100
  · have h1x : ¬ ((n : Nat) : Int) > 100 := by omega
    have HNN := Lib.hid h60
    clear h60
    go_enter Try.func3, Try.ntmps3
    go_wp2_with fail
    refine (HLV.out _).mono ?_
    rintro e w1 ⟨rfl, b1⟩
    have HB1 := Lib.hid b1
    clear b1
    go_wp2_with fail
    refine (new_y _ (fun _ => False) (fun _ h => h.elim)).mono ?_
    rintro e w2 ⟨rfl, hy, b2⟩
    have hst : LQ w w1.heap.size (fun _ => False) w2 (.slice none 0 0) [] [] := by
      obtain ⟨S, s1, s2, s3⟩ := hy
      exact ⟨⟨S, s1, fun k hk => Nat.le_trans HB1.out.size (s2 k hk), fun k hk e => by
        rcases e with e | e
        · cases e
        · exact e⟩, World.ownsRow_nil _ _ _ _, HB1.out.trans (b2.mono HB1.out.size)⟩
    have HS := Lib.hid hst
    clear hst hy b2 HB1
    obtain ⟨hb, hhb⟩ : ∃ x, x = w1.heap.size := ⟨_, rfl⟩
    rw [← hhb] at HS ⊢
    clear hhb
    go_wp2_with fail
    go_loopw [4, 25] (fun mv i wr => ∃ (k : Nat) (m : List (K × Int)), i = .int .i64 ((k : Nat) : Int) ∧ k ≤ n ∧ m.length ≤ k ∧ LQ w hb (fun _ => False) wr mv m m) (fun _ i _ => n - (RowKit.intOf i).toNat)
    case atStart => exact ⟨0, [], rfl, Nat.zero_le _, Nat.le_refl _, HS.out⟩
    case round =>
      obtain ⟨k, m, rfl, hk, hml, hs⟩ := hrel
      by_cases hlt : k < n
      · have hkx : ((k : Nat) : Int) < ((n : Nat) : Int) := by omega
        obtain ⟨b, o, rfl, hcells⟩ : ∃ b o, a = some ⟨b, o, none⟩ ∧ ∀ i, i < n → ∃ kd ky rk : Int, (0 ≤ ky ∧ ky < 256) ∧ w.cell? ⟨b, o + i * 3, none⟩ = some (.int .i64 kd) ∧ w.cell? ⟨b, o + i * 3 + 1, none⟩ = some (.int .u8 ky) ∧ w.cell? ⟨b, o + i * 3 + 2, none⟩ = some (.int .i64 rk) := by
          rcases HI.out.2.2 with h | h
          · omega
          · exact h
        obtain ⟨kd, ky, rk, hwk, c1, c2, c3⟩ := hcells k hlt
        have c1 := (hs.b.cell (World.block_lt_of_cell? _ _ c1)).trans c1
        have c2 := (hs.b.cell (World.block_lt_of_cell? _ _ c2)).trans c2
        have c3 := (hs.b.cell (World.block_lt_of_cell? _ _ c3)).trans c3
        have hwk : wk ky := hwk
        have hsm : m.length ≤ 1000 := by have := HNN.out; omega
        obtain ⟨am, cm, rfl⟩ := own_shape hs.o
        obtain ⟨ml, hmn⟩ : ∃ x, x = m.length := ⟨_, rfl⟩
        rw [← hmn]
        have hbx := hs.box (.cells #[.int .i64 kd, .int .u8 ky, .int .i64 rk] 28)
        obtain ⟨W, hW⟩ : ∃ W, W = wr.alloc (.cells #[.int .i64 kd, .int .u8 ky, .int .i64 rk] 28) := ⟨_, rfl⟩
        have hx := (MapKept.heap_alloc wr (.cells #[.int .i64 kd, .int .u8 ky, .int .i64 rk] 28)).1
        rw [← hW] at hbx hx
        have HL := Lib.hid (And.intro hbx (And.intro hx (And.intro hlt (And.intro hml (And.intro hwk (And.intro hsm hmn))))))
        clear hbx hx hlt hml hwk hsm hmn hs hcells hk
        go_wp2_with fail
        rw [← hW]
        clear hW c1 c2 c3
        obtain ⟨bx, hbx⟩ : ∃ x, x = wr.heap.size := ⟨_, rfl⟩
        rw [← hbx] at HL ⊢
        clear hbx
        have HM := Lib.hid HL.out.2.2.2.2.2.2
        have hF := find_any W (.slice am m.length cm) m (src_own HL.out.1.o) (by have := HL.out.2.2.2.2.2.1; omega) ky
        rw [← HM.out] at hF
        have k1 : W.cell? ⟨bx, 1, none⟩ = some (.int .u8 ky) := by rw [cell_of_row _ _ _ _ _ _ HL.out.2.1]; rfl
        refine hF.mono ?_
        rintro e W1 ⟨i, hix, rfl, hw1⟩
        subst hw1
        clear hF
        have hR := HL.out.1.rank HL.out.2.2.2.2.1
        have hend : ∀ (X : World), Below W1.heap.size W1 X → LQ w hb (fun x => x = bx) X (.slice am m.length cm) m m ∧ X.heap[bx]? = some (.cells #[.int .i64 kd, .int .u8 ky, .int .i64 rk] 28 (0, 0)) := fun X e => ⟨HL.out.1.old e, (e.block bx (Array.getElem?_eq_some_iff.1 HL.out.2.1).1).trans HL.out.2.1⟩
        by_cases him : i < m.length
        · have hke : (el m i).1 = ky := hix.2.2 him
          have hR2 : Calls Try.prog 9 #[.pointer (some ⟨hb, 0, none⟩), ek ky] W1 fun e Y => e = .returned (.tuple #[er (el m i).2, .bool true]) ∧ Below W1.heap.size W1 Y := hR.mono fun e Y ⟨h1, h2⟩ => by
            refine ⟨?_, h2⟩
            rcases h1 with ⟨h1, _⟩ | ⟨r, h1, rfl⟩
            · exact absurd (List.mem_map.2 ⟨_, el_mem him, hke⟩) h1
            · have hr := nodup_rank (r := r) HL.out.1.nodup him (by rw [hke]; exact h1)
              rw [hr]
          obtain ⟨g, rfl, hlc, hcm⟩ : ∃ g, am = some ⟨g, 0, none⟩ ∧ m.length ≤ cm ∧ cm ≤ maxLen := by
            rcases HL.out.1.o.2 with ⟨e, h0⟩ | ⟨g, cap, cur, e, _, _, h1, h2, _⟩
            · omega
            · cases e; exact ⟨g, rfl, h1, h2⟩
          have hixv : ixv m i = ((i : Nat) : Int) := if_pos him
          rw [hixv]
          have hi0 : (0 : Int) ≤ ((i : Nat) : Int) := by omega
          have hin : ((i : Nat) : Int) < ((ml : Nat) : Int) := by have := HM.out; omega
          have hkin : decide (ky ∈ m.map (·.1)) = true := decide_eq_true (List.mem_map.2 ⟨_, el_mem him, hke⟩)
          obtain ⟨q, hq⟩ : ∃ q, q = (el m i).2 := ⟨_, rfl⟩
          rw [← hq] at hR2
          have HG := Lib.hid (And.intro hend (And.intro him (And.intro hke (And.intro hlc (And.intro hcm (And.intro hkin hq))))))
          clear hend hix him hke hlc hcm hkin hixv hR hq
          unfold ek er at hR2
          go_wp2_with fail
          refine hR2.mono ?_
          rintro e W2 ⟨rfl, hb2⟩
          obtain ⟨h2, hx2⟩ := HG.out.1 W2 hb2
          have hcr : W2.cell? ⟨g, i * 2 + 1, none⟩ = some (.int .i64 q) := by
            obtain ⟨a', c', e1, e2⟩ := (src_own h2.o).shape
            obtain ⟨g', e3, e4⟩ := e2 (fun e => by have := HG.out.2.1; rw [e] at this; simp at this)
            cases e1
            cases e3
            rw [HG.out.2.2.2.2.2.2]
            exact (e4 i HG.out.2.1).2
          have d0 : W2.cell? ⟨bx, 0, none⟩ = some (.int .i64 kd) := by rw [cell_of_row _ _ _ _ _ _ hx2]; rfl
          have d1 : W2.cell? ⟨bx, 1, none⟩ = some (.int .u8 ky) := by rw [cell_of_row _ _ _ _ _ _ hx2]; rfl
          have d2 : W2.cell? ⟨bx, 2, none⟩ = some (.int .i64 rk) := by rw [cell_of_row _ _ _ _ _ _ hx2]; rfl
          have H2 := Lib.hid (And.intro h2 (And.intro hx2 hb2))
          clear h2 hx2 hb2 hR2 k1

          obtain hkd | hkd | hkd | hkd | hkd : kd = 0 ∨ kd = 1 ∨ kd = 2 ∨ kd = 3 ∨ (kd ≠ 0 ∧ kd ≠ 1 ∧ kd ≠ 2 ∧ kd ≠ 3) := by omega
          · subst hkd
            have hP := H2.out.1.put (fun x hx => by rw [hx]; exact (Array.getElem?_eq_some_iff.1 H2.out.2.1).1) HL.out.2.2.2.2.1 rk (by have := HL.out.2.2.2.2.2.1; omega)
            rw [HG.out.2.2.2.2.2.1] at hP
            unfold ek er at hP
            go_wp2_with fail
            refine hP.mono ?_
            rintro e W3 ⟨rfl, h3, hk3⟩
            clear hP d0 d1 d2 hcr
            have hx3 := (hk3 bx rfl).trans H2.out.2.1
            have d2 : W3.cell? ⟨bx, 2, none⟩ = some (.int .i64 rk) := by rw [cell_of_row _ _ _ _ _ _ hx3]; rfl
            have e1 : W3.cell? ⟨g, i * 2 + 1, none⟩ = some (er (el m i).2) := (h3.o.cellAt _ (by have := HG.out.2.1; omega)).trans (cs_get m i HG.out.2.1).2
            have e2 := h3.o.frozenAt (i * 2 + 1)
            have h4 := h3.store H2.out.1.nodup HG.out.2.1 HG.out.2.2.1
            have hIS := h4.is (by rw [List.length_set]; have := HL.out.2.2.2.2.2.1; omega)
            rw [← HM.out] at hIS
            unfold er at hIS e1
            have HQ := Lib.hid h4
            clear h3 h4 hk3 hx3

            go_wp2_with fail
            refine hIS.mono ?_
            rintro e Z ⟨rfl, hbZ⟩
            have HT := Lib.hid (HQ.out.next.old hbZ)
            clear hbZ hIS
            go_wp2_with fail
            exact ⟨⟨k + 1, m.set i (ky, rk), rfl, HL.out.2.2.1, by rw [List.length_set]; have := HL.out.2.2.2.1; omega, by rw [HM.out]; exact HT.out⟩, by have := HL.out.2.2.1; simp [RowKit.intOf]; omega⟩
          · subst hkd
            have hP := H2.out.1.put (fun x hx => by rw [hx]; exact (Array.getElem?_eq_some_iff.1 H2.out.2.1).1) HL.out.2.2.2.2.1 rk (by have := HL.out.2.2.2.2.2.1; omega)
            rw [HG.out.2.2.2.2.2.1] at hP
            unfold ek er at hP
            go_wp2_with fail
            refine hP.mono ?_
            rintro e W3 ⟨rfl, h3, hk3⟩
            clear hP d0 d1 d2 hcr
            have hx3 := (hk3 bx rfl).trans H2.out.2.1
            have d2 : W3.cell? ⟨bx, 2, none⟩ = some (.int .i64 rk) := by rw [cell_of_row _ _ _ _ _ _ hx3]; rfl
            have e1 : W3.cell? ⟨g, i * 2 + 1, none⟩ = some (er (el m i).2) := (h3.o.cellAt _ (by have := HG.out.2.1; omega)).trans (cs_get m i HG.out.2.1).2
            have e2 := h3.o.frozenAt (i * 2 + 1)
            have h4 := h3.store H2.out.1.nodup HG.out.2.1 HG.out.2.2.1
            have hIS := h4.is (by rw [List.length_set]; have := HL.out.2.2.2.2.2.1; omega)
            rw [← HM.out] at hIS
            unfold er at hIS e1
            have HQ := Lib.hid h4
            clear h3 h4 hk3 hx3

            go_wp2_with fail
            refine hIS.mono ?_
            rintro e Z ⟨rfl, hbZ⟩
            have HT := Lib.hid (HQ.out.next.old hbZ)
            clear hbZ hIS
            go_wp2_with fail
            exact ⟨⟨k + 1, m.set i (ky, rk), rfl, HL.out.2.2.1, by rw [List.length_set]; have := HL.out.2.2.2.1; omega, by rw [HM.out]; exact HT.out⟩, by have := HL.out.2.2.1; simp [RowKit.intOf]; omega⟩
          · subst hkd
            have hC := H2.out.1.cut (fun x hx => by rw [hx]; exact (Array.getElem?_eq_some_iff.1 H2.out.2.1).1) HL.out.2.2.2.2.1 (by have := HL.out.2.2.2.2.2.1; omega)
            rw [HG.out.2.2.2.2.2.1] at hC
            unfold ek at hC
            go_wp2_with fail
            refine hC.mono ?_
            rintro e W3 ⟨rfl, h3, hk3⟩
            have hcut := cut09_any W3 (.slice (some ⟨g, 0, none⟩) m.length cm) m (src_own h3.o) ⟨_, _, rfl, HG.out.2.2.2.1, HG.out.2.2.2.2.1⟩ (by have := HL.out.2.2.2.2.2.1; omega) HG.out.2.1
            rw [← HM.out] at hcut
            have H3 := Lib.hid h3
            clear hC d0 d1 d2 hcr h3 hk3
            go_wp2_with fail
            refine hcut.mono ?_
            rintro e W4 ⟨v, rfl, ho, hb4⟩
            have h4 := LQ.cutRow (v := v) (by rw [HG.out.2.2.1]; exact H3.out) H2.out.1.nodup HG.out.2.1 hb4 (by rw [← HM.out]; exact ho)
            obtain ⟨ao, cp, rfl⟩ := own_shape ho
            have hIS := h4.is (by rw [List.length_eraseIdx]; have := HL.out.2.2.2.2.2.1; split <;> omega)
            have HQ := Lib.hid h4
            clear h4 ho hb4 hcut
            generalize ml - 1 = m1 at hIS HQ ⊢

            go_wp2_with fail
            refine hIS.mono ?_
            rintro e Z ⟨rfl, hbZ⟩
            have HT := Lib.hid (HQ.out.next.old hbZ)
            clear hbZ hIS
            go_wp2_with fail
            exact ⟨⟨k + 1, m.eraseIdx i, rfl, HL.out.2.2.1, by rw [List.length_eraseIdx]; have := HL.out.2.2.2.1; split <;> omega, HT.out⟩, by have := HL.out.2.2.1; simp [RowKit.intOf]; omega⟩
          · subst hkd
            have hm : m ≠ [] := fun e => by have := HG.out.2.1; rw [e] at this; simp at this
            have hPp := H2.out.1.pop (fun x hx => by rw [hx]; exact (Array.getElem?_eq_some_iff.1 H2.out.2.1).1) hm (by have := HL.out.2.2.2.2.2.1; omega)
            go_wp2_with fail
            refine hPp.mono ?_
            rintro e W3 ⟨⟨p1, q1⟩, hxl, rfl, h3, hk3⟩
            dsimp only [item, ek, er]
            have hb4 : Below W3.heap.size W3 (W3.alloc (.cells #[.int .u8 p1, .int .i64 q1] 38)) := (Below.refl _ _).alloc (Nat.le_refl _) _
            have h4 := h3.old hb4
            have hleast := least_any _ (.slice (some ⟨g, 0, none⟩) m.length cm) m (src_own h4.o) (by have := HL.out.2.2.2.2.2.1; omega)
            have hx4 := (MapKept.heap_alloc W3 (.cells #[.int .u8 p1, .int .i64 q1] 38)).1
            rw [← HM.out] at hleast
            have H4 := Lib.hid (And.intro h4 (And.intro hx4 hxl))
            clear hPp d0 d1 d2 h3 h4 hk3 hx4 hb4 hxl hcr
            go_wp2_with fail
            obtain ⟨W4, hW4⟩ : ∃ X, X = W3.alloc (.cells #[.int .u8 p1, .int .i64 q1] 38) := ⟨_, rfl⟩
            rw [← hW4] at H4 hleast ⊢
            clear hW4
            obtain ⟨by4, hby⟩ : ∃ x, x = W3.heap.size := ⟨_, rfl⟩
            rw [← hby] at H4 ⊢
            clear hby
            refine hleast.mono ?_
            rintro e W5 ⟨he, hb5⟩
            obtain ⟨j, hj, hje, rfl⟩ : ∃ j, j < m.length ∧ el m j = (p1, q1) ∧ e = .returned (.int .i64 ((j : Nat) : Int)) := by
              rcases he with ⟨h0, _⟩ | ⟨j, hj, h1, h2⟩
              · exact absurd h0 hm
              · exact ⟨j, by rw [← HM.out]; exact hj, h1.one H4.out.2.2, h2⟩
            clear he hleast
            have h5 := H4.out.1.old hb5
            have hlc := HG.out.2.2.2.1
            have hcm := HG.out.2.2.2.2.1
            have hx5 := (hb5.block by4 (Array.getElem?_eq_some_iff.1 H4.out.2.1).1).trans H4.out.2.1
            obtain ⟨k1, k2⟩ : W5.cell? ⟨g, j * 2, none⟩ = some (ek p1) ∧ W5.cell? ⟨g, j * 2 + 1, none⟩ = some (er q1) := by
              obtain ⟨a', c', e1, e2⟩ := (src_own h5.o).shape
              obtain ⟨g', e3, e4⟩ := e2 hm
              cases e1
              cases e3
              have := e4 j hj
              rw [hje] at this
              exact this
            unfold ek at k1
            unfold er at k2
            have y1 : W5.cell? ⟨by4, 0, none⟩ = some (.int .u8 p1) := by rw [cell_of_row _ _ _ _ _ _ hx5]; rfl
            have y2 : W5.cell? ⟨by4, 1, none⟩ = some (.int .i64 q1) := by rw [cell_of_row _ _ _ _ _ _ hx5]; rfl
            have hj0 : (0 : Int) ≤ ((j : Nat) : Int) := by omega
            have hjn : ((j : Nat) : Int) < ((ml : Nat) : Int) := by have := HM.out; omega
            have hcut := fun Y (e : Below W5.heap.size W5 Y) => cut09_any Y (.slice (some ⟨g, 0, none⟩) m.length cm) m ((src_own h5.o).old e) ⟨_, _, rfl, hlc, hcm⟩ (by have := HL.out.2.2.2.2.2.1; omega) hj
            rw [← HM.out] at hcut
            have H5 := Lib.hid (And.intro h5 (And.intro hj hje))
            clear h5 hx5 hb5 hj hje hlc hcm hm
            go_wp2_with fail
            refine begin' 99 (fun X => X.cell? ⟨g, j * 2, none⟩ = some (.int .u8 p1) ∧ X.cell? ⟨g, j * 2 + 1, none⟩ = some (.int .i64 q1) ∧ X.cell? ⟨by4, 0, none⟩ = some (.int .u8 p1) ∧ X.cell? ⟨by4, 1, none⟩ = some (.int .i64 q1)) hmix ⟨k1, k2, y1, y2⟩ (fun hS0 => ?_)
            refine Ht.takeN (i := 0) ⟨some 127, _, _, _, _, _⟩ (.bool true) rfl (Nat.le_of_ble_eq_true (by kernel_rfl)) (by kernel_rfl) (by kernel_rfl) (by kernel_rfl) (by kernel_rfl) hS0 (Or.inl ⟨by rfl, by (intro X hX; go_simp)⟩) ?_
            simp only [Act.put, List.setIfInBounds_toArray, List.set_cons_zero, List.set_cons_succ]
            refine Ht.takeN (i := 1) ⟨some 128, _, _, _, _, _⟩ (.int .i64 ((j : Nat) : Int)) rfl (Nat.le_of_ble_eq_true (by kernel_rfl)) (by kernel_rfl) (by kernel_rfl) (by kernel_rfl) (by kernel_rfl) hS0 (Or.inl ⟨by rfl, by (intro X hX; go_simp)⟩) ?_
            simp only [Act.put, List.setIfInBounds_toArray, List.set_cons_zero, List.set_cons_succ]
            refine Ht.takeN (i := 2) ⟨some 129, _, _, _, _, _⟩ (.bool true) rfl (Nat.le_of_ble_eq_true (by kernel_rfl)) (by kernel_rfl) (by kernel_rfl) (by kernel_rfl) (by kernel_rfl) hS0 (Or.inl ⟨by rfl, by (intro X hX; go_simp)⟩) ?_
            simp only [Act.put, List.setIfInBounds_toArray, List.set_cons_zero, List.set_cons_succ]
            refine Ht.takeN (i := 3) ⟨some 130, _, _, _, _, _⟩ (.bool false) rfl (Nat.le_of_ble_eq_true (by kernel_rfl)) (by kernel_rfl) (by kernel_rfl) (by kernel_rfl) (by kernel_rfl) hS0 (Or.inl ⟨by rfl, by (intro X hX; go_simp)⟩) ?_
            simp only [Act.put, List.setIfInBounds_toArray, List.set_cons_zero, List.set_cons_succ]
            refine Ht.takeN (i := 4) ⟨some 131, _, _, _, _, _⟩ (.bool false) rfl (Nat.le_of_ble_eq_true (by kernel_rfl)) (by kernel_rfl) (by kernel_rfl) (by kernel_rfl) (by kernel_rfl) hS0 (Or.inl ⟨by rfl, by (intro X hX; go_simp)⟩) ?_
            simp only [Act.put, List.setIfInBounds_toArray, List.set_cons_zero, List.set_cons_succ]
            refine Ht.takeN (i := 5) ⟨some 132, _, _, _, _, _⟩ (.bool true) rfl (Nat.le_of_ble_eq_true (by kernel_rfl)) (by kernel_rfl) (by kernel_rfl) (by kernel_rfl) (by kernel_rfl) hS0 (Or.inl ⟨by rfl, by (intro X hX; go_simp)⟩) ?_
            simp only [Act.put, List.setIfInBounds_toArray, List.set_cons_zero, List.set_cons_succ]
            refine Ht.takeN (i := 6) ⟨some 133, _, _, _, _, _⟩ (.bool true) rfl (Nat.le_of_ble_eq_true (by kernel_rfl)) (by kernel_rfl) (by kernel_rfl) (by kernel_rfl) (by kernel_rfl) hS0 (Or.inl ⟨by rfl, by (intro X hX; go_simp)⟩) ?_
            simp only [Act.put, List.setIfInBounds_toArray, List.set_cons_zero, List.set_cons_succ]
            refine Ht.takeN (i := 7) ⟨some 134, _, _, _, _, _⟩ (.slice (some ⟨g, 0, none⟩) ml cm) rfl (Nat.le_of_ble_eq_true (by kernel_rfl)) (by kernel_rfl) (by kernel_rfl) (by kernel_rfl) (by kernel_rfl) hS0 (Or.inl ⟨by rfl, by (intro X hX; go_simp)⟩) ?_
            simp only [Act.put, List.setIfInBounds_toArray, List.set_cons_zero, List.set_cons_succ]
            refine Ht.takeN (i := 8) ⟨some 135, _, _, _, _, _⟩ (.int .i64 ((j : Nat) : Int)) rfl (Nat.le_of_ble_eq_true (by kernel_rfl)) (by kernel_rfl) (by kernel_rfl) (by kernel_rfl) (by kernel_rfl) hS0 (Or.inl ⟨by rfl, by (intro X hX; go_simp)⟩) ?_
            simp only [Act.put, List.setIfInBounds_toArray, List.set_cons_zero, List.set_cons_succ]
            refine Ht.takeN (i := 9) ⟨some 136, _, _, _, _, _⟩ (.pointer (some ⟨g, j * 2, none⟩)) rfl (Nat.le_of_ble_eq_true (by kernel_rfl)) (by kernel_rfl) (by kernel_rfl) (by kernel_rfl) (by kernel_rfl) hS0 (Or.inl ⟨by rfl, by (intro X hX; go_simp)⟩) ?_
            simp only [Act.put, List.setIfInBounds_toArray, List.set_cons_zero, List.set_cons_succ]
            refine Ht.takeN (i := 10) ⟨some 137, _, _, _, _, _⟩ (.agg #[.int .u8 p1, .int .i64 q1]) rfl (Nat.le_of_ble_eq_true (by kernel_rfl)) (by kernel_rfl) (by kernel_rfl) (by kernel_rfl) (by kernel_rfl) hS0 (Or.inl ⟨by rfl, by (intro X hX; have := And.intro hX.1 hX.2.1; go_simp)⟩) ?_
            simp only [Act.put, List.setIfInBounds_toArray, List.set_cons_zero, List.set_cons_succ]
            refine Ht.takeN (i := 11) ⟨some 138, _, _, _, _, _⟩ (.pointer (some ⟨by4, 0, none⟩)) rfl (Nat.le_of_ble_eq_true (by kernel_rfl)) (by kernel_rfl) (by kernel_rfl) (by kernel_rfl) (by kernel_rfl) hS0 (Or.inl ⟨by rfl, by (intro X hX; go_simp)⟩) ?_
            simp only [Act.put, List.setIfInBounds_toArray, List.set_cons_zero, List.set_cons_succ]
            refine Ht.takeN (i := 12) ⟨some 139, _, _, _, _, _⟩ (.int .u8 p1) rfl (Nat.le_of_ble_eq_true (by kernel_rfl)) (by kernel_rfl) (by kernel_rfl) (by kernel_rfl) (by kernel_rfl) hS0 (Or.inl ⟨by rfl, by (intro X hX; have := hX.2.2.1; go_simp)⟩) ?_
            simp only [Act.put, List.setIfInBounds_toArray, List.set_cons_zero, List.set_cons_succ]
            refine Ht.takeN (i := 13) ⟨some 140, _, _, _, _, _⟩ (.pointer (some ⟨by4, 1, none⟩)) rfl (Nat.le_of_ble_eq_true (by kernel_rfl)) (by kernel_rfl) (by kernel_rfl) (by kernel_rfl) (by kernel_rfl) hS0 (Or.inl ⟨by rfl, by (intro X hX; go_simp)⟩) ?_
            simp only [Act.put, List.setIfInBounds_toArray, List.set_cons_zero, List.set_cons_succ]
            refine Ht.takeN (i := 14) ⟨some 141, _, _, _, _, _⟩ (.int .i64 q1) rfl (Nat.le_of_ble_eq_true (by kernel_rfl)) (by kernel_rfl) (by kernel_rfl) (by kernel_rfl) (by kernel_rfl) hS0 (Or.inl ⟨by rfl, by (intro X hX; have := hX.2.2.2; go_simp)⟩) ?_
            simp only [Act.put, List.setIfInBounds_toArray, List.set_cons_zero, List.set_cons_succ]
            refine Ht.takeN (i := 15) ⟨some 142, _, _, _, _, _⟩ (.agg #[.int .u8 p1, .int .i64 q1]) rfl (Nat.le_of_ble_eq_true (by kernel_rfl)) (by kernel_rfl) (by kernel_rfl) (by kernel_rfl) (by kernel_rfl) hS0 (Or.inl ⟨by rfl, by (intro X hX; go_simp)⟩) ?_
            simp only [Act.put, List.setIfInBounds_toArray, List.set_cons_zero, List.set_cons_succ]
            refine Ht.takeN (i := 16) ⟨some 143, _, _, _, _, _⟩ (.bool false) rfl (Nat.le_of_ble_eq_true (by kernel_rfl)) (by kernel_rfl) (by kernel_rfl) (by kernel_rfl) (by kernel_rfl) hS0 (Or.inl ⟨by rfl, by (intro X hX; go_simp)⟩) ?_
            simp only [Act.put, List.setIfInBounds_toArray, List.set_cons_zero, List.set_cons_succ]
            refine Ht.takeN (i := 17) ⟨some 144, _, _, _, _, _⟩ (.bool false) rfl (Nat.le_of_ble_eq_true (by kernel_rfl)) (by kernel_rfl) (by kernel_rfl) (by kernel_rfl) (by kernel_rfl) hS0 (Or.inl ⟨by rfl, by (intro X hX; go_simp)⟩) ?_
            simp only [Act.put, List.setIfInBounds_toArray, List.set_cons_zero, List.set_cons_succ]
            refine Ht.takeN (i := 18) ⟨some 145, _, _, _, _, _⟩ (.bool false) rfl (Nat.le_of_ble_eq_true (by kernel_rfl)) (by kernel_rfl) (by kernel_rfl) (by kernel_rfl) (by kernel_rfl) hS0 (Or.inl ⟨by rfl, by (intro X hX; go_simp)⟩) ?_
            simp only [Act.put, List.setIfInBounds_toArray, List.set_cons_zero, List.set_cons_succ]
            refine done (by kernel_rfl) ?_
            clear hS0 k1 k2 y1 y2
            go_wp2_with fail
            refine (hcut _ (Below.refl W5.heap.size W5).drew).mono ?_
            rintro e W6 ⟨v, rfl, ho, hb6⟩
            have h6 := LQ.cutRow (v := v) (by rw [H5.out.2.2]; exact H5.out.1.old (Below.refl W5.heap.size W5).drew) H2.out.1.nodup H5.out.2.1 hb6 (by rw [← HM.out]; exact ho)
            obtain ⟨ao, cp, rfl⟩ := own_shape ho
            have hIS := h6.is (by rw [List.length_eraseIdx]; have := HL.out.2.2.2.2.2.1; split <;> omega)
            have HQ := Lib.hid h6
            clear h6 ho hb6 hcut
            generalize ml - 1 = m1 at hIS HQ ⊢

            go_wp2_with fail
            refine hIS.mono ?_
            rintro e Z ⟨rfl, hbZ⟩
            have HT := Lib.hid (HQ.out.next.old hbZ)
            clear hbZ hIS
            go_wp2_with fail
            exact ⟨⟨k + 1, m.eraseIdx j, rfl, HL.out.2.2.1, by rw [List.length_eraseIdx]; have := HL.out.2.2.2.1; split <;> omega, HT.out⟩, by have := HL.out.2.2.1; simp [RowKit.intOf]; omega⟩
          · obtain ⟨n0, n1, n2, n3⟩ := hkd
            have hCp := H2.out.1.copy (by have := HL.out.2.2.2.2.2.1; omega)
            go_wp2_with fail
            refine hCp.mono ?_
            rintro e W3 ⟨cc, rfl, hv3, hb3⟩
            have d1 := (hb3.cell (World.block_lt_of_cell? _ _ d1)).trans d1
            have d2 := (hb3.cell (World.block_lt_of_cell? _ _ d2)).trans d2
            have hput := put_behind hv3 hb3.size HL.out.2.2.2.2.1 rk (by have := HL.out.2.2.2.2.2.1; omega)
            have H3 := Lib.hid hb3
            clear hCp hv3 hb3
            unfold ek er at hput
            go_wp2_with fail
            refine hput.mono ?_
            rintro e W4 ⟨⟨bv, rfl⟩, hv4, hb4⟩
            have hpop := pop_behind hv4 (Nat.le_trans H3.out.size hb4.size) put_ne (by have := put_len (k := ky) (r := rk) (m := m); have := HL.out.2.2.2.2.2.1; omega)
            have H4 := Lib.hid (H3.out.trans hb4)
            clear hput hv4 hb4 d0 d1 d2
            go_wp2_with fail
            refine hpop.mono ?_
            rintro e W5 ⟨⟨x, rfl⟩, hb5⟩
            have h5 := H2.out.1.old (H4.out.trans hb5)
            have hIS := h5.is (by have := HL.out.2.2.2.2.2.1; omega)
            rw [← HM.out] at hIS
            have HQ := Lib.hid h5
            clear h5 hb5 hpop

            go_wp2_with fail
            refine hIS.mono ?_
            rintro e Z ⟨rfl, hbZ⟩
            have HT := Lib.hid (HQ.out.next.old hbZ)
            clear hbZ hIS
            go_wp2_with fail
            exact ⟨⟨k + 1, m, rfl, HL.out.2.2.1, by have := HL.out.2.2.2.1; omega, by rw [HM.out]; exact HT.out⟩, by have := HL.out.2.2.1; simp [RowKit.intOf]; omega⟩
        · have hie : i = m.length := by have := hix.2.1; omega
          have hnk : ky ∉ m.map (·.1) := ix_out (by rw [← hie]; exact hix)
          have hR2 : Calls Try.prog 9 #[.pointer (some ⟨hb, 0, none⟩), ek ky] W1 fun e Y => e = .returned (.tuple #[.int .i64 0, .bool false]) ∧ Below W1.heap.size W1 Y := hR.mono fun e Y ⟨h1, h2⟩ => by
            refine ⟨?_, h2⟩
            rcases h1 with ⟨_, h1⟩ | ⟨r, h1, _⟩
            · exact h1
            · exact absurd (List.mem_map.2 ⟨_, h1, rfl⟩) hnk
          have hixv : ixv m i = -1 := if_neg him
          rw [hixv]
          have hkin : decide (ky ∈ m.map (·.1)) = false := decide_eq_false hnk
          have HG := Lib.hid (And.intro hend (And.intro hnk hkin))
          clear hend hix him hkin hixv hR hie hnk
          unfold ek at hR2
          go_wp2_with fail
          refine hR2.mono ?_
          rintro e W2 ⟨rfl, hb2⟩
          obtain ⟨h2, hx2⟩ := HG.out.1 W2 hb2
          have d0 : W2.cell? ⟨bx, 0, none⟩ = some (.int .i64 kd) := by rw [cell_of_row _ _ _ _ _ _ hx2]; rfl
          have d1 : W2.cell? ⟨bx, 1, none⟩ = some (.int .u8 ky) := by rw [cell_of_row _ _ _ _ _ _ hx2]; rfl
          have d2 : W2.cell? ⟨bx, 2, none⟩ = some (.int .i64 rk) := by rw [cell_of_row _ _ _ _ _ _ hx2]; rfl
          have H2 := Lib.hid (And.intro h2 (And.intro hx2 hb2))
          clear h2 hx2 hb2 hR2 k1

          obtain hkd | hkd | hkd | hkd | hkd : kd = 0 ∨ kd = 1 ∨ kd = 2 ∨ kd = 3 ∨ (kd ≠ 0 ∧ kd ≠ 1 ∧ kd ≠ 2 ∧ kd ≠ 3) := by omega
          · subst hkd
            have hP := H2.out.1.put (fun x hx => by rw [hx]; exact (Array.getElem?_eq_some_iff.1 H2.out.2.1).1) HL.out.2.2.2.2.1 rk (by have := HL.out.2.2.2.2.2.1; omega)
            rw [HG.out.2.2] at hP
            unfold ek er at hP
            go_wp2_with fail
            refine hP.mono ?_
            rintro e W3 ⟨rfl, h3, hk3⟩
            clear hP d0 d1 d2
            have hx3 := (hk3 bx rfl).trans H2.out.2.1
            have d1 : W3.cell? ⟨bx, 1, none⟩ = some (.int .u8 ky) := by rw [cell_of_row _ _ _ _ _ _ hx3]; rfl
            have d2 : W3.cell? ⟨bx, 2, none⟩ = some (.int .i64 rk) := by rw [cell_of_row _ _ _ _ _ _ hx3]; rfl
            obtain ⟨ao, cp, W4, run4, h4⟩ := h3.app HG.out.2.1 (by have := HL.out.2.2.2.2.2.1; omega) 26
            have hIS := h4.is (by rw [List.length_append]; have := HL.out.2.2.2.2.2.1; simp; omega)
            rw [← HM.out] at hIS run4
            unfold ek er at run4
            have HQ := Lib.hid h4
            clear h3 h4 hk3 hx3
            go_wp2_with (at_builtin; refine wpList_plain rfl fun _ hK => wp_append _ _ _ rfl rfl rfl run4 (hK _ _ ?_))
            refine hIS.mono ?_
            rintro e Z ⟨rfl, hbZ⟩
            have HT := Lib.hid (HQ.out.next.old hbZ)
            clear hbZ hIS
            go_wp2_with fail
            exact ⟨⟨k + 1, m ++ [(ky, rk)], rfl, HL.out.2.2.1, by rw [List.length_append]; have := HL.out.2.2.2.1; simp; omega, by rw [HM.out]; exact HT.out⟩, by have := HL.out.2.2.1; simp [RowKit.intOf]; omega⟩
          · subst hkd
            have hP := H2.out.1.put (fun x hx => by rw [hx]; exact (Array.getElem?_eq_some_iff.1 H2.out.2.1).1) HL.out.2.2.2.2.1 rk (by have := HL.out.2.2.2.2.2.1; omega)
            rw [HG.out.2.2] at hP
            unfold ek er at hP
            go_wp2_with fail
            refine hP.mono ?_
            rintro e W3 ⟨rfl, h3, hk3⟩
            clear hP d0 d1 d2
            have hx3 := (hk3 bx rfl).trans H2.out.2.1
            have d1 : W3.cell? ⟨bx, 1, none⟩ = some (.int .u8 ky) := by rw [cell_of_row _ _ _ _ _ _ hx3]; rfl
            have d2 : W3.cell? ⟨bx, 2, none⟩ = some (.int .i64 rk) := by rw [cell_of_row _ _ _ _ _ _ hx3]; rfl
            obtain ⟨ao, cp, W4, run4, h4⟩ := h3.app HG.out.2.1 (by have := HL.out.2.2.2.2.2.1; omega) 26
            have hIS := h4.is (by rw [List.length_append]; have := HL.out.2.2.2.2.2.1; simp; omega)
            rw [← HM.out] at hIS run4
            unfold ek er at run4
            have HQ := Lib.hid h4
            clear h3 h4 hk3 hx3
            go_wp2_with (at_builtin; refine wpList_plain rfl fun _ hK => wp_append _ _ _ rfl rfl rfl run4 (hK _ _ ?_))
            refine hIS.mono ?_
            rintro e Z ⟨rfl, hbZ⟩
            have HT := Lib.hid (HQ.out.next.old hbZ)
            clear hbZ hIS
            go_wp2_with fail
            exact ⟨⟨k + 1, m ++ [(ky, rk)], rfl, HL.out.2.2.1, by rw [List.length_append]; have := HL.out.2.2.2.1; simp; omega, by rw [HM.out]; exact HT.out⟩, by have := HL.out.2.2.1; simp [RowKit.intOf]; omega⟩
          · subst hkd
            have hC := H2.out.1.cut (fun x hx => by rw [hx]; exact (Array.getElem?_eq_some_iff.1 H2.out.2.1).1) HL.out.2.2.2.2.1 (by have := HL.out.2.2.2.2.2.1; omega)
            rw [HG.out.2.2, cut_not HG.out.2.1] at hC
            unfold ek at hC
            go_wp2_with fail
            refine hC.mono ?_
            rintro e W3 ⟨rfl, h3, hk3⟩
            have hIS := h3.is (by have := HL.out.2.2.2.2.2.1; omega)
            rw [← HM.out] at hIS
            have HQ := Lib.hid h3
            clear hC d0 d1 d2 h3 hk3

            go_wp2_with fail
            refine hIS.mono ?_
            rintro e Z ⟨rfl, hbZ⟩
            have HT := Lib.hid (HQ.out.next.old hbZ)
            clear hbZ hIS
            go_wp2_with fail
            exact ⟨⟨k + 1, m, rfl, HL.out.2.2.1, by have := HL.out.2.2.2.1; omega, by rw [HM.out]; exact HT.out⟩, by have := HL.out.2.2.1; simp [RowKit.intOf]; omega⟩
          · subst hkd
            by_cases hm : m = []
            · subst hm
              have hml0 : ml = 0 := HM.out
              subst hml0
              have hPn := (H2.out.1 : LQ w hb (fun x => x = bx) W2 (.slice am 0 cm) [] []).popN
              unfold none0 at hPn
              go_wp2_with fail
              refine hPn.mono ?_
              rintro e W3 ⟨rfl, hb3⟩
              have hb4 : Below W3.heap.size W3 (W3.alloc (.cells #[.int .u8 0, .int .i64 0] 38)) := (Below.refl _ _).alloc (Nat.le_refl _) _
              have h4 := (H2.out.1 : LQ w hb (fun x => x = bx) W2 (.slice am 0 cm) [] []).old (hb3.trans (hb4.mono hb3.size))
              have hleast := least_any _ (.slice am 0 cm) [] (src_own h4.o) (by decide)
              have H4 := Lib.hid h4
              clear hPn d0 d1 d2 h4 hb3 hb4
              go_wp2_with fail
              refine hleast.mono ?_
              rintro e W5 ⟨he, hb5⟩
              obtain rfl : e = .returned (.int .i64 (-1)) := by
                rcases he with ⟨_, h⟩ | ⟨j, hj, _⟩
                · exact h
                · simp at hj
              have h5 := H4.out.old hb5
              have H5 := Lib.hid h5
              clear hleast he h5 hb5
              go_wp2_with fail
              refine begin' 99 (fun _ => True) hmix trivial (fun _ => ?_)
              refine Ht.takeN (i := 0) ⟨some 127, _, _, _, _, _⟩ (.bool false) rfl (Nat.le_of_ble_eq_true (by kernel_rfl)) (by kernel_rfl) (by kernel_rfl) (by kernel_rfl) (by kernel_rfl) trivial (Or.inl ⟨by rfl, by (intro X hX; go_simp)⟩) ?_
              simp only [Act.put, List.setIfInBounds_toArray, List.set_cons_zero, List.set_cons_succ]
              refine Ht.takeN (i := 1) ⟨some 128, _, _, _, _, _⟩ (.int .i64 (-1)) rfl (Nat.le_of_ble_eq_true (by kernel_rfl)) (by kernel_rfl) (by kernel_rfl) (by kernel_rfl) (by kernel_rfl) trivial (Or.inl ⟨by rfl, by (intro X hX; go_simp)⟩) ?_
              simp only [Act.put, List.setIfInBounds_toArray, List.set_cons_zero, List.set_cons_succ]
              refine Ht.takeN (i := 2) ⟨some 129, _, _, _, _, _⟩ (.bool false) rfl (Nat.le_of_ble_eq_true (by kernel_rfl)) (by kernel_rfl) (by kernel_rfl) (by kernel_rfl) (by kernel_rfl) trivial (Or.inl ⟨by rfl, by (intro X hX; go_simp)⟩) ?_
              simp only [Act.put, List.setIfInBounds_toArray, List.set_cons_zero, List.set_cons_succ]
              refine Ht.takeN (i := 3) ⟨some 130, _, _, _, _, _⟩ (.bool false) rfl (Nat.le_of_ble_eq_true (by kernel_rfl)) (by kernel_rfl) (by kernel_rfl) (by kernel_rfl) (by kernel_rfl) trivial (Or.inl ⟨by rfl, by (intro X hX; go_simp)⟩) ?_
              simp only [Act.put, List.setIfInBounds_toArray, List.set_cons_zero, List.set_cons_succ]
              refine Ht.takeN (i := 4) ⟨some 131, _, _, _, _, _⟩ (.bool false) rfl (Nat.le_of_ble_eq_true (by kernel_rfl)) (by kernel_rfl) (by kernel_rfl) (by kernel_rfl) (by kernel_rfl) trivial (Or.inl ⟨by rfl, by (intro X hX; go_simp)⟩) ?_
              simp only [Act.put, List.setIfInBounds_toArray, List.set_cons_zero, List.set_cons_succ]
              refine Ht.takeN (i := 5) ⟨some 132, _, _, _, _, _⟩ (.bool false) rfl (Nat.le_of_ble_eq_true (by kernel_rfl)) (by kernel_rfl) (by kernel_rfl) (by kernel_rfl) (by kernel_rfl) trivial (Or.inl ⟨by rfl, by (intro X hX; go_simp)⟩) ?_
              simp only [Act.put, List.setIfInBounds_toArray, List.set_cons_zero, List.set_cons_succ]
              refine Ht.takeN (i := 6) ⟨some 133, _, _, _, _, _⟩ (.bool false) rfl (Nat.le_of_ble_eq_true (by kernel_rfl)) (by kernel_rfl) (by kernel_rfl) (by kernel_rfl) (by kernel_rfl) trivial (Or.inl ⟨by rfl, by (intro X hX; go_simp)⟩) ?_
              simp only [Act.put, List.setIfInBounds_toArray, List.set_cons_zero, List.set_cons_succ]
              refine Ht.takeN (i := 7) ⟨some 134, _, _, _, _, _⟩ (undef) rfl (Nat.le_of_ble_eq_true (by kernel_rfl)) (by kernel_rfl) (by kernel_rfl) (by kernel_rfl) (by kernel_rfl) trivial (Or.inr ⟨by rfl, by rfl⟩) ?_
              simp only [Act.put, List.setIfInBounds_toArray, List.set_cons_zero, List.set_cons_succ]
              refine Ht.takeN (i := 8) ⟨some 135, _, _, _, _, _⟩ (undef) rfl (Nat.le_of_ble_eq_true (by kernel_rfl)) (by kernel_rfl) (by kernel_rfl) (by kernel_rfl) (by kernel_rfl) trivial (Or.inr ⟨by rfl, by rfl⟩) ?_
              simp only [Act.put, List.setIfInBounds_toArray, List.set_cons_zero, List.set_cons_succ]
              refine Ht.takeN (i := 9) ⟨some 136, _, _, _, _, _⟩ (undef) rfl (Nat.le_of_ble_eq_true (by kernel_rfl)) (by kernel_rfl) (by kernel_rfl) (by kernel_rfl) (by kernel_rfl) trivial (Or.inr ⟨by rfl, by rfl⟩) ?_
              simp only [Act.put, List.setIfInBounds_toArray, List.set_cons_zero, List.set_cons_succ]
              refine Ht.takeN (i := 10) ⟨some 137, _, _, _, _, _⟩ (undef) rfl (Nat.le_of_ble_eq_true (by kernel_rfl)) (by kernel_rfl) (by kernel_rfl) (by kernel_rfl) (by kernel_rfl) trivial (Or.inr ⟨by rfl, by rfl⟩) ?_
              simp only [Act.put, List.setIfInBounds_toArray, List.set_cons_zero, List.set_cons_succ]
              refine Ht.takeN (i := 11) ⟨some 138, _, _, _, _, _⟩ (undef) rfl (Nat.le_of_ble_eq_true (by kernel_rfl)) (by kernel_rfl) (by kernel_rfl) (by kernel_rfl) (by kernel_rfl) trivial (Or.inr ⟨by rfl, by rfl⟩) ?_
              simp only [Act.put, List.setIfInBounds_toArray, List.set_cons_zero, List.set_cons_succ]
              refine Ht.takeN (i := 12) ⟨some 139, _, _, _, _, _⟩ (undef) rfl (Nat.le_of_ble_eq_true (by kernel_rfl)) (by kernel_rfl) (by kernel_rfl) (by kernel_rfl) (by kernel_rfl) trivial (Or.inr ⟨by rfl, by rfl⟩) ?_
              simp only [Act.put, List.setIfInBounds_toArray, List.set_cons_zero, List.set_cons_succ]
              refine Ht.takeN (i := 13) ⟨some 140, _, _, _, _, _⟩ (undef) rfl (Nat.le_of_ble_eq_true (by kernel_rfl)) (by kernel_rfl) (by kernel_rfl) (by kernel_rfl) (by kernel_rfl) trivial (Or.inr ⟨by rfl, by rfl⟩) ?_
              simp only [Act.put, List.setIfInBounds_toArray, List.set_cons_zero, List.set_cons_succ]
              refine Ht.takeN (i := 14) ⟨some 141, _, _, _, _, _⟩ (undef) rfl (Nat.le_of_ble_eq_true (by kernel_rfl)) (by kernel_rfl) (by kernel_rfl) (by kernel_rfl) (by kernel_rfl) trivial (Or.inr ⟨by rfl, by rfl⟩) ?_
              simp only [Act.put, List.setIfInBounds_toArray, List.set_cons_zero, List.set_cons_succ]
              refine Ht.takeN (i := 15) ⟨some 142, _, _, _, _, _⟩ (undef) rfl (Nat.le_of_ble_eq_true (by kernel_rfl)) (by kernel_rfl) (by kernel_rfl) (by kernel_rfl) (by kernel_rfl) trivial (Or.inr ⟨by rfl, by rfl⟩) ?_
              simp only [Act.put, List.setIfInBounds_toArray, List.set_cons_zero, List.set_cons_succ]
              refine Ht.takeN (i := 16) ⟨some 143, _, _, _, _, _⟩ (undef) rfl (Nat.le_of_ble_eq_true (by kernel_rfl)) (by kernel_rfl) (by kernel_rfl) (by kernel_rfl) (by kernel_rfl) trivial (Or.inr ⟨by rfl, by rfl⟩) ?_
              simp only [Act.put, List.setIfInBounds_toArray, List.set_cons_zero, List.set_cons_succ]
              refine Ht.takeN (i := 17) ⟨some 144, _, _, _, _, _⟩ (.bool false) rfl (Nat.le_of_ble_eq_true (by kernel_rfl)) (by kernel_rfl) (by kernel_rfl) (by kernel_rfl) (by kernel_rfl) trivial (Or.inl ⟨by rfl, by (intro X hX; go_simp)⟩) ?_
              simp only [Act.put, List.setIfInBounds_toArray, List.set_cons_zero, List.set_cons_succ]
              refine Ht.takeN (i := 18) ⟨some 145, _, _, _, _, _⟩ (.bool false) rfl (Nat.le_of_ble_eq_true (by kernel_rfl)) (by kernel_rfl) (by kernel_rfl) (by kernel_rfl) (by kernel_rfl) trivial (Or.inl ⟨by rfl, by (intro X hX; go_simp)⟩) ?_
              simp only [Act.put, List.setIfInBounds_toArray, List.set_cons_zero, List.set_cons_succ]
              refine done (by kernel_rfl) ?_
              have h6 := H5.out.old (Below.refl W5.heap.size W5).drew
              have hIS := h6.is (by decide)
              have HQ := Lib.hid h6
              clear h6

              go_wp2_with fail
              refine hIS.mono ?_
              rintro e Z ⟨rfl, hbZ⟩
              have HT := Lib.hid (HQ.out.next.old hbZ)
              clear hbZ hIS
              go_wp2_with fail
              exact ⟨⟨k + 1, [], rfl, HL.out.2.2.1, by simp, HT.out⟩, by have := HL.out.2.2.1; simp [RowKit.intOf]; omega⟩
            · skip
              have hPp := H2.out.1.pop (fun x hx => by rw [hx]; exact (Array.getElem?_eq_some_iff.1 H2.out.2.1).1) hm (by have := HL.out.2.2.2.2.2.1; omega)
              go_wp2_with fail
              refine hPp.mono ?_
              rintro e W3 ⟨⟨p1, q1⟩, hxl, rfl, h3, hk3⟩
              dsimp only [item, ek, er]
              have hb4 : Below W3.heap.size W3 (W3.alloc (.cells #[.int .u8 p1, .int .i64 q1] 38)) := (Below.refl _ _).alloc (Nat.le_refl _) _
              have h4 := h3.old hb4
              have hleast := least_any _ (.slice am m.length cm) m (src_own h4.o) (by have := HL.out.2.2.2.2.2.1; omega)
              have hx4 := (MapKept.heap_alloc W3 (.cells #[.int .u8 p1, .int .i64 q1] 38)).1
              rw [← HM.out] at hleast
              have H4 := Lib.hid (And.intro h4 (And.intro hx4 hxl))
              clear hPp d0 d1 d2 h3 h4 hk3 hx4 hb4 hxl
              go_wp2_with fail
              obtain ⟨W4, hW4⟩ : ∃ X, X = W3.alloc (.cells #[.int .u8 p1, .int .i64 q1] 38) := ⟨_, rfl⟩
              rw [← hW4] at H4 hleast ⊢
              clear hW4
              obtain ⟨by4, hby⟩ : ∃ x, x = W3.heap.size := ⟨_, rfl⟩
              rw [← hby] at H4 ⊢
              clear hby
              refine hleast.mono ?_
              rintro e W5 ⟨he, hb5⟩
              obtain ⟨j, hj, hje, rfl⟩ : ∃ j, j < m.length ∧ el m j = (p1, q1) ∧ e = .returned (.int .i64 ((j : Nat) : Int)) := by
                rcases he with ⟨h0, _⟩ | ⟨j, hj, h1, h2⟩
                · exact absurd h0 hm
                · exact ⟨j, by rw [← HM.out]; exact hj, h1.one H4.out.2.2, h2⟩
              clear he hleast
              have h5 := H4.out.1.old hb5
              obtain ⟨g, rfl, hlc, hcm⟩ : ∃ g, am = some ⟨g, 0, none⟩ ∧ m.length ≤ cm ∧ cm ≤ maxLen := by
                rcases h5.o.2 with ⟨e, h0⟩ | ⟨g, cap, cur, e, _, _, h1, h2, _⟩
                · omega
                · cases e; exact ⟨g, rfl, h1, h2⟩
              have hx5 := (hb5.block by4 (Array.getElem?_eq_some_iff.1 H4.out.2.1).1).trans H4.out.2.1
              obtain ⟨k1, k2⟩ : W5.cell? ⟨g, j * 2, none⟩ = some (ek p1) ∧ W5.cell? ⟨g, j * 2 + 1, none⟩ = some (er q1) := by
                obtain ⟨a', c', e1, e2⟩ := (src_own h5.o).shape
                obtain ⟨g', e3, e4⟩ := e2 hm
                cases e1
                cases e3
                have := e4 j hj
                rw [hje] at this
                exact this
              unfold ek at k1
              unfold er at k2
              have y1 : W5.cell? ⟨by4, 0, none⟩ = some (.int .u8 p1) := by rw [cell_of_row _ _ _ _ _ _ hx5]; rfl
              have y2 : W5.cell? ⟨by4, 1, none⟩ = some (.int .i64 q1) := by rw [cell_of_row _ _ _ _ _ _ hx5]; rfl
              have hj0 : (0 : Int) ≤ ((j : Nat) : Int) := by omega
              have hjn : ((j : Nat) : Int) < ((ml : Nat) : Int) := by have := HM.out; omega
              have hcut := fun Y (e : Below W5.heap.size W5 Y) => cut09_any Y (.slice (some ⟨g, 0, none⟩) m.length cm) m ((src_own h5.o).old e) ⟨_, _, rfl, hlc, hcm⟩ (by have := HL.out.2.2.2.2.2.1; omega) hj
              rw [← HM.out] at hcut
              have H5 := Lib.hid (And.intro h5 (And.intro hj hje))
              clear h5 hx5 hb5 hj hje hlc hcm hm
              go_wp2_with fail
              refine begin' 99 (fun X => X.cell? ⟨g, j * 2, none⟩ = some (.int .u8 p1) ∧ X.cell? ⟨g, j * 2 + 1, none⟩ = some (.int .i64 q1) ∧ X.cell? ⟨by4, 0, none⟩ = some (.int .u8 p1) ∧ X.cell? ⟨by4, 1, none⟩ = some (.int .i64 q1)) hmix ⟨k1, k2, y1, y2⟩ (fun hS0 => ?_)
              refine Ht.takeN (i := 0) ⟨some 127, _, _, _, _, _⟩ (.bool true) rfl (Nat.le_of_ble_eq_true (by kernel_rfl)) (by kernel_rfl) (by kernel_rfl) (by kernel_rfl) (by kernel_rfl) hS0 (Or.inl ⟨by rfl, by (intro X hX; go_simp)⟩) ?_
              simp only [Act.put, List.setIfInBounds_toArray, List.set_cons_zero, List.set_cons_succ]
              refine Ht.takeN (i := 1) ⟨some 128, _, _, _, _, _⟩ (.int .i64 ((j : Nat) : Int)) rfl (Nat.le_of_ble_eq_true (by kernel_rfl)) (by kernel_rfl) (by kernel_rfl) (by kernel_rfl) (by kernel_rfl) hS0 (Or.inl ⟨by rfl, by (intro X hX; go_simp)⟩) ?_
              simp only [Act.put, List.setIfInBounds_toArray, List.set_cons_zero, List.set_cons_succ]
              refine Ht.takeN (i := 2) ⟨some 129, _, _, _, _, _⟩ (.bool true) rfl (Nat.le_of_ble_eq_true (by kernel_rfl)) (by kernel_rfl) (by kernel_rfl) (by kernel_rfl) (by kernel_rfl) hS0 (Or.inl ⟨by rfl, by (intro X hX; go_simp)⟩) ?_
              simp only [Act.put, List.setIfInBounds_toArray, List.set_cons_zero, List.set_cons_succ]
              refine Ht.takeN (i := 3) ⟨some 130, _, _, _, _, _⟩ (.bool false) rfl (Nat.le_of_ble_eq_true (by kernel_rfl)) (by kernel_rfl) (by kernel_rfl) (by kernel_rfl) (by kernel_rfl) hS0 (Or.inl ⟨by rfl, by (intro X hX; go_simp)⟩) ?_
              simp only [Act.put, List.setIfInBounds_toArray, List.set_cons_zero, List.set_cons_succ]
              refine Ht.takeN (i := 4) ⟨some 131, _, _, _, _, _⟩ (.bool false) rfl (Nat.le_of_ble_eq_true (by kernel_rfl)) (by kernel_rfl) (by kernel_rfl) (by kernel_rfl) (by kernel_rfl) hS0 (Or.inl ⟨by rfl, by (intro X hX; go_simp)⟩) ?_
              simp only [Act.put, List.setIfInBounds_toArray, List.set_cons_zero, List.set_cons_succ]
              refine Ht.takeN (i := 5) ⟨some 132, _, _, _, _, _⟩ (.bool true) rfl (Nat.le_of_ble_eq_true (by kernel_rfl)) (by kernel_rfl) (by kernel_rfl) (by kernel_rfl) (by kernel_rfl) hS0 (Or.inl ⟨by rfl, by (intro X hX; go_simp)⟩) ?_
              simp only [Act.put, List.setIfInBounds_toArray, List.set_cons_zero, List.set_cons_succ]
              refine Ht.takeN (i := 6) ⟨some 133, _, _, _, _, _⟩ (.bool true) rfl (Nat.le_of_ble_eq_true (by kernel_rfl)) (by kernel_rfl) (by kernel_rfl) (by kernel_rfl) (by kernel_rfl) hS0 (Or.inl ⟨by rfl, by (intro X hX; go_simp)⟩) ?_
              simp only [Act.put, List.setIfInBounds_toArray, List.set_cons_zero, List.set_cons_succ]
              refine Ht.takeN (i := 7) ⟨some 134, _, _, _, _, _⟩ (.slice (some ⟨g, 0, none⟩) ml cm) rfl (Nat.le_of_ble_eq_true (by kernel_rfl)) (by kernel_rfl) (by kernel_rfl) (by kernel_rfl) (by kernel_rfl) hS0 (Or.inl ⟨by rfl, by (intro X hX; go_simp)⟩) ?_
              simp only [Act.put, List.setIfInBounds_toArray, List.set_cons_zero, List.set_cons_succ]
              refine Ht.takeN (i := 8) ⟨some 135, _, _, _, _, _⟩ (.int .i64 ((j : Nat) : Int)) rfl (Nat.le_of_ble_eq_true (by kernel_rfl)) (by kernel_rfl) (by kernel_rfl) (by kernel_rfl) (by kernel_rfl) hS0 (Or.inl ⟨by rfl, by (intro X hX; go_simp)⟩) ?_
              simp only [Act.put, List.setIfInBounds_toArray, List.set_cons_zero, List.set_cons_succ]
              refine Ht.takeN (i := 9) ⟨some 136, _, _, _, _, _⟩ (.pointer (some ⟨g, j * 2, none⟩)) rfl (Nat.le_of_ble_eq_true (by kernel_rfl)) (by kernel_rfl) (by kernel_rfl) (by kernel_rfl) (by kernel_rfl) hS0 (Or.inl ⟨by rfl, by (intro X hX; go_simp)⟩) ?_
              simp only [Act.put, List.setIfInBounds_toArray, List.set_cons_zero, List.set_cons_succ]
              refine Ht.takeN (i := 10) ⟨some 137, _, _, _, _, _⟩ (.agg #[.int .u8 p1, .int .i64 q1]) rfl (Nat.le_of_ble_eq_true (by kernel_rfl)) (by kernel_rfl) (by kernel_rfl) (by kernel_rfl) (by kernel_rfl) hS0 (Or.inl ⟨by rfl, by (intro X hX; have := And.intro hX.1 hX.2.1; go_simp)⟩) ?_
              simp only [Act.put, List.setIfInBounds_toArray, List.set_cons_zero, List.set_cons_succ]
              refine Ht.takeN (i := 11) ⟨some 138, _, _, _, _, _⟩ (.pointer (some ⟨by4, 0, none⟩)) rfl (Nat.le_of_ble_eq_true (by kernel_rfl)) (by kernel_rfl) (by kernel_rfl) (by kernel_rfl) (by kernel_rfl) hS0 (Or.inl ⟨by rfl, by (intro X hX; go_simp)⟩) ?_
              simp only [Act.put, List.setIfInBounds_toArray, List.set_cons_zero, List.set_cons_succ]
              refine Ht.takeN (i := 12) ⟨some 139, _, _, _, _, _⟩ (.int .u8 p1) rfl (Nat.le_of_ble_eq_true (by kernel_rfl)) (by kernel_rfl) (by kernel_rfl) (by kernel_rfl) (by kernel_rfl) hS0 (Or.inl ⟨by rfl, by (intro X hX; have := hX.2.2.1; go_simp)⟩) ?_
              simp only [Act.put, List.setIfInBounds_toArray, List.set_cons_zero, List.set_cons_succ]
              refine Ht.takeN (i := 13) ⟨some 140, _, _, _, _, _⟩ (.pointer (some ⟨by4, 1, none⟩)) rfl (Nat.le_of_ble_eq_true (by kernel_rfl)) (by kernel_rfl) (by kernel_rfl) (by kernel_rfl) (by kernel_rfl) hS0 (Or.inl ⟨by rfl, by (intro X hX; go_simp)⟩) ?_
              simp only [Act.put, List.setIfInBounds_toArray, List.set_cons_zero, List.set_cons_succ]
              refine Ht.takeN (i := 14) ⟨some 141, _, _, _, _, _⟩ (.int .i64 q1) rfl (Nat.le_of_ble_eq_true (by kernel_rfl)) (by kernel_rfl) (by kernel_rfl) (by kernel_rfl) (by kernel_rfl) hS0 (Or.inl ⟨by rfl, by (intro X hX; have := hX.2.2.2; go_simp)⟩) ?_
              simp only [Act.put, List.setIfInBounds_toArray, List.set_cons_zero, List.set_cons_succ]
              refine Ht.takeN (i := 15) ⟨some 142, _, _, _, _, _⟩ (.agg #[.int .u8 p1, .int .i64 q1]) rfl (Nat.le_of_ble_eq_true (by kernel_rfl)) (by kernel_rfl) (by kernel_rfl) (by kernel_rfl) (by kernel_rfl) hS0 (Or.inl ⟨by rfl, by (intro X hX; go_simp)⟩) ?_
              simp only [Act.put, List.setIfInBounds_toArray, List.set_cons_zero, List.set_cons_succ]
              refine Ht.takeN (i := 16) ⟨some 143, _, _, _, _, _⟩ (.bool false) rfl (Nat.le_of_ble_eq_true (by kernel_rfl)) (by kernel_rfl) (by kernel_rfl) (by kernel_rfl) (by kernel_rfl) hS0 (Or.inl ⟨by rfl, by (intro X hX; go_simp)⟩) ?_
              simp only [Act.put, List.setIfInBounds_toArray, List.set_cons_zero, List.set_cons_succ]
              refine Ht.takeN (i := 17) ⟨some 144, _, _, _, _, _⟩ (.bool false) rfl (Nat.le_of_ble_eq_true (by kernel_rfl)) (by kernel_rfl) (by kernel_rfl) (by kernel_rfl) (by kernel_rfl) hS0 (Or.inl ⟨by rfl, by (intro X hX; go_simp)⟩) ?_
              simp only [Act.put, List.setIfInBounds_toArray, List.set_cons_zero, List.set_cons_succ]
              refine Ht.takeN (i := 18) ⟨some 145, _, _, _, _, _⟩ (.bool false) rfl (Nat.le_of_ble_eq_true (by kernel_rfl)) (by kernel_rfl) (by kernel_rfl) (by kernel_rfl) (by kernel_rfl) hS0 (Or.inl ⟨by rfl, by (intro X hX; go_simp)⟩) ?_
              simp only [Act.put, List.setIfInBounds_toArray, List.set_cons_zero, List.set_cons_succ]
              refine done (by kernel_rfl) ?_
              clear hS0 k1 k2 y1 y2
              go_wp2_with fail
              refine (hcut _ (Below.refl W5.heap.size W5).drew).mono ?_
              rintro e W6 ⟨v, rfl, ho, hb6⟩
              have h6 := LQ.cutRow (v := v) (by rw [H5.out.2.2]; exact H5.out.1.old (Below.refl W5.heap.size W5).drew) H2.out.1.nodup H5.out.2.1 hb6 (by rw [← HM.out]; exact ho)
              obtain ⟨ao, cp, rfl⟩ := own_shape ho
              have hIS := h6.is (by rw [List.length_eraseIdx]; have := HL.out.2.2.2.2.2.1; split <;> omega)
              have HQ := Lib.hid h6
              clear h6 ho hb6 hcut
              generalize ml - 1 = m1 at hIS HQ ⊢

              go_wp2_with fail
              refine hIS.mono ?_
              rintro e Z ⟨rfl, hbZ⟩
              have HT := Lib.hid (HQ.out.next.old hbZ)
              clear hbZ hIS
              go_wp2_with fail
              exact ⟨⟨k + 1, m.eraseIdx j, rfl, HL.out.2.2.1, by rw [List.length_eraseIdx]; have := HL.out.2.2.2.1; split <;> omega, HT.out⟩, by have := HL.out.2.2.1; simp [RowKit.intOf]; omega⟩
          · obtain ⟨n0, n1, n2, n3⟩ := hkd
            have hCp := H2.out.1.copy (by have := HL.out.2.2.2.2.2.1; omega)
            go_wp2_with fail
            refine hCp.mono ?_
            rintro e W3 ⟨cc, rfl, hv3, hb3⟩
            have d1 := (hb3.cell (World.block_lt_of_cell? _ _ d1)).trans d1
            have d2 := (hb3.cell (World.block_lt_of_cell? _ _ d2)).trans d2
            have hput := put_behind hv3 hb3.size HL.out.2.2.2.2.1 rk (by have := HL.out.2.2.2.2.2.1; omega)
            have H3 := Lib.hid hb3
            clear hCp hv3 hb3
            unfold ek er at hput
            go_wp2_with fail
            refine hput.mono ?_
            rintro e W4 ⟨⟨bv, rfl⟩, hv4, hb4⟩
            have hpop := pop_behind hv4 (Nat.le_trans H3.out.size hb4.size) put_ne (by have := put_len (k := ky) (r := rk) (m := m); have := HL.out.2.2.2.2.2.1; omega)
            have H4 := Lib.hid (H3.out.trans hb4)
            clear hput hv4 hb4 d0 d1 d2
            go_wp2_with fail
            refine hpop.mono ?_
            rintro e W5 ⟨⟨x, rfl⟩, hb5⟩
            have h5 := H2.out.1.old (H4.out.trans hb5)
            have hIS := h5.is (by have := HL.out.2.2.2.2.2.1; omega)
            rw [← HM.out] at hIS
            have HQ := Lib.hid h5
            clear h5 hb5 hpop

            go_wp2_with fail
            refine hIS.mono ?_
            rintro e Z ⟨rfl, hbZ⟩
            have HT := Lib.hid (HQ.out.next.old hbZ)
            clear hbZ hIS
            go_wp2_with fail
            exact ⟨⟨k + 1, m, rfl, HL.out.2.2.1, by have := HL.out.2.2.2.1; omega, by rw [HM.out]; exact HT.out⟩, by have := HL.out.2.2.1; simp [RowKit.intOf]; omega⟩
      · obtain rfl : k = n := by omega
        have hkx : ¬ ((k : Nat) : Int) < ((k : Nat) : Int) := by omega
        have HX := Lib.hid hs.b
        clear hs hml hk hlt
        go_wp2_with fail
        go_ret
        exact ⟨by simp, HX.out⟩
  · have h1x : ((n : Nat) : Int) > 100 := by omega
    clear h60
    go_enter Try.func3, Try.ntmps3
    go_wp2_with fail
    refine (HLV.out _).mono ?_
    rintro e w1 ⟨rfl, b1⟩
    have HB1 := Lib.hid b1
    clear b1
    go_wp2_with fail
    refine (HLV.out _).mono ?_
    rintro e w2 ⟨rfl, b2⟩
    have HB2 := Lib.hid b2
    clear b2
    go_wp2_with fail
    go_ret
    exact ⟨by simp, HB1.out.trans (HB2.out.mono HB1.out.size)⟩
end Go.Proofs.Ytpeapbhhlfbolaa.HpA
