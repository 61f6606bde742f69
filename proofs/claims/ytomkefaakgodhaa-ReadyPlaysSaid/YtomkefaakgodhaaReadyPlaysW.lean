
/- ReadyPlays, walked -/
import Derived.Test.YtomkefaakgodhaaNxQ
import Derived.Deep.CutBlock
import Derived.Deep.DeepCutAuto
namespace Go.Proofs.Ytomkefaakgodhaa.Nx
open Go.RowKit Go.Lib Go.Sort Go.Shelf Hp HpE Ht Rg
set_option linter.unusedVariables false
attribute [local go_sem] Oper.semAt_some
set_option maxRecDepth 20000
theorem cell_three (w : World) (v0 v1 v2 : Value) (t : TypeId) : ∀ j x, [v0, v1, v2][j]? = some x → (w.alloc (.cells #[v0, v1, v2] t)).cell? ((⟨w.heap.size, 0, none⟩ : Addr).add j) = some x := by
  intro j x hj
  match j, hj with
  | 0, hj | 1, hj | 2, hj =>
    simp at hj
    subst hj
    simp [Addr.add]
theorem four {W : World} {b : Nat} {v0 v1 v2 v3 : Value} {t : TypeId} (h : W.heap[b]? = some (.cells #[v0, v1, v2, v3] t (0, 0))) : W.cell? ⟨b, 0, none⟩ = some v0 ∧ W.cell? ⟨b, 1, none⟩ = some v1 ∧ W.cell? ⟨b, 2, none⟩ = some v2 ∧ W.cell? ⟨b, 3, none⟩ = some v3 := by
  refine ⟨?_, ?_, ?_, ?_⟩ <;> simp [World.cell?, h]
/-- a count's place -/
theorem ia (b : Nat) {p : Nat} (hp : p < 4) (W : World) : (Instr.indexAt 40 (.pointer (some ⟨b, 0, none⟩)) (.int .i64 ((p : Nat) : Int))).run Try.prog W = .ok (.pointer (some ⟨b, p, none⟩)) W := by
  rcases (by omega : p = 0 ∨ p = 1 ∨ p = 2 ∨ p = 3) with rfl | rfl | rfl | rfl <;> go_simp
set_option maxHeartbeats 16000000 in
theorem plays_any (w : World) (a : Option Addr) (n c : Nat) (hi : NxPa.InA w a n c) :
    Calls Try.prog 3 #[.slice a n c] w fun e w' => e = .returned (.bool true) ∧ Below w.heap.size w w' := by
  have hmix : Try.prog.follows .mixedOrders = true := by kernel_rfl
  obtain ⟨b2, hb2⟩ : ∃ b, b = w.heap.size := ⟨_, rfl⟩
  obtain ⟨V, hV⟩ : ∃ V, V = w.alloc (.cells #[.bool false] 4) := ⟨_, rfl⟩
  have bV : Below b2 w V := by rw [hV, hb2]; exact (Below.refl _ w).alloc (Nat.le_refl _) _
  have rV : V.heap[b2]? = some (.cells #[.bool false] 4 (0, 0)) := by rw [hV, hb2]; exact (MapKept.heap_alloc w _).1
  have zV : V.heap.size = b2 + 1 := by rw [hV, hb2]; simp
  have hnc := hi.1
  have hcb := hi.2.1
  have HV := Lib.hid (And.intro bV (And.intro rV (And.intro zV (And.intro hi hb2))))
  clear bV rV zV hi
  rw [← hb2]
  refine (callsIn_wide (n := 5)).1 ?_
  refine callsIn_of_wp_marks Try.func3 rfl trivial ?_ rfl
  simp only [Try.ntmps3, List.size_toArray, List.length_cons, List.length_nil, Nat.reduceAdd, Nat.reduceSub, Array.replicate_succ, Array.replicate_zero, List.push_toArray, List.append_toArray, List.nil_append, List.cons_append]
  refine wpIn_wide.2 ?_
  by_cases h80 : 80 < n
  · have h80c : (80 : Int) < ((n : Nat) : Int) := by omega
    clear h80
    go_wp2_with fail
    rw [← hV, ← hb2]
    clear hV hb2
    refine (lives15_any _).mono ?_
    rintro e w1 ⟨rfl, b1⟩
    have HB1 := Lib.hid (And.intro (HV.out.1.trans (b1.mono (by have := HV.out.2.2.1; omega))) ((b1.block b2 (by have := HV.out.2.2.1; omega)).trans HV.out.2.1))
    have z1 := b1.size
    clear b1
    go_wp2_with fail
    refine (lives15_any _).mono ?_
    rintro e w2 ⟨rfl, b2'⟩
    have r2 := (b2'.block b2 (Array.getElem?_eq_some_iff.1 HB1.out.2).1).trans HB1.out.2
    obtain ⟨c2, f2⟩ := c1_of r2
    have HB2 := Lib.hid (HB1.out.1.trans (b2'.mono (Nat.le_of_lt (Array.getElem?_eq_some_iff.1 HB1.out.2).1)))
    clear b2' r2 z1
    go_wp2_with fail
    exact leaveC0 rfl rfl rfl (World.cell?_setCell_same _ _ _ c2) ⟨rfl, by
      have hz := HV.out.2.2.1
      exact HB2.out.setCell (Nat.le_refl _) _⟩
  have h80c : ((n : Nat) : Int) ≤ 80 := by omega
  have HN := Lib.hid (show n ≤ 80 by omega)
  clear h80
  go_wp2_with fail
  rw [← hV, ← hb2]
  clear hV hb2
  refine (lives15_any _).mono ?_
  rintro e w1 ⟨rfl, b1⟩
  have HB1 := Lib.hid (And.intro (HV.out.1.trans (b1.mono (by have := HV.out.2.2.1; omega))) (And.intro ((b1.block b2 (by have := HV.out.2.2.1; omega)).trans HV.out.2.1) (show b2 + 1 ≤ w1.heap.size by have := b1.size; have := HV.out.2.2.1; omega)))
  clear b1
  go_wp2_with fail
  refine (new_row _).mono ?_
  rintro e w2 ⟨rfl, r2, b2'⟩
  have hst : St w (b2 + 1) b2 w1.heap.size [] (fun _ => False) w2 (.slice none 0 0) [] [] := ⟨⟨_, r2, fun k hk => ⟨by have := HB1.out.2.2; omega, fun e => by rcases e with e | e | e <;> cases e⟩⟩, ⟨rfl, .inl ⟨rfl, rfl⟩⟩, ⟨false, (b2'.block b2 (Array.getElem?_eq_some_iff.1 HB1.out.2.1).1).trans HB1.out.2.1⟩, Recs.nil _ _, fun k hk => hk.elim, Nat.lt_succ_self _, by have := HB1.out.2.2; have := b2'.size; omega, HB1.out.1.trans (b2'.mono (by have := HB1.out.2.2; omega))⟩
  obtain ⟨rb, hrb⟩ : ∃ b, b = w1.heap.size := ⟨_, rfl⟩
  rw [← hrb] at hst ⊢
  have HS := Lib.hid hst
  clear r2 b2' hst hrb
  go_wp2_with fail
  refine wp_loop (PJ w b2 rb a n c) (fun a' _ => PM' n a') ?hstart ?hround
  case hstart => exact PJ.mk' _ 0 [] ⟨Nat.zero_le _, Nat.le_refl _, HS.out⟩ (by kernel_rfl)
  case hround =>
    clear HS
    rintro a1 wr ⟨x, j, v, M, Ds, ⟨hjn, hMj, st⟩, rfl⟩
    by_cases hjx : j < n
    case neg =>
      have hjc : ((n : Nat) : Int) ≤ ((j : Nat) : Int) := by omega
      obtain ⟨bv, hbv⟩ := st.res
      obtain ⟨c2, f2⟩ := c1_of hbv
      have HZ := Lib.hid (And.intro st hbv)
      clear st hbv hjn hMj hjx
      go_wp2_with fail
      refine leaveCs (B := b2 + 1) rfl rfl rfl Ds _ ?_ (World.cell?_setCell_same _ _ _ c2) fun X' b => ⟨rfl, ?_⟩
      · exact HZ.out.1.recs.kept fun D hD => heap_setCell_other _ _ _ _ (show D ≠ b2 by have := (HZ.out.1.recs.at' D hD).1; omega)
      · exact (HZ.out.1.bel.setCell (Nat.le_refl _) _).trans (b.below (by have := (Array.getElem?_eq_some_iff.1 HZ.out.2).1; simp; omega) fun k hk => by have := (HZ.out.1.recs.at' k hk).1; omega)
    case pos =>
      obtain ⟨g, o, kd, pr, or, k, ha, hs, hkd, hpr, c1, c2, c3, c4⟩ : ∃ (g o : Nat) (kd pr or : Int) (k : K), a = some ⟨g, o, none⟩ ∧ k.length ≤ maxLen ∧ (-9223372036854775808 ≤ kd ∧ kd ≤ 9223372036854775807) ∧ (-9223372036854775808 ≤ pr ∧ pr ≤ 9223372036854775807) ∧
          wr.cell? ⟨g, o + j * 4, none⟩ = some (.int .i64 kd) ∧ wr.cell? ⟨g, o + j * 4 + 1, none⟩ = some (.int .i64 pr) ∧ wr.cell? ⟨g, o + j * 4 + 2, none⟩ = some (.string ⟨k.toArray⟩) ∧ wr.cell? ⟨g, o + j * 4 + 3, none⟩ = some (.int .u64 or) := by
        have hbl : Below w.heap.size w wr := by rw [← HV.out.2.2.2.2]; exact st.bel
        rcases HV.out.2.2.2.1.2.2 with h | ⟨g, o, e, h⟩
        · omega
        · obtain ⟨kd, pr, or, s, h1, h2, h3, h4, h5, h6, h7⟩ := h j hjx
          have e4 := (hbl.cell (World.block_lt_of_cell? _ _ h4)).trans h4
          have e5 := (hbl.cell (World.block_lt_of_cell? _ _ h5)).trans h5
          have e6 := (hbl.cell (World.block_lt_of_cell? _ _ h6)).trans h6
          have e7 := (hbl.cell (World.block_lt_of_cell? _ _ h7)).trans h7
          rw [← Nat.add_assoc] at e4 e5 e6 e7
          exact ⟨g, o, kd, pr, or, s, e, h1, h2, h3, e4, e5, e6, e7⟩
      subst ha
      have hjc : ((j : Nat) : Int) < ((n : Nat) : Int) := by omega
      obtain ⟨ao, cp, rfl⟩ := HpE.own_shape st.o
      obtain ⟨nm, hnm⟩ : ∃ m, m = M.length := ⟨_, rfl⟩
      rw [← hnm] at st ⊢
      obtain ⟨U, hU⟩ : ∃ V, V = wr.alloc (.cells #[.int .i64 kd, .int .i64 pr, .string ⟨k.toArray⟩, .int .u64 or] 29) := ⟨_, rfl⟩
      obtain ⟨ab, hab⟩ : ∃ b, b = wr.heap.size := ⟨_, rfl⟩
      have sU := st.box hU
      rw [← hab] at sU
      have hA : U.heap[ab]? = some (.cells #[.int .i64 kd, .int .i64 pr, .string ⟨k.toArray⟩, .int .u64 or] 29 (0, 0)) := by rw [hU, hab]; exact (MapKept.heap_alloc wr _).1
      have HR := Lib.hid (And.intro sU (And.intro hA (And.intro hMj (And.intro hjx hnm))))
      obtain ⟨bv, hbv⟩ := sU.res
      obtain ⟨r2, f2⟩ := c1_of hbv
      obtain ⟨a0, a1, a2, a3⟩ := four hA
      have hnm80 : nm ≤ 80 := by have := HN.out; omega
      clear st sU hA hMj hjx hjn hnm
      by_cases hk40 : 40 < k.length
      · have hkc : (40 : Int) < ((k.length : Nat) : Int) := by omega
        have HQ := Lib.hid hbv
        clear hk40 hs hbv
        rw [hU] at r2 f2
        go_wp2_with fail
        rw [← hU] at r2 ⊢
        refine leaveCs (B := b2 + 1) rfl rfl rfl Ds _ ?_ (World.cell?_setCell_same _ _ _ r2) fun X' b => ⟨rfl, ?_⟩
        · exact HR.out.1.recs.kept fun D hD => heap_setCell_other _ _ _ _ (show D ≠ b2 by have := (HR.out.1.recs.at' D hD).1; omega)
        · exact (HR.out.1.bel.setCell (Nat.le_refl _) _).trans (b.below (by have := (Array.getElem?_eq_some_iff.1 HQ.out).1; simp; omega) fun k hk => by have := (HR.out.1.recs.at' k hk).1; omega)
      have hkc : ((k.length : Nat) : Int) ≤ 40 := by omega
      have HK := Lib.hid (show wk k by unfold wk; omega)
      clear hk40 hs hbv r2 f2
      have hCut := cut15_any U HR.out.1.o HR.out.1.sz (by obtain ⟨S, h1, _⟩ := HR.out.1.r; exact h1.nodup) (by have := HR.out.2.2.2.2; omega) k
      unfold ek at hCut
      go_wp2_with fail
      rw [← hU, ← hab]
      clear hU hab c1 c2 c3 c4
      refine hCut.mono ?_
      rintro e V1 ⟨v1, rfl, _, b1, _⟩
      have s1 := HR.out.1.old b1
      have hA1 := (b1.block ab (Array.getElem?_eq_some_iff.1 HR.out.2.1).1).trans HR.out.2.1
      obtain ⟨S1, hr1, _⟩ := s1.row
      have hHas := hr1.Has HK.out
      obtain ⟨kb, hkb⟩ : ∃ b, b = decide (k ∈ M.map (·.1)) := ⟨_, rfl⟩
      rw [← hkb] at hHas ⊢
      unfold ek at hHas
      have H1 := Lib.hid (And.intro s1 (And.intro hA1 hkb))
      obtain ⟨d0, d1, d2, d3⟩ := four hA1
      clear hCut b1 s1 hA1 hr1 hkb a0 a1 a2 a3
      go_wp2_with fail
      refine hHas.mono ?_
      rintro e V2 ⟨rfl, b2'⟩
      have s2 := H1.out.1.old b2'
      have hA2 := (b2'.block ab (Array.getElem?_eq_some_iff.1 H1.out.2.1).1).trans H1.out.2.1
      obtain ⟨a0, a1, a2, a3⟩ := four hA2
      have H2 := Lib.hid (And.intro s2 hA2)
      clear hHas b2' s2 hA2 d0 d1 d2 d3
      have hkd3 : kd = 0 ∨ kd = 1 ∨ kd = 2 ∨ kd = 3 ∨ (kd ≠ 0 ∧ kd ≠ 1 ∧ kd ≠ 2 ∧ kd ≠ 3) := by omega
      go_upto_block 2 with fail
      go_cut [4, 9, 10, 11, 12, 13] from 52 to 152 (fun s4 s9 s10 s11 s12 s13 wx => ∃ M2, St w (b2 + 1) b2 rb Ds (fun k => False ∨ k = ab) wx s4 M2 M2 ∧ wx.heap[ab]? = some (.cells #[.int .i64 kd, .int .i64 pr, .string ⟨k.toArray⟩, .int .u64 or] 29 (0, 0)) ∧ M2.length ≤ j + 1)
      case first =>
        clear hkd
        rcases hkd3 with rfl | rfl | rfl | rfl | hkd4
        · obtain ⟨S, hr, dR⟩ := H2.out.1.row
          have HD := Lib.hid dR
          clear dR
          by_cases hin : 0 ≤ pr ∧ pr ≤ 3
          · obtain ⟨q, rfl⟩ := Int.eq_ofNat_of_zero_le hin.1
            have hq4 : q < 4 := by omega
            have hq0 : (0 : Int) ≤ ((q : Nat) : Int) := by omega
            have hq3 : ((q : Nat) : Int) ≤ 3 := by omega
            clear hin hpr
            cases kb with
            | true =>
              have hP := hr.Put_same HK.out or (q := ((q : Nat) : Int)) (by omega) (of_decide_eq_true H1.out.2.2.symm)
              unfold ek er at hP
              clear hr
              go_wp2_with fail
              refine hP.mono ?_
              rintro e V3 ⟨rfl, b3⟩
              have HT := Lib.hid (And.intro (H2.out.1.old b3) ((b3.block ab (Array.getElem?_eq_some_iff.1 H2.out.2).1).trans H2.out.2))
              clear hP b3
              go_wp2_with fail
              go_meet
              exact ⟨M, HT.out.1, HT.out.2, Nat.le_succ_of_le HR.out.2.2.1⟩
            | false =>
              have hnk : k ∉ M.map (·.1) := of_decide_eq_false H1.out.2.2.symm
              have HNK := Lib.hid hnk
              have hownV := H2.out.1.o
              have hszV := H2.out.1.sz
              unfold Oo at hownV
              rw [← HR.out.2.2.2.2] at hownV
              have hblt : (Value.slice ao nm cp).ownBlock ≠ some ab := (H2.out.1.e ab (.inr rfl)).2.2
              have HSZ := Lib.hid (And.intro hownV (And.intro hszV hblt))
              obtain ⟨i0, hi0, hz0, hz1, hz2⟩ := info_parts infoO
              clear hr hnk hownV hszV hblt
              go_wp2_with (at_builtin; refine wpList_append_own_at _ rfl _ _ 26 rfl (b2 + 1) 35 i0 _ 3 32 Try.underlying26 hi0 hz0 hz1 hz2 (by rfl) (by decide) (.slice ao nm cp) nm (os M) rfl (HSZ.out.1.alloc _) ⟨V2.heap.size, 0, none⟩ 1 1 [_, _, _] rfl rfl (cell_three _ _ _ _ _) (by simp [Value.oneCell']) (by unfold maxLen; omega) (by omega) (by simp; have := HSZ.out.2.1; omega) ?_; intro v5 W6 hown5 hg5 _ hat5; obtain ⟨a5, cp5, rfl⟩ := HpE.own_shape hown5; have hA6 := (hg5.block ab (by simp; have := (Array.getElem?_eq_some_iff.1 H2.out.2).1; omega) (fun e => HSZ.out.2.2 e.symm)).trans ((Below.heap_alloc V2 _ ab (Array.getElem?_eq_some_iff.1 H2.out.2).1).trans H2.out.2); obtain ⟨x0, x1, x2, x3⟩ := four hA6)
              obtain ⟨sP, eP⟩ := H2.out.1.push (M2 := M ++ [(k, q, or)]) hg5 (by unfold Oo; rw [List.length_append, os_app, ← HR.out.2.2.2.2]; exact hown5) hat5
              obtain ⟨S6, hr6, dR6⟩ := sP.row
              have hP := hr6.Put_ok HK.out or hq4 HNK.out (by have := HR.out.2.2.2.2; omega)
              have H6 := Lib.hid (And.intro sP (And.intro dR6 hA6))
              unfold ek er at hP
              clear sP eP hr6 dR6 hown5 hg5 hat5 hA6
              refine hP.mono ?_
              rintro e V7 ⟨rfl, hw7⟩
              obtain ⟨s7, e7, _⟩ := H6.out.2.1 _ _ hw7
              have HT := Lib.hid (And.intro s7 ((e7 ab (.inr rfl)).trans H6.out.2.2))
              clear hP hw7 s7 e7
              go_wp2_with fail
              go_meet
              exact ⟨M ++ [(k, q, or)], HT.out.1, HT.out.2, by rw [List.length_append]; exact Nat.succ_le_succ HR.out.2.2.1⟩
          · have hP := hr.Put_bad (.string ⟨k.toArray⟩) or (q := pr) (by omega)
            unfold er at hP
            clear hr
            have hhh : pr < 0 ∨ (0 ≤ pr ∧ 3 < pr) := by omega
            clear hin
            rcases hhh with hp0 | ⟨hp0, hp3⟩
            all_goals
              go_wp2_with fail
              refine hP.mono ?_
              rintro e V3 ⟨rfl, hV3⟩
              obtain rfl := hV3.symm
              clear hP
              go_wp2_with fail
              go_meet
              exact ⟨M, H2.out.1, H2.out.2, Nat.le_succ_of_le HR.out.2.2.1⟩
        · obtain ⟨S, hr, dR⟩ := H2.out.1.row
          have HD := Lib.hid dR
          clear dR
          by_cases hin : 0 ≤ pr ∧ pr ≤ 3
          · obtain ⟨q, rfl⟩ := Int.eq_ofNat_of_zero_le hin.1
            have hq4 : q < 4 := by omega
            have hq0 : (0 : Int) ≤ ((q : Nat) : Int) := by omega
            have hq3 : ((q : Nat) : Int) ≤ 3 := by omega
            clear hin hpr
            cases kb with
            | true =>
              have hP := hr.Put_same HK.out or (q := ((q : Nat) : Int)) (by omega) (of_decide_eq_true H1.out.2.2.symm)
              unfold ek er at hP
              clear hr
              go_wp2_with fail
              refine hP.mono ?_
              rintro e V3 ⟨rfl, b3⟩
              have HT := Lib.hid (And.intro (H2.out.1.old b3) ((b3.block ab (Array.getElem?_eq_some_iff.1 H2.out.2).1).trans H2.out.2))
              clear hP b3
              go_wp2_with fail
              go_meet
              exact ⟨M, HT.out.1, HT.out.2, Nat.le_succ_of_le HR.out.2.2.1⟩
            | false =>
              have hnk : k ∉ M.map (·.1) := of_decide_eq_false H1.out.2.2.symm
              have HNK := Lib.hid hnk
              have hownV := H2.out.1.o
              have hszV := H2.out.1.sz
              unfold Oo at hownV
              rw [← HR.out.2.2.2.2] at hownV
              have hblt : (Value.slice ao nm cp).ownBlock ≠ some ab := (H2.out.1.e ab (.inr rfl)).2.2
              have HSZ := Lib.hid (And.intro hownV (And.intro hszV hblt))
              obtain ⟨i0, hi0, hz0, hz1, hz2⟩ := info_parts infoO
              clear hr hnk hownV hszV hblt
              go_wp2_with (at_builtin; refine wpList_append_own_at _ rfl _ _ 26 rfl (b2 + 1) 35 i0 _ 3 32 Try.underlying26 hi0 hz0 hz1 hz2 (by rfl) (by decide) (.slice ao nm cp) nm (os M) rfl (HSZ.out.1.alloc _) ⟨V2.heap.size, 0, none⟩ 1 1 [_, _, _] rfl rfl (cell_three _ _ _ _ _) (by simp [Value.oneCell']) (by unfold maxLen; omega) (by omega) (by simp; have := HSZ.out.2.1; omega) ?_; intro v5 W6 hown5 hg5 _ hat5; obtain ⟨a5, cp5, rfl⟩ := HpE.own_shape hown5; have hA6 := (hg5.block ab (by simp; have := (Array.getElem?_eq_some_iff.1 H2.out.2).1; omega) (fun e => HSZ.out.2.2 e.symm)).trans ((Below.heap_alloc V2 _ ab (Array.getElem?_eq_some_iff.1 H2.out.2).1).trans H2.out.2); obtain ⟨x0, x1, x2, x3⟩ := four hA6)
              obtain ⟨sP, eP⟩ := H2.out.1.push (M2 := M ++ [(k, q, or)]) hg5 (by unfold Oo; rw [List.length_append, os_app, ← HR.out.2.2.2.2]; exact hown5) hat5
              obtain ⟨S6, hr6, dR6⟩ := sP.row
              have hP := hr6.Put_ok HK.out or hq4 HNK.out (by have := HR.out.2.2.2.2; omega)
              have H6 := Lib.hid (And.intro sP (And.intro dR6 hA6))
              unfold ek er at hP
              clear sP eP hr6 dR6 hown5 hg5 hat5 hA6
              refine hP.mono ?_
              rintro e V7 ⟨rfl, hw7⟩
              obtain ⟨s7, e7, _⟩ := H6.out.2.1 _ _ hw7
              have HT := Lib.hid (And.intro s7 ((e7 ab (.inr rfl)).trans H6.out.2.2))
              clear hP hw7 s7 e7
              go_wp2_with fail
              go_meet
              exact ⟨M ++ [(k, q, or)], HT.out.1, HT.out.2, by rw [List.length_append]; exact Nat.succ_le_succ HR.out.2.2.1⟩
          · have hP := hr.Put_bad (.string ⟨k.toArray⟩) or (q := pr) (by omega)
            unfold er at hP
            clear hr
            have hhh : pr < 0 ∨ (0 ≤ pr ∧ 3 < pr) := by omega
            clear hin
            rcases hhh with hp0 | ⟨hp0, hp3⟩
            all_goals
              go_wp2_with fail
              refine hP.mono ?_
              rintro e V3 ⟨rfl, hV3⟩
              obtain rfl := hV3.symm
              clear hP
              go_wp2_with fail
              go_meet
              exact ⟨M, H2.out.1, H2.out.2, Nat.le_succ_of_le HR.out.2.2.1⟩
        · obtain ⟨S, hr, dR⟩ := H2.out.1.row
          have HD := Lib.hid (And.intro dR hr.nodup)
          have hC := hr.Cut HK.out (by have := HR.out.2.2.2.2; omega)
          rw [← H1.out.2.2] at hC
          unfold ek at hC
          clear hr dR
          go_wp2_with fail
          refine hC.mono ?_
          rintro e V3 ⟨rfl, hw3⟩
          obtain ⟨s3, e3, _⟩ := HD.out.1 _ _ hw3
          have hA3 := (e3 ab (.inr rfl)).trans H2.out.2
          have hC2 := cut15_any V3 s3.o s3.sz HD.out.2 (by have := HR.out.2.2.2.2; omega) k
          rw [← H1.out.2.2] at hC2
          unfold ek at hC2
          have H3 := Lib.hid (And.intro s3 hA3)
          obtain ⟨d0, d1, d2, d3⟩ := four hA3
          clear hC hw3 s3 e3 hA3 a0 a1 a2 a3
          go_wp2_with fail
          refine hC2.mono ?_
          rintro e V4 ⟨v4, rfl, o4, b4, hv4⟩
          have HT := Lib.hid (And.intro (H3.out.1.model b4 o4 hv4) ((b4.block ab (Array.getElem?_eq_some_iff.1 H3.out.2).1).trans H3.out.2))
          clear hC2 o4 b4 hv4
          go_wp2_with fail
          go_meet
          exact ⟨_, HT.out.1, HT.out.2, Nat.le_trans (del_len M k) (Nat.le_succ_of_le HR.out.2.2.1)⟩
        · obtain ⟨S, hr, dR⟩ := H2.out.1.row
          have HD := Lib.hid (And.intro dR hr.nodup)
          clear dR
          by_cases hM : M = []
          · subst hM
            have hTk := hr.Take_no
            clear hr
            go_wp2_with fail
            refine hTk.mono ?_
            rintro e V3 ⟨rfl, b3⟩
            have s3 := H2.out.1.old b3
            have hA3 := (b3.block ab (Array.getElem?_eq_some_iff.1 H2.out.2).1).trans H2.out.2
            have hSo := sorted15_any V3 s3.o (by simp)
            have H3 := Lib.hid (And.intro s3 hA3)
            clear hTk b3 s3 hA3
            go_wp2_with fail
            refine hSo.mono ?_
            rintro e V4 ⟨v4, rfl, o4, b4⟩
            obtain ⟨a4, c4, rfl⟩ := HpE.own_shape o4
            have s4 := H3.out.1.old b4
            have hA4 := (b4.block ab (Array.getElem?_eq_some_iff.1 H3.out.2).1).trans H3.out.2
            have hC := cut15_any V4 s4.o s4.sz HD.out.2 (by simp) ([] : K)
            rw [show ek ([] : K) = .string ⟨#[]⟩ from rfl] at hC
            have H4 := Lib.hid (And.intro s4 hA4)
            have hl4 : (srt ([] : List O)).length = 0 := rfl
            rw [hl4]
            clear hSo o4 b4 s4 hA4 hl4
            go_wp2_with fail
            refine hC.mono ?_
            rintro e V5 ⟨v5, rfl, o5, b5, hv5⟩
            obtain ⟨a5, c5, rfl⟩ := HpE.own_shape o5
            have HT := Lib.hid (And.intro (H4.out.1.model b5 o5 hv5) ((b5.block ab (Array.getElem?_eq_some_iff.1 H4.out.2).1).trans H4.out.2))
            have hl5 : (Nx.del ([] : K) ([] : List O)).length = 0 := rfl
            rw [hl5] at HT ⊢
            clear hC o5 b5 hv5
            go_wp2_with fail
            go_meet
            exact ⟨[], HT.out.1, HT.out.2, Nat.zero_le _⟩
          · have hTk := hr.Take_yes hM (by have := HR.out.2.2.2.2; omega)
            have HM := Lib.hid hM
            clear hr hM
            go_wp2_with fail
            refine hTk.mono ?_
            rintro e V3 ⟨⟨xk, xp, xr⟩, hx, rfl, hw3⟩
            obtain ⟨s3, e3, _⟩ := HD.out.1 _ _ hw3
            have hA3 := (e3 ab (.inr rfl)).trans H2.out.2
            have hSo := sorted15_any V3 s3.o (by have := HR.out.2.2.2.2; omega)
            have hel : el (srt M) 0 = (xk, xp, xr) := (srt_fst HD.out.2 HM.out).one hx
            have H3 := Lib.hid (And.intro s3 (And.intro hA3 hel))
            clear hTk hx hw3 s3 e3 hA3 hel
            unfold ek
            simp only
            go_wp2_with fail
            refine hSo.mono ?_
            rintro e V4 ⟨v4, rfl, o4, b4⟩
            have hlen : 0 < (srt M).length := by rw [srt_len]; exact List.length_pos_iff.2 HM.out
            obtain ⟨g4, c4, rfl, _, _, hc4⟩ := oo_at o4 hlen
            have k4 := (hc4 0 hlen).1
            rw [H3.out.2.2] at k4
            unfold ek at k4
            simp only [Nat.zero_mul] at k4
            have s4 := H3.out.1.old b4
            have hA4 := (b4.block ab (Array.getElem?_eq_some_iff.1 H3.out.2.1).1).trans H3.out.2.1
            have hC := cut15_any V4 s4.o s4.sz HD.out.2 (by have := HR.out.2.2.2.2; omega) xk
            unfold ek at hC
            have H4 := Lib.hid (And.intro s4 hA4)
            obtain ⟨L, hL⟩ : ∃ L, L = (srt M).length := ⟨_, rfl⟩
            rw [← hL] at hlen ⊢
            have hlc : (0 : Int) < ((L : Nat) : Int) := by omega
            clear hSo o4 b4 s4 hA4 hc4 hL
            go_wp2_with fail
            refine hC.mono ?_
            rintro e V5 ⟨v5, rfl, o5, b5, hv5⟩
            have HT := Lib.hid (And.intro (H4.out.1.model b5 o5 hv5) ((b5.block ab (Array.getElem?_eq_some_iff.1 H4.out.2).1).trans H4.out.2))
            clear hC o5 b5 hv5
            go_wp2_with fail
            go_meet
            exact ⟨_, HT.out.1, HT.out.2, Nat.le_trans (del_len M xk) (Nat.le_succ_of_le HR.out.2.2.1)⟩
        · obtain ⟨n0, n1, n2, n3⟩ := hkd4
          have e0 : (kd == 0) = false := beq_false_of_ne n0
          have e1 : (kd == 1) = false := beq_false_of_ne n1
          have e2 : (kd == 2) = false := beq_false_of_ne n2
          have e3 : (kd == 3) = false := beq_false_of_ne n3
          obtain ⟨S, hr, dR⟩ := H2.out.1.row
          have hC := hr.Copy (by have := HR.out.2.2.2.2; omega)
          clear hr dR
          go_wp2_with fail
          refine hC.mono ?_
          rintro e V3 ⟨cb, S', rfl, hc3, hS3, b3⟩
          have hTk := some_Take hc3 hS3 b3.size (by have := HR.out.2.2.2.2; omega)
          have H3 := Lib.hid b3
          clear hC hc3 hS3 b3
          go_wp2_with fail
          refine hTk.mono ?_
          rintro e V4 ⟨xk, xb, rfl, S4, M4, hc4, hS4, hl4, b4⟩
          have H4 := Lib.hid (H3.out.trans b4)
          have hP := some_Put hc4 hS4 H4.out.size (by have := HR.out.2.2.2.2; omega)
          clear hTk hc4 hS4 hl4 b4
          go_wp2_with fail
          refine hP.mono ?_
          rintro e V5 ⟨xn, rfl, b5⟩
          have HT := Lib.hid (And.intro (H2.out.1.old (H4.out.trans b5)) (((H4.out.trans b5).block ab (Array.getElem?_eq_some_iff.1 H2.out.2).1).trans H2.out.2))
          clear hP b5
          go_wp2_with fail
          go_meet
          exact ⟨M, HT.out.1, HT.out.2, Nat.le_succ_of_le HR.out.2.2.1⟩
      case rest =>
        obtain ⟨M2, st2, hA, hM2⟩ := hcut
        obtain ⟨ao2, cp2, rfl⟩ := HpE.own_shape st2.o
        have hnd : (M2.map (·.1)).Nodup := by obtain ⟨S, h1, _⟩ := st2.r; exact h1.nodup
        have hpri : ∀ x ∈ M2, x.2.1 < 4 := by obtain ⟨S, h1, _⟩ := st2.r; exact h1.pri
        have hl81 : M2.length ≤ 81 := by have := HR.out.2.2.1; have := HR.out.2.2.2.1; have := HN.out; omega
        have hSo := sorted15_any wc st2.o (by omega)
        obtain ⟨n2, hn2⟩ : ∃ m, m = M2.length := ⟨_, rfl⟩
        rw [← hn2] at st2 hSo ⊢
        have HC := Lib.hid (And.intro st2 (And.intro hA (And.intro hM2 (And.intro hnd (And.intro hpri (And.intro hl81 hn2))))))
        clear st2 hA hM2 hnd hpri hl81 hn2 hkd hpr hkd3 a0 a1 a2 a3
        go_wp2_with fail
        refine hSo.mono ?_
        rintro e V3 ⟨v3, rfl, o3, b3⟩
        obtain ⟨a3', c3', rfl⟩ := HpE.own_shape o3
        obtain ⟨L, hL⟩ : ∃ L, L = (srt M2).length := ⟨_, rfl⟩
        rw [← hL]
        have H3 := Lib.hid (And.intro o3 (And.intro b3 hL))
        clear hSo o3 b3 hL
        obtain ⟨W4, hW4⟩ : ∃ W, W = V3.alloc (.cells #[.slice a3' L c3'] 26) := ⟨_, rfl⟩
        obtain ⟨W5, hW5⟩ : ∃ W, W = W4.alloc (.cells #[.int .i64 0] 3) := ⟨_, rfl⟩
        obtain ⟨W6, hW6⟩ : ∃ W, W = W5.alloc (.cells #[.int .i64 0, .int .i64 0, .int .i64 0, .int .i64 0] 40) := ⟨_, rfl⟩
        obtain ⟨b14, h14⟩ : ∃ b, b = V3.heap.size := ⟨_, rfl⟩
        have z4 : W4.heap.size = b14 + 1 := by rw [hW4, h14]; simp
        have z5 : W5.heap.size = b14 + 1 + 1 := by rw [hW5]; simp [z4]
        have z6 : W6.heap.size = b14 + 1 + 1 + 1 := by rw [hW6]; simp [z5]
        have s3 := HC.out.1.old H3.out.2.1
        have hDs : ∀ D, D ∈ Ds → D < b14 := fun D hD => by rw [h14]; exact s3.recs.lt hD
        have s4 := s3.box hW4
        have s5 := s4.box hW5
        have s6 := s5.box hW6
        rw [z5, z4, ← h14] at s6
        have k4 : W4.heap[b14]? = some (.cells #[.slice a3' L c3'] 26 (0, 0)) := by rw [hW4, h14]; exact (MapKept.heap_alloc _ _).1
        have k5 : W5.heap[b14 + 1]? = some (.cells #[.int .i64 0] 3 (0, 0)) := by rw [hW5, ← z4]; exact (MapKept.heap_alloc _ _).1
        have k6 : W6.heap[b14 + 1 + 1]? = some (.cells #[.int .i64 0, .int .i64 0, .int .i64 0, .int .i64 0] 40 (0, 0)) := by rw [hW6, ← z5]; exact (MapKept.heap_alloc _ _).1
        have e34 : Below V3.heap.size V3 W4 := by rw [hW4]; exact (Below.refl _ _).alloc (Nat.le_refl _) _
        have e45 : Below W4.heap.size W4 W5 := by rw [hW5]; exact (Below.refl _ _).alloc (Nat.le_refl _) _
        have e56 : Below W5.heap.size W5 W6 := by rw [hW6]; exact (Below.refl _ _).alloc (Nat.le_refl _) _
        have e46 := e45.trans (e56.mono (by omega))
        have e36 := e34.trans (e46.mono (by omega))
        have m4 := (e46.block b14 (by omega)).trans k4
        have m5 := (e56.block (b14 + 1) (by omega)).trans k5
        have o6 : Oo W6 wc.heap.size (.slice a3' (srt M2).length c3') (srt M2) := Nx.own_kept H3.out.1 fun b hb => e36.block b (Nx.own_cell H3.out.1 hb).2.1
        have hA6 := (e36.block ab (by have := (s3.e ab (.inr rfl)).1; omega)).trans ((H3.out.2.1.block ab (Array.getElem?_eq_some_iff.1 HC.out.2.1).1).trans HC.out.2.1)
        have hg3 : ∀ b, (Value.slice a3' (srt M2).length c3').ownBlock = some b → b < b14 := fun b hb => by rw [h14]; exact (Nx.own_cell H3.out.1 hb).2.1
        obtain ⟨S6, hr6, _⟩ := s6.row
        have hAll := hr6.All (by have := HC.out.2.2.2.2.2.1; omega)
        obtain ⟨b15, h15⟩ : ∃ b, b = b14 + 1 := ⟨_, rfl⟩
        obtain ⟨b16, h16⟩ : ∃ b, b = b14 + 1 + 1 := ⟨_, rfl⟩
        rw [← h15] at m5 s6
        rw [← h16] at k6
        have s6' : St w (b2 + 1) b2 rb Ds (fun k => (((False ∨ k = ab) ∨ k = b14) ∨ k = b15) ∨ k = b16) W6 (.slice ao2 n2 cp2) M2 M2 := by rw [h16]; rw [← h15]; exact s6
        have hab : ab < b14 := by rw [h14]; exact (s3.e ab (.inr rfl)).1
        have HB := Lib.hid (And.intro h15 (And.intro h16 (And.intro h14 (And.intro hDs (And.intro (show W6.heap.size = b16 + 1 by omega) hab)))))
        have H6 := Lib.hid (And.intro s6' (And.intro m4 (And.intro m5 (And.intro k6 (And.intro o6 (And.intro hA6 hg3))))))
        clear z4 z5 z6 s3 hab hDs s4 s5 s6 s6' k4 k5 k6 e34 e45 e56 e46 e36 m4 m5 o6 hA6 hg3 hr6
        go_wp2_with fail
        rw [← hW4, ← hW5, ← hW6, ← h14, ← h15]
        rw [show b15 + 1 = b16 by omega]
        clear hW4 hW5 hW6 h14 h15 h16
        refine hAll.mono ?_
        rintro e W7 ⟨nv, rfl, hbx, htx, b7⟩
        have s7 := H6.out.1.old b7
        have hz6 := HB.out.2.2.2.2.1
        have hsz7 := b7.size
        have hk7 : ∀ k, k < W6.heap.size → W7.heap[k]? = W6.heap[k]? := b7.block
        have h14lt : b14 < b16 ∧ b15 < b16 ∧ b16 = b15 + 1 ∧ b14 + 1 = b15 := by have := HB.out.1; have := HB.out.2.1; omega
        have hit := names_iter (5 - 1) b15 (b16 + 1) W7.heap.size W6.heap.size (W6.heap.size + 1) W7 (c1_of hbx).1 (Array.getElem?_eq_some_iff.1 hbx).1 (.inr (by omega)) (Nat.le_refl _) htx (fun b hb => ⟨(Nx.own_cell htx hb).2.1, .inr (by have := (Nx.own_cell htx hb).1; omega)⟩) (by rw [List.length_map, srt_len]; have := HC.out.2.2.2.2.2.1; omega)
        have i0 : Ir W7 b15 b16 (srt M2) 0 W7 := ⟨(hk7 b15 (by omega)).trans H6.out.2.2.1, (hk7 b16 (by omega)).trans H6.out.2.2.2.1, Fr.refl _ _, Nat.zero_le _⟩
        have o7 : Oo W7 wc.heap.size (.slice a3' (srt M2).length c3') (srt M2) := Nx.own_kept H6.out.2.2.2.2.1 fun b hb => hk7 b (by have := H6.out.2.2.2.2.2.2 b hb; omega)
        have H7 := Lib.hid (And.intro s7 (And.intro ((hk7 b14 (by omega)).trans H6.out.2.1) (And.intro o7 (And.intro ((hk7 ab (by have := (H6.out.1.e ab (.inl (.inl (.inl (.inr rfl))))).1; omega)).trans H6.out.2.2.2.2.2.1) (And.intro i0 (And.intro h14lt (show b16 < W7.heap.size by omega)))))))
        clear hAll hbx htx b7 s7 hk7 h14lt i0 o7 hz6 hsz7
        go_wp2_with fail
        refine (wpIn_wide (n := 5)).1 ?_
        refine range_exit (br := false) rfl (by omega) (gf := 30) (lb := #[.pointer (some ⟨W6.heap.size, 0, none⟩)]) rfl trivial (enters_of Try.func30 (by kernel_rfl) rfl)
          (hit.x) (fun _ => rfl) (fun m A => Ir W7 b15 b16 (srt M2) m A) (fun _ _ _ => False)
          (fun m A A' h e => h.calm e) (fun _ _ _ _ h _ => h) (fun _ _ _ h => h.elim)
          H7.out.2.2.2.2.1 (fun m x A A' h _ => h) (fun m x A A' _ _ h _ _ => h) ?hround ?hdone (fun _ _ _ _ _ h _ => h.elim)
        case hround =>
          rintro lp m nx A hlB ⟨rr, hlr⟩ hI ⟨hm, hp⟩
          dsimp only [encK]
          rw [List.length_map] at hm
          rw [getD_names hm] at hp
          obtain ⟨⟨xk, xp, xr⟩, hx1⟩ : ∃ x, x = el (srt M2) m := ⟨_, rfl⟩
          rw [← hx1] at hp
          obtain rfl : nx = xk := hp
          have hxp : xp < 4 := by
            have h1 : el (srt M2) m ∈ M2 := (srt_perm M2).mem_iff.1 (el_mem hm)
            rw [← hx1] at h1
            exact HC.out.2.2.2.2.1 _ h1
          have HM := Lib.hid (And.intro hm (And.intro hx1 hxp))
          clear hI hlr hm hx1 hit hlB
          gi_wp2_with fail
          refine ⟨Below.refl _ _, ?_⟩
          intro A2 hbut hI2 hG2
          clear hbut hG2
          obtain ⟨c15, f15⟩ := c1_of hI2.1
          obtain ⟨q16, f16⟩ := cb_cell hI2.2.1 hxp
          have h14A : A2.heap[b14]? = some (.cells #[.slice a3' L c3'] 26 (0, 0)) := (hI2.2.2.1.block b14 (by have := H7.out.2.2.2.2.2.1; have := H7.out.2.2.2.2.2.2; omega) (fun e => by have := H7.out.2.2.2.2.2.1; omega)).trans H7.out.2.1
          obtain ⟨c14, f14⟩ := c1_of h14A
          obtain ⟨g3, cc3, hsl, _, _, hcl⟩ := oo_at H7.out.2.2.1 HM.out.1
          have hgb : g3 < b14 := H6.out.2.2.2.2.2.2 g3 (by rw [hsl]; have h1 := HM.out.1; rcases H7.out.2.2.1.2 with ⟨h2, h3⟩ | ⟨g4, c4, cur, h2, _, _, h5, _⟩ <;> (rw [hsl] at h2; cases h2 <;> skip); obtain ⟨cq, rfl⟩ : ∃ q, cc3 = q + 1 := ⟨cc3 - 1, by omega⟩; rfl)
          obtain ⟨t0, t1, t2⟩ := hcl m HM.out.1
          have hkp : ∀ i, A2.cell? ⟨g3, i, none⟩ = W7.cell? ⟨g3, i, none⟩ := fun i => by unfold World.cell?; rw [hI2.2.2.1.block g3 (by have := H7.out.2.2.2.2.2.1; have := H7.out.2.2.2.2.2.2; omega) (fun e => by have := H7.out.2.2.2.2.2.1; omega)]
          have u0 := (hkp _).trans t0
          have u1 := (hkp _).trans t1
          rw [← HM.out.2.1] at u0 u1
          unfold ek at u0
          simp only at u0 u1
          obtain rfl : a3' = some ⟨g3, 0, none⟩ := by cases hsl; rfl
          have hmL : ((m : Nat) : Int) < ((L : Nat) : Int) := by have := HM.out.1; have := H3.out.2.2; omega
          have hmLn : m < L := by omega
          have hne15 : b15 ≠ b16 := by have := H7.out.2.2.2.2.2.1; omega
          have hne16 : b16 ≠ b15 := fun e => hne15 e.symm
          have hmLx : (L ≤ m) = False := eq_false (by omega)
          have hm0 : (0 : Int) ≤ ((m : Nat) : Int) := by omega
          have hxp0 : (0 : Int) ≤ ((xp : Nat) : Int) := by omega
          have hxp4 : ((xp : Nat) : Int) < 4 := by omega
          obtain ⟨cq, hcq⟩ : ∃ q, q = cn ((srt M2).take m) xp := ⟨_, rfl⟩
          rw [← hcq] at q16
          have hcqb : cq ≤ 100 := by rw [hcq]; have h1 := cn_le ((srt M2).take m) xp; rw [List.length_take] at h1; have hq := H3.out.2.2; rw [srt_len] at hq; have := HC.out.2.2.2.2.2.1; omega
          have hw1 : wrap64 (((cq : Nat) : Int) + 1) = ((cq + 1 : Nat) : Int) := by unfold wrap64; omega
          clear hcqb
          have hw2 : wrap64 (((m : Nat) : Int) + 1) = ((m + 1 : Nat) : Int) := by have hq := H3.out.2.2; rw [srt_len] at hq; have := HC.out.2.2.2.2.2.1; unfold wrap64; omega
          have hia := fun W => ia b16 hxp W
          have HI := Lib.hid (And.intro hI2 hcq)
          clear hI2 h14A hsl hcl hgb t0 t1 t2 hkp hcq
          gi_wp2_with fail
          have hfin := ir_end hne15 (by have := H7.out.2.2.2.2.2.1; have := H7.out.2.2.2.2.2.2; omega) H7.out.2.2.2.2.2.2 H7.out.2.2.2.2.2.1.2.2.1 HI.out.1 HM.out.1 (by rw [← HM.out.2.1]; exact HM.out.2.2) rfl
          rw [← HM.out.2.1] at hfin
          simp only at hfin
          rw [← HI.out.2] at hfin
          first | exact hfin | (rw [hw1, hw2]; exact hfin) | (rw [hw1]; exact hfin) | (rw [hw2]; exact hfin)
        case hdone =>
          intro D m6 X hD hS hI hK
          subst hS
          obtain ⟨i1, i2, i3, i4⟩ := hI
          rw [List.length_map] at i1 i2
          rw [List.take_length] at i2
          rw [← H3.out.2.2] at i1
          have hlt := H7.out.2.2.2.2.2.1
          have hsz := H7.out.2.2.2.2.2.2
          have habl := HB.out.2.2.2.2.2
          have s8 := H7.out.1.ranged i3 (fun k hk => by
            rcases hk with rfl | rfl
            · exact ⟨.inl (.inr rfl), fun h => by have := HB.out.2.2.2.1 _ h; omega⟩
            · exact ⟨.inr rfl, fun h => by have := HB.out.2.2.2.1 _ h; omega⟩) hD hK
          have hA8 := (i3.block ab (by omega) (fun e => by omega)).trans H7.out.2.2.2.1
          have h14X := (i3.block b14 (by omega) (fun e => by omega)).trans H7.out.2.1
          have o8 : Oo X wc.heap.size (.slice a3' (srt M2).length c3') (srt M2) := Nx.own_kept H7.out.2.2.1 fun b hb => i3.block b (by have := H6.out.2.2.2.2.2.2 b hb; omega) (fun e => by have := H6.out.2.2.2.2.2.2 b hb; omega)
          have H8 := Lib.hid (And.intro s8 (And.intro hA8 (And.intro h14X (And.intro o8 (And.intro i1 i2)))))
          obtain ⟨S8, hr8, _⟩ := s8.row
          clear i1 i2 i3 i4 hlt hsz habl s8 hA8 h14X o8 hD hK hit
          by_cases hM : M2 = []
          · subst hM
            have hNx := hr8.Next_no
            obtain rfl : L = 0 := H3.out.2.2
            dsimp only
            go_wp2_with fail
            refine hNx.mono ?_
            rintro e Y ⟨rfl, b9⟩
            have s9 := H8.out.1.old b9
            have hA9 := (b9.block ab (Array.getElem?_eq_some_iff.1 H8.out.2.1).1).trans H8.out.2.1
            have h149 := (b9.block b14 (Array.getElem?_eq_some_iff.1 H8.out.2.2.1).1).trans H8.out.2.2.1
            have i19 := (b9.block b15 (Array.getElem?_eq_some_iff.1 H8.out.2.2.2.2.1).1).trans H8.out.2.2.2.2.1
            have i29 := (b9.block b16 (Array.getElem?_eq_some_iff.1 H8.out.2.2.2.2.2).1).trans H8.out.2.2.2.2.2
            obtain ⟨lr, hlr, hLen⟩ := lenI (hr8.old b9) pr
            have hcn := fun i => cn_perm (srt_perm ([] : List O)) i
            rw [← hcn 0, ← hcn 1, ← hcn 2, ← hcn 3] at hlr
            unfold Nx.cb at i29
            obtain ⟨C0, hC0⟩ : ∃ x : Int, x = ((cn (srt ([] : List O)) 0 : Nat) : Int) := ⟨_, rfl⟩
            obtain ⟨C1, hC1⟩ : ∃ x : Int, x = ((cn (srt ([] : List O)) 1 : Nat) : Int) := ⟨_, rfl⟩
            obtain ⟨C2, hC2⟩ : ∃ x : Int, x = ((cn (srt ([] : List O)) 2 : Nat) : Int) := ⟨_, rfl⟩
            obtain ⟨C3, hC3⟩ : ∃ x : Int, x = ((cn (srt ([] : List O)) 3 : Nat) : Int) := ⟨_, rfl⟩
            rw [← hC0, ← hC1, ← hC2, ← hC3] at hlr i29
            have hAt := fun W => at15_any W C0 C1 C2 C3 pr lr hlr
            have hcs : ∀ W, Below Y.heap.size Y W → W.cell? ⟨b15, 0, none⟩ = some (.int .i64 0) ∧ W.cell? ⟨b14, 0, none⟩ = some (.slice a3' 0 c3') ∧ W.cell? ⟨ab, 1, none⟩ = some (.int .i64 pr) ∧ W.cell? ⟨b16, 0, none⟩ = some (.int .i64 C0) ∧ W.cell? ⟨b16, 1, none⟩ = some (.int .i64 C1) ∧ W.cell? ⟨b16, 2, none⟩ = some (.int .i64 C2) ∧ W.cell? ⟨b16, 3, none⟩ = some (.int .i64 C3) := fun W hW => by
              have q1 := (hW.block b15 (Array.getElem?_eq_some_iff.1 i19).1).trans i19
              have q2 := (hW.block b14 (Array.getElem?_eq_some_iff.1 h149).1).trans h149
              have q3 := (hW.block ab (Array.getElem?_eq_some_iff.1 hA9).1).trans hA9
              have q4 := (hW.block b16 (Array.getElem?_eq_some_iff.1 i29).1).trans i29
              obtain ⟨e0, e1, e2, e3⟩ := four q4
              exact ⟨(c1_of q1).1, (c1_of q2).1, (four q3).2.1, e0, e1, e2, e3⟩
            have H9 := Lib.hid s9
            clear s9 hA9 h149 i19 i29 hlr hcn hC0 hC1 hC2 hC3 hr8 b9
            clear hNx
            go_wp2_with fail
            refine begin' 31 (fun ZZ => Below Y.heap.size Y ZZ) hmix ((Below.refl _ Y).drew) (fun hS0 => ?_)
            refine Ht.takeD 12 (i := 0) ⟨some 188, _, _, _, _, _⟩ (.int .i64 0) rfl (by kernel_rfl) (by kernel_rfl) (by decide) (by kernel_rfl) (by kernel_rfl) (by kernel_rfl) hS0 (Or.inl ⟨by rfl, by (intro X hX; have := (hcs X hX).1; go_simp)⟩) ?_
            simp only [Act.put, List.setIfInBounds_toArray, List.set_cons_zero, List.set_cons_succ]
            refine Ht.takeD 12 (i := 1) ⟨some 189, _, _, _, _, _⟩ (.slice a3' 0 c3') rfl (by kernel_rfl) (by kernel_rfl) (by decide) (by kernel_rfl) (by kernel_rfl) (by kernel_rfl) hS0 (Or.inl ⟨by rfl, by (intro X hX; have := (hcs X hX).2.1; go_simp)⟩) ?_
            simp only [Act.put, List.setIfInBounds_toArray, List.set_cons_zero, List.set_cons_succ]
            refine Ht.takeD 12 (i := 2) ⟨some 190, _, _, _, _, _⟩ (.int .i64 0) rfl (by kernel_rfl) (by kernel_rfl) (by decide) (by kernel_rfl) (by kernel_rfl) (by kernel_rfl) hS0 (Or.inl ⟨by rfl, by (intro X hX; go_simp)⟩) ?_
            simp only [Act.put, List.setIfInBounds_toArray, List.set_cons_zero, List.set_cons_succ]
            refine Ht.takeD 12 (i := 3) ⟨some 191, _, _, _, _, _⟩ (.bool false) rfl (by kernel_rfl) (by kernel_rfl) (by decide) (by kernel_rfl) (by kernel_rfl) (by kernel_rfl) hS0 (Or.inl ⟨by rfl, by (intro X hX; go_simp)⟩) ?_
            simp only [Act.put, List.setIfInBounds_toArray, List.set_cons_zero, List.set_cons_succ]
            refine Ht.takeD 12 (i := 4) ⟨some 192, _, _, _, _, _⟩ (.bool false) rfl (by kernel_rfl) (by kernel_rfl) (by decide) (by kernel_rfl) (by kernel_rfl) (by kernel_rfl) hS0 (Or.inl ⟨by rfl, by (intro X hX; go_simp)⟩) ?_
            simp only [Act.put, List.setIfInBounds_toArray, List.set_cons_zero, List.set_cons_succ]
            refine Ht.takeD 12 (i := 5) ⟨some 193, _, _, _, _, _⟩ (.bool false) rfl (by kernel_rfl) (by kernel_rfl) (by decide) (by kernel_rfl) (by kernel_rfl) (by kernel_rfl) hS0 (Or.inl ⟨by rfl, by (intro X hX; go_simp)⟩) ?_
            simp only [Act.put, List.setIfInBounds_toArray, List.set_cons_zero, List.set_cons_succ]
            refine Ht.takeD 12 (i := 6) ⟨some 194, _, _, _, _, _⟩ (.int .i64 0) rfl (by kernel_rfl) (by kernel_rfl) (by decide) (by kernel_rfl) (by kernel_rfl) (by kernel_rfl) hS0 (Or.inl ⟨by rfl, by (intro X hX; have := (hcs X hX).1; go_simp)⟩) ?_
            simp only [Act.put, List.setIfInBounds_toArray, List.set_cons_zero, List.set_cons_succ]
            refine Ht.takeD 12 (i := 7) ⟨some 195, _, _, _, _, _⟩ (.bool false) rfl (by kernel_rfl) (by kernel_rfl) (by decide) (by kernel_rfl) (by kernel_rfl) (by kernel_rfl) hS0 (Or.inl ⟨by rfl, by (intro X hX; go_simp)⟩) ?_
            simp only [Act.put, List.setIfInBounds_toArray, List.set_cons_zero, List.set_cons_succ]
            refine Ht.takeD 12 (i := 8) ⟨some 196, _, _, _, _, _⟩ (.bool false) rfl (by kernel_rfl) (by kernel_rfl) (by decide) (by kernel_rfl) (by kernel_rfl) (by kernel_rfl) hS0 (Or.inl ⟨by rfl, by (intro X hX; go_simp)⟩) ?_
            simp only [Act.put, List.setIfInBounds_toArray, List.set_cons_zero, List.set_cons_succ]
            refine Ht.takeD 12 (i := 9) ⟨some 197, _, _, _, _, _⟩ (.bool false) rfl (by kernel_rfl) (by kernel_rfl) (by decide) (by kernel_rfl) (by kernel_rfl) (by kernel_rfl) hS0 (Or.inl ⟨by rfl, by (intro X hX; go_simp)⟩) ?_
            simp only [Act.put, List.setIfInBounds_toArray, List.set_cons_zero, List.set_cons_succ]
            refine Ht.takeD 12 (i := 10) ⟨some 198, _, _, _, _, _⟩ (.bool false) rfl (by kernel_rfl) (by kernel_rfl) (by decide) (by kernel_rfl) (by kernel_rfl) (by kernel_rfl) hS0 (Or.inl ⟨by rfl, by (intro X hX; go_simp)⟩) ?_
            simp only [Act.put, List.setIfInBounds_toArray, List.set_cons_zero, List.set_cons_succ]
            refine Ht.takeD 12 (i := 11) ⟨some 199, _, _, _, _, _⟩ (.bool false) rfl (by kernel_rfl) (by kernel_rfl) (by decide) (by kernel_rfl) (by kernel_rfl) (by kernel_rfl) hS0 (Or.inl ⟨by rfl, by (intro X hX; go_simp)⟩) ?_
            simp only [Act.put, List.setIfInBounds_toArray, List.set_cons_zero, List.set_cons_succ]
            refine Ht.takeD 12 (i := 12) ⟨some 200, _, _, _, _, _⟩ (.bool false) rfl (by kernel_rfl) (by kernel_rfl) (by decide) (by kernel_rfl) (by kernel_rfl) (by kernel_rfl) hS0 (Or.inl ⟨by rfl, by (intro X hX; go_simp)⟩) ?_
            simp only [Act.put, List.setIfInBounds_toArray, List.set_cons_zero, List.set_cons_succ]
            refine Ht.takeD 12 (i := 13) ⟨some 201, _, _, _, _, _⟩ (undef) rfl (by kernel_rfl) (by kernel_rfl) (by decide) (by kernel_rfl) (by kernel_rfl) (by kernel_rfl) hS0 (Or.inr ⟨by rfl, by rfl⟩) ?_
            simp only [Act.put, List.setIfInBounds_toArray, List.set_cons_zero, List.set_cons_succ]
            refine Ht.takeD 12 (i := 14) ⟨some 202, _, _, _, _, _⟩ (undef) rfl (by kernel_rfl) (by kernel_rfl) (by decide) (by kernel_rfl) (by kernel_rfl) (by kernel_rfl) hS0 (Or.inr ⟨by rfl, by rfl⟩) ?_
            simp only [Act.put, List.setIfInBounds_toArray, List.set_cons_zero, List.set_cons_succ]
            refine Ht.takeD 12 (i := 15) ⟨some 203, _, _, _, _, _⟩ (undef) rfl (by kernel_rfl) (by kernel_rfl) (by decide) (by kernel_rfl) (by kernel_rfl) (by kernel_rfl) hS0 (Or.inr ⟨by rfl, by rfl⟩) ?_
            simp only [Act.put, List.setIfInBounds_toArray, List.set_cons_zero, List.set_cons_succ]
            refine Ht.takeD 12 (i := 16) ⟨some 204, _, _, _, _, _⟩ (undef) rfl (by kernel_rfl) (by kernel_rfl) (by decide) (by kernel_rfl) (by kernel_rfl) (by kernel_rfl) hS0 (Or.inr ⟨by rfl, by rfl⟩) ?_
            simp only [Act.put, List.setIfInBounds_toArray, List.set_cons_zero, List.set_cons_succ]
            refine Ht.takeD 12 (i := 17) ⟨some 205, _, _, _, _, _⟩ (undef) rfl (by kernel_rfl) (by kernel_rfl) (by decide) (by kernel_rfl) (by kernel_rfl) (by kernel_rfl) hS0 (Or.inr ⟨by rfl, by rfl⟩) ?_
            simp only [Act.put, List.setIfInBounds_toArray, List.set_cons_zero, List.set_cons_succ]
            refine Ht.takeD 12 (i := 18) ⟨some 206, _, _, _, _, _⟩ (undef) rfl (by kernel_rfl) (by kernel_rfl) (by decide) (by kernel_rfl) (by kernel_rfl) (by kernel_rfl) hS0 (Or.inr ⟨by rfl, by rfl⟩) ?_
            simp only [Act.put, List.setIfInBounds_toArray, List.set_cons_zero, List.set_cons_succ]
            refine Ht.takeD 12 (i := 19) ⟨some 207, _, _, _, _, _⟩ (.bool false) rfl (by kernel_rfl) (by kernel_rfl) (by decide) (by kernel_rfl) (by kernel_rfl) (by kernel_rfl) hS0 (Or.inl ⟨by rfl, by (intro X hX; go_simp)⟩) ?_
            simp only [Act.put, List.setIfInBounds_toArray, List.set_cons_zero, List.set_cons_succ]
            refine Ht.takeD 12 (i := 20) ⟨some 208, _, _, _, _, _⟩ (.bool false) rfl (by kernel_rfl) (by kernel_rfl) (by decide) (by kernel_rfl) (by kernel_rfl) (by kernel_rfl) hS0 (Or.inl ⟨by rfl, by (intro X hX; go_simp)⟩) ?_
            simp only [Act.put, List.setIfInBounds_toArray, List.set_cons_zero, List.set_cons_succ]
            refine Ht.takeD 12 (i := 21) ⟨some 209, _, _, _, _, _⟩ (.bool false) rfl (by kernel_rfl) (by kernel_rfl) (by decide) (by kernel_rfl) (by kernel_rfl) (by kernel_rfl) hS0 (Or.inl ⟨by rfl, by (intro X hX; go_simp)⟩) ?_
            simp only [Act.put, List.setIfInBounds_toArray, List.set_cons_zero, List.set_cons_succ]
            refine Ht.takeD 12 (i := 22) ⟨some 210, _, _, _, _, _⟩ (.pointer (some ⟨rb, 0, none⟩)) rfl (by kernel_rfl) (by kernel_rfl) (by decide) (by kernel_rfl) (by kernel_rfl) (by kernel_rfl) hS0 (Or.inl ⟨by rfl, by (intro X hX; go_simp)⟩) ?_
            simp only [Act.put, List.setIfInBounds_toArray, List.set_cons_zero, List.set_cons_succ]
            refine Ht.takeD 12 (i := 23) ⟨some 211, _, _, _, _, _⟩ (.pointer (some ⟨ab, 1, none⟩)) rfl (by kernel_rfl) (by kernel_rfl) (by decide) (by kernel_rfl) (by kernel_rfl) (by kernel_rfl) hS0 (Or.inl ⟨by rfl, by (intro X hX; go_simp)⟩) ?_
            simp only [Act.put, List.setIfInBounds_toArray, List.set_cons_zero, List.set_cons_succ]
            refine Ht.takeD 12 (i := 24) ⟨some 212, _, _, _, _, _⟩ (.int .i64 pr) rfl (by kernel_rfl) (by kernel_rfl) (by decide) (by kernel_rfl) (by kernel_rfl) (by kernel_rfl) hS0 (Or.inl ⟨by rfl, by (intro X hX; have := (hcs X hX).2.2.1; go_simp)⟩) ?_
            simp only [Act.put, List.setIfInBounds_toArray, List.set_cons_zero, List.set_cons_succ]
            refine Ht.takeD 12 (i := 26) ⟨some 214, _, _, _, _, _⟩ (.agg #[.int .i64 C0, .int .i64 C1, .int .i64 C2, .int .i64 C3]) rfl (by kernel_rfl) (by kernel_rfl) (by decide) (by kernel_rfl) (by kernel_rfl) (by kernel_rfl) hS0 (Or.inl ⟨by rfl, by (intro X hX; have := (hcs X hX).2.2.2.1; have := (hcs X hX).2.2.2.2.1; have := (hcs X hX).2.2.2.2.2.1; have := (hcs X hX).2.2.2.2.2.2; go_simp)⟩) ?_
            simp only [Act.put, List.setIfInBounds_toArray, List.set_cons_zero, List.set_cons_succ]
            refine Ht.takeD 12 (i := 27) ⟨some 215, _, _, _, _, _⟩ (.pointer (some ⟨ab, 1, none⟩)) rfl (by kernel_rfl) (by kernel_rfl) (by decide) (by kernel_rfl) (by kernel_rfl) (by kernel_rfl) hS0 (Or.inl ⟨by rfl, by (intro X hX; go_simp)⟩) ?_
            simp only [Act.put, List.setIfInBounds_toArray, List.set_cons_zero, List.set_cons_succ]
            refine Ht.takeD 12 (i := 28) ⟨some 216, _, _, _, _, _⟩ (.int .i64 pr) rfl (by kernel_rfl) (by kernel_rfl) (by decide) (by kernel_rfl) (by kernel_rfl) (by kernel_rfl) hS0 (Or.inl ⟨by rfl, by (intro X hX; have := (hcs X hX).2.2.1; go_simp)⟩) ?_
            simp only [Act.put, List.setIfInBounds_toArray, List.set_cons_zero, List.set_cons_succ]
            refine Ht.step (i := 25) ⟨some 213, _, _, _, _, _⟩ rfl (by kernel_rfl) (by rfl) (fun K hK => ?_)
            refine Ht.enter 17 #[.pointer (some ⟨rb, 0, none⟩), .int .i64 pr] (by have hen := fun args w => enters_of (P := Try.prog) Try.func17 (by kernel_rfl) rfl args w; go_simp) (hLen _ hS0) ?_
            rintro e Z1 ⟨rfl, hZ1⟩
            obtain rfl := hZ1.symm
            refine ⟨_, rfl, hK _ _ (fun hn => hS0) (fun hnx => ?_)⟩
            clear hK K hnx
            try simp only [Act.put, List.setIfInBounds_toArray, List.set_cons_zero, List.set_cons_succ]
            refine Ht.step (i := 29) ⟨some 217, _, _, _, _, _⟩ rfl (by kernel_rfl) (by rfl) (fun K hK => ?_)
            refine Ht.enter 18 #[.agg #[.int .i64 C0, .int .i64 C1, .int .i64 C2, .int .i64 C3], .int .i64 pr] (by have hen := fun args w => enters_of (P := Try.prog) Try.func18 (by kernel_rfl) rfl args w; go_simp) (hAt _) ?_
            rintro e Z ⟨rfl, bZ⟩
            have bZ' : Below Y.heap.size Y Z := hS0.trans (bZ.mono hS0.size)
            clear bZ
            refine ⟨_, rfl, hK _ _ (fun hn => bZ') (fun hnx => ?_)⟩
            clear hK K hnx
            try simp only [Act.put, List.setIfInBounds_toArray, List.set_cons_zero, List.set_cons_succ]
            refine Ht.step (i := 30) ⟨some 218, _, _, _, _, _⟩ rfl (by kernel_rfl) (by rfl) (fun K hK => ?_)
            go_simp
            refine hK _ _ (fun hn => bZ') (fun hnx => ?_)
            clear hK K hnx
            try simp only [Act.put, List.setIfInBounds_toArray, List.set_cons_zero, List.set_cons_succ]
            refine Ht.step (i := 31) ⟨some 219, _, _, _, _, _⟩ rfl (by kernel_rfl) (by rfl) (fun K hK => ?_)
            go_simp
            refine hK _ _ (fun hn => absurd rfl hn) (fun hnx => ?_)
            clear hK K hnx
            try simp only [Act.put, List.setIfInBounds_toArray, List.set_cons_zero, List.set_cons_succ]
            refine done (by kernel_rfl) ?_
            have H10 := Lib.hid ((H9.out.old bZ').unbox)
            clear bZ' hcs hLen hAt hS0
            go_wp2_with fail
            exact ⟨PJ.mk' _ (j + 1) (D :: Ds) ⟨HR.out.2.2.2.1, HC.out.2.2.1, H10.out⟩ (by kernel_rfl), by have := HR.out.2.2.2.1; simp [PM', RowKit.intOf]; omega⟩
          · have hNx := hr8.Next_yes hM (by have := HC.out.2.2.2.2.2.1; omega)
            have HM := Lib.hid hM
            clear hM
            dsimp only
            go_wp2_with fail
            refine hNx.mono ?_
            rintro e Y ⟨⟨yk, yp, yr⟩, hy, rfl, b9⟩
            have hel : el (srt M2) 0 = (yk, yp, yr) := (srt_fst HC.out.2.2.2.1 HM.out).one hy
            have hlen : 0 < (srt M2).length := by rw [srt_len]; exact List.length_pos_iff.2 HM.out
            obtain ⟨g3, cc3, hsl, _, _, hcl⟩ := oo_at H8.out.2.2.2.1 hlen
            obtain rfl : a3' = some ⟨g3, 0, none⟩ := by cases hsl; rfl
            have k0 := (hcl 0 hlen).1
            rw [hel] at k0
            unfold ek at k0
            simp only [Nat.zero_mul] at k0
            have k9 := (b9.cell (World.block_lt_of_cell? _ _ k0)).trans k0
            have hL0 : 0 < L := by have := H3.out.2.2; omega
            clear hsl hcl hel hlen k0 hy
            have s9 := H8.out.1.old b9
            have hA9 := (b9.block ab (Array.getElem?_eq_some_iff.1 H8.out.2.1).1).trans H8.out.2.1
            have h149 := (b9.block b14 (Array.getElem?_eq_some_iff.1 H8.out.2.2.1).1).trans H8.out.2.2.1
            have i19 := (b9.block b15 (Array.getElem?_eq_some_iff.1 H8.out.2.2.2.2.1).1).trans H8.out.2.2.2.2.1
            have i29 := (b9.block b16 (Array.getElem?_eq_some_iff.1 H8.out.2.2.2.2.2).1).trans H8.out.2.2.2.2.2
            obtain ⟨lr, hlr, hLen⟩ := lenI (hr8.old b9) pr
            have hcn := fun i => cn_perm (srt_perm M2) i
            rw [← hcn 0, ← hcn 1, ← hcn 2, ← hcn 3] at hlr
            unfold Nx.cb at i29
            obtain ⟨C0, hC0⟩ : ∃ x : Int, x = ((cn (srt M2) 0 : Nat) : Int) := ⟨_, rfl⟩
            obtain ⟨C1, hC1⟩ : ∃ x : Int, x = ((cn (srt M2) 1 : Nat) : Int) := ⟨_, rfl⟩
            obtain ⟨C2, hC2⟩ : ∃ x : Int, x = ((cn (srt M2) 2 : Nat) : Int) := ⟨_, rfl⟩
            obtain ⟨C3, hC3⟩ : ∃ x : Int, x = ((cn (srt M2) 3 : Nat) : Int) := ⟨_, rfl⟩
            rw [← hC0, ← hC1, ← hC2, ← hC3] at hlr i29
            have hAt := fun W => at15_any W C0 C1 C2 C3 pr lr hlr
            have hcs0 : ∀ W, Below Y.heap.size Y W → W.cell? ⟨b15, 0, none⟩ = some (.int .i64 ((L : Nat) : Int)) ∧ W.cell? ⟨b14, 0, none⟩ = some (.slice (some ⟨g3, 0, none⟩) L c3') ∧ W.cell? ⟨ab, 1, none⟩ = some (.int .i64 pr) ∧ W.cell? ⟨b16, 0, none⟩ = some (.int .i64 C0) ∧ W.cell? ⟨b16, 1, none⟩ = some (.int .i64 C1) ∧ W.cell? ⟨b16, 2, none⟩ = some (.int .i64 C2) ∧ W.cell? ⟨b16, 3, none⟩ = some (.int .i64 C3) := fun W hW => by
              have q1 := (hW.block b15 (Array.getElem?_eq_some_iff.1 i19).1).trans i19
              have q2 := (hW.block b14 (Array.getElem?_eq_some_iff.1 h149).1).trans h149
              have q3 := (hW.block ab (Array.getElem?_eq_some_iff.1 hA9).1).trans hA9
              have q4 := (hW.block b16 (Array.getElem?_eq_some_iff.1 i29).1).trans i29
              obtain ⟨e0, e1, e2, e3⟩ := four q4
              exact ⟨(c1_of q1).1, (c1_of q2).1, (four q3).2.1, e0, e1, e2, e3⟩
            have H9 := Lib.hid s9
            clear s9 hA9 h149 i19 i29 hlr hcn hC0 hC1 hC2 hC3 hr8 b9
            have hcs : ∀ W, Below Y.heap.size Y W → W.cell? ⟨b15, 0, none⟩ = some (.int .i64 ((L : Nat) : Int)) ∧ W.cell? ⟨b14, 0, none⟩ = some (.slice (some ⟨g3, 0, none⟩) L c3') ∧ W.cell? ⟨ab, 1, none⟩ = some (.int .i64 pr) ∧ W.cell? ⟨b16, 0, none⟩ = some (.int .i64 C0) ∧ W.cell? ⟨b16, 1, none⟩ = some (.int .i64 C1) ∧ W.cell? ⟨b16, 2, none⟩ = some (.int .i64 C2) ∧ W.cell? ⟨b16, 3, none⟩ = some (.int .i64 C3) ∧ W.cell? ⟨g3, 0, none⟩ = some (.string ⟨yk.toArray⟩) := fun W hW => by
              obtain ⟨q1, q2, q3, q4, q5, q6, q7⟩ := hcs0 W hW
              exact ⟨q1, q2, q3, q4, q5, q6, q7, (hW.cell (World.block_lt_of_cell? _ _ k9)).trans k9⟩
            clear hNx hcs0 k9
            unfold ek
            simp only
            go_wp2_with fail
            refine begin' 31 (fun ZZ => Below Y.heap.size Y ZZ) hmix ((Below.refl _ Y).drew) (fun hS0 => ?_)
            refine Ht.takeD 12 (i := 0) ⟨some 188, _, _, _, _, _⟩ (.int .i64 ((L : Nat) : Int)) rfl (by kernel_rfl) (by kernel_rfl) (by decide) (by kernel_rfl) (by kernel_rfl) (by kernel_rfl) hS0 (Or.inl ⟨by rfl, by (intro X hX; have := (hcs X hX).1; go_simp)⟩) ?_
            simp only [Act.put, List.setIfInBounds_toArray, List.set_cons_zero, List.set_cons_succ]
            refine Ht.takeD 12 (i := 1) ⟨some 189, _, _, _, _, _⟩ (.slice (some ⟨g3, 0, none⟩) L c3') rfl (by kernel_rfl) (by kernel_rfl) (by decide) (by kernel_rfl) (by kernel_rfl) (by kernel_rfl) hS0 (Or.inl ⟨by rfl, by (intro X hX; have := (hcs X hX).2.1; go_simp)⟩) ?_
            simp only [Act.put, List.setIfInBounds_toArray, List.set_cons_zero, List.set_cons_succ]
            refine Ht.takeD 12 (i := 2) ⟨some 190, _, _, _, _, _⟩ (.int .i64 ((L : Nat) : Int)) rfl (by kernel_rfl) (by kernel_rfl) (by decide) (by kernel_rfl) (by kernel_rfl) (by kernel_rfl) hS0 (Or.inl ⟨by rfl, by (intro X hX; go_simp)⟩) ?_
            simp only [Act.put, List.setIfInBounds_toArray, List.set_cons_zero, List.set_cons_succ]
            refine Ht.takeD 12 (i := 3) ⟨some 191, _, _, _, _, _⟩ (.bool false) rfl (by kernel_rfl) (by kernel_rfl) (by decide) (by kernel_rfl) (by kernel_rfl) (by kernel_rfl) hS0 (Or.inl ⟨by rfl, by (intro X hX; go_simp)⟩) ?_
            simp only [Act.put, List.setIfInBounds_toArray, List.set_cons_zero, List.set_cons_succ]
            refine Ht.takeD 12 (i := 4) ⟨some 192, _, _, _, _, _⟩ (.bool false) rfl (by kernel_rfl) (by kernel_rfl) (by decide) (by kernel_rfl) (by kernel_rfl) (by kernel_rfl) hS0 (Or.inl ⟨by rfl, by (intro X hX; go_simp)⟩) ?_
            simp only [Act.put, List.setIfInBounds_toArray, List.set_cons_zero, List.set_cons_succ]
            refine Ht.takeD 12 (i := 5) ⟨some 193, _, _, _, _, _⟩ (.bool true) rfl (by kernel_rfl) (by kernel_rfl) (by decide) (by kernel_rfl) (by kernel_rfl) (by kernel_rfl) hS0 (Or.inl ⟨by rfl, by (intro X hX; go_simp)⟩) ?_
            simp only [Act.put, List.setIfInBounds_toArray, List.set_cons_zero, List.set_cons_succ]
            refine Ht.takeD 12 (i := 6) ⟨some 194, _, _, _, _, _⟩ (.int .i64 ((L : Nat) : Int)) rfl (by kernel_rfl) (by kernel_rfl) (by decide) (by kernel_rfl) (by kernel_rfl) (by kernel_rfl) hS0 (Or.inl ⟨by rfl, by (intro X hX; have := (hcs X hX).1; go_simp)⟩) ?_
            simp only [Act.put, List.setIfInBounds_toArray, List.set_cons_zero, List.set_cons_succ]
            refine Ht.takeD 12 (i := 7) ⟨some 195, _, _, _, _, _⟩ (.bool true) rfl (by kernel_rfl) (by kernel_rfl) (by decide) (by kernel_rfl) (by kernel_rfl) (by kernel_rfl) hS0 (Or.inl ⟨by rfl, by (intro X hX; have := hL0; go_simp)⟩) ?_
            simp only [Act.put, List.setIfInBounds_toArray, List.set_cons_zero, List.set_cons_succ]
            refine Ht.takeD 12 (i := 8) ⟨some 196, _, _, _, _, _⟩ (.bool false) rfl (by kernel_rfl) (by kernel_rfl) (by decide) (by kernel_rfl) (by kernel_rfl) (by kernel_rfl) hS0 (Or.inl ⟨by rfl, by (intro X hX; go_simp)⟩) ?_
            simp only [Act.put, List.setIfInBounds_toArray, List.set_cons_zero, List.set_cons_succ]
            refine Ht.takeD 12 (i := 9) ⟨some 197, _, _, _, _, _⟩ (.bool false) rfl (by kernel_rfl) (by kernel_rfl) (by decide) (by kernel_rfl) (by kernel_rfl) (by kernel_rfl) hS0 (Or.inl ⟨by rfl, by (intro X hX; go_simp)⟩) ?_
            simp only [Act.put, List.setIfInBounds_toArray, List.set_cons_zero, List.set_cons_succ]
            refine Ht.takeD 12 (i := 10) ⟨some 198, _, _, _, _, _⟩ (.bool false) rfl (by kernel_rfl) (by kernel_rfl) (by decide) (by kernel_rfl) (by kernel_rfl) (by kernel_rfl) hS0 (Or.inl ⟨by rfl, by (intro X hX; go_simp)⟩) ?_
            simp only [Act.put, List.setIfInBounds_toArray, List.set_cons_zero, List.set_cons_succ]
            refine Ht.takeD 12 (i := 11) ⟨some 199, _, _, _, _, _⟩ (.bool true) rfl (by kernel_rfl) (by kernel_rfl) (by decide) (by kernel_rfl) (by kernel_rfl) (by kernel_rfl) hS0 (Or.inl ⟨by rfl, by (intro X hX; go_simp)⟩) ?_
            simp only [Act.put, List.setIfInBounds_toArray, List.set_cons_zero, List.set_cons_succ]
            refine Ht.takeD 12 (i := 12) ⟨some 200, _, _, _, _, _⟩ (.bool true) rfl (by kernel_rfl) (by kernel_rfl) (by decide) (by kernel_rfl) (by kernel_rfl) (by kernel_rfl) hS0 (Or.inl ⟨by rfl, by (intro X hX; go_simp)⟩) ?_
            simp only [Act.put, List.setIfInBounds_toArray, List.set_cons_zero, List.set_cons_succ]
            refine Ht.takeD 12 (i := 13) ⟨some 201, _, _, _, _, _⟩ (.string ⟨yk.toArray⟩) rfl (by kernel_rfl) (by kernel_rfl) (by decide) (by kernel_rfl) (by kernel_rfl) (by kernel_rfl) hS0 (Or.inl ⟨by rfl, by (intro X hX; go_simp)⟩) ?_
            simp only [Act.put, List.setIfInBounds_toArray, List.set_cons_zero, List.set_cons_succ]
            refine Ht.takeD 12 (i := 14) ⟨some 202, _, _, _, _, _⟩ (.slice (some ⟨g3, 0, none⟩) L c3') rfl (by kernel_rfl) (by kernel_rfl) (by decide) (by kernel_rfl) (by kernel_rfl) (by kernel_rfl) hS0 (Or.inl ⟨by rfl, by (intro X hX; have := (hcs X hX).2.1; go_simp)⟩) ?_
            simp only [Act.put, List.setIfInBounds_toArray, List.set_cons_zero, List.set_cons_succ]
            refine Ht.takeD 12 (i := 15) ⟨some 203, _, _, _, _, _⟩ (.pointer (some ⟨g3, 0, none⟩)) rfl (by kernel_rfl) (by kernel_rfl) (by decide) (by kernel_rfl) (by kernel_rfl) (by kernel_rfl) hS0 (Or.inl ⟨by rfl, by (intro X hX; have := hL0; go_simp)⟩) ?_
            simp only [Act.put, List.setIfInBounds_toArray, List.set_cons_zero, List.set_cons_succ]
            refine Ht.takeD 12 (i := 16) ⟨some 204, _, _, _, _, _⟩ (.pointer (some ⟨g3, 0, none⟩)) rfl (by kernel_rfl) (by kernel_rfl) (by decide) (by kernel_rfl) (by kernel_rfl) (by kernel_rfl) hS0 (Or.inl ⟨by rfl, by (intro X hX; go_simp)⟩) ?_
            simp only [Act.put, List.setIfInBounds_toArray, List.set_cons_zero, List.set_cons_succ]
            refine Ht.takeD 12 (i := 17) ⟨some 205, _, _, _, _, _⟩ (.string ⟨yk.toArray⟩) rfl (by kernel_rfl) (by kernel_rfl) (by decide) (by kernel_rfl) (by kernel_rfl) (by kernel_rfl) hS0 (Or.inl ⟨by rfl, by (intro X hX; have := (hcs X hX).2.2.2.2.2.2.2; go_simp)⟩) ?_
            simp only [Act.put, List.setIfInBounds_toArray, List.set_cons_zero, List.set_cons_succ]
            refine Ht.takeD 12 (i := 18) ⟨some 206, _, _, _, _, _⟩ (.bool false) rfl (by kernel_rfl) (by kernel_rfl) (by decide) (by kernel_rfl) (by kernel_rfl) (by kernel_rfl) hS0 (Or.inl ⟨by rfl, by (intro X hX; go_simp)⟩) ?_
            simp only [Act.put, List.setIfInBounds_toArray, List.set_cons_zero, List.set_cons_succ]
            refine Ht.takeD 12 (i := 19) ⟨some 207, _, _, _, _, _⟩ (.bool false) rfl (by kernel_rfl) (by kernel_rfl) (by decide) (by kernel_rfl) (by kernel_rfl) (by kernel_rfl) hS0 (Or.inl ⟨by rfl, by (intro X hX; go_simp)⟩) ?_
            simp only [Act.put, List.setIfInBounds_toArray, List.set_cons_zero, List.set_cons_succ]
            refine Ht.takeD 12 (i := 20) ⟨some 208, _, _, _, _, _⟩ (.bool false) rfl (by kernel_rfl) (by kernel_rfl) (by decide) (by kernel_rfl) (by kernel_rfl) (by kernel_rfl) hS0 (Or.inl ⟨by rfl, by (intro X hX; go_simp)⟩) ?_
            simp only [Act.put, List.setIfInBounds_toArray, List.set_cons_zero, List.set_cons_succ]
            refine Ht.takeD 12 (i := 21) ⟨some 209, _, _, _, _, _⟩ (.bool false) rfl (by kernel_rfl) (by kernel_rfl) (by decide) (by kernel_rfl) (by kernel_rfl) (by kernel_rfl) hS0 (Or.inl ⟨by rfl, by (intro X hX; go_simp)⟩) ?_
            simp only [Act.put, List.setIfInBounds_toArray, List.set_cons_zero, List.set_cons_succ]
            refine Ht.takeD 12 (i := 22) ⟨some 210, _, _, _, _, _⟩ (.pointer (some ⟨rb, 0, none⟩)) rfl (by kernel_rfl) (by kernel_rfl) (by decide) (by kernel_rfl) (by kernel_rfl) (by kernel_rfl) hS0 (Or.inl ⟨by rfl, by (intro X hX; go_simp)⟩) ?_
            simp only [Act.put, List.setIfInBounds_toArray, List.set_cons_zero, List.set_cons_succ]
            refine Ht.takeD 12 (i := 23) ⟨some 211, _, _, _, _, _⟩ (.pointer (some ⟨ab, 1, none⟩)) rfl (by kernel_rfl) (by kernel_rfl) (by decide) (by kernel_rfl) (by kernel_rfl) (by kernel_rfl) hS0 (Or.inl ⟨by rfl, by (intro X hX; go_simp)⟩) ?_
            simp only [Act.put, List.setIfInBounds_toArray, List.set_cons_zero, List.set_cons_succ]
            refine Ht.takeD 12 (i := 24) ⟨some 212, _, _, _, _, _⟩ (.int .i64 pr) rfl (by kernel_rfl) (by kernel_rfl) (by decide) (by kernel_rfl) (by kernel_rfl) (by kernel_rfl) hS0 (Or.inl ⟨by rfl, by (intro X hX; have := (hcs X hX).2.2.1; go_simp)⟩) ?_
            simp only [Act.put, List.setIfInBounds_toArray, List.set_cons_zero, List.set_cons_succ]
            refine Ht.takeD 12 (i := 26) ⟨some 214, _, _, _, _, _⟩ (.agg #[.int .i64 C0, .int .i64 C1, .int .i64 C2, .int .i64 C3]) rfl (by kernel_rfl) (by kernel_rfl) (by decide) (by kernel_rfl) (by kernel_rfl) (by kernel_rfl) hS0 (Or.inl ⟨by rfl, by (intro X hX; have := (hcs X hX).2.2.2.1; have := (hcs X hX).2.2.2.2.1; have := (hcs X hX).2.2.2.2.2.1; have := (hcs X hX).2.2.2.2.2.2.1; go_simp)⟩) ?_
            simp only [Act.put, List.setIfInBounds_toArray, List.set_cons_zero, List.set_cons_succ]
            refine Ht.takeD 12 (i := 27) ⟨some 215, _, _, _, _, _⟩ (.pointer (some ⟨ab, 1, none⟩)) rfl (by kernel_rfl) (by kernel_rfl) (by decide) (by kernel_rfl) (by kernel_rfl) (by kernel_rfl) hS0 (Or.inl ⟨by rfl, by (intro X hX; go_simp)⟩) ?_
            simp only [Act.put, List.setIfInBounds_toArray, List.set_cons_zero, List.set_cons_succ]
            refine Ht.takeD 12 (i := 28) ⟨some 216, _, _, _, _, _⟩ (.int .i64 pr) rfl (by kernel_rfl) (by kernel_rfl) (by decide) (by kernel_rfl) (by kernel_rfl) (by kernel_rfl) hS0 (Or.inl ⟨by rfl, by (intro X hX; have := (hcs X hX).2.2.1; go_simp)⟩) ?_
            simp only [Act.put, List.setIfInBounds_toArray, List.set_cons_zero, List.set_cons_succ]
            refine Ht.step (i := 25) ⟨some 213, _, _, _, _, _⟩ rfl (by kernel_rfl) (by rfl) (fun K hK => ?_)
            refine Ht.enter 17 #[.pointer (some ⟨rb, 0, none⟩), .int .i64 pr] (by have hen := fun args w => enters_of (P := Try.prog) Try.func17 (by kernel_rfl) rfl args w; go_simp) (hLen _ hS0) ?_
            rintro e Z1 ⟨rfl, hZ1⟩
            obtain rfl := hZ1.symm
            refine ⟨_, rfl, hK _ _ (fun hn => hS0) (fun hnx => ?_)⟩
            clear hK K hnx
            try simp only [Act.put, List.setIfInBounds_toArray, List.set_cons_zero, List.set_cons_succ]
            refine Ht.step (i := 29) ⟨some 217, _, _, _, _, _⟩ rfl (by kernel_rfl) (by rfl) (fun K hK => ?_)
            refine Ht.enter 18 #[.agg #[.int .i64 C0, .int .i64 C1, .int .i64 C2, .int .i64 C3], .int .i64 pr] (by have hen := fun args w => enters_of (P := Try.prog) Try.func18 (by kernel_rfl) rfl args w; go_simp) (hAt _) ?_
            rintro e Z ⟨rfl, bZ⟩
            have bZ' : Below Y.heap.size Y Z := hS0.trans (bZ.mono hS0.size)
            clear bZ
            refine ⟨_, rfl, hK _ _ (fun hn => bZ') (fun hnx => ?_)⟩
            clear hK K hnx
            try simp only [Act.put, List.setIfInBounds_toArray, List.set_cons_zero, List.set_cons_succ]
            refine Ht.step (i := 30) ⟨some 218, _, _, _, _, _⟩ rfl (by kernel_rfl) (by rfl) (fun K hK => ?_)
            go_simp
            refine hK _ _ (fun hn => bZ') (fun hnx => ?_)
            clear hK K hnx
            try simp only [Act.put, List.setIfInBounds_toArray, List.set_cons_zero, List.set_cons_succ]
            refine Ht.step (i := 31) ⟨some 219, _, _, _, _, _⟩ rfl (by kernel_rfl) (by rfl) (fun K hK => ?_)
            go_simp
            refine hK _ _ (fun hn => absurd rfl hn) (fun hnx => ?_)
            clear hK K hnx
            try simp only [Act.put, List.setIfInBounds_toArray, List.set_cons_zero, List.set_cons_succ]
            refine done (by kernel_rfl) ?_
            have H10 := Lib.hid ((H9.out.old bZ').unbox)
            clear bZ' hcs hLen hAt hS0
            go_wp2_with fail
            exact ⟨PJ.mk' _ (j + 1) (D :: Ds) ⟨HR.out.2.2.2.1, HC.out.2.2.1, H10.out⟩ (by kernel_rfl), by have := HR.out.2.2.2.1; simp [PM', RowKit.intOf]; omega⟩
end Go.Proofs.Ytomkefaakgodhaa.Nx
