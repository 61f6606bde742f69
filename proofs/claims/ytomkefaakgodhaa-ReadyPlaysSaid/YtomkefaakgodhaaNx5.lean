
/- who is next: all are told; no row; the example -/
import Derived.Test.YtomkefaakgodhaaNx4
namespace Go.Proofs.Ytomkefaakgodhaa.Nx
open Go.RowKit Go.Lib Go.Sort Go.Shelf Hp HpE Ht Rg
set_option linter.unusedVariables false
set_option linter.unusedSectionVars false
set_option maxRecDepth 20000
attribute [local go_sem] Oper.semAt_some
theorem yield_str (W : World) (lp : Nat) : (binOp .eql 32 (.func (.yield lp) #[] #[]) .nilFunc).run Try.prog W = .ok (.bool false) W := by kernel_rfl
def encK (x : K) : Array Value := #[.string ⟨x.toArray⟩]
theorem tx_at {W : World} {B : Nat} {v : Value} {l : List K} (h : Tx W B v l) : ∃ a cap, v = .slice a l.length cap ∧ l.length ≤ cap ∧ (l ≠ [] → ∃ g, a = some ⟨g, 0, none⟩ ∧ ∀ i, i < l.length → W.cell? ⟨g, i, none⟩ = some (.string ⟨(l.getD i []).toArray⟩)) := by
  have h0 := h
  rcases h.2 with ⟨rfl, e⟩ | ⟨g, cap, cur, rfl, _, h3, h4, _⟩
  · have : l = [] := List.eq_nil_of_length_eq_zero e
    subst this
    exact ⟨none, 0, rfl, Nat.le_refl _, fun e => absurd rfl e⟩
  · refine ⟨_, cap, rfl, h4, fun _ => ⟨g, rfl, fun i hi => ?_⟩⟩
    have := h0.cells rfl i (ek (l.getD i [])) (by rw [List.getElem?_map, List.getD_eq_getElem?_getD, List.getElem?_eq_getElem hi]; rfl)
    have e : (⟨g, 0, none⟩ : Addr).add i = ⟨g, i, none⟩ := by unfold Addr.add; split <;> simp_all
    rw [e] at this
    exact this
theorem names_iter (n n₀ n₁ N B0 B : Nat) (V : World) {v : Value} {l : List K} (hbox : V.cell? ⟨B0, 0, none⟩ = some v) (hB0 : B0 < N) (hB1 : B0 < n₀ ∨ n₁ ≤ B0) (hN : N ≤ V.heap.size) (hown : Tx V B v l) (hnb : ∀ b, v.ownBlock = some b → b < N ∧ (b < n₀ ∨ n₁ ≤ b)) (hl : l.length ≤ 1000000) :
    Iter Fence.wide n Try.prog 30 #[.pointer (some ⟨B0, 0, none⟩)] encK n₀ n₁ N (fun m x _ => m < l.length ∧ x = l.getD m []) (fun m => m = l.length) V := by
  intro lp J W hW hJ hY h0
  have hcell := (hW.cell (p := ⟨B0, 0, none⟩) hB0).trans hbox
  have hownW : Tx W B v l := own_kept hown fun b e => hW.block _ (hnb b e).1
  obtain ⟨a, cap, rfl, hcp, hsh⟩ := tx_at hownW
  have hyn := fun W => yield_str W lp
  have HY := Lib.hid hY
  have H0 := Lib.hid h0
  have HR := Lib.hid (And.intro hnb (And.intro hl (And.intro hsh hcp)))
  clear hN hY hJ h0 hW hbox hown hownW hsh hB0 hB1 hnb hl hcp
  obtain ⟨n', hln⟩ : ∃ n, n = l.length := ⟨_, rfl⟩
  rw [← hln] at hcell
  have HL := Lib.hid hln
  clear hln
  refine callsIn_of_wp Try.func30 rfl trivial ?_ rfl
  simp only [Try.ntmps30, List.size_toArray, List.length_cons, List.length_nil, Nat.reduceAdd, Nat.reduceSub, Array.replicate_succ, Array.replicate_zero, List.push_toArray, List.append_toArray, List.nil_append, List.cons_append]
  gi_wp2_with fail
  gi_loopw [9] (fun i wr => ∃ m : Nat, i = .int .i64 ((m : Nat) : Int) ∧ m ≤ l.length ∧ J m wr ∧ Mid n₀ n₁ N W wr) (fun i _ => l.length - (RowKit.intOf i).toNat)
  case atStart => exact ⟨0, rfl, Nat.zero_le _, H0.out, Mid.refl _ _ _ _⟩
  case round =>
    obtain ⟨m, rfl, hm, hj, hmid⟩ := hrel
    by_cases hlt : m < l.length
    · obtain ⟨g, rfl, hcs⟩ := HR.out.2.2.1 (fun e => by rw [e] at hlt; simp at hlt)
      have hgb := HR.out.1 g (by have h1 := HR.out.2.2.2; obtain ⟨c, rfl⟩ : ∃ c, cap = c + 1 := ⟨cap - 1, by omega⟩; rfl)
      have hkeep : ∀ k, wr.cell? ⟨g, k, none⟩ = W.cell? ⟨g, k, none⟩ := fun k => by unfold World.cell?; rw [hmid.block g hgb.2 hgb.1]
      have k1 := (hkeep _).trans (hcs m hlt)
      obtain ⟨p1, hp1⟩ : ∃ x, x = l.getD m [] := ⟨_, rfl⟩
      rw [← hp1] at k1
      have hltx : ((m : Nat) : Int) < ((n' : Nat) : Int) := by have := HL.out; omega
      obtain ⟨fn, tmps, assign, body, hy, hR⟩ := HY.out m p1 _ hj ⟨hlt, hp1⟩
      dsimp only [encK] at hy
      have HX := Lib.hid (And.intro hj (And.intro hmid (And.intro hlt hm)))
      clear hj hmid hgb hcs hkeep hp1 hm
      gi_wp2_with fail
      refine ⟨(fun h => by cases h), hR.mono ?_⟩
      rintro e W3 ⟨rfl, hJ3, hm3⟩
      have HZ := Lib.hid (And.intro hJ3 hm3)
      clear hJ3 hm3 hR hy
      have hw1 := wrap_succ (m := m) (Nat.le_trans (Nat.le_of_lt HX.out.2.2.1) HR.out.2.1)
      gi_wp2_with fail
      exact ⟨⟨m + 1, by rw [hw1], HX.out.2.2.1, HZ.out.1, HX.out.2.1.trans HZ.out.2⟩, by have := HX.out.2.2.1; rw [hw1]; simp [RowKit.intOf]; omega⟩
    · have hltx : ((n' : Nat) : Int) ≤ ((m : Nat) : Int) := by have := HL.out; omega
      have hme : m = l.length := by omega
      have HX := Lib.hid (And.intro hj hme)
      clear hj hme hmid hlt hm
      gi_wp2_with fail
      go_end0
      exact ⟨⟨_, rfl⟩, m, HX.out.2, HX.out.1⟩
/-! ## no row -/
theorem lineOf_nil (w : World) (kv : Value) : Calls Try.prog 21 #[.pointer none, kv] w fun e w' => e = .returned (.pointer none) ∧ w' = w := by
  go_enter Try.func21, Try.ntmps21
  go_wp2_with fail
  go_ret
  exact ⟨rfl, rfl⟩
theorem first_nilrow (w : World) : Calls Try.prog 26 #[.pointer none] w fun e w' => e = .returned (.pointer none) ∧ w' = w := by
  go_enter Try.func26, Try.ntmps26
  go_wp2_with fail
  go_ret
  exact ⟨rfl, rfl⟩
theorem Has_nil (w : World) (kv : Value) : Calls Try.prog 9 #[.pointer none, kv] w fun e w' => e = .returned (.bool false) ∧ w' = w := by
  have h := lineOf_nil w kv
  go_enter Try.func9, Try.ntmps9
  go_wp2_with fail
  refine h.mono ?_
  rintro e w1 ⟨rfl, rfl⟩
  clear h
  go_wp2_with fail
  go_ret
  exact ⟨rfl, rfl⟩
theorem place_nilv (w : World) (kv : Value) : Calls Try.prog 34 #[.pointer none, kv] w fun e w' => e = .returned (.tuple #[.int .i64 0, .bool false]) ∧ w' = w := by
  go_enter Try.func34, Try.ntmps34
  go_wp2_with fail
  refine bodyPost_ret (results_tmp2 rfl _ _ _) rfl ?_
  exact ⟨by simp, rfl⟩
theorem cut_nilv (w : World) (kv : Value) : Calls Try.prog 25 #[.pointer none, kv] w fun e w' => e = .returned (.bool false) ∧ w' = w := by
  have hp := place_nilv w kv
  go_enter Try.func25, Try.ntmps25
  go_wp2_with fail
  refine hp.mono ?_
  rintro e w1 ⟨rfl, rfl⟩
  go_wp2_with fail
  go_ret
  exact ⟨by simp, rfl⟩
theorem Cut_nil (w : World) (kv : Value) : Calls Try.prog 11 #[.pointer none, kv] w fun e w' => e = .returned (.bool false) ∧ w' = w := by
  have h := lineOf_nil w kv
  have h2 := cut_nilv w kv
  go_enter Try.func11, Try.ntmps11
  go_wp2_with fail
  refine h.mono ?_
  rintro e w1 ⟨rfl, rfl⟩
  clear h
  go_wp2_with fail
  refine h2.mono ?_
  rintro e w1 ⟨rfl, rfl⟩
  clear h2
  go_wp2_with fail
  go_ret
  exact ⟨rfl, rfl⟩
theorem Put_nil (w : World) (kv qv rv : Value) : Calls Try.prog 10 #[.pointer none, kv, qv, rv] w fun e w' => e = .returned (.int .i64 1) ∧ w' = w := by
  go_enter Try.func10, Try.ntmps10
  go_wp2_with fail
  go_ret
  exact ⟨rfl, rfl⟩
theorem Len_nil (w : World) (qv : Value) : Calls Try.prog 17 #[.pointer none, qv] w fun e w' => e = .returned (.int .i64 0) ∧ w' = w := by
  go_enter Try.func17, Try.ntmps17
  go_wp2_with fail
  go_ret
  exact ⟨rfl, rfl⟩
theorem Copy_nil (w : World) : Calls Try.prog 14 #[.pointer none] w fun e w' => e = .returned (.pointer none) ∧ w' = w := by
  go_enter Try.func14, Try.ntmps14
  go_wp2_with fail
  go_ret
  exact ⟨rfl, rfl⟩
theorem Next_nil (w : World) : Calls Try.prog 16 #[.pointer none] w fun e w' => e = .returned (.tuple #[.string ⟨#[]⟩, .bool false]) ∧ Below w.heap.size w w' := by
  have hL := first_nilrow w
  have hF := first_none w
  unfold none0 at hF
  go_enter Try.func16, Try.ntmps16
  go_wp2_with fail
  refine hL.mono ?_
  rintro e w1 ⟨rfl, rfl⟩
  clear hL
  go_wp2_with fail
  refine hF.mono ?_
  rintro e w2 ⟨rfl, hb⟩
  have HB := Lib.hid hb
  clear hF hb
  go_wp2_with fail
  refine bodyPost_ret (results_tmp2 rfl _ _ _) rfl ?_
  exact ⟨rfl, (HB.out.trans ((Below.refl _ _).alloc (Nat.le_refl _) _ |>.mono HB.out.size))⟩
theorem Take_nil (w : World) : Calls Try.prog 12 #[.pointer none] w fun e w' => e = .returned (.tuple #[.string ⟨#[]⟩, .bool false]) ∧ Below w.heap.size w w' := by
  have hL := first_nilrow w
  have hF := pop_none w
  unfold none0 at hF
  go_enter Try.func12, Try.ntmps12
  go_wp2_with fail
  refine hL.mono ?_
  rintro e w1 ⟨rfl, rfl⟩
  clear hL
  go_wp2_with fail
  refine hF.mono ?_
  rintro e w2 ⟨rfl, hb⟩
  have HB := Lib.hid hb
  clear hF hb
  go_wp2_with fail
  refine bodyPost_ret (results_tmp2 rfl _ _ _) rfl ?_
  exact ⟨rfl, (HB.out.trans ((Below.refl _ _).alloc (Nat.le_refl _) _ |>.mono HB.out.size))⟩
theorem leave0 {n : Nat} {fn : Func} {tmps : Array Value} {r : Nat} {v : Value} {X : World} {R : Ending → World → Prop} (hres : fn.results = #[.tmp r]) (ht : tmps.getD r undef = v) (hR : R (.returned v) X) : LeavesInM Fence.wide n Try.prog fn tmps R [] .returning X :=
  ⟨v, by rw [results_tmp hres, ht], hR⟩
theorem All_nil (w : World) : Calls Try.prog 15 #[.pointer none] w fun e w' => e = .returned (.func (.func 30) #[] #[.pointer (some ⟨w.heap.size, 0, none⟩)]) ∧ w' = w.alloc (.cells #[.slice none 0 0] 66) := by
  refine (callsIn_wide (n := 3)).1 ?_
  refine callsIn_of_wp_marks Try.func15 rfl trivial ?_ rfl
  simp only [Try.ntmps15, List.size_toArray, List.length_cons, List.length_nil, Nat.reduceAdd, Nat.reduceSub, Array.replicate_succ, Array.replicate_zero, List.push_toArray, List.append_toArray, List.nil_append, List.cons_append]
  refine wpIn_wide.2 ?_
  go_wp2_with fail
  exact leave0 rfl rfl ⟨rfl, rfl⟩
/-! ## the example -/
set_option maxHeartbeats 1000000 in
theorem lives15_any (w : World) : Calls Try.prog 6 #[] w fun e w' => e = .returned (.bool true) ∧ Below w.heap.size w w' := by
  have hN := new_row w
  go_enter Try.func6, Try.ntmps6
  go_wp2_with fail
  refine hN.mono ?_
  rintro e w1 ⟨rfl, h1, b1⟩
  have hP1 := h1.Put_ok (k := [98]) (by unfold wk; decide) 1 (q := 1) (by omega) (by simp) (by simp)
  have B1 := Lib.hid b1
  clear hN b1 h1
  unfold ek er at hP1
  go_wp2_with fail
  refine hP1.mono ?_
  rintro e w2 ⟨rfl, S2, h2, f2, s2⟩
  have hP2 := h2.Put_ok (k := [97]) (by unfold wk; decide) 2 (q := 0) (by omega) (by simp) (by simp)
  have B2 := Lib.hid (And.intro (B1.out.trans (f2.below B1.out.size fun k hk => Nat.le_of_eq hk.symm)) (fun k (hk : S2 k) => (s2 k hk).elim (fun e => Nat.le_of_eq e.symm) (Nat.le_trans B1.out.size)))
  clear hP1 f2 s2 h2
  unfold ek er at hP2
  go_wp2_with fail
  refine hP2.mono ?_
  rintro e w3 ⟨rfl, S3, h3, f3, s3⟩
  have hT1 := h3.Take_yes (by simp) (by simp)
  have B3 := Lib.hid (And.intro (B2.out.1.trans (f3.below B2.out.1.size fun k hk => B2.out.2 k hk)) (fun k (hk : S3 k) => (s3 k hk).elim (fun e => B2.out.2 k e) (Nat.le_trans B2.out.1.size)))
  clear hP2 f3 s3 h3
  go_wp2_with fail
  refine hT1.mono ?_
  rintro e w4 ⟨x, hx, rfl, S4, h4, f4, s4⟩
  obtain rfl : x = ([97], 0, 2) := hx.one ⟨by simp, fun y hy => by
    simp at hy
    rcases hy with rfl | rfl <;> simp [ah, ltp]⟩
  have hT2 := h4.Take_yes (by simp [Nx.del]) (by simp [Nx.del])
  have B4 := Lib.hid (And.intro (B3.out.1.trans (f4.below B3.out.1.size fun k hk => B3.out.2 k hk)) (fun k (hk : S4 k) => (s4 k hk).elim (fun e => B3.out.2 k e) (Nat.le_trans B3.out.1.size)))
  clear hT1 f4 s4 h4 hx
  unfold ek
  go_wp2_with fail
  refine hT2.mono ?_
  rintro e w5 ⟨x, hx, rfl, S5, h5, f5, s5⟩
  obtain rfl : x = ([98], 1, 1) := hx.one ⟨by simp [Nx.del], fun y hy => by
    simp [Nx.del] at hy
    subst hy
    simp [ah, ltp]⟩
  have B5 := Lib.hid (B4.out.1.trans (f5.below B4.out.1.size fun k hk => B4.out.2 k hk))
  clear hT2 f5 s5 h5 hx
  unfold ek
  go_wp2_with fail
  go_ret
  exact ⟨rfl, B5.out⟩
end Go.Proofs.Ytomkefaakgodhaa.Nx
