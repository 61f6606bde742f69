
/- quotas: a ledger behind a block; the chapter's example; a law's names -/
import Derived.Test.YthbpgdeaaadlbaaQt5
import Derived.ProofKit
import Derived.Lib.BufferRead
namespace Go.Proofs.Ythbpgdeaaadlbaa.Qt
open Go.RowKit Go.Lib Go.Maps Go.WideElems Go.ChangeMaps Go.MapKept Hp
set_option linter.unusedVariables false
set_option linter.unusedSectionVars false
set_option maxRecDepth 20000
/-- a ledger that lies from block B on; below all is as in w -/
def Li (B : Nat) (w W : World) (lb : Nat) (ea : Int) (nm c : Nat) (M H : K → Option Int) : Prop :=
  ∃ S, Lv S W lb ea nm c M H ∧ (∀ k, S k → B ≤ k) ∧ Below B w W ∧ B ≤ W.heap.size
section
variable {B : Nat} {w W : World} {lb : Nat} {ea : Int} {nm c : Nat} {M H : K → Option Int}
theorem Li.to {S : Nat → Prop} {W' : World} {nm' c' : Nat} {M' H' : K → Option Int} (hS : ∀ k, S k → B ≤ k) (hb : Below B w W) (hB : B ≤ W.heap.size) (t : To S W W' lb ea nm' c' M' H') : Li B w W' lb ea nm' c' M' H' := by
  obtain ⟨S', h1, h2, h3⟩ := t
  refine ⟨S', h1, fun k hk => ?_, ?_, Nat.le_trans hB h2.size⟩
  · rcases h3 k hk with h | h
    · exact hS k h
    · exact Nat.le_trans hB h
  · exact hb.trans (h2.below hB hS)
theorem Li.grow {W' : World} (h : Li B w W lb ea nm c M H) (b : Below W.heap.size W W') : Li B w W' lb ea nm c M H := by
  obtain ⟨S, h1, h2, h3, h4⟩ := h
  exact ⟨S, h1.below b (Nat.le_refl _), h2, h3.trans (b.mono h4), Nat.le_trans h4 b.size⟩
theorem Li.below (h : Li B w W lb ea nm c M H) : Below B w W := by obtain ⟨S, h1, h2, h3, h4⟩ := h; exact h3
theorem Li.has_bd (h : Li B w W lb ea nm c M H) (k : K) : 0 ≤ Qt.has H k ∧ Qt.has H k ≤ 128 := by obtain ⟨S, h1, h2, h3, h4⟩ := h; exact ⟨(h1.has_bd k).1, (h1.has_bd k).2.1⟩
theorem Li.Has (h : Li B w W lb ea nm c M H) (k : K) (hk : wk k) : Calls Try.prog 13 #[.pointer (some ⟨lb, 0, none⟩), .string ⟨k.toArray⟩] W fun e w' => e = .returned (.int .i64 (has H k)) ∧ w' = W := by
  obtain ⟨S, h1, h2, h3, h4⟩ := h; exact h1.Has k hk
theorem Li.May (h : Li B w W lb ea nm c M H) (k : K) (hk : wk k) : Calls Try.prog 14 #[.pointer (some ⟨lb, 0, none⟩), .string ⟨k.toArray⟩] W fun e w' => e = .returned (.int .i64 (may ea M k)) ∧ w' = W := by
  obtain ⟨S, h1, h2, h3, h4⟩ := h; exact h1.May k hk
theorem Li.Take_ok (h : Li B w W lb ea nm c M H) (k : K) (hk : wk k) (hq : has H k < may ea M k) (hc : c ≤ 1000000) : Calls Try.prog 10 #[.pointer (some ⟨lb, 0, none⟩), .string ⟨k.toArray⟩] W fun e w' => e = .returned (.int .i64 0) ∧
    Li B w w' lb ea nm (c + 1) M (Hp.upd H k (has H k + 1)) := by
  obtain ⟨S, h1, h2, h3, h4⟩ := h
  exact (Qt.Take_ok h1 k hk hq hc).mono fun e w' ⟨he, t⟩ => ⟨he, Li.to h2 h3 h4 t⟩
theorem Li.Take_no (h : Li B w W lb ea nm c M H) (k : K) (hk : wk k) (hq : may ea M k ≤ has H k) : Calls Try.prog 10 #[.pointer (some ⟨lb, 0, none⟩), .string ⟨k.toArray⟩] W fun e w' => e = .returned (.int .i64 14) ∧ w' = W := by
  obtain ⟨S, h1, h2, h3, h4⟩ := h; exact Qt.Take_no h1 k hk hq
theorem Li.Give_ok (h : Li B w W lb ea nm c M H) (k : K) (hk : wk k) (hq : has H k ≠ 0) (hc : c ≤ 1000000) : Calls Try.prog 11 #[.pointer (some ⟨lb, 0, none⟩), .string ⟨k.toArray⟩] W fun e w' => e = .returned (.int .i64 0) ∧
    Li B w w' lb ea nm c M (less H k) := by
  obtain ⟨S, h1, h2, h3, h4⟩ := h
  exact (Qt.Give_ok h1 k hk hq hc).mono fun e w' ⟨he, t⟩ => ⟨he, Li.to h2 h3 h4 t⟩
theorem New_li (n : Int) (hn : 0 ≤ n ∧ n ≤ 128) (w W : World) (hb : Below B w W) (hB : B ≤ W.heap.size) : Calls Try.prog 7 #[.int .i64 n] W fun e w' => e = .returned (.tuple #[.pointer (some ⟨W.heap.size, 0, none⟩), .int .i64 0]) ∧
    Li B w w' W.heap.size n 0 0 (fun _ => none) (fun _ => none) :=
  (New_ok n hn W).mono fun e w' ⟨he, q, b⟩ => ⟨he, _, ⟨_, _, _, q, Nat.le_refl _⟩, (fun k e => by omega), hb.trans (b.mono hB), Nat.le_trans hB b.size⟩
theorem lives13_any (w : World) : Calls Try.prog 6 #[] w fun e w' => e = .returned (.bool true) ∧ Below w.heap.size w w' := by
  have hN := New_li 2 (by omega) w w (Below.refl _ w) (Nat.le_refl _)
  have hk : wk [97] := by unfold wk maxLen; simp
  go_enter Try.func6, Try.ntmps6
  go_wp2_with fail
  refine hN.mono ?_
  rintro e W1 ⟨rfl, q1⟩
  have hT1 := q1.Take_ok [97] hk (by unfold has may; simp) (by omega)
  clear hN q1
  go_wp2_with fail
  refine hT1.mono ?_
  rintro e W2 ⟨rfl, q2⟩
  have hT2 := q2.Take_ok [97] hk (by rw [has_upd]; unfold has may; simp) (by omega)
  clear hT1 q2
  go_wp2_with fail
  refine hT2.mono ?_
  rintro e W3 ⟨rfl, q3⟩
  have hT3 := q3.Take_no [97] hk (by rw [has_upd, has_upd]; unfold has may; simp)
  clear hT2
  have H3 := Lib.hid q3
  clear q3
  go_wp2_with fail
  refine hT3.mono ?_
  rintro e W4 ⟨rfl, rfl⟩
  have hH := H3.out.Has [97] hk
  rw [has_upd, if_pos rfl, has_upd, if_pos rfl, show has (fun _ => none) [97] + 1 + 1 = 2 by rfl] at hH
  have H4 := Lib.hid H3.out.below
  clear hT3 H3
  go_wp2_with fail
  refine hH.mono ?_
  rintro e W5 ⟨rfl, rfl⟩
  go_wp2_with fail
  go_ret
  exact ⟨rfl, H4.out⟩
end
/-- a law's name -/
def nm13 (n : Nat) : K := [UInt8.ofNat (97 + n % 5)]
theorem nm13_wk (n : Nat) : wk (nm13 n) := by unfold wk nm13 maxLen; simp
theorem name13_any (n : Nat) (hn : n < 256) (w : World) : Calls Try.prog 16 #[.int .u8 ((n : Nat) : Int)] w fun e w' => e = .returned (.string ⟨(nm13 n).toArray⟩) ∧ Below w.heap.size w w' := by
  have q1 : ((n : Nat) : Int).tmod 5 = ((n % 5 : Nat) : Int) := by rw [Int.tmod_eq_emod_of_nonneg (by omega)]; omega
  have b1 : n % 5 < 5 := by omega
  unfold nm13
  generalize n % 5 = b at *
  have u1 : IntKind.u8.wrap ((b : Nat) : Int) = ((b : Nat) : Int) := IntWalk.u8_in _ (by omega)
  have v1 : IntKind.u8.wrap (97 + ((b : Nat) : Int)) = 97 + ((b : Nat) : Int) := IntWalk.u8_in _ (by omega)
  obtain ⟨c1, hc1⟩ : ∃ c, c = UInt8.ofNat (97 + b) := ⟨_, rfl⟩
  rw [← hc1]
  have e1 : 97 + ((b : Nat) : Int) = ((c1.toNat : Nat) : Int) := by rw [hc1, UInt8.toNat_ofNat']; omega
  obtain ⟨A1, hA1⟩ : ∃ x : Int, x = ((c1.toNat : Nat) : Int) := ⟨_, rfl⟩
  rw [e1, ← hA1] at v1
  have hcv : (convert 41 9 (.slice (some ⟨w.heap.size, 0, none⟩) 1 1)).run Try.prog (w.alloc (.cells #[.int .u8 A1] 5)) = .ok (.string ⟨[c1].toArray⟩) (w.alloc (.cells #[.int .u8 A1] 5)) := by
    refine run_convert_bytes_back (w.alloc (.cells #[.int .u8 A1] 5)) 41 9 5 ⟨w.heap.size, 0, none⟩ 1 [c1] Try.underlying41 Try.underlying5 Try.underlying9 (fun j hj => ?_)
    have ho := (MapKept.heap_alloc w (.cells #[.int .u8 A1] 5)).1
    match j, hj with
    | 0, _ =>
      simp only [Addr.add]
      rw [hA1]
      simp
  rw [← e1] at hA1
  clear hc1 e1
  generalize ((b : Nat) : Int) = a1 at *
  generalize ((n : Nat) : Int) = I at *
  have h1 : 97 + a1 = A1 := hA1.symm
  clear hA1 b1 hn
  go_enter Try.func16, Try.ntmps16
  go_wp2_with fail
  go_ret
  exact ⟨rfl, (Below.refl _ _).alloc (Nat.le_refl _) _⟩
end Go.Proofs.Ythbpgdeaaadlbaa.Qt
