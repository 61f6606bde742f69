
/- the law's first and find -/
import Derived.Test.YtcafiehlhdoibaaWh19
namespace Go.Proofs.Ytcafiehlhdoibaa.Wh
open Go.RowKit Go.Lib Go.Sort Go.Maps Hp Ht
set_option linter.unusedVariables false
set_option maxRecDepth 20000
theorem find_any (X : World) {v : Value} {l : List (K × Int)} (h : Src X v l) (hl : l.length ≤ 1000000) (k : K) :
    Calls Try.prog 16 #[v, ek k] X fun e Y => Y = X ∧ ((∃ i : Nat, i < l.length ∧ (el l i).1 = k ∧ e = .returned (.int .i64 ((i : Nat) : Int))) ∨ (k ∉ l.map (·.1) ∧ e = .returned (.int .i64 (-1)))) := by
  obtain ⟨a1, c1, rfl⟩ := h.shape
  obtain ⟨n, hn⟩ : ∃ n, n = l.length := ⟨_, rfl⟩
  have HS := Lib.hid (And.intro h (And.intro hl hn))
  rw [← hn]
  clear h hl hn
  unfold ek
  go_enter Try.func16, Try.ntmps16
  go_wp2_with fail
  go_loopw [8] (fun cv wr => ∃ (i : Nat), cv = .int .i64 ((i : Nat) : Int) ∧ i ≤ n ∧ wr = X ∧ ∀ j, j < i → (el l j).1 ≠ k) (fun cv _ => n - (RowKit.intOf cv).toNat)
  case atStart => exact ⟨0, rfl, Nat.zero_le _, rfl, fun j hj => by omega⟩
  case round =>
    obtain ⟨i, hcv, hin, hwr, hno⟩ := hrel
    subst hcv hwr
    by_cases hix : i < n
    · obtain ⟨ha, hl, hn⟩ := HS.out
      have hil : i < l.length := by omega
      obtain ⟨g1, e1, k1⟩ : ∃ g, a1 = some ⟨g, 0, none⟩ ∧ wr.cell? ⟨g, i * 2, none⟩ = some (ek (el l i).1) := by
        rcases ha with ⟨h1, _⟩ | ⟨g, c, h1, h2⟩
        · rw [h1] at hil; simp at hil
        · cases h1; exact ⟨g, rfl, (h2 i hil).1⟩
      subst e1
      obtain ⟨x, hx⟩ : ∃ x, x = (el l i).1 := ⟨_, rfl⟩
      rw [← hx] at k1
      have hic : ((i : Nat) : Int) < ((n : Nat) : Int) := by omega
      have hi0 : (0 : Int) ≤ ((i : Nat) : Int) := by omega
      have hi4 : ((i : Nat) : Int) ≤ 1000000 := by omega
      have HI := Lib.hid (And.intro hix (And.intro hno (And.intro hx hil)))
      unfold ek at k1
      clear ha hl hn hil hin hix hno hx
      by_cases hxk : x = k
      · subst hxk
        go_wp2_with fail
        go_ret
        exact ⟨rfl, .inl ⟨i, HI.out.1, HI.out.2.2.1.symm, by simp⟩⟩
      · have HX := Lib.hid hxk
        have hxb : (x == k) = false := by simp [hxk]
        go_wp2_with fail
        go_roundw
        case rel => exact ⟨i + 1, by simp, HI.out.1, trivial, fun j hj => by
          by_cases e : j = i
          · subst e; rw [← HI.out.2.2.1]; exact HX.out
          · exact HI.out.2.1 j (by omega)⟩
        case measure => have := HI.out.1; simp [RowKit.intOf]; omega
    · have hie : n = i := by omega
      subst hie
      have HN := Lib.hid hno
      clear hno
      go_wp2_with fail
      go_ret
      refine ⟨rfl, .inr ⟨fun hm => ?_, by simp⟩⟩
      obtain ⟨p, hp, e⟩ := List.mem_map.1 hm
      obtain ⟨j, hj, rfl⟩ := mem_el hp
      exact HN.out j (by have := HS.out.2.2; omega) e
theorem first_any (w : World) (x y : K × Int) : Calls Try.prog 24 #[.agg #[ek x.1, er x.2], .agg #[ek y.1, er y.2]] w fun e w' => e = .returned (.bool (ltp x y)) ∧ Below w.heap.size w w' := by
  obtain ⟨xk, xr⟩ := x
  obtain ⟨yk, yr⟩ := y
  have hbl : Op.bytesLess xk yk = decide (xk < yk) := bytesLess_eq xk yk
  unfold ltp
  dsimp only
  unfold ek er
  generalize decide (xk < yk) = d at *
  by_cases h1 : xr < yr
  · rw [decide_eq_true h1, Bool.true_or]
    go_enter Try.func24, Try.ntmps24
    go_wp2_with fail
    go_ret
    exact ⟨by simp, ((Below.refl _ w).alloc (Nat.le_refl _) _).alloc (by simp) _⟩
  · rw [decide_eq_false h1, Bool.false_or]
    by_cases h2 : xr = yr
    · subst h2
      rw [decide_eq_true rfl, Bool.true_and]
      go_enter Try.func24, Try.ntmps24
      go_wp2_with fail
      go_ret
      exact ⟨by simp, ((Below.refl _ w).alloc (Nat.le_refl _) _).alloc (by simp) _⟩
    · rw [decide_eq_false h2, Bool.false_and]
      go_enter Try.func24, Try.ntmps24
      go_wp2_with fail
      go_ret
      exact ⟨by simp, ((Below.refl _ w).alloc (Nat.le_refl _) _).alloc (by simp) _⟩
end Go.Proofs.Ytcafiehlhdoibaa.Wh
