
/- heaps of string and uint64: compare, place, above, Len, New -/
import Derived.Test.YtomkefaakgodhaaHpBE
import Derived.Sort.Grow
import Derived.Shelf.Abstract
namespace Go.Proofs.Ytomkefaakgodhaa.HpE
open Go.RowKit Go.Lib Go.Sort Hp
set_option linter.unusedVariables false

/-- less, equal, greater -/
def cm {V : Type} [LT V] [DecidableLT V] (x y : V) : Int := if x < y then -1 else if y < x then 1 else 0

theorem nanK_any (x : List UInt8) (w : World) : Calls Try.prog 58 #[ek x] w fun e w' => e = .returned (.bool false) ∧ w' = w := by
  unfold ek
  go_enter Try.func58, Try.ntmps58
  go_wp2
  go_ret
  exact ⟨by simp, rfl⟩
theorem cmpK_any (x y : List UInt8) (w : World) : Calls Try.prog 53 #[ek x, ek y] w fun e w' => e = .returned (.int .i64 (cm x y)) ∧ w' = w := by
  have h1 := nanK_any x w
  have h2 := nanK_any y w
  have e1 : Op.bytesLess x y = decide (x < y) := bytesLess_eq x y
  have hgt : ∀ W, (binOp .gtr 9 (.string ⟨x.toArray⟩) (.string ⟨y.toArray⟩)).run Try.prog W = .ok (.bool (decide (y < x))) W := gtr_str x y
  unfold ek at *
  go_enter Try.func53, Try.ntmps53
  go_wp2_with fail
  refine h1.mono ?_
  rintro e w1 ⟨rfl, rfl⟩
  go_wp2_with fail
  refine h2.mono ?_
  rintro e w1 ⟨rfl, rfl⟩
  go_wp2_with fail
  all_goals
    go_ret
    refine ⟨?_, rfl⟩
    unfold cm
    first | (simp_all; done) | (simp_all [bytesLess_eq]; done) | (simp; rw [if_neg (by omega), if_neg (by omega)])

theorem nanR_any (x : Int) (w : World) : Calls Try.prog 57 #[er x] w fun e w' => e = .returned (.bool false) ∧ w' = w := by
  unfold er
  go_enter Try.func57, Try.ntmps57
  go_wp2
  go_ret
  exact ⟨by simp, rfl⟩
theorem cmpR_any (x y : Int) (w : World) : Calls Try.prog 52 #[er x, er y] w fun e w' => e = .returned (.int .i64 (cm x y)) ∧ w' = w := by
  have h1 := nanR_any x w
  have h2 := nanR_any y w
  unfold er at *
  go_enter Try.func52, Try.ntmps52
  go_wp2_with fail
  refine h1.mono ?_
  rintro e w1 ⟨rfl, rfl⟩
  go_wp2_with fail
  refine h2.mono ?_
  rintro e w1 ⟨rfl, rfl⟩
  go_wp2_with fail
  all_goals
    go_ret
    refine ⟨?_, rfl⟩
    unfold cm
    first | (simp_all; done) | fail | (simp; rw [if_neg (by omega), if_neg (by omega)])

theorem cfp_cm (x y : K × Int) : cfp x y = if cm x.2 y.2 = 0 then cm x.1 y.1 else cm x.2 y.2 := by
  unfold cfp cm
  by_cases h1 : x.2 < y.2
  · simp [h1]
  · by_cases h2 : y.2 < x.2
    · simp [h1, h2]
    · simp [h1, h2]
theorem compare_any (x y : K × Int) (w : World) : Calls Try.prog 42 #[.agg #[ek x.1, er x.2], .agg #[ek y.1, er y.2]] w fun e w' =>
    e = .returned (.int .i64 (cfp x y)) ∧ ∃ q os, w' = grow (w.drewN q) os := by
  have hR := fun W => cmpR_any x.2 y.2 W
  have hK := fun W => cmpK_any x.1 y.1 W
  rw [cfp_cm]
  generalize ek x.1 = kx at *
  generalize ek y.1 = ky at *
  generalize er x.2 = rx at *
  generalize er y.2 = ry at *
  generalize cm x.1 y.1 = ck at *
  generalize cm x.2 y.2 = cr at *
  go_enter Try.func42, Try.ntmps42
  go_wp2_with fail
  refine (hR _).mono ?_
  rintro e w1 ⟨rfl, rfl⟩
  by_cases h0 : cr = 0
  · subst h0
    go_wp2_with fail
    refine (hK _).mono ?_
    rintro e w1 ⟨rfl, rfl⟩
    go_wp2_with fail
    go_ret
    exact ⟨by simp, 0, _, by rw [alloc_eq_grow, alloc_eq_grow, grow_grow]; rfl⟩
  · go_wp2_with fail
    go_ret
    exact ⟨by simp, 0, _, by rw [alloc_eq_grow, alloc_eq_grow, grow_grow]; rfl⟩
theorem grow_below (w : World) (os : Array Obj) (q : Nat) : Below w.heap.size w (grow (w.drewN q) os) :=
  ⟨rfl, rfl, rfl, by simp [grow, World.drewN], fun k hk => by simp [grow, World.drewN, Array.getElem?_append, hk]⟩
theorem above_any (i : Nat) (w : World) (hi : 0 < i) (hi2 : i ≤ 1000000) : Calls Try.prog 45 #[.int .i64 ((i : Nat) : Int)] w fun e w' => e = .returned (.int .i64 ((par i : Nat) : Int)) ∧ w' = w := by
  have h1 : IntKind.i64.wrap (((i : Nat) : Int) - 1) = ((i - 1 : Nat) : Int) := by rw [IntWalk.i64_in] <;> omega
  have h3 : wrap64 ((par i : Nat) : Int) = ((par i : Nat) : Int) := by have : par i ≤ 1000000 := by { unfold par; omega }
                                                                       unfold wrap64; omega
  have h2 : (((i - 1 : Nat) : Int)).tdiv 2 = ((par i : Nat) : Int) := by unfold par; rw [Int.tdiv_eq_ediv_of_nonneg (by omega)]; omega
  generalize ((i : Nat) : Int) = I at *
  generalize ((par i : Nat) : Int) = R at *
  generalize ((i - 1 : Nat) : Int) = I1 at *
  go_enter Try.func45, Try.ntmps45
  go_wp2_with fail
  go_ret
  exact ⟨by simp_all, rfl⟩
section
variable {S : Nat → Prop} {w : World} {hb : Nat} {iv mv : Value} {l : List (K × Int)} {f : K → Option Nat}
theorem len_any (h : Hq S w hb iv mv l f) : Calls Try.prog 32 #[.pointer (some ⟨hb, 0, none⟩)] w fun e w' => e = .returned (.int .i64 ((l.length : Nat) : Int)) ∧ w' = w := by
  have hi := h.items
  obtain ⟨a, cap, rfl, hc⟩ := h.shape
  clear h
  generalize l.length = n at *
  go_enter Try.func32, Try.ntmps32
  go_wp2_with fail
  go_ret
  exact ⟨by simp, rfl⟩
theorem place_any (h : Hq S w hb iv mv l f) {k : K} (hk : wk k) : Calls Try.prog 34 #[.pointer (some ⟨hb, 0, none⟩), ek k] w fun e w' =>
    e = .returned (.tuple #[.int .i64 (((f k).getD 0 : Nat) : Int), .bool (f k).isSome]) ∧ w' = w := by
  have hp := h.places
  have hl : (Instr.lookup 74 mv (ek k) true).run Try.prog w = .ok (.tuple #[.int .i64 (((f k).getD 0 : Nat) : Int), .bool (f k).isSome]) w := by
    rcases h.map with ⟨rfl, rfl⟩ | ⟨b, rfl, hM⟩
    · have hn : f k = none := by
        cases e : f k with
        | none => rfl
        | some i => have := ((h.pl k i).1 e).1; simp at this
      rw [hn]
      exact look_nil kind w hk
    · have := hM.look kind rfl hk
      rw [mf_some] at this
      rw [this]
      unfold mf
      cases f k <;> rfl
  clear h
  generalize ek k = kv at *
  generalize (f k).getD 0 = m at *
  generalize (f k).isSome = b at *
  go_enter Try.func34, Try.ntmps34
  go_wp2_with fail
  refine bodyPost_ret (results_tmp2 rfl _ _ _) rfl ?_
  exact ⟨by simp, rfl⟩
end
theorem new_any (w : World) : Calls Try.prog 23 #[] w fun e w' => e = .returned (.pointer (some ⟨w.heap.size, 0, none⟩)) ∧ Hq (fun k => k = w.heap.size) w' w.heap.size (.slice none 0 0) (.map none) [] (fun _ => none) ∧ Below w.heap.size w w' := by
  go_enter Try.func23, Try.ntmps23
  go_wp2_with fail
  go_ret
  refine ⟨by simp, ⟨?_, .inl ⟨rfl, none, rfl⟩, .inl ⟨rfl, rfl⟩, fun k i => ?_, by simp, rfl, fun b e => (by cases e), fun b e => (by cases e), fun k hk => (by simp [hk])⟩, (Below.refl _ w).alloc (Nat.le_refl _) _⟩
  · exact (MapKept.heap_alloc w _).1
  · simp
end Go.Proofs.Ytomkefaakgodhaa.HpE

