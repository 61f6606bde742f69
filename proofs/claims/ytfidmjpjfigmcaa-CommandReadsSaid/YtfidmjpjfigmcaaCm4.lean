
/- members: who may be some; as bytes, the document's -/
import Derived.Test.YtfidmjpjfigmcaaCmPI
import Derived.Test.YtfidmjpjfigmcaaCmGI
namespace Go.Proofs.Ytfidmjpjfigmcaa.Cm
open Go.RowKit Go.Lib Wn Rf By
set_option linter.unusedVariables false
set_option maxRecDepth 20000
/-- nodes that rise from above p on, none above 7 -/
def memR : Int → List Int → Bool
  | _, [] => true
  | p, n :: r => decide (p < n) && decide (n ≤ 7) && memR n r
def areM (l : List Int) : Bool := memR 0 l && decide (0 < l.length)
def memB (l : List Int) : List UInt8 := uvarint l.length ++ l.flatMap ie
theorem memR_all : ∀ {p : Int} {l : List Int}, memR p l = true → 0 ≤ p → ∀ x ∈ l, p < x ∧ x ≤ 7
  | p, [], _, _, x, hx => by simp at hx
  | p, n :: r, h, hp, x, hx => by
    simp only [memR, Bool.and_eq_true, decide_eq_true_eq] at h
    rcases List.mem_cons.1 hx with rfl | hx
    · exact h.1
    · have := memR_all h.2 (by omega) x hx
      omega
theorem memR_len : ∀ {p : Int} {l : List Int}, memR p l = true → 0 ≤ p → (l.length : Int) ≤ max (7 - p) 0
  | p, [], _, _ => by simp; omega
  | p, n :: r, h, hp => by
    simp only [memR, Bool.and_eq_true, decide_eq_true_eq] at h
    have := memR_len h.2 (by omega)
    simp only [List.length_cons]
    omega
theorem areM_len {l : List Int} (h : areM l = true) : l.length ≤ 7 ∧ 0 < l.length := by
  unfold areM at h
  simp only [Bool.and_eq_true, decide_eq_true_eq] at h
  have := memR_len h.1 (by omega)
  exact ⟨by omega, h.2⟩
theorem areM_all {l : List Int} (h : areM l = true) : ∀ x ∈ l, 0 < x ∧ x ≤ 7 := by
  unfold areM at h
  simp only [Bool.and_eq_true, decide_eq_true_eq] at h
  exact memR_all h.1 (by omega)
theorem drop_next {E : Type} {l : List E} {k : Nat} (h : k < l.length) : l.drop k = l[k] :: l.drop (k + 1) := List.drop_eq_getElem_cons h
theorem flat_small : ∀ {l : List Int}, (∀ x ∈ l, 0 < x ∧ x ≤ 7) → (l.flatMap ie).length = l.length
  | [], _ => rfl
  | x :: l, h => by
    have h1 := h x (by simp)
    have e : ie x = [x.toNat.toUInt8] := by unfold ie; exact uvarint_small (by omega)
    rw [List.flatMap_cons, e, List.length_append, flat_small (fun y hy => h y (by simp [hy]))]
    simp; omega
set_option maxHeartbeats 2000000 in
theorem areMembers_any (a : Option Addr) (n c : Nat) (xs : List Int) (w : World) (hd : Da iv w a n xs) (hn : n ≤ 1000000000) :
    Calls Try.prog 29 #[.slice a n c] w fun e w' => e = .returned (.bool (areM xs)) ∧ w' = w := by
  have hl := hd.1
  have hat := Lib.hid hd.2.2
  clear hd
  go_enter Try.func29, Try.ntmps29
  go_wp2_with fail
  go_loopw [3, 8] (fun s3 s8 wr => ∃ (k : Nat) (p : Int), s3 = .int .i64 p ∧ s8 = .int .i64 k ∧ wr = w ∧ k ≤ n ∧ memR 0 xs = memR p (xs.drop k)) (fun _ s8 _ => n - (RowKit.intOf s8).toNat)
  case atStart => exact ⟨0, 0, rfl, rfl, rfl, Nat.zero_le _, rfl⟩
  case round =>
    obtain ⟨k, p, rfl, rfl, rfl, hk, hp⟩ := hrel
    by_cases hlt : k < n
    · have hkl : k < xs.length := by omega
      rw [drop_next hkl, memR] at hp
      rcases hat.out with h0 | ⟨b, o, rfl, hcell⟩
      · omega
      have hc := hcell k hkl
      obtain ⟨x, hx⟩ : ∃ x, x = xs[k] := ⟨_, rfl⟩
      rw [← hx] at hc hp
      simp only [iv] at hc
      have HP := Lib.hid hp
      clear hp hx hcell
      by_cases h1 : x ≤ p
      · have hf : areM xs = false := by unfold areM; rw [HP.out, decide_eq_false (show ¬ p < x by omega)]; rfl
        have HF := Lib.hid hf
        clear hf
        go_wp2_with fail
        go_ret
        exact ⟨congrArg (fun z => Ending.returned (.bool z)) HF.out.symm, rfl⟩
      · by_cases h2 : 7 < x
        · have hf : areM xs = false := by unfold areM; rw [HP.out, decide_eq_false (show ¬ x ≤ 7 by omega), Bool.and_false]; rfl
          have HF := Lib.hid hf
          clear hf
          go_wp2_with fail
          go_ret
          exact ⟨congrArg (fun z => Ending.returned (.bool z)) HF.out.symm, rfl⟩
        · have hp2 : memR 0 xs = memR x (xs.drop (k + 1)) := by rw [HP.out, decide_eq_true (show p < x by omega), decide_eq_true (show x ≤ 7 by omega)]; rfl
          have HP2 := Lib.hid hp2
          clear hp2
          go_wp2_with fail
          go_roundw
          case rel => exact ⟨k + 1, x, rfl, rfl, trivial, hlt, HP2.out⟩
          case measure => simp only [RowKit.intOf]; omega
    · have hkn : k = n := by omega
      subst hkn
      have hr : memR 0 xs = true := by rw [hp, List.drop_of_length_le (by omega)]; rfl
      have hf : areM xs = decide (0 < k) := by unfold areM; rw [hr, hl, Bool.true_and]
      have HF := Lib.hid hf
      clear hp hr hf
      go_wp2_with fail
      go_ret
      exact ⟨congrArg (fun z => Ending.returned (.bool z)) HF.out.symm, rfl⟩
set_option maxHeartbeats 2000000 in
theorem Right_any (a : Option Addr) (n c : Nat) (xs : List Int) (w : World) (hd : Da iv w a n xs) (hn : n ≤ 1000000000) :
    Calls Try.prog 12 #[.slice a n c] w fun e w' => e = .returned (.bool (areM xs)) ∧ w' = w := by
  have hl := hd.1
  have hat := Lib.hid hd.2.2
  clear hd
  go_enter Try.func12, Try.ntmps12
  go_wp2_with fail
  go_loopw [7] (fun s7 wr => ∃ (k : Nat) (p : Int), s7 = .int .i64 k ∧ wr = w ∧ k ≤ n ∧ memR 0 xs = memR p (xs.drop k) ∧ ((k = 0 ∧ p = 0) ∨ ∃ h : k - 1 < xs.length, 0 < k ∧ p = xs[k - 1] ∧ 0 < p)) (fun s7 _ => n - (RowKit.intOf s7).toNat)
  case atStart => exact ⟨0, 0, rfl, rfl, Nat.zero_le _, rfl, .inl ⟨rfl, rfl⟩⟩
  case round =>
    obtain ⟨k, p, rfl, rfl, hk, hp, hpk⟩ := hrel
    by_cases hlt : k < n
    · have hkl : k < xs.length := by omega
      rw [drop_next hkl, memR] at hp
      rcases hat.out with h0 | ⟨b, o, rfl, hcell⟩
      · omega
      have hc := hcell k hkl
      obtain ⟨x, hx⟩ : ∃ x, x = xs[k] := ⟨_, rfl⟩
      have hp0 : 0 ≤ p := by rcases hpk with h | ⟨_, _, _, h⟩ <;> omega
      have hc' : 0 < k → wr.cell? ⟨b, o + (k - 1), none⟩ = some (.int .i64 p) := fun h => by
        rcases hpk with h' | ⟨h1, _, h2, _⟩
        · omega
        · rw [hcell (k - 1) h1, h2]; rfl
      rw [← hx] at hc hp
      simp only [iv] at hc
      have HP := Lib.hid (And.intro hp hx)
      have h0p : k = 0 → p = 0 := fun h => by rcases hpk with h' | ⟨_, h', _⟩ <;> omega
      have HPk := Lib.hid hpk
      clear hp hcell hx hpk
      by_cases h1 : x ≤ p
      · have hf : areM xs = false := by unfold areM; rw [HP.out.1, decide_eq_false (show ¬ p < x by omega)]; rfl
        have HF := Lib.hid hf
        clear hf
        by_cases hk0 : k = 0
        · subst hk0
          obtain rfl := h0p rfl
          have hx1 : x < 1 := by omega
          clear hc' h0p
          rw [Nat.add_zero] at hc
          go_wp2_with fail
          go_ret
          exact ⟨congrArg (fun z => Ending.returned (.bool z)) HF.out.symm, rfl⟩
        · have hc2 := hc' (by omega)
          have hkp : 0 < k := by omega
          have hki : (0 : Int) < k := by omega
          have hsub : IntKind.i64.wrap ((k : Int) - 1) = ((k - 1 : Nat) : Int) := by rw [IntWalk.i64_in _ (by omega)]; omega
          clear hc' h0p hk0
          go_wp2_with fail
          all_goals go_ret
          all_goals exact ⟨congrArg (fun z => Ending.returned (.bool z)) HF.out.symm, rfl⟩
      · have hx1 : 1 ≤ x := by omega
        by_cases h2 : 7 < x
        · have hf : areM xs = false := by unfold areM; rw [HP.out.1, decide_eq_false (show ¬ x ≤ 7 by omega), Bool.and_false]; rfl
          have HF := Lib.hid hf
          clear hf hc' h0p
          go_wp2_with fail
          go_ret
          exact ⟨congrArg (fun z => Ending.returned (.bool z)) HF.out.symm, rfl⟩
        · have hp2 : memR 0 xs = memR x (xs.drop (k + 1)) := by rw [HP.out.1, decide_eq_true (show p < x by omega), decide_eq_true (show x ≤ 7 by omega)]; rfl
          have hnext : ((k + 1 = 0 ∧ x = 0) ∨ ∃ h : k + 1 - 1 < xs.length, 0 < k + 1 ∧ x = xs[k + 1 - 1] ∧ 0 < x) := .inr ⟨by omega, by omega, by rw [HP.out.2]; rfl, by omega⟩
          have HP2 := Lib.hid (And.intro hp2 hnext)
          clear hp2 hnext
          by_cases hk0 : k = 0
          · subst hk0
            clear hc' h0p
            rw [Nat.add_zero] at hc
            go_wp2_with fail
            go_roundw
            case rel => exact ⟨0 + 1, x, rfl, trivial, hlt, HP2.out.1, HP2.out.2⟩
            case measure => simp only [RowKit.intOf]; omega
          · have hc2 := hc' (by omega)
            have hkp : 0 < k := by omega
            have hki : (0 : Int) < k := by omega
            have hsub : IntKind.i64.wrap ((k : Int) - 1) = ((k - 1 : Nat) : Int) := by rw [IntWalk.i64_in _ (by omega)]; omega
            have hk1 : ((k - 1 : Nat) : Int) < n := by omega
            clear hc' h0p hk0
            go_wp2_with fail
            go_roundw
            case rel => exact ⟨k + 1, x, rfl, trivial, hlt, HP2.out.1, HP2.out.2⟩
            case measure => simp only [RowKit.intOf]; omega
    · have hkn : k = n := by omega
      subst hkn
      have hr : memR 0 xs = true := by rw [hp, List.drop_of_length_le (by omega)]; rfl
      have hf : areM xs = decide ((1 : Int) ≤ k) := by unfold areM; rw [hr, hl, Bool.true_and]; exact decide_eq_decide.2 (by omega)
      have HF := Lib.hid hf
      clear hp hr hf hpk
      go_wp2_with fail
      go_ret
      exact ⟨congrArg (fun z => Ending.returned (.bool z)) HF.out.symm, rfl⟩
end Go.Proofs.Ytfidmjpjfigmcaa.Cm
