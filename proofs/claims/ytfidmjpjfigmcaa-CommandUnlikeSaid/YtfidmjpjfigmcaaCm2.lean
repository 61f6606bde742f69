
/- rows that are read: what each one is, and the deferred closures -/
import Derived.Test.YtfidmjpjfigmcaaCm1
import Derived.Defers
import Derived.Recover
namespace Go.Proofs.Ytfidmjpjfigmcaa.Cm
open Go.RowKit Go.Lib Wn Rf By
set_option linter.unusedVariables false
set_option maxRecDepth 20000
def Get1 {E : Type} (val : E → Value) (enc : E → List UInt8) (Ok : E → Prop) (rb : Nat) (l : List UInt8) (er : Int) (w : World) (e : Ending) (w' : World) : Prop :=
  ∃ (x : E) (l' : List UInt8) (er' : Int), e = .returned (val x) ∧ Rd w' rb l' er' ∧ At rb w w' ∧ (er' = 0 → er = 0 ∧ l = enc x ++ l') ∧ ∀ y t, er = 0 → Ok y → l = enc y ++ t → er' = 0
theorem flat_cut {E : Type} {enc : E → List UInt8} (inj : ∀ x y s t, enc x ++ s = enc y ++ t → x = y ∧ s = t) : ∀ (xs ys : List E) (s t : List UInt8), xs.length ≤ ys.length → xs.flatMap enc ++ s = ys.flatMap enc ++ t → s = (ys.drop xs.length).flatMap enc ++ t
  | [], ys, s, t, _, h => by simpa using h
  | x :: xs, [], s, t, hl, h => by simp at hl
  | x :: xs, y :: ys, s, t, hl, h => by
    simp only [List.flatMap_cons, List.append_assoc] at h
    have := flat_cut inj xs ys s t (by simpa using hl) (inj _ _ _ _ h).2
    simpa using this
theorem uvr_inj (x y : Nat) (s t : List UInt8) (h : uvarint x ++ s = uvarint y ++ t) : x = y ∧ s = t := Sp.uv_inj _ _ _ _ _ (Nat.le_refl _) h
theorem txr_inj (x y : ByteArray) (s t : List UInt8) (h : textB x ++ s = textB y ++ t) : x = y ∧ s = t := Sp.tx_inj h
def valI (x : Nat) : Value := .int .i64 (min x 8 : Nat)
theorem member_r (rb : Nat) (l : List UInt8) (er : Int) (w : World) (h : Rd w rb l er) :
    Calls Try.prog 28 #[.pointer (some ⟨rb, 0, none⟩)] w (Get1 valI uvarint U64 rb l er w) := by
  have H := Lib.hid (num_r rb l er w h)
  clear h
  go_enter Try.func28, Try.ntmps28
  go_wp2_with fail
  refine H.out.mono ?_
  rintro e w' ⟨x, l', er', rfl, hx, hr, hA, hb, hf⟩
  have HH := Lib.hid (And.intro hx (And.intro hr (And.intro hA (And.intro hb hf))))
  clear hx hr hA hb hf
  by_cases h8 : x ≤ 8
  · have e1 : min (x : Int) 8 = x := by omega
    have e2 : valI x = .int .i64 x := by unfold valI; rw [Nat.min_eq_left h8]
    go_wp2_with fail
    go_ret
    exact ⟨x, l', er', congrArg Ending.returned e2.symm, HH.out.2⟩
  · have e1 : min (x : Int) 8 = 8 := by omega
    have e2 : valI x = .int .i64 8 := by unfold valI; rw [Nat.min_eq_right (by omega)]; rfl
    go_wp2_with fail
    go_ret
    exact ⟨x, l', er', congrArg Ending.returned e2.symm, HH.out.2⟩
theorem sptext_r (rb : Nat) (l : List UInt8) (er : Int) (w : World) (h : Rd w rb l er) :
    Calls Try.prog 52 #[.pointer (some ⟨rb, 0, none⟩)] w (Get1 Value.string textB (fun _ => False) rb l er w) := by
  have H := Lib.hid (text_r rb l er 255 w h (by decide))
  clear h
  go_enter Try.func52, Try.ntmps52
  go_wp2_with fail
  refine H.out.mono ?_
  rintro e w' ⟨s, l', er', rfl, hx, hr, hA, hb⟩
  have HH := Lib.hid (And.intro hx (And.intro hr (And.intro hA hb)))
  clear hx hr hA hb
  go_wp2_with fail
  go_ret
  exact ⟨s, l', er', rfl, HH.out.2.1, HH.out.2.2.1, HH.out.2.2.2, fun _ _ _ h => h.elim⟩
theorem getIF_idle (p q : Addr) (w : World) :
    CallsD Try.prog 46 #[.pointer (some p), .pointer (some q)] .returning w fun e u' w' => e = .returned (.tuple #[]) ∧ u' = .returning ∧ w' = w := by
  refine callsD_of_wpS Try.func46 rfl fun c₀ cs hu => ?_
  apply wpS_seq
  apply wpS_region
  simp [wpOpsS, go_sem, recoverD, hu, Try.ntmps46, Exit.thenS]
  refine wpS_cond (t := false) (by simp [Act.eval, Array.replicate]) ?_
  simp only [Bool.false_eq_true, if_false]
  refine wpS_of_wp (wp_skip ?_)
  cases c₀
  simp_all [bodyPostS, results, Try.results46]
theorem getSF_idle (p q : Addr) (w : World) :
    CallsD Try.prog 56 #[.pointer (some p), .pointer (some q)] .returning w fun e u' w' => e = .returned (.tuple #[]) ∧ u' = .returning ∧ w' = w := by
  refine callsD_of_wpS Try.func56 rfl fun c₀ cs hu => ?_
  apply wpS_seq
  apply wpS_region
  simp [wpOpsS, go_sem, recoverD, hu, Try.ntmps56, Exit.thenS]
  refine wpS_cond (t := false) (by simp [Act.eval, Array.replicate]) ?_
  simp only [Bool.false_eq_true, if_false]
  refine wpS_of_wp (wp_skip ?_)
  cases c₀
  simp_all [bodyPostS, results, Try.results56]
theorem putIF_idle (p q : Addr) (w : World) :
    CallsD Try.prog 48 #[.pointer (some p), .pointer (some q)] .returning w fun e u' w' => e = .returned (.tuple #[]) ∧ u' = .returning ∧ w' = w := by
  refine callsD_of_wpS Try.func48 rfl fun c₀ cs hu => ?_
  apply wpS_seq
  apply wpS_region
  simp [wpOpsS, go_sem, recoverD, hu, Try.ntmps48, Exit.thenS]
  refine wpS_cond (t := false) (by simp [Act.eval, Array.replicate]) ?_
  simp only [Bool.false_eq_true, if_false]
  refine wpS_of_wp (wp_skip ?_)
  cases c₀
  simp_all [bodyPostS, results, Try.results48]
theorem putSF_idle (p q : Addr) (w : World) :
    CallsD Try.prog 57 #[.pointer (some p), .pointer (some q)] .returning w fun e u' w' => e = .returned (.tuple #[]) ∧ u' = .returning ∧ w' = w := by
  refine callsD_of_wpS Try.func57 rfl fun c₀ cs hu => ?_
  apply wpS_seq
  apply wpS_region
  simp [wpOpsS, go_sem, recoverD, hu, Try.ntmps57, Exit.thenS]
  refine wpS_cond (t := false) (by simp [Act.eval, Array.replicate]) ?_
  simp only [Bool.false_eq_true, if_false]
  refine wpS_of_wp (wp_skip ?_)
  cases c₀
  simp_all [bodyPostS, results, Try.results57]
end Go.Proofs.Ytfidmjpjfigmcaa.Cm
