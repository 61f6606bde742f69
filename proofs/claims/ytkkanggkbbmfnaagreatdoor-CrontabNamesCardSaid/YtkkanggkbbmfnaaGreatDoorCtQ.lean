
/- fires and crontab: Between told to whoever keeps memory, Count -/
import Derived.Test.YtkkanggkbbmfnaaGreatDoorFiR
import Derived.Test.YtkkanggkbbmfnaaGreatDoorFi4
import Derived.Test.YtkkanggkbbmfnaaGreatDoorFi6
import Derived.Test.YtkkanggkbbmfnaaGreatDoorFi8
/- a range over a function that tells integers, whose rounds may write into memory of their own that was made in rounds ahead (of no program) -/
namespace Go.Proofs.YtkkanggkbbmfnaaGreatDoor.Rg
open Go.RowKit

/-- what lies below N, or is of D, lies as it lay -/
structure KeepD (N : Nat) (D : Nat → Prop) (W W' : World) : Prop where
  os : W'.os = W.os
  tape : W'.tape = W.tape
  output : W'.output = W.output
  size : W.heap.size ≤ W'.heap.size
  block : ∀ k, k < W.heap.size → (k < N ∨ D k) → W'.heap[k]? = W.heap[k]?
theorem KeepD.of {N : Nat} {D : Nat → Prop} {a b : World} (h : Below a.heap.size a b) : KeepD N D a b := ⟨h.os, h.tape, h.output, h.size, fun k hk _ => h.block k hk⟩
theorem KeepD.ofO {N : Nat} {D own : Nat → Prop} {a b : World} (h : BelowO own a b) (ho : ∀ k, own k → N ≤ k ∧ ¬ D k) : KeepD N D a b :=
  ⟨h.os, h.tape, h.output, h.size, fun k hk hn => h.block k hk (fun x => by have := ho k x; exact hn.elim (fun hn => by omega) this.2)⟩
theorem KeepD.but {N l : Nat} {D : Nat → Prop} {a b : World} (h : But l a b) (hl : N ≤ l) (hd : ¬ D l) : KeepD N D a b :=
  ⟨h.1, h.2.1, h.2.2.1, Nat.le_of_eq h.2.2.2.1.symm, fun k hk hn => h.2.2.2.2 k (fun e => by subst e; exact hn.elim (fun hn => by omega) hd)⟩
theorem KeepD.mono {N M : Nat} {D : Nat → Prop} {a b : World} (h : KeepD N D a b) (hM : M ≤ N) : KeepD M D a b :=
  ⟨h.os, h.tape, h.output, h.size, fun k hk hn => h.block k hk (hn.imp (fun x => by omega) id)⟩
theorem KeepD.weak {N : Nat} {D E : Nat → Prop} {a b : World} (h : KeepD N D a b) (hE : ∀ k, E k → D k) : KeepD N E a b :=
  ⟨h.os, h.tape, h.output, h.size, fun k hk hn => h.block k hk (hn.imp id (hE k))⟩
theorem KeepD.trans {N : Nat} {D : Nat → Prop} {a b c : World} (h : KeepD N D a b) (g : KeepD N D b c) : KeepD N D a c :=
  ⟨g.os.trans h.os, g.tape.trans h.tape, g.output.trans h.output, Nat.le_trans h.size g.size, fun k hk hn => (g.block k (by have := h.size; omega) hn).trans (h.block k hk hn)⟩
/-- D' is D, and what was made since -/
def Grew (D D' : Nat → Prop) (A : World) : Prop := ∀ k, D' k → D k ∨ A.heap.size ≤ k
theorem Grew.refl (D : Nat → Prop) (A : World) : Grew D D A := fun _ h => .inl h
theorem Grew.trans {D E F : Nat → Prop} {A B : World} (h : Grew D E A) (g : Grew E F B) (hs : A.heap.size ≤ B.heap.size) : Grew D F A := fun k hk => by
  rcases g k hk with h1 | h1
  · exact h k h1
  · exact .inr (by omega)
theorem Grew.from {D E : Nat → Prop} {A B : World} (h : Grew D E B) (hs : A.heap.size ≤ B.heap.size) : Grew D E A := fun k hk => (h k hk).imp id fun x => by omega
theorem Grew.not {D E : Nat → Prop} {A : World} {k : Nat} (h : Grew D E A) (hk : k < A.heap.size) (hn : ¬ D k) : ¬ E k := fun x => by
  rcases h k x with h1 | h1
  · exact hn h1
  · omega
/-- what an iterator says that tells integers: J at the last one that was told, and at what is the ranger's -/
def SeqD (F : Fence) (n : Nat) (P : Program) (g : Nat) (lb : Array Value) (box : Nat → Prop) (x0 : Int) (G : Int → Int → Prop) (S : Int → Prop) (w : World) : Prop :=
  ∀ (D0 : Nat → Prop) (l : Nat) (J K : Int → (Nat → Prop) → World → Prop) (W : World), Below w.heap.size w W → (∀ k, D0 k → ¬ box k ∧ k < W.heap.size) →
    (∀ x D A A', J x D A → KeepD W.heap.size D A A' → J x D A') → (∀ x D A A', K x D A → KeepD W.heap.size D A A' → K x D A') → (∀ x D A, J x D A → ∀ k, D k → k < A.heap.size) →
    (∀ x y D A, J x D A → G x y → W.heap.size ≤ A.heap.size → Grew D0 D W → YieldAt F (n - 1) P l #[.int .i64 y] A fun e A' => ∃ D', Grew D D' A ∧
      ((e = .returned (.bool true) ∧ J y D' A' ∧ BelowO D A A') ∨ (e = .returned (.bool false) ∧ K y D' A' ∧ BelowO (fun k => k < W.heap.size ∨ D k) A A'))) →
    J x0 D0 W →
    CallsIn F n P g (#[.func (.yield l) #[] #[]] ++ lb) W fun e W' => (∃ v, e = .returned v) ∧ ∃ x D, Grew D0 D W ∧ ((S x ∧ J x D W') ∨ K x D W')

/-- how a round ends -/
def postD (D : Nat → Prop) (B : Nat) (y : Int) (I : Int → (Nat → Prop) → World → Prop) (Ix : Code → Int → (Nat → Prop) → World → Prop) (W : World) : Exit → Act → World → Prop
  | .normal, _, W' => ∃ D', Grew D D' W ∧ BelowO D W W' ∧ I y D' W'
  | .exit id, _, W' => ∃ D', Grew D D' W ∧ BelowO (fun k => k < B ∨ D k) W W' ∧ Ix (.exit id) y D' W'
  | .ret, _, W' => ∃ D', Grew D D' W ∧ BelowO (fun k => k < B ∨ D k) W W' ∧ Ix .ret y D' W'
  | _, _, _ => False

variable {F : Fence} {n : Nat} {P : Program}
/-- one round of a loop whose record lies at l -/
theorem round_intD {D : Nat → Prop} {B l : Nat} {fn : FuncId} {tm : Array Value} {ps : Array Tmp} {assign body : Code} {dd : Nat} {x y : Int} {A : World} {I : Int → (Nat → Prop) → World → Prop} {Ix : Code → Int → (Nat → Prop) → World → Prop} {R : World → Prop}
    (hps : ps.size = 1) (hfn : F.fn fn) (hBl : B ≤ l) (hDl : ¬ D l)
    (hI : ∀ x D A A', I x D A → KeepD B D A A' → I x D A') (hIx : ∀ c x D A A', Ix c x D A → KeepD B D A A' → Ix c x D A')
    (hR : ∀ A A', R A → (∀ k, B ≤ k → k < A.heap.size → k ≠ l → ¬ D k → A'.heap[k]? = A.heap[k]?) → R A')
    (i2 : A.heap[l]? = some (.loop { state := .ready, pending := none, fn, tmps := tm, params := ps, assign, body, defers := dd })) (hr : R A)
    (hround : assign.wpIn (F.inRound l) (n - 1) P (Exit.then (fun a' A1 => Below A.heap.size A A1 ∧ ∀ A2, But l A1 A2 → (∃ r, A2.heap[l]? = some (.loop r)) → I x D A2 → body.wpIn (F.inRound l) (n - 1) P (postD D B y I Ix A2) a' A2) (fun _ _ _ => False))
        { tmps := (ps.zip #[.int .i64 y]).foldl (fun t (p, v) => t.setIfInBounds p v) tm, defers := [] } A) (hi : I x D A) :
    YieldAt F (n - 1) P l #[.int .i64 y] A fun e A' => ∃ D', Grew D D' A ∧
      ((e = .returned (.bool true) ∧ (I y D' A' ∧ A'.heap[l]? = some (.loop { state := .ready, pending := none, fn, tmps := tm, params := ps, assign, body, defers := dd }) ∧ R A') ∧ BelowO D A A') ∨
      (e = .returned (.bool false) ∧ (∃ c, Ix c y D' A' ∧ A'.heap[l]? = some (.loop { state := .done, pending := some c, fn, tmps := tm, params := ps, assign, body, defers := dd }) ∧ R A') ∧ BelowO (fun k => k < l + 1 ∨ D k) A A')) := by
  have hlt := (Array.getElem?_eq_some_iff.1 i2).1
  have hy := run_yield (P := P) (args := #[.int .i64 y]) i2 (by rw [hps]; rfl)
  refine ⟨fn, _, assign, body, hy, roundIn_of_wpIn hfn (wpIn_mono hround ?_)⟩
  rintro e a' A1 hq
  obtain rfl : e = .normal := by cases e <;> first | rfl | exact hq.elim
  obtain ⟨hb1, hbody⟩ := hq
  have l1 := (hb1.block _ hlt).trans i2
  have lt1 := (Array.getElem?_eq_some_iff.1 l1).1
  refine ⟨_, run_beginRound l1 rfl, ?_⟩
  have hbut := but_put l A1 (.loop { state := .busy, pending := none, fn, tmps := tm, params := ps, assign, body, defers := dd })
  have hl2 : (A1.putObj l (.loop { state := .busy, pending := none, fn, tmps := tm, params := ps, assign, body, defers := dd })).heap[l]? = some (.loop { state := .busy, pending := none, fn, tmps := tm, params := ps, assign, body, defers := dd }) := World.putObj_heap_same lt1
  generalize A1.putObj l (.loop { state := .busy, pending := none, fn, tmps := tm, params := ps, assign, body, defers := dd }) = A2 at hbut hl2
  have j1 : I x D A2 := hI x D A1 A2 (hI x D A A1 hi (.of hb1)) (.but hbut hBl hDl)
  have hsz1 := hb1.size
  have lt2 := (Array.getElem?_eq_some_iff.1 hl2).1
  refine wpIn_mono (hbody A2 hbut ⟨_, hl2⟩ j1) ?_
  have hsz2 := hbut.2.2.2.1
  have fin : ∀ (jump : Option Code) (A3 : World), BelowO (fun k => k < B ∨ D k) A2 A3 →
      ∃ A4, (Instr.endRound l jump).run P A3 = .ok (.bool jump.isNone) A4 ∧ But l A3 A4 ∧
        A4.heap[l]? = some (.loop { state := if jump.isNone then .ready else .done, pending := jump, fn, tmps := tm, params := ps, assign, body, defers := dd }) ∧ R A4 := fun jump A3 hk => by
    have l3 := (hk.block l lt2 (fun h => h.elim (fun h => by omega) hDl)).trans hl2
    have hend := run_endRound (P := P) jump l3
    have lt3 := (Array.getElem?_eq_some_iff.1 l3).1
    have hbut3 := but_put l A3 (.loop { state := if jump.isNone then .ready else .done, pending := jump, fn, tmps := tm, params := ps, assign, body, defers := dd })
    refine ⟨_, hend, hbut3, World.putObj_heap_same lt3, hR A _ hr fun k h1 h2 h3 h4 => ?_⟩
    rw [hbut3.2.2.2.2 k h3, hk.block k (by omega) (fun h => h.elim (fun h => by omega) h4), hbut.2.2.2.2 k h3, hb1.block k h2]
  have all : ∀ {p : Nat → Prop} (A3 A4 : World), BelowO p A2 A3 → But l A3 A4 → BelowO (fun k => p k ∨ k = l) A A4 := fun A3 A4 h1 h2 =>
    ⟨by rw [h2.1, h1.os, hbut.1, hb1.os], by rw [h2.2.1, h1.tape, hbut.2.1, hb1.tape], by rw [h2.2.2.1, h1.output, hbut.2.2.1, hb1.output], by rw [h2.2.2.2.1]; have := h1.size; omega, fun k hk hn => by
      rw [h2.2.2.2.2 k (fun e => hn (.inr e)), h1.block k (by omega) (fun e => hn (.inl e)), hbut.2.2.2.2 k (fun e => hn (.inr e)), hb1.block k hk]⟩
  have out : ∀ (c : Code) (D' : Nat → Prop) (A3 : World), Grew D D' A2 → BelowO (fun k => k < B ∨ D k) A2 A3 → Ix c y D' A3 → ∃ v A4, (Instr.endRound l (some c)).run P A3 = .ok v A4 ∧ ∃ D', Grew D D' A ∧
      ((Ending.returned v = .returned (.bool true) ∧ (I y D' A4 ∧ A4.heap[l]? = some (.loop { state := .ready, pending := none, fn, tmps := tm, params := ps, assign, body, defers := dd }) ∧ R A4) ∧ BelowO D A A4) ∨
      (Ending.returned v = .returned (.bool false) ∧ (∃ c, Ix c y D' A4 ∧ A4.heap[l]? = some (.loop { state := .done, pending := some c, fn, tmps := tm, params := ps, assign, body, defers := dd }) ∧ R A4) ∧ BelowO (fun k => k < l + 1 ∨ D k) A A4)) := fun c D' A3 hg hk hix => by
    obtain ⟨A4, he, hb4, h4, r4⟩ := fin (some c) A3 hk
    exact ⟨_, _, he, D', hg.from (by omega), .inr ⟨rfl, ⟨c, hIx c y D' _ _ hix (.but hb4 hBl (hg.not lt2 hDl)), h4, r4⟩, (all A3 A4 hk hb4).weak (fun k hk => hk.elim (fun hk => hk.imp (fun h => by omega) id) (fun h => .inl (by omega)))⟩⟩
  rintro e a3 A3 hp
  cases e with
  | normal =>
    obtain ⟨D', hg, hk, hi3⟩ := hp
    obtain ⟨A4, he, hb4, h4, r4⟩ := fin none A3 (hk.weak (fun k h => .inr h))
    refine ⟨_, _, he, D', hg.from (by omega), .inl ⟨rfl, ⟨hI _ _ _ _ hi3 (.but hb4 hBl (hg.not lt2 hDl)), h4, r4⟩, ?_⟩⟩
    have ha := all A3 A4 hk hb4
    refine ⟨ha.os, ha.tape, ha.output, ha.size, fun k hk hn => ?_⟩
    by_cases hkl : k = l
    · subst hkl; rw [i2]; exact h4
    · exact ha.block k hk (fun h => h.elim hn hkl)
  | ret => obtain ⟨D', hg, h1, h2⟩ := hp; exact out _ D' A3 hg h1 h2
  | exit id => obtain ⟨D', hg, h1, h2⟩ := hp; exact out _ D' A3 hg h1 h2
  | goto t => exact hp.elim
  | panic ch => exact hp.elim
  | outgrown => exact hp.elim

theorem range_intD {g : Operand} {ps : Array Tmp} {assign body : Code} {Q : Exit → Act → World → Prop} {a : Act} {w : World} {box : Nat → Prop} {x0 : Int} {G : Int → Int → Prop} {S : Int → Prop}
    (hro : F.round = none) (h1 : 1 ≤ n) {gf : Nat} {lb : Array Value} (hg : a.eval g = .func (.func gf) #[] lb) (hFg : F.fn gf) (eg : ∀ args w, (callFunc gf args).run P w = .ok (.enter gf args) w)
    (hseq : SeqD F (n - 1) P gf lb box x0 G S w) (D0 : Nat → Prop) (hown : ∀ k, D0 k → ¬ box k ∧ k < w.heap.size) (hps : ps.size = 1)
    (I : Int → (Nat → Prop) → World → Prop) (Ix : Code → Int → (Nat → Prop) → World → Prop) (hI : ∀ x D A A', I x D A → KeepD w.heap.size D A A' → I x D A') (hIx : ∀ c x D A A', Ix c x D A → KeepD w.heap.size D A A' → Ix c x D A')
    (hIs : ∀ x D A, I x D A → ∀ k, D k → k < A.heap.size) (h0 : I x0 D0 w)
    (hround : ∀ (l : Nat) (x y : Int) (D : Nat → Prop) (A : World), w.heap.size < l → (∃ r, A.heap[l]? = some (.loop r)) → w.heap.size ≤ A.heap.size → ¬ D l → I x D A → G x y →
      assign.wpIn (F.inRound l) (n - 1 - 1) P (Exit.then (fun a' A1 => Below A.heap.size A A1 ∧ ∀ A2, But l A1 A2 → (∃ r, A2.heap[l]? = some (.loop r)) → I x D A2 → body.wpIn (F.inRound l) (n - 1 - 1) P (postD D w.heap.size y I Ix A2) a' A2) (fun _ _ _ => False))
        { tmps := (ps.zip #[.int .i64 y]).foldl (fun t (p, v) => t.setIfInBounds p v) a.tmps, defers := [] } A)
    (hdone : ∀ (L : Nat) (x : Int) (D : Nat → Prop) (A : World), w.heap.size ≤ L → ¬ D L → S x → I x D A → A.heap[L]? = some (.deferred (some [])) → Q .normal { a with defers := { target := .collected L, args := #[] } :: a.defers } A)
    (hstop : ∀ (L : Nat) (c : Code) (x : Int) (D : Nat → Prop) (A : World), w.heap.size ≤ L → ¬ D L → Ix c x D A → A.heap[L]? = some (.deferred (some [])) → c.wpIn F n P Q { a with defers := { target := .collected L, args := #[] } :: a.defers } A) :
    (Code.rangeFunc g ps assign body).wpIn F n P Q a w := by
  refine wpIn_rangeFunc ?_
  intro fn hfn
  rw [hro]
  have hin := run_enterLoop_outer (P := P) (w := w) fn a.tmps ps assign body
  obtain ⟨U, hU⟩ : ∃ U, U = (w.alloc (.deferred (some []))).alloc (.loop { state := .ready, pending := none, fn, tmps := a.tmps, params := ps, assign, body, defers := w.heap.size }) := ⟨_, rfl⟩
  have hWb : Below w.heap.size w U := by rw [hU]; exact ((Below.refl _ _).alloc (Nat.le_refl _) _).alloc (by simp) _
  have hWd : U.heap[w.heap.size]? = some (.deferred (some [])) := by rw [hU]; exact (Below.heap_alloc _ _ _ (by simp)).trans (World.alloc_heap_new w _)
  have hWl : U.heap[w.heap.size + 1]? = some (.loop { state := .ready, pending := none, fn, tmps := a.tmps, params := ps, assign, body, defers := w.heap.size }) := by
    have := World.alloc_heap_new (w.alloc (.deferred (some []))) (.loop { state := .ready, pending := none, fn, tmps := a.tmps, params := ps, assign, body, defers := w.heap.size }); rw [World.size_alloc] at this; rw [hU]; exact this
  have hUz : U.heap.size = w.heap.size + 2 := by rw [hU]; simp
  have d1 : ¬ D0 w.heap.size := fun h => Nat.lt_irrefl _ (hown _ h).2
  have d2 : ¬ D0 (w.heap.size + 1) := fun h => by have := (hown _ h).2; omega
  refine ⟨_, _, U, { target := .fn (.func gf) lb, args := #[.func (.yield (w.heap.size + 1)) #[] #[]] }, U, gf, #[.func (.yield (w.heap.size + 1)) #[] #[]] ++ lb, U, by rw [hU]; exact hin, ?_, ?_, ?_, fun _ => h1, ?_⟩
  · simp only [resolve, hg]; simp [go_sem]
  · intro f' hf'; simp [Target.leads] at hf'; subst hf'; exact hFg
  · simp [invoke, go_sem, eg]
  · refine (hseq D0 (w.heap.size + 1)
      (fun x D A => I x D A ∧ A.heap[w.heap.size + 1]? = some (.loop { state := .ready, pending := none, fn, tmps := a.tmps, params := ps, assign, body, defers := w.heap.size }) ∧ A.heap[w.heap.size]? = some (.deferred (some [])))
      (fun x D A => ∃ c, Ix c x D A ∧ A.heap[w.heap.size + 1]? = some (.loop { state := .done, pending := some c, fn, tmps := a.tmps, params := ps, assign, body, defers := w.heap.size }) ∧ A.heap[w.heap.size]? = some (.deferred (some [])))
      U hWb (fun k hk => ⟨(hown k hk).1, by have := (hown k hk).2; omega⟩) ?_ ?_ (fun x D A h => hIs x D A h.1) ?_ ⟨hI x0 D0 w U h0 (.of hWb), hWl, hWd⟩).mono ?_
    · rintro x D A A' ⟨i1, i2, i3⟩ hb
      exact ⟨hI x D A A' i1 (hb.mono (by omega)), (hb.block _ (Array.getElem?_eq_some_iff.1 i2).1 (.inl (by omega))).trans i2, (hb.block _ (Array.getElem?_eq_some_iff.1 i3).1 (.inl (by omega))).trans i3⟩
    · rintro x D A A' ⟨c, i1, i2, i3⟩ hb
      exact ⟨c, hIx c x D A A' i1 (hb.mono (by omega)), (hb.block _ (Array.getElem?_eq_some_iff.1 i2).1 (.inl (by omega))).trans i2, (hb.block _ (Array.getElem?_eq_some_iff.1 i3).1 (.inl (by omega))).trans i3⟩
    · rintro x y D A ⟨i1, i2, i3⟩ hgx hzA hgr
      have e1 : ¬ D w.heap.size := hgr.not (by omega) d1
      have e2 : ¬ D (w.heap.size + 1) := hgr.not (by omega) d2
      refine (round_intD (x := x) (D := D) (B := w.heap.size) (I := I) (Ix := Ix) (R := fun A : World => w.heap.size < A.heap.size ∧ A.heap[w.heap.size]? = some (.deferred (some []))) hps hfn (Nat.le_succ _) e2 hI hIx ?_ i2 ⟨by omega, i3⟩ (hround _ x y D A (Nat.lt_succ_self _) ⟨_, i2⟩ (by omega) e2 i1 hgx) i1).mono ?_
      · rintro A A' ⟨r1, r2⟩ h
        have := (h w.heap.size (Nat.le_refl _) r1 (by omega) e1).trans r2
        exact ⟨(Array.getElem?_eq_some_iff.1 this).1, this⟩
      · rintro e A' ⟨D', hg', (⟨rfl, ⟨h1, h2, h3⟩, h4⟩ | ⟨rfl, ⟨c, h1, h2, h3⟩, h4⟩)⟩
        · exact ⟨D', hg', .inl ⟨rfl, ⟨h1, h2, h3.2⟩, h4⟩⟩
        · exact ⟨D', hg', .inr ⟨rfl, ⟨c, h1, h2, h3.2⟩, h4.weak (fun k hk => hk.imp (fun x => by omega) id)⟩⟩
    · rintro e A ⟨⟨v, rfl⟩, x, D, hgr, (⟨hS, i1, i2, i3⟩ | ⟨c, i1, i2, i3⟩)⟩
      · have e1 : ¬ D w.heap.size := hgr.not (by omega) d1
        have e2 : ¬ D (w.heap.size + 1) := hgr.not (by omega) d2
        have hend := run_endLoop (P := P) i2 (by simp)
        have hbut3 := but_put (w.heap.size + 1) A (.loop { state := .exhausted, pending := none, fn, tmps := a.tmps, params := ps, assign, body, defers := w.heap.size })
        exact ⟨none, _, hend, hdone _ x D _ (Nat.le_refl _) e1 hS (hI _ _ _ _ i1 (.but hbut3 (Nat.le_succ _) e2)) ((World.putObj_heap_other (by omega)).trans i3)⟩
      · have e1 : ¬ D w.heap.size := hgr.not (by omega) d1
        have e2 : ¬ D (w.heap.size + 1) := hgr.not (by omega) d2
        have hend := run_endLoop (P := P) i2 (by simp)
        have hbut3 := but_put (w.heap.size + 1) A (.loop { state := .exhausted, pending := some c, fn, tmps := a.tmps, params := ps, assign, body, defers := w.heap.size })
        exact ⟨some c, _, hend, hstop _ c x D _ (Nat.le_refl _) e1 (hIx c _ _ _ _ i1 (.but hbut3 (Nat.le_succ _) e2)) ((World.putObj_heap_other (by omega)).trans i3)⟩

/-- .. within a round of loop l₀ -/
theorem range_intDN {g : Operand} {ps : Array Tmp} {assign body : Code} {Q : Exit → Act → World → Prop} {a : Act} {w : World} {box : Nat → Prop} {x0 : Int} {G : Int → Int → Prop} {S : Int → Prop}
    {l₀ : Nat} (hro : F.round = some l₀) (hl₀ : ∃ r, w.heap[l₀]? = some (.loop r)) (h1 : 1 ≤ n) {gf : Nat} {lb : Array Value} (hg : a.eval g = .func (.func gf) #[] lb) (hFg : F.fn gf) (eg : ∀ args w, (callFunc gf args).run P w = .ok (.enter gf args) w)
    (hseq : SeqD F (n - 1) P gf lb box x0 G S w) (D0 : Nat → Prop) (hown : ∀ k, D0 k → ¬ box k ∧ k < w.heap.size) (hps : ps.size = 1)
    (I : Int → (Nat → Prop) → World → Prop) (Ix : Code → Int → (Nat → Prop) → World → Prop) (hI : ∀ x D A A', I x D A → KeepD w.heap.size D A A' → I x D A') (hIx : ∀ c x D A A', Ix c x D A → KeepD w.heap.size D A A' → Ix c x D A')
    (hIs : ∀ x D A, I x D A → ∀ k, D k → k < A.heap.size) (h0 : I x0 D0 w)
    (hround : ∀ (l : Nat) (x y : Int) (D : Nat → Prop) (A : World), w.heap.size ≤ l → (∃ r, A.heap[l]? = some (.loop r)) → w.heap.size ≤ A.heap.size → ¬ D l → I x D A → G x y →
      assign.wpIn (F.inRound l) (n - 1 - 1) P (Exit.then (fun a' A1 => Below A.heap.size A A1 ∧ ∀ A2, But l A1 A2 → (∃ r, A2.heap[l]? = some (.loop r)) → I x D A2 → body.wpIn (F.inRound l) (n - 1 - 1) P (postD D w.heap.size y I Ix A2) a' A2) (fun _ _ _ => False))
        { tmps := (ps.zip #[.int .i64 y]).foldl (fun t (p, v) => t.setIfInBounds p v) a.tmps, defers := [] } A)
    (hdone : ∀ (x : Int) (D : Nat → Prop) (A : World), Grew D0 D w → S x → I x D A → Q .normal a A)
    (hstop : ∀ (c : Code) (x : Int) (D : Nat → Prop) (A : World), Grew D0 D w → Ix c x D A → c.wpIn F n P Q a A) :
    (Code.rangeFunc g ps assign body).wpIn F n P Q a w := by
  obtain ⟨r₀, hl₀⟩ := hl₀
  refine wpIn_rangeFunc ?_
  intro fn hfn
  rw [hro]
  have hin := run_enterLoop_inner (P := P) hl₀ fn a.tmps ps assign body
  obtain ⟨U, hU⟩ : ∃ U, U = w.alloc (.loop { state := .ready, pending := none, fn, tmps := a.tmps, params := ps, assign, body, defers := r₀.defers }) := ⟨_, rfl⟩
  have hWb : Below w.heap.size w U := by rw [hU]; exact (Below.refl _ _).alloc (Nat.le_refl _) _
  have hWl : U.heap[w.heap.size]? = some (.loop { state := .ready, pending := none, fn, tmps := a.tmps, params := ps, assign, body, defers := r₀.defers }) := by rw [hU]; exact World.alloc_heap_new w _
  have hUz : U.heap.size = w.heap.size + 1 := by rw [hU]; simp
  have d1 : ¬ D0 w.heap.size := fun h => Nat.lt_irrefl _ (hown _ h).2
  refine ⟨_, _, U, { target := .fn (.func gf) lb, args := #[.func (.yield w.heap.size) #[] #[]] }, U, gf, #[.func (.yield w.heap.size) #[] #[]] ++ lb, U, by rw [hU]; exact hin, ?_, ?_, ?_, fun _ => h1, ?_⟩
  · simp only [resolve, hg]; simp [go_sem]
  · intro f' hf'; simp [Target.leads] at hf'; subst hf'; exact hFg
  · simp [invoke, go_sem, eg]
  · refine (hseq D0 w.heap.size
      (fun x D A => I x D A ∧ A.heap[w.heap.size]? = some (.loop { state := .ready, pending := none, fn, tmps := a.tmps, params := ps, assign, body, defers := r₀.defers }))
      (fun x D A => ∃ c, Ix c x D A ∧ A.heap[w.heap.size]? = some (.loop { state := .done, pending := some c, fn, tmps := a.tmps, params := ps, assign, body, defers := r₀.defers }))
      U hWb (fun k hk => ⟨(hown k hk).1, by have := (hown k hk).2; omega⟩) ?_ ?_ (fun x D A h => hIs x D A h.1) ?_ ⟨hI x0 D0 w U h0 (.of hWb), hWl⟩).mono ?_
    · rintro x D A A' ⟨i1, i2⟩ hb
      exact ⟨hI x D A A' i1 (hb.mono (by omega)), (hb.block _ (Array.getElem?_eq_some_iff.1 i2).1 (.inl (by omega))).trans i2⟩
    · rintro x D A A' ⟨c, i1, i2⟩ hb
      exact ⟨c, hIx c x D A A' i1 (hb.mono (by omega)), (hb.block _ (Array.getElem?_eq_some_iff.1 i2).1 (.inl (by omega))).trans i2⟩
    · rintro x y D A ⟨i1, i2⟩ hgx hzA hgr
      have e1 : ¬ D w.heap.size := hgr.not (by omega) d1
      refine (round_intD (x := x) (D := D) (B := w.heap.size) (I := I) (Ix := Ix) (R := fun _ => True) hps hfn (Nat.le_refl _) e1 hI hIx (fun _ _ _ _ => trivial) i2 trivial (hround _ x y D A (Nat.le_refl _) ⟨_, i2⟩ (by omega) e1 i1 hgx) i1).mono ?_
      rintro e A' ⟨D', hg', (⟨rfl, ⟨h1, h2, h3⟩, h4⟩ | ⟨rfl, ⟨c, h1, h2, h3⟩, h4⟩)⟩
      · exact ⟨D', hg', .inl ⟨rfl, ⟨h1, h2⟩, h4⟩⟩
      · exact ⟨D', hg', .inr ⟨rfl, ⟨c, h1, h2⟩, h4.weak (fun k hk => hk.imp (fun x => by omega) id)⟩⟩
    · rintro e A ⟨⟨v, rfl⟩, x, D, hgr, (⟨hS, i1, i2⟩ | ⟨c, i1, i2⟩)⟩
      · have e1 : ¬ D w.heap.size := hgr.not (by omega) d1
        have hend := run_endLoop (P := P) i2 (by simp)
        have hbut3 := but_put w.heap.size A (.loop { state := .exhausted, pending := none, fn, tmps := a.tmps, params := ps, assign, body, defers := r₀.defers })
        exact ⟨none, _, hend, hdone x D _ (hgr.from (by omega)) hS (hI _ _ _ _ i1 (.but hbut3 (Nat.le_refl _) e1))⟩
      · have e1 : ¬ D w.heap.size := hgr.not (by omega) d1
        have hend := run_endLoop (P := P) i2 (by simp)
        have hbut3 := but_put w.heap.size A (.loop { state := .exhausted, pending := some c, fn, tmps := a.tmps, params := ps, assign, body, defers := r₀.defers })
        exact ⟨some c, _, hend, hstop c x D _ (hgr.from (by omega)) (hIx c _ _ _ _ i1 (.but hbut3 (Nat.le_refl _) e1))⟩
end Go.Proofs.YtkkanggkbbmfnaaGreatDoor.Rg

/- fires: the ticks of a day, told to whoever keeps memory made in rounds -/
namespace Go.Proofs.YtkkanggkbbmfnaaGreatDoor.Fi
open Go.RowKit Go.Lib Go.Proofs.YtkkanggkbbmfnaaGreatDoor.Cn Go.Proofs.YtkkanggkbbmfnaaGreatDoor.Rg
attribute [local go_sem] Oper.semAt_some
set_option linter.unusedVariables false

set_option maxRecDepth 20000 in
set_option maxHeartbeats 8000000 in
theorem ticks_iterD (n b : Nat) (e : Ex) (he : ExOk e) (F a : Int) (hF : 0 ≤ F ∧ F ≤ 1099511627776) (ha : -1 ≤ a ∧ a ≤ 1099511627776) (w : World) (ht : TB b e F a w) :
    SeqD Fence.wide n Tryz.prog 72 (tickB b) (tbox b) a (TG e F a) (TS e F) w := by
  intro D0 l J K W hW hown hJ hK hJs hY hJ0
  have hbx : ∀ D, Grew D0 D W → ∀ k, D k → ¬ tbox b k := fun D hg k hk => by
    have h1 := (ht.old hW).lt
    have h2 := (ht.old hW).d.lt
    rcases hg k hk with h3 | h3
    · exact (hown k h3).1
    · rintro (h | h | h | h) <;> omega
  have hmix : Tryz.prog.follows .mixedOrders = true := by kernel_rfl
  have hHm : bits .and .u64 ((e.b : Nat) : Int) 16777215 = ((hM e : Nat) : Int) := u64_and_nat _ 16777215 he.b (by decide)
  have hMm : bits .and .u64 ((e.a : Nat) : Int) 1152921504606846975 = ((mM e : Nat) : Int) := u64_and_nat _ 1152921504606846975 he.a (by decide)
  have HY := Lib.hid (And.intro hJ (And.intro hY hbx))
  have HJ0 := Lib.hid hJ0
  have htW := ht.old hW
  have HW := Lib.hid (And.intro hW htW)
  obtain ⟨⟨c0, c1, c2, c3, c4, c5, c6⟩, _⟩ := seven htW.e
  clear hJ hK hY hJ0 hW ht hown htW hbx hJs
  refine callsIn_of_wp Tryz.func72 rfl trivial ?_ rfl
  simp only [Tryz.ntmps72, List.size_toArray, List.length_cons, List.length_nil, Nat.reduceAdd, Nat.reduceSub, Array.replicate_succ, Array.replicate_zero, List.push_toArray, List.append_toArray, List.nil_append, List.cons_append]
  gi_wp2_with fail
  clear c0 c1 c2 c3 c4 c5 c6
  gi_loopw [5] (fun x wr => ∃ (k : Nat) (p : Int) (D : Nat → Prop), x = u (hi (hM e) k) ∧ k ≤ 64 ∧ Hp e F a k p ∧ J p D wr ∧ TB b e F a wr ∧ W.heap.size ≤ wr.heap.size ∧ Grew D0 D W) (fun x _ => (RowKit.intOf x).toNat)
  case atStart => exact ⟨0, a, D0, by rw [hi_zero (hM_lt e)], Nat.zero_le _, ⟨Int.le_refl _, fun u hu ht => by have := ht.1; omega, .inl rfl⟩, HJ0.out, HW.out.2, Nat.le_refl _, Grew.refl _ _⟩
  case round =>
    obtain ⟨k, p, D, rfl, hk, hp, hj, htb, hz, hgr⟩ := hrel
    by_cases hX : hi (hM e) k = 0
    · have hd := hp.done hX
      have HD := Lib.hid (And.intro hd (And.intro hj hgr))
      clear hd hj hp htb hgr
      rw [hX]
      gi_wp2_with fail
      go_end0
      exact ⟨⟨_, rfl⟩, p, D, HD.out.2.2, .inl ⟨HD.out.1, HD.out.2.1⟩⟩
    · obtain ⟨c1, c2, c3, c4, c5⟩ := hi_one (hM_lt e) hX hk
      have hl := fun n => least_any (hi (hM e) k) (mk_lt _) (wr.drewN n) (htb.d.keep rfl)
      have hband := band_next c3
      have hlt : hi (hM e) (lst (hi (hM e) k) + 1) < hi (hM e) k := by
        rw [← c3]
        have := Nat.and_le_right (n := hi (hM e) k) (m := hi (hM e) k - 1)
        omega
      have hml : hi (hM e) k < 18446744073709551616 := mk_lt _
      have i24 : lst (hi (hM e) k) < 24 := by rw [hM_bit, Bool.and_eq_true, decide_eq_true_eq] at c4; exact c4.2
      generalize lst (hi (hM e) k) = i at c1 c2 c3 c4 c5 hl hband hlt i24
      have hmh := hp.hour c2 c5
      have hsk := fun h => hp.skip c2 (i := i) h
      obtain ⟨Y, hY⟩ : ∃ Y, Y = hi (hM e) (i + 1) := ⟨_, rfl⟩
      rw [← hY] at hband hlt c3
      generalize hi (hM e) k = X at hX hml hl hband hlt c3 ⊢
      have hXI : ((X : Int) != 0) = true := by simp; omega
      have hsub : IntKind.u64.wrap ((X : Int) - 1) = ((X - 1 : Nat) : Int) := by rw [IntWalk.u64_in _ (by omega)]; omega
      obtain ⟨k1, _⟩ := one_cell htb.f
      obtain ⟨k2, _⟩ := one_cell htb.a
      have HP := Lib.hid (And.intro hmh (And.intro hsk (And.intro hlt (And.intro hY (And.intro c4 hp.ga)))))
      have HT := Lib.hid (And.intro htb hj)
      have HGr := Lib.hid hgr
      clear hmh hsk hlt hY c3 c4 c5 htb hj hp c1 c2 hgr
      gi_wp2_with fail
      refine wpIn_wide.2 ?_
      go_quiet ((go_at_call 68; exact Calls.quiet_of_same (hl _)))
      obtain ⟨V, hV⟩ : ∃ V, V = wr.drewN nq := ⟨_, rfl⟩
      have htV : TB b e F a V := by rw [hV]; exact HT.out.1.old (below_drewN (Below.refl _ _) nq)
      have hjV : J p D V := by rw [hV]; exact HY.out.1 _ _ _ _ HT.out.2 (.of (below_drewN (Below.refl _ _) nq))
      have hzV : W.heap.size ≤ V.heap.size := by rw [hV]; exact hz
      rw [← hV]
      clear hV k1 k2 hl HT
      obtain ⟨k2, _⟩ := one_cell htV.a
      obtain ⟨⟨e0, e1, e2, e3, e4, e5, e6⟩, _⟩ := seven htV.e
      have HV := Lib.hid (And.intro htV hjV)
      clear htV hjV
      by_cases hs : F + 60 * i + 60 ≤ a
      · gi_wp2_with fail
        refine ⟨⟨i + 1, p, D, by rw [HP.out.2.2.2.1], by omega, HP.out.2.1 hs, HV.out.2, HV.out.1, hzV, HGr.out⟩, ?_⟩
        simpa [RowKit.intOf] using HP.out.2.2.1
      · have hs' : a < F + 60 * i + 60 := by omega
        gi_wp2_with fail
        clear e0 e1 e2 e3 e4 e5 e6
        gi_loopw [7] (fun x wr => ∃ (j : Nat) (p : Int) (D : Nat → Prop), x = u (hi (mM e) j) ∧ j ≤ 60 ∧ Mp e F a i j p ∧ J p D wr ∧ TB b e F a wr ∧ W.heap.size ≤ wr.heap.size ∧ Grew D0 D W) (fun x _ => (RowKit.intOf x).toNat)
        case atStart => exact ⟨0, p, D, by rw [hi_zero (mM_lt e)], Nat.zero_le _, HP.out.1, HV.out.2, HV.out.1, hzV, HGr.out⟩
        case round =>
          clear HV hzV k2 hz HGr
          obtain ⟨j, p, D, rfl, hj60, hmp, hj, htb, hz, hgr⟩ := hrel
          have HGr := Lib.hid hgr
          clear hgr
          by_cases hZ : hi (mM e) j = 0
          · have hpd := hmp.hour hZ hj60
            have HD := Lib.hid (And.intro hpd (And.intro hj (And.intro htb hz)))
            clear hpd hj htb hmp hz
            rw [hZ]
            gi_wp2_with fail
            refine ⟨⟨i + 1, p, D, by rw [HP.out.2.2.2.1], by omega, HD.out.1, HD.out.2.1, HD.out.2.2.1, HD.out.2.2.2, HGr.out⟩, ?_⟩
            simpa [RowKit.intOf] using HP.out.2.2.1
          · obtain ⟨c1, c2, c3, c4, c5⟩ := hi_one (mM_lt e) hZ (by omega)
            have hl := least_any (hi (mM e) j) (mk_lt _) wr htb.d
            have hband2 := band_next c3
            have hlt2 : hi (mM e) (lst (hi (mM e) j) + 1) < hi (mM e) j := by
              rw [← c3]
              have := Nat.and_le_right (n := hi (mM e) j) (m := hi (mM e) j - 1)
              omega
            have hml2 : hi (mM e) j < 18446744073709551616 := mk_lt _
            have m60 : lst (hi (mM e) j) < 60 := by rw [mM_bit, Bool.and_eq_true, decide_eq_true_eq] at c4; exact c4.2
            generalize lst (hi (mM e) j) = m at c1 c2 c3 c4 c5 hl hband2 hlt2 m60
            have hmiss := fun h => hmp.miss c2 h
            have hhit := fun h => hmp.hit HP.out.2.2.2.2.1 c4 c2 c5 h
            obtain ⟨Y2, hY2⟩ : ∃ Y, Y = hi (mM e) (m + 1) := ⟨_, rfl⟩
            rw [← hY2] at hband2 hlt2 c3
            generalize hi (mM e) j = X2 at hZ hml2 hl hband2 hlt2 c3 ⊢
            have hXI2 : ((X2 : Int) != 0) = true := by simp; omega
            have hsub2 : IntKind.u64.wrap ((X2 : Int) - 1) = ((X2 - 1 : Nat) : Int) := by rw [IntWalk.u64_in _ (by omega)]; omega
            obtain ⟨k2, _⟩ := one_cell htb.a
            have HQ := Lib.hid (And.intro hmiss (And.intro hhit (And.intro hlt2 hY2)))
            have HT := Lib.hid (And.intro htb (And.intro hj hz))
            clear hmiss hhit hlt2 hY2 c3 c4 c5 htb hj hmp c1 c2 hz
            by_cases hta : F + 60 * i + m ≤ a
            · gi_wp2_with fail
              refine ⟨trivial, (fun h => by cases h), (callsIn_wide.2 hl).mono ?_⟩
              rintro q w1 ⟨rfl, rfl⟩
              gi_wp2_with fail
              refine ⟨(fun f h => by cases h), ?_⟩
              gi_wp2_with fail
              refine ⟨⟨m + 1, p, D, by rw [HQ.out.2.2.2], by omega, HQ.out.1 hta, HT.out.2.1, HT.out.1, HT.out.2.2, HGr.out⟩, ?_⟩
              simpa [RowKit.intOf] using HQ.out.2.2.1
            · have hta' : a < F + 60 * i + m := by omega
              obtain ⟨⟨g1, g2, g3⟩, g4⟩ := HQ.out.2.1 hta'
              obtain ⟨fn, tmps, assign, body, hy, hR⟩ := HY.out.2.1 p (F + 60 * i + m) D wr HT.out.2.1 ⟨hta', g1, g2, g3⟩ HT.out.2.2 HGr.out
              have HG := Lib.hid g4
              clear g1 g2 g3 g4 hta
              gi_wp2_with fail
              refine ⟨trivial, (fun h => by cases h), (callsIn_wide.2 hl).mono ?_⟩
              rintro q w1 ⟨rfl, rfl⟩
              gi_wp2_with fail
              refine ⟨(fun h => by cases h), hR.mono ?_⟩
              rintro e' W3 ⟨D', hg3, (⟨rfl, hJ3, hm3⟩ | ⟨rfl, hK3, _⟩)⟩
              · have ht3 := HT.out.1.keep hm3 (fun k hk => HY.out.2.2 D HGr.out k hk)
                have HG3 := Lib.hid (HGr.out.trans hg3 HT.out.2.2)
                clear hg3
                have hz3 := Nat.le_trans HT.out.2.2 hm3.size
                have HF := Lib.hid (And.intro hJ3 (And.intro ht3 hz3))
                clear hJ3 hm3 ht3 hz3 k2
                gi_wp2_with fail
                refine ⟨⟨m + 1, F + 60 * i + m, D', by rw [HQ.out.2.2.2], by omega, HG.out, HF.out.1, HF.out.2.1, HF.out.2.2, HG3.out⟩, ?_⟩
                simpa [RowKit.intOf] using HQ.out.2.2.1
              · gi_wp2_with fail
                refine bodyPost_ret (results_none rfl _ _ _) rfl ?_
                exact ⟨⟨_, rfl⟩, _, D', HGr.out.trans hg3 HT.out.2.2, .inr hK3⟩
end Go.Proofs.YtkkanggkbbmfnaaGreatDoor.Fi

/- fires: the days that are named, told to whoever keeps memory made in rounds -/
namespace Go.Proofs.YtkkanggkbbmfnaaGreatDoor.Fi
open Go.RowKit Go.Lib Go.Proofs.YtkkanggkbbmfnaaGreatDoor.Cn Go.Proofs.YtkkanggkbbmfnaaGreatDoor.Rg Go.Proofs.YtkkanggkbbmfnaaGreatDoor.Ht
attribute [local go_sem] Oper.semAt_some
set_option linter.unusedVariables false

/-- behind a round -/
theorem DL.nextD {W A A' : World} {D : Nat → Prop} {mB b : Nat} {e : Ex} {fr tO F' bb x : Int} {J : Int → World → Prop} (hJ : ∀ x A A', J x A → KeepD W.heap.size D A A' → J x A') (hDm : ¬ D mB) (hmB : W.heap.size ≤ mB) (hbx : b + 2 < mB) (hgx : 5 < mB)
    (hj : J x A) (hdb : DB b e fr tO A) (hz : W.heap.size ≤ A.heap.size) {y mo d wd y0 mo0 d0 wd0 h0 mi0 : Int} (hm0 : A.heap[mB]? = some (.cells (Ca.momC y0 mo0 d0 wd0 h0 mi0) 111 (0, 0)))
    (im : Ca.IsM F' y mo d wd 0 0) (hp : Dp e x F' bb) (hF : F' ≤ tO + 44640) (hb : bb ≤ 146128)
    (hA' : A' = ((((((A.setCell ⟨mB, 0, none⟩ (.int .i64 y)).setCell ⟨mB, 1, none⟩ (.int .i64 mo)).setCell ⟨mB, 2, none⟩ (.int .i64 d)).setCell ⟨mB, 3, none⟩ (.int .i64 wd)).setCell ⟨mB, 4, none⟩ (.int .i64 (lst (hM e) : Nat))).setCell ⟨mB, 5, none⟩ (.int .i64 (lst (mM e) : Nat)))) :
    DL W mB b e fr tO J F' bb x A' := by
  subst hA'
  have ho := mom_only (A := A) (mB := mB) (.int .i64 y) (.int .i64 mo) (.int .i64 d) (.int .i64 wd) (.int .i64 (lst (hM e) : Nat)) (.int .i64 (lst (mM e) : Nat))
  refine ⟨⟨y, mo, d, wd, im, mom_store hm0⟩, hJ _ _ _ hj (.ofO ho (fun k hk => by subst hk; exact ⟨hmB, hDm⟩)), hdb.keep ho (fun k hk ht => ?_), Nat.le_trans hz ho.size, hp, hF, hb⟩
  subst hk
  rcases ht with h | h | h | h <;> omega
set_option maxRecDepth 20000 in
set_option maxHeartbeats 8000000 in
theorem days_iterD (n b : Nat) (e : Ex) (he : ExOk e) (fr tO : Int) (hfr : 0 ≤ fr ∧ fr ≤ tO) (hto : tO ≤ 1099511627776) (w : World) (ht : DB b e fr tO w) :
    SeqD Fence.wide n Tryz.prog 66 (dayBx b) (tbox b) (fr - fr % 1440 - 1) (DG e tO) (DS e tO) w := by
  intro D0 l J K W hW hown hJ hK hJs hY hJ0
  have hbx : ∀ D (mB : Nat), W.heap.size ≤ mB → (∀ k, D k → D0 k ∨ mB < k) → (∀ k, D k → ¬ tbox b k) ∧ ¬ D mB ∧ Grew D0 D W := fun D mB hm hg => by
    have h1 := (ht.old hW).lt
    have h2 := (ht.old hW).d.lt
    refine ⟨fun k hk => ?_, fun hk => ?_, fun k hk => (hg k hk).imp id (fun h => by omega)⟩
    · rcases hg k hk with h3 | h3
      · exact (hown k h3).1
      · rintro (h | h | h | h) <;> omega
    · rcases hg mB hk with h3 | h3
      · have := (hown _ h3).2; omega
      · omega
  have hmix : Tryz.prog.follows .mixedOrders = true := by kernel_rfl
  have hHm : bits .and .u64 ((e.b : Nat) : Int) 16777215 = ((hM e : Nat) : Int) := u64_and_nat _ 16777215 he.b (by decide)
  have hMm : bits .and .u64 ((e.a : Nat) : Int) 1152921504606846975 = ((mM e : Nat) : Int) := u64_and_nat _ 1152921504606846975 he.a (by decide)
  have HY := Lib.hid (And.intro hJ (And.intro hY (And.intro hown hbx)))
  have HJ0 := Lib.hid hJ0
  have htW := ht.old hW
  have HW := Lib.hid (And.intro hW htW)
  have hof := Ca.Of_in fr W hfr.1 (by omega)
  obtain ⟨k1, _⟩ := one_cell htW.f
  clear hJ hK hY hJ0 hW ht hown htW hbx hJs
  refine callsIn_of_wp Tryz.func66 rfl trivial ?_ rfl
  simp only [Tryz.ntmps66, List.size_toArray, List.length_cons, List.length_nil, Nat.reduceAdd, Nat.reduceSub, Array.replicate_succ, Array.replicate_zero, List.push_toArray, List.append_toArray, List.nil_append, List.cons_append]
  gi_wp2_with fail
  refine ⟨trivial, (fun h => by cases h), (callsIn_wide.2 hof).mono ?_⟩
  rintro q w1 ⟨y, mo, d, wd, h, mi, rfl, him, hb1⟩
  have hM := isM_day him
  obtain ⟨V, hV⟩ : ∃ V, V = w1.alloc (.cells (Ca.momC y mo d wd h mi) 111) := ⟨_, rfl⟩
  obtain ⟨a1, a2, a3⟩ := cell_new w1 (Ca.momC y mo d wd h mi) 111
  rw [← hV] at a1 a2 a3
  have hbV := hb1.trans (a1.mono hb1.size)
  have htV := HW.out.2.old hbV
  have hjV := HY.out.1 _ _ _ _ HJ0.out (.of hbV)
  have hz1 := hb1.size
  have HV := Lib.hid (And.intro hV (And.intro hbV (And.intro htV (And.intro hjV (And.intro a2 a3)))))
  have HM := Lib.hid hM
  clear hV hbV htV hjV a1 a2 a3 him hb1 hof hM k1
  gi_wp2_with fail
  rw [← HV.out.1]
  -- REG
  have hne : b + 2 < w1.heap.size := by have := HW.out.2.lt; omega
  have hng : 5 < w1.heap.size := by have := HW.out.2.d.lt; omega
  have HL := Lib.hid (show b < V.heap.size ∧ ¬ b = w1.heap.size ∧ ¬ 5 = w1.heap.size from ⟨by have := HV.out.2.2.1.lt; omega, by omega, by omega⟩)
  refine wpIn_wide.2 ?_
  refine begin' 12 (fun X => BelowO (fun k => k = w1.heap.size) V X) hmix (BelowO.of (Below.refl V.heap.size V).drew) (fun hS0 => ?_)
  refine Ht.takeN (i := 0) ⟨some 15, _, _, _, _, _⟩ (.pointer (some ⟨b, 1, none⟩)) rfl (Nat.le_refl 12) (by kernel_rfl) (by kernel_rfl) (by kernel_rfl) (by kernel_rfl) hS0 (Or.inl ⟨by rfl, by (intro X hX; go_simp)⟩) ?_
  simp only [Act.put, List.setIfInBounds_toArray, List.set_cons_zero, List.set_cons_succ]
  refine Ht.takeN (i := 1) ⟨some 16, _, _, _, _, _⟩ (u e.b) rfl (Nat.le_refl 12) (by kernel_rfl) (by kernel_rfl) (by kernel_rfl) (by kernel_rfl) hS0 (Or.inl ⟨by rfl, by (intro X hX; obtain ⟨⟨c0, c1, c2, c3, c4, c5, c6⟩, _⟩ := seven ((hX.block b HL.out.1 HL.out.2.1).trans HV.out.2.2.1.e); go_simp)⟩) ?_
  simp only [Act.put, List.setIfInBounds_toArray, List.set_cons_zero, List.set_cons_succ]
  refine Ht.takeN (i := 2) ⟨some 17, _, _, _, _, _⟩ (u (hM e)) rfl (Nat.le_refl 12) (by kernel_rfl) (by kernel_rfl) (by kernel_rfl) (by kernel_rfl) hS0 (Or.inl ⟨by rfl, by (intro X hX; have := hHm; go_simp)⟩) ?_
  simp only [Act.put, List.setIfInBounds_toArray, List.set_cons_zero, List.set_cons_succ]
  refine Ht.takeN (i := 4) ⟨some 19, _, _, _, _, _⟩ (.pointer (some ⟨b, 0, none⟩)) rfl (Nat.le_refl 12) (by kernel_rfl) (by kernel_rfl) (by kernel_rfl) (by kernel_rfl) hS0 (Or.inl ⟨by rfl, by (intro X hX; go_simp)⟩) ?_
  simp only [Act.put, List.setIfInBounds_toArray, List.set_cons_zero, List.set_cons_succ]
  refine Ht.takeN (i := 5) ⟨some 20, _, _, _, _, _⟩ (u e.a) rfl (Nat.le_refl 12) (by kernel_rfl) (by kernel_rfl) (by kernel_rfl) (by kernel_rfl) hS0 (Or.inl ⟨by rfl, by (intro X hX; obtain ⟨⟨c0, c1, c2, c3, c4, c5, c6⟩, _⟩ := seven ((hX.block b HL.out.1 HL.out.2.1).trans HV.out.2.2.1.e); go_simp)⟩) ?_
  simp only [Act.put, List.setIfInBounds_toArray, List.set_cons_zero, List.set_cons_succ]
  refine Ht.takeN (i := 6) ⟨some 21, _, _, _, _, _⟩ (u (mM e)) rfl (Nat.le_refl 12) (by kernel_rfl) (by kernel_rfl) (by kernel_rfl) (by kernel_rfl) hS0 (Or.inl ⟨by rfl, by (intro X hX; have := hMm; go_simp)⟩) ?_
  simp only [Act.put, List.setIfInBounds_toArray, List.set_cons_zero, List.set_cons_succ]
  refine Ht.step (i := 3) ⟨some 18, _, _, _, _, _⟩ rfl (by kernel_rfl) (by rfl) (fun K hK => ?_)
  refine Ht.enter 68 #[u (hM e)] (by have hen := fun args w => enters_of (P := Tryz.prog) Tryz.func68 (by kernel_rfl) rfl args w; go_simp) (least_any _ (hM_lt e) _ (HV.out.2.2.1.d.keep (hS0.block _ HV.out.2.2.1.d.lt HL.out.2.2))) ?_
  rintro e w2 ⟨rfl, rfl⟩
  refine ⟨_, rfl, hK _ _ (fun _ => hS0) (fun _ => ?_)⟩
  clear hK K
  simp only [Act.put, List.setIfInBounds_toArray, List.set_cons_zero, List.set_cons_succ]
  refine Ht.takeN (i := 8) ⟨some 23, _, _, _, _, _⟩ (.pointer (some ⟨w1.heap.size, 4, none⟩)) rfl (Nat.le_refl 12) (by kernel_rfl) (by kernel_rfl) (by kernel_rfl) (by kernel_rfl) hS0 (Or.inl ⟨by rfl, by (intro X hX; go_simp)⟩) ?_
  simp only [Act.put, List.setIfInBounds_toArray, List.set_cons_zero, List.set_cons_succ]
  refine Ht.step (i := 7) ⟨some 22, _, _, _, _, _⟩ rfl (by kernel_rfl) (by rfl) (fun K hK => ?_)
  refine Ht.enter 68 #[u (mM e)] (by have hen := fun args w => enters_of (P := Tryz.prog) Tryz.func68 (by kernel_rfl) rfl args w; go_simp) (least_any _ (mM_lt e) _ (HV.out.2.2.1.d.keep (hS0.block _ HV.out.2.2.1.d.lt HL.out.2.2))) ?_
  rintro e w3 ⟨rfl, rfl⟩
  refine ⟨_, rfl, hK _ _ (fun _ => hS0) (fun _ => ?_)⟩
  clear hK K
  simp only [Act.put, List.setIfInBounds_toArray, List.set_cons_zero, List.set_cons_succ]
  have hg1o : (V.drew).heap[w1.heap.size]? = some (.cells (Ca.momC y mo d wd h mi) 111 (0, 0)) := HV.out.2.2.2.2.1
  obtain ⟨⟨m0, m1, m2, m3, m4, m5⟩, fz⟩ := Ca.mom_cells hg1o
  have fk := fz 4
  have hg1 := heap_setCell_same _ _ 4 _ _ (.int .i64 (lst (hM e) : Nat)) hg1o
  have hS1 := hS0.set (p := ⟨w1.heap.size, 4, none⟩) rfl (.int .i64 (lst (hM e) : Nat))
  clear hg1o fz
  refine Ht.step (i := 9) ⟨none, _, _, _, _, _⟩ rfl (by kernel_rfl) (by rfl) (fun K hK => ?_)
  go_simp
  refine hK _ ((V.drew).setCell ⟨w1.heap.size, 4, none⟩ (.int .i64 (lst (hM e) : Nat))) (fun _ => hS1) (fun _ => ?_)
  clear hK K fk m0 m1 m2 m3 m4 m5
  try simp only [Act.put, List.setIfInBounds_toArray, List.set_cons_zero, List.set_cons_succ]
  obtain ⟨X9, hX9⟩ : ∃ X, X = (V.drew).setCell ⟨w1.heap.size, 4, none⟩ (.int .i64 (lst (hM e) : Nat)) := ⟨_, rfl⟩
  rw [← hX9] at hg1 hS1 ⊢
  clear hX9
  refine Ht.takeN (i := 10) ⟨some 24, _, _, _, _, _⟩ (.pointer (some ⟨w1.heap.size, 5, none⟩)) rfl (Nat.le_refl 12) (by kernel_rfl) (by kernel_rfl) (by kernel_rfl) (by kernel_rfl) hS1 (Or.inl ⟨by rfl, by (intro X hX; go_simp)⟩) ?_
  simp only [Act.put, List.setIfInBounds_toArray, List.set_cons_zero, List.set_cons_succ]
  have hg2o : (X9).heap[w1.heap.size]? = some (.cells (Ca.momC y mo d wd (lst (hM e) : Nat) mi) 111 (0, 0)) := hg1
  obtain ⟨⟨m0, m1, m2, m3, m4, m5⟩, fz⟩ := Ca.mom_cells hg2o
  have fk := fz 5
  have hg2 := heap_setCell_same _ _ 5 _ _ (.int .i64 (lst (mM e) : Nat)) hg2o
  have hS2 := hS1.set (p := ⟨w1.heap.size, 5, none⟩) rfl (.int .i64 (lst (mM e) : Nat))
  clear hg2o fz
  refine Ht.step (i := 11) ⟨none, _, _, _, _, _⟩ rfl (by kernel_rfl) (by rfl) (fun K hK => ?_)
  go_simp
  refine hK _ ((X9).setCell ⟨w1.heap.size, 5, none⟩ (.int .i64 (lst (mM e) : Nat))) (fun _ => hS2) (fun _ => ?_)
  clear hK K fk m0 m1 m2 m3 m4 m5
  try simp only [Act.put, List.setIfInBounds_toArray, List.set_cons_zero, List.set_cons_succ]
  obtain ⟨X11, hX11⟩ : ∃ X, X = (X9).setCell ⟨w1.heap.size, 5, none⟩ (.int .i64 (lst (mM e) : Nat)) := ⟨_, rfl⟩
  rw [← hX11] at hg2 hS2 ⊢
  clear hX11
  refine done (by kernel_rfl) ?_
  have htX : DB b e fr tO X11 := HV.out.2.2.1.keep hS2 (fun k hk ht => by subst hk; rcases ht with h | h | h | h <;> omega)
  have hjX : J (fr - fr % 1440 - 1) D0 X11 := HY.out.1 _ _ _ _ HV.out.2.2.2.1 (.ofO hS2 (fun k hk => ⟨by rw [hk]; exact hz1, fun h => by have := (HY.out.2.2.1 _ h).2; omega⟩))
  have hzX : W.heap.size ≤ X11.heap.size := Nat.le_trans HV.out.2.1.size hS2.size
  have hmX : X11.heap[w1.heap.size]? = some (.cells (Ca.momC y mo d wd (lst (hM e) : Nat) (lst (mM e) : Nat)) 111 (0, 0)) := hg2
  have hst : DL W w1.heap.size b e fr tO (fun x A => J x D0 A) (fr - fr % 1440) 0 (fr - fr % 1440 - 1) X11 := ⟨⟨y, mo, d, wd, HM.out, hmX⟩, hjX, htX, hzX, Dp.start (by omega), by omega, by omega⟩
  obtain ⟨k1, _⟩ := one_cell htX.f
  have HS := Lib.hid hst
  have HB := Lib.hid (show W.heap.size ≤ w1.heap.size ∧ b + 2 < w1.heap.size ∧ 5 < w1.heap.size from ⟨hz1, hne, hng⟩)
  obtain ⟨mB, hmB⟩ : ∃ mB, mB = w1.heap.size := ⟨_, rfl⟩
  rw [← hmB] at HS HB ⊢
  clear hS0 hS1 hS2 hg1 hg2 htX hjX hzX hmX hst HL HV HM hz1 hne hng hmB
  gi_wp2_with fail
  clear k1
  gi_loopw [7, 8] (fun f c wr => ∃ (F bb x : Int) (D : Nat → Prop), f = .int .i64 F ∧ c = .int .i64 bb ∧ DL W mB b e fr tO (fun x A => J x D A) F bb x wr ∧ ∀ k, D k → D0 k ∨ mB < k) (fun f _ _ => (tO - RowKit.intOf f + 1).toNat)
  case atStart => exact ⟨_, 0, _, D0, rfl, rfl, HS.out, fun k hk => .inl hk⟩
  case round =>
    obtain ⟨F, bb, x, D, rfl, rfl, hdl, hgm⟩ := hrel
    have hmBz : mB < wr.heap.size := by obtain ⟨_, _, _, _, _, h⟩ := hdl.m; exact (Array.getElem?_eq_some_iff.1 h).1
    have HGm := Lib.hid (And.intro (HY.out.2.2.2 D mB HB.out.1 hgm) (And.intro hgm hmBz))
    clear hgm hmBz
    have hdb := hdl.db
    have hF := hdl.hF
    have hb0 := hdl.p.b0
    have hb9 := hdl.hb
    obtain ⟨kt, _⟩ := one_cell hdb.t
    have hFb := hdl.p.pos
    have HD := Lib.hid hdl
    clear hdl
    by_cases hend : bb < 146097
    case neg =>
      have hds := HD.out.p.end1 (tO := tO) (by omega)
      have HE := Lib.hid (And.intro hds HD.out.j)
      clear hds
      gi_wp2_with fail
      go_end0
      exact ⟨⟨_, rfl⟩, x, D, HGm.out.1.2.2, .inl ⟨HE.out.1, HE.out.2⟩⟩
    by_cases hFt : F ≤ tO
    case neg =>
      have hFt' : tO < F := by omega
      have hds := HD.out.p.end2 (tO := tO) hFt'
      have HE := Lib.hid (And.intro hds HD.out.j)
      clear hds
      gi_wp2_with fail
      go_end0
      exact ⟨⟨_, rfl⟩, x, D, HGm.out.1.2.2, .inl ⟨HE.out.1, HE.out.2⟩⟩
    obtain ⟨y1, mo1, d1, wd1, im, hm⟩ := HD.out.m
    have hy1 := year_le im (by omega)
    have hy0 := im.y0
    obtain ⟨n1, n2, n3⟩ := stp_in (e := e) im
    have hF0 : F % 1440 = 0 := by have := im.h; have := im.mi; omega
    have hsp := fun W => step_any e he y1 mo1 d1 wd1 (lst (hM e) : Nat) (lst (mM e) : Nat) (by unfold Ca.I64; omega) im.m1 im.m2 im.d1 (by have := im.d2; have := Ca.dm_le y1 mo1; omega) W
    have hl1 := lst_le (hM_lt e)
    have hl2 := lst_le (mM_lt e)
    have hnm := fun W => names_any e he y1 mo1 d1 wd1 (lst (hM e) : Nat) (lst (mM e) : Nat) (isM_in im).1 (isM_in im).2.1 (isM_in im).2.2.1 (by unfold Ca.I64; omega) (by unfold Ca.I64; omega) W
    have hnl := names_least he mo1 d1 wd1
    have hone := stp_one (e := e) (y := y1) (mo := mo1) (d := d1) (wd := wd1)
    have hno := stp_no (e := e) im
    have hdn := dn_of (e := e) im
    generalize stp e y1 mo1 d1 = st at hsp n1 n2 n3 hone hno
    generalize namesB e mo1 d1 wd1 (lst (hM e) : Nat) (lst (mM e) : Nat) = nb at hnm hnl
    have HH := Lib.hid (show lst (hM e) ≤ 64 ∧ lst (mM e) ≤ 64 from ⟨hl1, hl2⟩)
    have HI := Lib.hid (And.intro hsp (And.intro hnm (And.intro hnl (And.intro hone (And.intro hno (And.intro hdn (And.intro n3 hy1)))))))
    have HM := Lib.hid (And.intro im hm)
    obtain ⟨⟨c0, c1, c2, c3, c4, c5, c6⟩, _⟩ := seven hdb.e
    obtain ⟨⟨m0, m1, m2, m3, m4, m5⟩, _⟩ := Ca.mom_cells hm
    clear hsp hnm hnl hone hno hdn n3 im hm hl1 hl2 hy0 hy1 hdb
    gi_wp2_with fail
    refine ⟨trivial, (fun h => by cases h), (callsIn_wide.2 (HI.out.1 _)).mono ?_⟩
    rintro q w2 ⟨rfl, hb2⟩
    have hdb2 := HD.out.db.old hb2
    have hm2 := old_blk hb2 HM.out.2
    have hz2 := Nat.le_trans HD.out.z hb2.size
    have hj2 := HY.out.1 _ _ _ _ HD.out.j (.of hb2)
    have H2 := Lib.hid (And.intro hdb2 (And.intro hm2 (And.intro hz2 hj2)))
    clear c0 c1 c2 c3 c4 c5 c6 m0 m1 m2 m3 m4 m5 kt hb2 hz2 hj2
    obtain ⟨⟨c0, c1, c2, c3, c4, c5, c6⟩, _⟩ := seven hdb2.e
    obtain ⟨⟨m0, m1, m2, m3, m4, m5⟩, _⟩ := Ca.mom_cells hm2
    clear hdb2 hm2
    gi_wp2_with fail
    refine ⟨trivial, (fun h => by cases h), (callsIn_wide.2 (HI.out.2.1 _)).mono ?_⟩
    rintro q w3 ⟨rfl, hb3⟩
    have hdb3 := H2.out.1.old hb3
    have hm3 := old_blk hb3 H2.out.2.1
    have hz3 := Nat.le_trans H2.out.2.2.1 hb3.size
    have hj3 := HY.out.1 _ _ _ _ H2.out.2.2.2 (.of hb3)
    have H3 := Lib.hid (And.intro hdb3 (And.intro hm3 (And.intro hz3 hj3)))
    clear c0 c1 c2 c3 c4 c5 c6 m0 m1 m2 m3 m4 m5 hb3 hz3 hj3 hdb3
    cases nb
    · have hnv : ¬ (live e ∧ dayB e mo1 d1 wd1 = true) := fun h => by have := HI.out.2.2.1.2 h; cases this
      have hdp := HD.out.p.skip n1 (HI.out.2.2.2.2.1 hnv)
      have HP := Lib.hid hdp
      clear hnv hdp hm3
      obtain ⟨⟨m0, m1, m2, m3, m4, m5⟩, _⟩ := Ca.mom_cells H3.out.2.1
      gi_wp2_with fail
      refine ⟨trivial, (fun h => by cases h), (callsIn_wide.2 (later_any F y1 mo1 d1 wd1 (lst (hM e) : Nat) (lst (mM e) : Nat) st HM.out.1 (by have := HI.out.2.2.2.2.2.2.2; omega) (by omega) HI.out.2.2.2.2.2.2.1 _)).mono ?_⟩
      rintro q w4 ⟨y2, mo2, d2, wd2, rfl, im2, hb4⟩
      have hdb4 := H3.out.1.old hb4
      have hm4 := old_blk hb4 H3.out.2.1
      have hz4 := Nat.le_trans H3.out.2.2.1 hb4.size
      have hj4 := HY.out.1 _ _ _ _ H3.out.2.2.2 (.of hb4)
      have hdl := DL.nextD (D := D) (e := e) (F' := F + 1440 * st) (fr := fr) (tO := tO) (J := fun x A => J x D A) (fun x A A' h k => HY.out.1 x D A A' h k) HGm.out.1.2.1 HB.out.1 HB.out.2.1 HB.out.2.2 hj4 hdb4 hz4 hm4 im2 HP.out (by omega) (by omega) rfl
      have H4 := Lib.hid hdl
      have hlt4 := (Array.getElem?_eq_some_iff.1 hm4).1
      clear m0 m1 m2 m3 m4 m5 hb4 hdb4 hz4 hj4 hdl im2
      obtain ⟨⟨m0, m1, m2, m3, m4, m5⟩, fz⟩ := Ca.mom_cells hm4
      have f0 := fz 0
      have f1 := fz 1
      have f2 := fz 2
      have f3 := fz 3
      have f4 := fz 4
      have f5 := fz 5
      clear fz hm4
      gi_wp2_with fail
      refine ⟨⟨F + 1440 * st, bb + st, x, D, congrArg (Value.int .i64) (by omega), rfl, H4.out, HGm.out.2.1⟩, ?_⟩
      simp [RowKit.intOf]
      omega
    · have hlv := HI.out.2.2.1.1 rfl
      obtain rfl := HI.out.2.2.2.1 hlv.2
      have hdlF : dl e F := ⟨hlv.1, HI.out.2.2.2.2.2.1.2 hlv.2⟩
      obtain ⟨fn, tmps, assign, body, hy, hR⟩ := HY.out.2.1 x F D w3 H3.out.2.2.2 (HD.out.p.tell hdlF hFt) H3.out.2.2.1 HGm.out.1.2.2
      have hdp := HD.out.p.told hF0
      have HP := Lib.hid hdp
      clear hlv hdlF hm3 hdp
      gi_wp2_with fail
      refine ⟨(fun h => by cases h), hR.mono ?_⟩
      rintro e' w5 ⟨D', hg5, (⟨rfl, hJ5, hm5⟩ | ⟨rfl, hK5, _⟩)⟩
      · have hdb5 := H3.out.1.keep hm5 HGm.out.1.1
        have hlt3 := (Array.getElem?_eq_some_iff.1 H3.out.2.1).1
        have hgm5 : ∀ k, D' k → D0 k ∨ mB < k := fun k hk => (hg5 k hk).elim (HGm.out.2.1 k) (fun h => .inr (by omega))
        have HG5 := Lib.hid (And.intro (HY.out.2.2.2 D' mB HB.out.1 hgm5) hgm5)
        clear hg5 hgm5
        have hmm5 := (hm5.block mB (Array.getElem?_eq_some_iff.1 H3.out.2.1).1 HGm.out.1.2.1).trans H3.out.2.1
        have hz5 := Nat.le_trans H3.out.2.2.1 hm5.size
        have H5 := Lib.hid (And.intro hdb5 (And.intro hmm5 (And.intro hz5 hJ5)))
        clear hdb5 hmm5 hz5 hJ5 hm5 hlt3
        obtain ⟨⟨m0, m1, m2, m3, m4, m5⟩, _⟩ := Ca.mom_cells H5.out.2.1
        gi_wp2_with fail
        refine ⟨trivial, (fun h => by cases h), (callsIn_wide.2 (later_any F y1 mo1 d1 wd1 (lst (hM e) : Nat) (lst (mM e) : Nat) 1 HM.out.1 (by have := HI.out.2.2.2.2.2.2.2; omega) (by omega) HI.out.2.2.2.2.2.2.1 _)).mono ?_⟩
        rintro q w4 ⟨y2, mo2, d2, wd2, rfl, im2, hb4⟩
        have hdb4 := H5.out.1.old hb4
        have hm4 := old_blk hb4 H5.out.2.1
        have hz4 := Nat.le_trans H5.out.2.2.1 hb4.size
        have hj4 := HY.out.1 _ _ _ _ H5.out.2.2.2 (.of hb4)
        have hdl := DL.nextD (D := D') (e := e) (F' := F + 1440 * 1) (fr := fr) (tO := tO) (J := fun x A => J x D' A) (fun x A A' h k => HY.out.1 x D' A A' h k) HG5.out.1.2.1 HB.out.1 HB.out.2.1 HB.out.2.2 hj4 hdb4 hz4 hm4 im2 HP.out (by omega) (by omega) rfl
        have H4 := Lib.hid hdl
        have hlt4 := (Array.getElem?_eq_some_iff.1 hm4).1
        clear m0 m1 m2 m3 m4 m5 hb4 hdb4 hz4 hj4 hdl im2
        obtain ⟨⟨m0, m1, m2, m3, m4, m5⟩, fz⟩ := Ca.mom_cells hm4
        have f0 := fz 0
        have f1 := fz 1
        have f2 := fz 2
        have f3 := fz 3
        have f4 := fz 4
        have f5 := fz 5
        clear fz hm4
        gi_wp2_with fail
        refine ⟨⟨F + 1440 * 1, 0, F, D', congrArg (Value.int .i64) (by omega), rfl, H4.out, HG5.out.2⟩, ?_⟩
        simp [RowKit.intOf]
        omega
      · gi_wp2_with fail
        refine bodyPost_ret (results_none rfl _ _ _) rfl ?_
        exact ⟨⟨_, rfl⟩, _, D', HGm.out.1.2.2.trans hg5 H3.out.2.2.1, .inr hK5⟩
end Go.Proofs.YtkkanggkbbmfnaaGreatDoor.Fi

/- fires: all ticks between two, told to whoever keeps memory made in rounds -/
namespace Go.Proofs.YtkkanggkbbmfnaaGreatDoor.Fi
open Go.RowKit Go.Lib Go.Proofs.YtkkanggkbbmfnaaGreatDoor.Cn Go.Proofs.YtkkanggkbbmfnaaGreatDoor.Rg Go.Proofs.YtkkanggkbbmfnaaGreatDoor.Ht
attribute [local go_sem] Oper.semAt_some
set_option linter.unusedVariables false

/-- what is the ranger's: what was, or what was made behind block m -/
def Gm (D0 : Nat → Prop) (m : Nat) (D : Nat → Prop) : Prop := ∀ k, D k → D0 k ∨ m < k
theorem Gm.next {D0 D E : Nat → Prop} {m : Nat} {A : World} (h : Gm D0 m D) (g : Grew D E A) (hm : m < A.heap.size) : Gm D0 m E := fun k hk => (g k hk).elim (h k) (fun x => .inr (by omega))
theorem _root_.Go.Proofs.YtkkanggkbbmfnaaGreatDoor.Rg.BelowO.ext {D E : Nat → Prop} {A B C : World} (h : BelowO D A B) (g : Grew D E A) (k : BelowO E B C) : BelowO D A C :=
  ⟨k.os.trans h.os, k.tape.trans h.tape, k.output.trans h.output, Nat.le_trans h.size k.size, fun i hi hn => (k.block i (by have := h.size; omega) (g.not hi hn)).trans (h.block i hi hn)⟩
theorem _root_.Go.Proofs.YtkkanggkbbmfnaaGreatDoor.Rg.BelowO.ext2 {D E : Nat → Prop} {A B C : World} {n m : Nat} (h : BelowO D A B) (g : Grew D E A) (k : BelowO (fun i => i < n ∨ E i) B C) (hm : n ≤ m) : BelowO (fun i => i < m ∨ D i) A C :=
  ⟨k.os.trans h.os, k.tape.trans h.tape, k.output.trans h.output, Nat.le_trans h.size k.size, fun i hi hn => (k.block i (by have := h.size; omega) (fun x => x.elim (fun x => hn (.inl (by omega))) (g.not hi (fun y => hn (.inr y))))).trans (h.block i hi (fun y => hn (.inr y)))⟩
theorem DB.keepD {b N : Nat} {e : Ex} {F a : Int} {A A' : World} {D : Nat → Prop} (h : DB b e F a A) (hb : KeepD N D A A') (h1 : b + 2 < N) (h2 : 5 < N) : DB b e F a A' :=
  ⟨(hb.block b (Array.getElem?_eq_some_iff.1 h.e).1 (.inl (by omega))).trans h.e, (hb.block _ (Array.getElem?_eq_some_iff.1 h.f).1 (.inl (by omega))).trans h.f, (hb.block _ (Array.getElem?_eq_some_iff.1 h.t).1 (.inl (by omega))).trans h.t, h.d.keep (hb.block _ h.d.lt (.inl h2))⟩
/-- what the outer loop keeps -/
structure BOD (b yB l : Nat) (e : Ex) (a t : Int) (J : Int → (Nat → Prop) → World → Prop) (D0 : Nat → Prop) (x : Int) (D : Nat → Prop) (A : World) : Prop where
  db : DB b e a t A
  yb : A.heap[yB]? = some (.cells #[.func (.yield l) #[] #[]] 55 (0, 0))
  j : ∃ s, J s D A ∧ Opn e a x s
  g : Gm D0 yB D
theorem BOD.keep {b yB l N : Nat} {e : Ex} {a t : Int} {J : Int → (Nat → Prop) → World → Prop} {D0 : Nat → Prop} {x : Int} {D : Nat → Prop} {A A' : World} (h : BOD b yB l e a t J D0 x D A)
    (hJ : ∀ x D A A', J x D A → KeepD yB D A A' → J x D A') (hc : KeepD N D A A') (h1 : b + 2 < N) (h2 : 5 < N) (h3 : yB < N) : BOD b yB l e a t J D0 x D A' :=
  ⟨h.db.keepD hc h1 h2, (hc.block _ (Array.getElem?_eq_some_iff.1 h.yb).1 (.inl h3)).trans h.yb, h.j.elim fun s hs => ⟨s, hJ _ _ _ _ hs.1 (hc.mono (by omega)), hs.2⟩, h.g⟩
/-- .. and the inner one -/
structure BInD (b yB l : Nat) (e : Ex) (a t : Int) (J : Int → (Nat → Prop) → World → Prop) (D0 : Nat → Prop) (F : Int) (D1 : Nat → Prop) (A0 : World) (p : Int) (D : Nat → Prop) (A : World) : Prop where
  db : DB b e a t A
  yb : A.heap[yB]? = some (.cells #[.func (.yield l) #[] #[]] 55 (0, 0))
  j : ∃ s, J s D A ∧ Ipn e a F p s
  o : BelowO D1 A0 A
  g2 : Grew D1 D A0
  g : Gm D0 yB D
theorem BInD.keep {b yB l N : Nat} {e : Ex} {a t F : Int} {J : Int → (Nat → Prop) → World → Prop} {D0 D1 : Nat → Prop} {p : Int} {D : Nat → Prop} {A0 A A' : World} (h : BInD b yB l e a t J D0 F D1 A0 p D A)
    (hJ : ∀ x D A A', J x D A → KeepD yB D A A' → J x D A') (hc : KeepD N D A A') (h1 : b + 2 < N) (h2 : 5 < N) (h3 : yB < N) (h4 : A0.heap.size ≤ N) : BInD b yB l e a t J D0 F D1 A0 p D A' :=
  ⟨h.db.keepD hc h1 h2, (hc.block _ (Array.getElem?_eq_some_iff.1 h.yb).1 (.inl h3)).trans h.yb, h.j.elim fun s hs => ⟨s, hJ _ _ _ _ hs.1 (hc.mono (by omega)), hs.2⟩,
    ⟨hc.os.trans h.o.os, hc.tape.trans h.o.tape, hc.output.trans h.o.output, Nat.le_trans h.o.size hc.size, fun k hk hn => (hc.block k (by have := h.o.size; omega) (.inl (by omega))).trans (h.o.block k hk hn)⟩, h.g2, h.g⟩
/-- how it is left -/
def BXD (e : Ex) (t : Int) (J K : Int → (Nat → Prop) → World → Prop) (D0 : Nat → Prop) (yB : Nat) (c : Code) (D : Nat → Prop) (A : World) : Prop := c = .ret ∧ ((∃ s, BS e t s ∧ J s D A) ∨ ∃ s, K s D A) ∧ Gm D0 yB D
theorem BXD.keep {e : Ex} {t : Int} {J K : Int → (Nat → Prop) → World → Prop} {D0 : Nat → Prop} {yB N : Nat} {c : Code} {D : Nat → Prop} {A A' : World} (h : BXD e t J K D0 yB c D A)
    (hJ : ∀ x D A A', J x D A → KeepD yB D A A' → J x D A') (hK : ∀ x D A A', K x D A → KeepD yB D A A' → K x D A') (hc : KeepD N D A A') (h3 : yB < N) : BXD e t J K D0 yB c D A' :=
  ⟨h.1, h.2.1.elim (fun ⟨s, h1, h2⟩ => .inl ⟨s, h1, hJ _ _ _ _ h2 (hc.mono (by omega))⟩) (fun ⟨s, h1⟩ => .inr ⟨s, hK _ _ _ _ h1 (hc.mono (by omega))⟩), h.2.2⟩
def BXnD (e : Ex) (t : Int) (J K : Int → (Nat → Prop) → World → Prop) (D0 : Nat → Prop) (yB B : Nat) (D1 : Nat → Prop) (A0 : World) (c : Code) (D : Nat → Prop) (A : World) : Prop := BXD e t J K D0 yB c D A ∧ BelowO (fun k => k < B ∨ D1 k) A0 A ∧ Grew D1 D A0
theorem BXnD.keep {e : Ex} {t : Int} {J K : Int → (Nat → Prop) → World → Prop} {D0 D1 : Nat → Prop} {yB B N : Nat} {c : Code} {D : Nat → Prop} {A0 A A' : World} (h : BXnD e t J K D0 yB B D1 A0 c D A)
    (hJ : ∀ x D A A', J x D A → KeepD yB D A A' → J x D A') (hK : ∀ x D A A', K x D A → KeepD yB D A A' → K x D A') (hc : KeepD N D A A') (h3 : yB < N) (h4 : A0.heap.size ≤ N) : BXnD e t J K D0 yB B D1 A0 c D A' :=
  ⟨h.1.keep hJ hK hc h3, ⟨hc.os.trans h.2.1.os, hc.tape.trans h.2.1.tape, hc.output.trans h.2.1.output, Nat.le_trans h.2.1.size hc.size, fun k hk hn => (hc.block k (by have := h.2.1.size; omega) (.inl (by omega))).trans (h.2.1.block k hk hn)⟩, h.2.2⟩
set_option maxRecDepth 20000 in
set_option maxHeartbeats 8000000 in
theorem between_iterD (n b : Nat) (e : Ex) (he : ExOk e) (a t : Int) (ha : -1 ≤ a ∧ a ≤ 9223372036854775807) (ht : -9223372036854775808 ≤ t ∧ t ≤ 1099511627776) (w : World) (hdb : DB b e a t w) :
    SeqD Fence.wide n Tryz.prog 43 (betB b) (tbox b) a (BG e t) (BS e t) w := by
  intro D0 l J K W hW hown hJ hK hJs hY hJ0
  have hnil := yield_thereT l
  have hY2 : ∀ x y D A, J x D A → BG e t x y → W.heap.size ≤ A.heap.size → Grew D0 D W → YieldAt Fence.wide 9 Tryz.prog l #[.int .i64 y] A fun e A' => ∃ D', Grew D D' A ∧ ((e = .returned (.bool true) ∧ J y D' A' ∧ BelowO D A A') ∨ (e = .returned (.bool false) ∧ K y D' A' ∧ BelowO (fun k => k < W.heap.size ∨ D k) A A')) := fun x y D A h1 h2 h3 h4 => yieldAt_any (hY x y D A h1 h2 h3 h4)
  have hbx : ∀ D, Gm D0 W.heap.size D → (∀ k, D k → ¬ tbox b k) ∧ ¬ D W.heap.size ∧ Grew D0 D W ∧ ¬ D 5 := fun D hg => by
    have h1 := (hdb.old hW).lt
    have h2 := (hdb.old hW).d.lt
    have h3 : ∀ k, D k → ¬ tbox b k := fun k hk => by
      rcases hg k hk with h3 | h3
      · exact (hown k h3).1
      · rintro (h | h | h | h) <;> omega
    refine ⟨h3, fun hk => ?_, fun k hk => (hg k hk).imp id (fun h => by omega), fun hk => h3 _ hk (.inr (.inr (.inr rfl)))⟩
    rcases hg _ hk with h4 | h4
    · have := (hown _ h4).2; omega
    · omega
  refine callsIn_any (n := 9) ?_
  have hdW := hdb.old hW
  obtain ⟨Y, hYd⟩ : ∃ Y, Y = W.alloc (.cells #[.func (.yield l) #[] #[]] 55) := ⟨_, rfl⟩
  obtain ⟨y1, y2, y3⟩ := cell_new W #[.func (.yield l) #[] #[]] 55
  rw [← hYd] at y1 y2 y3
  have hdY := hdW.old y1
  have hjY := hJ _ _ _ _ hJ0 (.of y1)
  have hlW := hdW.lt
  have HY := Lib.hid (And.intro hJ (And.intro hK (And.intro hY2 (And.intro hown (And.intro hJs hbx)))))
  have HW := Lib.hid (And.intro hYd (And.intro y1 (And.intro y2 (And.intro y3 (And.intro hdY (And.intro hjY hW))))))
  obtain ⟨ky, _⟩ := one_cell y2
  obtain ⟨ka, _⟩ := one_cell hdW.f
  obtain ⟨kt, _⟩ := one_cell hdW.t
  obtain ⟨⟨c0, c1, c2, c3, c4, c5, c6⟩, _⟩ := seven hdW.e
  have hb0 : b < W.heap.size := by omega
  have hb1 : b + 1 < W.heap.size := by omega
  have hb2 : b + 2 < W.heap.size := by omega
  clear hJ hK hY hY2 hJ0 hYd y1 y2 y3 hdY hjY hdW hown hW hdb hJs hbx
  by_cases hat : t ≤ a
  · refine callsIn_of_wp_marks Tryz.func43 rfl trivial ?_ rfl
    simp only [Tryz.ntmps43, List.size_toArray, List.length_cons, List.length_nil, Nat.reduceAdd, Nat.reduceSub, Array.replicate_succ, Array.replicate_zero, List.push_toArray, List.append_toArray, List.nil_append, List.cons_append]
    gi_wp2_with fail
    rw [← HW.out.1]
    exact leave0 rfl fun v => ⟨⟨v, rfl⟩, a, D0, Grew.refl _ _, .inl ⟨(fun u h1 h2 => by omega), HW.out.2.2.2.2.2.1⟩⟩
  · have hat' : a < t := by omega
    refine callsIn_of_wp_marks Tryz.func43 rfl trivial ?_ rfl
    simp only [Tryz.ntmps43, List.size_toArray, List.length_cons, List.length_nil, Nat.reduceAdd, Nat.reduceSub, Array.replicate_succ, Array.replicate_zero, List.push_toArray, List.append_toArray, List.nil_append, List.cons_append]
    gi_wp2_with fail
    rw [← HW.out.1]
    clear ky ka kt c0 c1 c2 c3 c4 c5 c6
    refine ⟨trivial, (callsIn_wide.2 (days_any e (a + 1) t Y)).mono ?_⟩
    rintro q w2 ⟨rfl, hw2⟩
    obtain ⟨n1, n2, n3⟩ := db_new HW.out.2.2.2.2.1.d hw2
    have hg64 := HW.out.2.2.2.2.1.d.lt
    have hzY := HW.out.2.2.2.1
    have hbo : BOD b W.heap.size l e a t J D0 (a + 1 - (a + 1) % 1440 - 1) D0 w2 := ⟨HW.out.2.2.2.2.1.old n1, old_blk n1 HW.out.2.2.1, ⟨a, HY.out.1 _ _ _ _ HW.out.2.2.2.2.2.1 (.of n1), Opn.start e a⟩, fun k hk => .inl hk⟩
    have HD := Lib.hid (And.intro n1 (And.intro n2 hbo))
    clear hw2 n1 n2 hbo hzY
    gi_wp2_with fail
    refine range_intD (box := tbox Y.heap.size) (x0 := a + 1 - (a + 1) % 1440 - 1) (G := DG e t) (S := DS e t) rfl (by omega) (gf := 66) (lb := dayBx Y.heap.size) rfl trivial (enters_of Tryz.func66 (by kernel_rfl) rfl)
      (days_iterD _ Y.heap.size e he (a + 1) t ⟨by omega, by omega⟩ ht.2 w2 HD.out.2.1) D0 (fun k hk => ⟨fun h => ?hb, ?hlt⟩) rfl
      (BOD b W.heap.size l e a t J D0) (fun c _ => BXD e t J K D0 W.heap.size c) (fun x D A A' h hc => have hz9 := HD.out.1.size; have hz8 := HW.out.2.2.2.1; h.keep HY.out.1 hc (by omega) (by omega) (by omega))
      (fun c x D A A' h hc => have hz9 := HD.out.1.size; have hz8 := HW.out.2.2.2.1; h.keep HY.out.1 HY.out.2.1 hc (by omega)) (fun x D A h => h.j.elim fun s hs => HY.out.2.2.2.2.1 _ _ _ hs.1) HD.out.2.2 ?hround ?hdone ?hstop
    case hb =>
      have h1 := HY.out.2.2.2.1 k hk
      have h3 := HW.out.2.2.2.1
      have h4 := HD.out.1.size
      rcases h with h | h | h | h
      · omega
      · omega
      · omega
      · exact h1.1 (.inr (.inr (.inr h)))
    case hlt =>
      have h1 := HY.out.2.2.2.1 k hk
      have h3 := HW.out.2.2.2.1
      have h4 := HD.out.1.size
      omega
    case hround =>
      rintro l1 x F D A hlB ⟨rr, hlr⟩ hzA hDl hI hG
      clear hI hlr hDl
      gi_wp2_with fail
      refine ⟨Below.refl _ _, ?_⟩
      intro A2 hbut hrec hI
      have hzA2 : w2.heap.size ≤ A2.heap.size := by have := hbut.2.2.2.1; omega
      obtain ⟨ka, _⟩ := one_cell hI.db.f
      obtain ⟨⟨c0, c1, c2, c3, c4, c5, c6⟩, _⟩ := seven hI.db.e
      have HI := Lib.hid (And.intro hI (And.intro hrec hG))
      clear hI hrec hG hbut
      gi_wp2_with fail
      refine ⟨trivial, CallsIn.inRound l1 ((callsIn_wide.2 (ticks_any e F a A2)).mono ?_)⟩
      rintro q A3 ⟨rfl, hA3⟩
      obtain ⟨n1, n2, n3⟩ := db_new HI.out.1.db.d hA3
      have hin : BInD b W.heap.size l e a t J D0 F D A2 a D A3 := ⟨HI.out.1.db.old n1, old_blk n1 HI.out.1.yb, HI.out.1.j.elim (fun s hs => ⟨s, HY.out.1 _ _ _ _ hs.1 (.of n1), hs.2.day HI.out.2.2⟩), BelowO.of n1, Grew.refl _ _, HI.out.1.g⟩
      have hDs : ∀ k, D k → k < A2.heap.size := HI.out.1.j.elim fun s hs => HY.out.2.2.2.2.1 _ _ _ hs.1
      have HDs := Lib.hid hDs
      clear hDs
      have hrec3 : ∃ r, A3.heap[l1]? = some (.loop r) := HI.out.2.1.elim (fun r hr => ⟨r, (n1.block _ (Array.getElem?_eq_some_iff.1 hr).1).trans hr⟩)
      have HE := Lib.hid (And.intro n1 (And.intro n2 (And.intro n3 (And.intro hin hrec3))))
      clear hA3 n1 n2 n3 hin ka c0 c1 c2 c3 c4 c5 c6 hrec3
      gi_wp2_with fail
      refine range_intDN (l₀ := l1) (box := tbox A2.heap.size) (x0 := a) (G := TG e F a) (S := TS e F) rfl HE.out.2.2.2.2 (by omega) (gf := 72) (lb := tickB A2.heap.size) rfl trivial (enters_of Tryz.func72 (by kernel_rfl) rfl)
        (ticks_iterD _ A2.heap.size e he F a ⟨(dn_day HI.out.2.2.2.1.2).1, by have := HI.out.2.2.2.2.1; omega⟩ ⟨ha.1, by omega⟩ A3 (tb_of HE.out.2.1)) D (fun k hk => ⟨fun h => ?hb2, ?hlt2⟩) rfl
        (BInD b W.heap.size l e a t J D0 F D A2) (fun c _ => BXnD e t J K D0 W.heap.size w2.heap.size D A2 c)
        (fun x E A A' h hc => have hz9 := HD.out.1.size; have hz8 := HW.out.2.2.2.1; have hz7 := HE.out.1.size; h.keep HY.out.1 hc (by omega) (by omega) (by omega) (by omega))
        (fun c x E A A' h hc => have hz9 := HD.out.1.size; have hz8 := HW.out.2.2.2.1; have hz7 := HE.out.1.size; h.keep HY.out.1 HY.out.2.1 hc (by omega) (by omega)) (fun x E A h => h.j.elim fun s hs => HY.out.2.2.2.2.1 _ _ _ hs.1) HE.out.2.2.2.1 ?hround2 ?hdone2 ?hstop2
      case hb2 =>
        have h1 := HDs.out k hk
        rcases h with h | h | h | h
        · omega
        · omega
        · omega
        · exact (HY.out.2.2.2.2.2 D HI.out.1.g).2.2.2 (h ▸ hk)
      case hlt2 =>
        have h1 := HDs.out k hk
        have h5 := HE.out.1.size
        omega
      case hround2 =>
        rintro l2 p tk E X hlB ⟨rr, hlr⟩ hzX hEl hI hG
        clear hI hlr hEl
        gi_wp2_with fail
        refine ⟨Below.refl _ _, ?_⟩
        intro X2 hbut _ hI
        have hzX2 : A3.heap.size ≤ X2.heap.size := by have := hbut.2.2.2.1; omega
        obtain ⟨kt, _⟩ := one_cell hI.db.t
        obtain ⟨ky, _⟩ := one_cell hI.yb
        obtain ⟨s, hs, hip⟩ := hI.j
        have hdF := HI.out.2.2.2.1.2
        by_cases hfar : t < tk
        · have hbs := hip.far hdF hG hfar
          have HX := Lib.hid (And.intro hI (And.intro hs hbs))
          clear hI hs hip hdF hG hbut hbs
          gi_wp2_with fail
          refine ⟨(fun f h => by cases h), ?_⟩
          gi_wp2_with fail
          exact ⟨E, Grew.refl _ _, BelowO.of (Below.refl _ _), ⟨rfl, .inl ⟨s, HX.out.2.2, HX.out.2.1⟩, HX.out.1.g⟩, HX.out.1.o.weak (fun k h => .inr h), HX.out.1.g2⟩
        · have hnx := hip.next hdF hG
          have hfar' : tk ≤ t := by omega
          obtain ⟨fn, tmps, assign, body, hy, hR⟩ := HY.out.2.2.1 s tk E X2 hs ⟨hnx.1, hfar'⟩ (by have := HD.out.1.size; have := HE.out.1.size; have := HW.out.2.2.2.1; omega) (HY.out.2.2.2.2.2 E hI.g).2.2.1
          have HZ := Lib.hid hzX2
          have HX := Lib.hid (And.intro hI hnx.2)
          clear hI hs hip hdF hG hbut hnx hfar
          gi_wp2_with fail
          refine (roundIn_two hR).mono ?_
          rintro e' W3 ⟨E', hg3, (⟨rfl, hJ3, hm3⟩ | ⟨rfl, hK3, ho3⟩)⟩
          · gi_wp2_with fail
            have hb := HY.out.2.2.2.2.2 E HX.out.1.g
            have h3 := HW.out.2.2.2.1
            have h4 := HD.out.1.size
            have h5 := HE.out.1.size
            have h6 := HZ.out
            have h7 := HX.out.1.o.size
            exact ⟨E', hg3, hm3, HX.out.1.db.keep hm3 hb.1, (hm3.block _ (Array.getElem?_eq_some_iff.1 HX.out.1.yb).1 hb.2.1).trans HX.out.1.yb, ⟨tk, hJ3, HX.out.2⟩, HX.out.1.o.ext HX.out.1.g2 hm3, HX.out.1.g2.trans hg3 h7, HX.out.1.g.next hg3 (by omega)⟩
          · gi_wp2_with fail
            have h3 := HW.out.2.2.2.1
            have h4 := HD.out.1.size
            have h5 := HE.out.1.size
            have h6 := HZ.out
            have h7 := HX.out.1.o.size
            exact ⟨E', hg3, ho3.weak (fun k hk => hk.imp (fun h => by omega) id), ⟨rfl, .inr ⟨_, hK3⟩, HX.out.1.g.next hg3 (by omega)⟩, HX.out.1.o.ext2 HX.out.1.g2 ho3 (by omega), HX.out.1.g2.trans hg3 h7⟩
      case hdone2 =>
        rintro x2 E X hgE hS hI
        have HX := Lib.hid (And.intro hS hI)
        clear hS hI hgE
        gi_wp2_with fail
        exact ⟨E, HX.out.2.g2, HX.out.2.o, HX.out.2.db, HX.out.2.yb, HX.out.2.j.elim (fun s hs => ⟨s, hs.1, hs.2.done HI.out.2.2.2.1.2 HX.out.1⟩), HX.out.2.g⟩
      case hstop2 =>
        rintro c x2 E X hgE ⟨⟨rfl, h1⟩, h2, h3⟩
        have HX := Lib.hid (And.intro h1 (And.intro h2 h3))
        clear h1 h2 h3 hgE
        gi_wp2_with fail
        exact ⟨E, HX.out.2.2, HX.out.2.1, rfl, HX.out.1⟩
    case hdone =>
      intro D x E X hD hDE hS hI hK
      dsimp only
      obtain ⟨s, hs, ho⟩ := hI.j
      have hbs := ho.done hS
      have HX := Lib.hid (And.intro hs (And.intro hbs (And.intro hD (And.intro hK (And.intro hDE hI.g)))))
      clear hS hI hK hs ho hbs hD hDE
      gi_wp2_with fail
      have h3 := HW.out.2.2.2.1
      have h4 := HD.out.1.size
      have h5 := HX.out.2.2.1
      exact leaveD HX.out.2.2.2.1 (results_none rfl _ _ _) ⟨⟨_, rfl⟩, s, E, (HY.out.2.2.2.2.2 E HX.out.2.2.2.2.2).2.2.1, .inl ⟨HX.out.2.1, HY.out.1 _ _ _ _ HX.out.1 (.but (but_put D X (.deferred none)) (by omega) HX.out.2.2.2.2.1)⟩⟩
    case hstop =>
      rintro D c x E X hD hDE ⟨rfl, h, hgm⟩ hK
      have HX := Lib.hid (And.intro h (And.intro hD (And.intro hK (And.intro hDE hgm))))
      clear h hK hD hDE hgm
      gi_wp2_with fail
      have h3 := HW.out.2.2.2.1
      have h4 := HD.out.1.size
      have h5 := HX.out.2.1
      have hbl : KeepD W.heap.size E X (X.putObj D (.deferred none)) := .but (but_put D X (.deferred none)) (by omega) HX.out.2.2.2.1
      exact leaveD HX.out.2.2.1 (results_none rfl _ _ _) ⟨⟨_, rfl⟩, HX.out.1.elim (fun ⟨s, g1, g2⟩ => ⟨s, E, (HY.out.2.2.2.2.2 E HX.out.2.2.2.2).2.2.1, .inl ⟨g1, HY.out.1 _ _ _ _ g2 hbl⟩⟩) (fun ⟨s, g1⟩ => ⟨s, E, (HY.out.2.2.2.2.2 E HX.out.2.2.2.2).2.2.1, .inr (HY.out.2.1 _ _ _ _ g1 hbl)⟩)⟩
end Go.Proofs.YtkkanggkbbmfnaaGreatDoor.Fi

/- fires: Next -/
namespace Go.Proofs.YtkkanggkbbmfnaaGreatDoor.Fi
open Go.RowKit Go.Lib Go.Proofs.YtkkanggkbbmfnaaGreatDoor.Cn Go.Proofs.YtkkanggkbbmfnaaGreatDoor.Rg Go.Proofs.YtkkanggkbbmfnaaGreatDoor.Ht
attribute [local go_sem] Oper.semAt_some
set_option linter.unusedVariables false

/-- what Next tells -/
def NextIs (e : Ex) (s x : Int) (ok : Bool) : Prop := (ok = true ∧ nx e s x ∧ x ≤ 1099511627776) ∨ (ok = false ∧ x = 0 ∧ BS e 1099511627776 s)
theorem NextIs.same {e : Ex} {s x y : Int} {p q : Bool} (h : NextIs e s x p) (k : NextIs e s y q) : x = y ∧ p = q := by
  rcases h with ⟨rfl, h1, h2⟩ | ⟨rfl, rfl, h1⟩ <;> rcases k with ⟨rfl, k1, k2⟩ | ⟨rfl, rfl, k1⟩
  · exact ⟨nx_same h1 k1, rfl⟩
  · exact absurd h1.2.1 (k1 x h1.1 h2)
  · exact absurd k1.2.1 (h1 y k1.1 k2)
  · exact ⟨rfl, rfl⟩
theorem load_i64 {W : World} {b : Nat} {v : Value} (h : W.cell? ⟨b, 0, none⟩ = some v) : (loadVar 2 ⟨b, 0, none⟩).run Tryz.prog W = .ok v W := by go_simp
theorem load_bool {W : World} {b : Nat} {v : Value} (h : W.cell? ⟨b, 0, none⟩ = some v) : (loadVar 4 ⟨b, 0, none⟩).run Tryz.prog W = .ok v W := by go_simp
theorem results_ib {fn : Func} {tmps : Array Value} {r1 r2 b1 b2 : Nat} {X : World} {v1 v2 : Value}
    (hres : fn.results = #[.cell r1 2, .cell r2 4]) (ht1 : tmps.getD r1 undef = .pointer (some ⟨b1, 0, none⟩)) (ht2 : tmps.getD r2 undef = .pointer (some ⟨b2, 0, none⟩))
    (h1 : X.heap[b1]? = some (.cells #[v1] 2 (0, 0))) (h2 : X.heap[b2]? = some (.cells #[v2] 4 (0, 0))) : (results fn tmps).run Tryz.prog X = .ok (.tuple #[v1, v2]) X := by
  have e1 := load_i64 (one_cell h1).1
  have e2 := load_bool (one_cell h2).1
  have ht1' : tmps[r1]?.getD undef = .pointer (some ⟨b1, 0, none⟩) := by simpa using ht1
  have ht2' : tmps[r2]?.getD undef = .pointer (some ⟨b2, 0, none⟩) := by simpa using ht2
  simp only [results, hres]
  simp [ht1', ht2', Result.andThen, asAddr, e1, e2]
theorem up_max : up 1099511627776 = 1099511627776 := by decide
theorem two_st {X : World} {B : Nat} {v0 u0 v u : Value} {t1 t2 : TypeId} (h1 : X.heap[B + 1]? = some (.cells #[v0] t1 (0, 0))) (h2 : X.heap[B + 2]? = some (.cells #[u0] t2 (0, 0))) :
    ((X.setCell ⟨B + 1, 0, none⟩ v).setCell ⟨B + 1 + 1, 0, none⟩ u).heap[B + 1]? = some (.cells #[v] t1 (0, 0)) ∧ ((X.setCell ⟨B + 1, 0, none⟩ v).setCell ⟨B + 1 + 1, 0, none⟩ u).heap[B + 2]? = some (.cells #[u] t2 (0, 0)) ∧
    Below B X ((X.setCell ⟨B + 1, 0, none⟩ v).setCell ⟨B + 1 + 1, 0, none⟩ u) ∧ ∀ k, B + 2 < k → ((X.setCell ⟨B + 1, 0, none⟩ v).setCell ⟨B + 1 + 1, 0, none⟩ u).heap[k]? = X.heap[k]? := by
  refine ⟨?_, ?_, (((⟨rfl, rfl, rfl, Nat.le_refl _, fun _ _ => rfl⟩ : Below B X X)).setCell (p := ⟨B + 1, 0, none⟩) (Nat.le_succ _) _).setCell (p := ⟨B + 1 + 1, 0, none⟩) (by simp; omega) _, fun k hk => ?_⟩
  · rw [heap_setCell_other _ _ _ _ (by simp)]; exact one_set h1 v
  · exact one_set ((heap_setCell_other _ _ _ _ (by simp)).trans h2) u
  · rw [heap_setCell_other _ _ _ _ (by simp; omega), heap_setCell_other _ _ _ _ (by simp; omega)]
/-- the loop's state, and how it is left -/
structure NI (w : World) (s x : Int) (A : World) : Prop where
  x : x = s
  r1 : A.heap[w.heap.size + 1]? = some (.cells #[.int .i64 0] 2 (0, 0))
  r2 : A.heap[w.heap.size + 2]? = some (.cells #[.bool false] 4 (0, 0))
  b : Below w.heap.size w A
structure NX (w : World) (e : Ex) (s : Int) (c : Code) (x : Int) (A : World) : Prop where
  c : c = .ret
  g : BG e 1099511627776 s x
  r1 : A.heap[w.heap.size + 1]? = some (.cells #[.int .i64 x] 2 (0, 0))
  r2 : A.heap[w.heap.size + 2]? = some (.cells #[.bool true] 4 (0, 0))
  b : Below w.heap.size w A
end Go.Proofs.YtkkanggkbbmfnaaGreatDoor.Fi

/- fires: Ever; the chapter's example; eras, plainly -/
namespace Go.Proofs.YtkkanggkbbmfnaaGreatDoor.Fi
open Go.RowKit Go.Lib Go.Proofs.YtkkanggkbbmfnaaGreatDoor.Cn Go.Proofs.YtkkanggkbbmfnaaGreatDoor.Rg Go.Proofs.YtkkanggkbbmfnaaGreatDoor.Ht
set_option linter.unusedVariables false

/-- is any tick named -/
def EverIs (e : Ex) (b : Bool) : Prop := ∃ x, NextIs e (-1) x b
/-- the example's expression -/
def E0 : Ex := ⟨1, 1, 536870912, 4, 127, false, true⟩
theorem e0_parse : parseE [48, 32, 48, 32, 50, 57, 32, 50, 32, 42] = 0 ∧ parseV [48, 32, 48, 32, 50, 57, 32, 50, 32, 42] = E0 := by
  constructor
  · decide +kernel
  · kernel_rfl
theorem hb_one {k : Nat} {x : Int} (h : hb (2 ^ k) x = true) : x = k := by
  unfold hb at h
  rw [Bool.and_eq_true, decide_eq_true_eq, Nat.testBit_two_pow, decide_eq_true_eq] at h
  omega
theorem e0_nm {t : Int} (h : nm E0 t) : ∃ y wd, Ca.IsM t y 2 29 wd 0 0 := by
  obtain ⟨y, mo, d, wd, hh, mi, i, hn⟩ := h
  unfold namesB at hn
  have e : E0 = ⟨2 ^ 0, 2 ^ 0, 2 ^ 29, 2 ^ 2, 127, false, true⟩ := rfl
  rw [e] at hn
  simp only [Bool.and_eq_true] at hn
  obtain ⟨h1, h2, h3, h4⟩ := hn
  rw [if_pos (by decide)] at h4
  rw [Bool.and_eq_true] at h4
  obtain rfl := hb_one h1
  obtain rfl := hb_one h2
  obtain rfl := hb_one h3
  obtain rfl := hb_one h4.1
  exact ⟨y, wd, i⟩
theorem e0_at {t y wd : Int} (i : Ca.IsM t y 2 29 wd 0 0) : t = 1440 * (Ca.ah y + 59) ∧ 2000 ≤ y ∧ Ca.lp y = true := by
  have h1 := i.day; have h2 := i.h; have h3 := i.mi; have h4 := i.y0; have h5 := i.d2
  have e1 : Ca.mb y 2 = 31 := by unfold Ca.mb; simp
  refine ⟨by omega, h4, ?_⟩
  cases hl : Ca.lp y
  · exfalso
    unfold Ca.dm at h5
    rw [hl] at h5
    simp at h5
  · rfl
theorem e0_one : nx E0 0 84960 := by
  refine ⟨by omega, ⟨2000, 2, 29, 2, 0, 0, ⟨by decide, by decide, by decide, by decide, by decide, by decide, by decide, by decide, by decide⟩, by decide +kernel⟩, fun u h1 h2 hu => ?_⟩
  obtain ⟨y, wd, i⟩ := e0_nm hu
  obtain ⟨h3, h4, _⟩ := e0_at i
  have := Ca.ah_ge h4
  omega
theorem e0_two : nx E0 84960 2188800 := by
  refine ⟨by omega, ⟨2004, 2, 29, 0, 0, 0, ⟨by decide, by decide, by decide, by decide, by decide, by decide, by decide, by decide, by decide⟩, by decide +kernel⟩, fun u h1 h2 hu => ?_⟩
  obtain ⟨y, wd, i⟩ := e0_nm hu
  obtain ⟨h3, h4, h5⟩ := e0_at i
  rw [Ca.lp_iff (by omega)] at h5
  have h6 := Ca.ah_ge h4
  have h7 : y ≤ 2006 := by omega
  have h8 : y = 2000 ∨ y = 2004 := by omega
  rcases h8 with rfl | rfl
  · have : Ca.ah 2000 = 0 := by decide
    omega
  · have : Ca.ah 2004 = 1461 := by decide
    omega
theorem e0_ok : ExOk E0 := ⟨by decide, by decide, by decide, by decide, by decide⟩
/-- whatever is named is named again behind any tick -/
theorem nm_again {e : Ex} {u : Int} (h : nm e u) : ∀ k : Nat, nm e (u + 210379680 * k)
  | 0 => by rw [show u + 210379680 * ((0 : Nat) : Int) = u by omega]; exact h
  | k + 1 => by
    have h0 := nm_nonneg h
    have := (nm_era (e := e) (t := u + 210379680 * k) (by omega)).2 (nm_again h k)
    rw [show u + 210379680 * ((k + 1 : Nat) : Int) = u + 210379680 * k + 210379680 by omega]
    exact this
theorem none_ever {e : Ex} {t : Int} (h0 : -1 ≤ t) (h1 : t + 210379680 ≤ 1099511627776) (h : BS e 1099511627776 t) : ∀ u, ¬ nm e u := fun u hu => by
  have hn := never (p := nm e) (a := t + 1) (fun v hv => (nm_era hv).1) (by omega) (fun v v1 v2 => h v (by omega) (by omega))
  have hu0 := nm_nonneg hu
  exact hn _ (by omega) (nm_again hu (t + 1).toNat)
theorem nx_era {e : Ex} {t a : Int} (h0 : 0 ≤ t) (h : nx e t a) : nx e (t + 210379680) (a + 210379680) ∧ a ≤ t + 210379680 := by
  have ha := nm_nonneg h.2.1
  refine ⟨⟨by have := h.1; omega, (nm_era ha).2 h.2.1, fun u h1 h2 hu => ?_⟩, ?_⟩
  · refine h.2.2 (u - 210379680) (by omega) (by omega) ((nm_era (by omega)).1 ?_)
    rw [show u - 210379680 + 210379680 = u by omega]; exact hu
  · by_cases hc : a ≤ t + 210379680
    · exact hc
    · exfalso
      refine h.2.2 (a - 210379680) (by omega) (by omega) ((nm_era (by omega)).1 ?_)
      rw [show a - 210379680 + 210379680 = a by omega]; exact h.2.1
theorem eras {e : Ex} {t a b : Int} {ok is ev : Bool} (h0 : 0 ≤ t) (h1 : t ≤ 4294967295) (ha : NextIs e t a ok) (hb : NextIs e (t + 210379680) b is) (hv : EverIs e ev) : is = ok ∧ ev = ok ∧ (ok = true → b = a + 210379680) := by
  obtain ⟨x, hv⟩ := hv
  rcases ha with ⟨rfl, a1, a2⟩ | ⟨rfl, rfl, a1⟩
  · obtain ⟨e1, e2⟩ := nx_era h0 a1
    obtain ⟨rfl, rfl⟩ := hb.same (.inl ⟨rfl, e1, by omega⟩)
    refine ⟨rfl, ?_, fun _ => rfl⟩
    rcases hv with ⟨rfl, _⟩ | ⟨rfl, _, h2⟩
    · rfl
    · exact absurd a1.2.1 (h2 a (by have := nm_nonneg a1.2.1; omega) a2)
  · have hn := none_ever (by omega) (by omega) a1
    refine ⟨?_, ?_, fun h => by cases h⟩
    · rcases hb with ⟨rfl, h2, _⟩ | ⟨rfl, _⟩
      · exact absurd h2.2.1 (hn _)
      · rfl
    · rcases hv with ⟨rfl, h2, _⟩ | ⟨rfl, _⟩
      · exact absurd h2.2.1 (hn _)
      · rfl
end Go.Proofs.YtkkanggkbbmfnaaGreatDoor.Fi

/- fires: FiresEras' walk -/
namespace Go.Proofs.YtkkanggkbbmfnaaGreatDoor.Fi
open Go.RowKit Go.Lib Go.Proofs.YtkkanggkbbmfnaaGreatDoor.Cn Go.Proofs.YtkkanggkbbmfnaaGreatDoor.Rg Go.Proofs.YtkkanggkbbmfnaaGreatDoor.Ht
set_option linter.unusedVariables false

end Go.Proofs.YtkkanggkbbmfnaaGreatDoor.Fi

/- fires: count -/
namespace Go.Proofs.YtkkanggkbbmfnaaGreatDoor.Fi
open Go.RowKit Go.Lib Go.Proofs.YtkkanggkbbmfnaaGreatDoor.Cn Go.Proofs.YtkkanggkbbmfnaaGreatDoor.Rg Go.Proofs.YtkkanggkbbmfnaaGreatDoor.Ht
attribute [local go_sem] Oper.semAt_some
set_option linter.unusedVariables false

/-- the loop's state: so many so far, fewer than most -/
structure CI (w : World) (e : Ex) (a t : Int) (most : Nat) (x : Int) (A : World) : Prop where
  m : A.heap[w.heap.size + 1]? = some (.cells #[.int .i64 (most : Nat)] 3 (0, 0))
  n : A.heap[w.heap.size + 2]? = some (.cells #[.int .i64 (cnt e a x : Nat)] 3 (0, 0))
  lt : cnt e a x < most
  ge : a ≤ x
  le : x = a ∨ x ≤ t
  b : Below w.heap.size w A
/-- how it is left -/
structure CX (w : World) (e : Ex) (a t : Int) (most : Nat) (c : Code) (x : Int) (A : World) : Prop where
  c : c = .exit 0
  n : A.heap[w.heap.size + 2]? = some (.cells #[.int .i64 (most : Nat)] 3 (0, 0))
  ge : most ≤ cnt e a t
  b : Below w.heap.size w A
theorem cnt_end {e : Ex} {a t x : Int} (hx : a ≤ x) (hle : x = a ∨ x ≤ t) (h : BS e t x) : cnt e a t = cnt e a x := by
  by_cases hxt : x ≤ t
  · rw [cnt_add e hx hxt, cnt_none e (fun u h1 h2 => h u h1 h2)]; rfl
  · rcases hle with rfl | h
    · rw [cnt_self e (by omega), cnt_self e (Int.le_refl _)]
    · exact absurd h hxt
theorem one_st {X : World} {B : Nat} {v0 v : Value} {t : TypeId} (h : X.heap[B + 2]? = some (.cells #[v0] t (0, 0))) :
    (X.setCell ⟨B + 1 + 1, 0, none⟩ v).heap[B + 2]? = some (.cells #[v] t (0, 0)) ∧ BelowO (fun k => k = B + 2) X (X.setCell ⟨B + 1 + 1, 0, none⟩ v) :=
  ⟨one_set h v, (BelowO.of (own := fun k => k = B + 2) (Below.refl X.heap.size X)).set (p := ⟨B + 1 + 1, 0, none⟩) rfl v⟩
set_option maxRecDepth 20000 in
set_option maxHeartbeats 8000000 in
theorem count_any (e : Ex) (he : ExOk e) (a t : Int) (most : Nat) (ha : Ca.I64 a) (ht : Ca.I64 t) (hm0 : 0 < most) (hm : most ≤ 9223372036854775807) (w : World) (hd : Db w) :
    Calls Tryz.prog 46 #[exv e, .int .i64 a, .int .i64 t, .int .i64 (most : Nat)] w fun r w' => r = .returned (.int .i64 ((min (cnt e (lo a) (up t)) most : Nat) : Int)) ∧ Below w.heap.size w w' := by
  have hlo : -1 ≤ lo a ∧ lo a ≤ 9223372036854775807 := by unfold lo; unfold Ca.I64 at ha; omega
  have hdlt := hd.lt
  have hup : -9223372036854775808 ≤ up t ∧ up t ≤ 1099511627776 := by unfold up; unfold Ca.I64 at ht; omega
  obtain ⟨V, hV⟩ : ∃ V, V = ((w.alloc (.cells (exC e) 57)).alloc (.cells #[.int .i64 (most : Nat)] 3)).alloc (.cells #[.int .i64 0] 3) := ⟨_, rfl⟩
  have hb : Below w.heap.size w V := by rw [hV]; exact (((Below.refl _ _).alloc (Nat.le_refl _) _).alloc (by simp) _).alloc (by simp; omega) _
  have q0 : V.heap[w.heap.size]? = some (.cells (exC e) 57 (0, 0)) := by
    rw [hV]; exact (Below.heap_alloc _ _ _ (by simp; omega)).trans (two_new w _ 57 #[.int .i64 (most : Nat)] 3).2.1
  have q1 : V.heap[w.heap.size + 1]? = some (.cells #[.int .i64 (most : Nat)] 3 (0, 0)) := by
    rw [hV]; exact (Below.heap_alloc _ _ _ (by simp)).trans (two_new w _ 57 #[.int .i64 (most : Nat)] 3).2.2.1
  have q2 : V.heap[w.heap.size + 2]? = some (.cells #[.int .i64 0] 3 (0, 0)) := by
    have := (two_new (w.alloc (.cells (exC e) 57)) #[.int .i64 (most : Nat)] 3 #[.int .i64 0] 3).2.2.1
    rw [hV]; simpa using this
  have hzV : V.heap.size = w.heap.size + 3 := by rw [hV]; simp
  have hbt := between_any e a t ha ht V (hd.old hb)
  generalize lo a = A0 at hbt hlo ⊢
  generalize up t = T at hbt hup ⊢
  have hc0 : cnt e A0 A0 = 0 := cnt_self e (Int.le_refl _)
  have HV := Lib.hid (And.intro hV (And.intro hb (And.intro q0 (And.intro q1 (And.intro q2 (And.intro hzV (And.intro hbt hc0)))))))
  clear hV hb q0 q1 q2 hzV hbt hd hc0
  obtain ⟨R, hR⟩ : ∃ R, R = min (cnt e A0 T) most := ⟨_, rfl⟩
  rw [← hR]
  have HR := Lib.hid hR
  clear hR
  refine (callsIn_wide (n := 9)).1 ?_
  refine callsIn_of_wp_marks Tryz.func46 rfl trivial ?_ rfl
  simp only [Tryz.ntmps46, List.size_toArray, List.length_cons, List.length_nil, Nat.reduceAdd, Nat.reduceSub, Array.replicate_succ, Array.replicate_zero, List.push_toArray, List.append_toArray, List.nil_append, List.cons_append]
  gi_wp2_with fail
  rw [← HV.out.1]
  refine ⟨trivial, (callsIn_wide.2 HV.out.2.2.2.2.2.2.1).mono ?_⟩
  rintro q w2 ⟨rfl, hb2, hdb⟩
  have hI0 : CI w e A0 T most A0 w2 := ⟨old_blk hb2 HV.out.2.2.2.1, by rw [HV.out.2.2.2.2.2.2.2]; exact old_blk hb2 HV.out.2.2.2.2.1, by rw [HV.out.2.2.2.2.2.2.2]; exact hm0, Int.le_refl _, .inl rfl, HV.out.2.1.trans (hb2.mono HV.out.2.1.size)⟩
  have hz2 : w.heap.size + 3 ≤ w2.heap.size := by have := hb2.size; have := HV.out.2.2.2.2.2.1; omega
  have hzv := HV.out.2.2.2.2.2.1
  have hgd : 5 < w.heap.size := hdlt
  have H2 := Lib.hid (And.intro hdb (And.intro hI0 (And.intro hzv hgd)))
  clear hb2 hdb hI0 hzv hgd
  gi_wp2_with fail
  refine range_int (own := fun k => k = w.heap.size + 2) (box := tbox V.heap.size) (x0 := A0) (G := BG e T) (S := BS e T) rfl (by omega) (gf := 43) (lb := betB V.heap.size) rfl trivial (enters_of Tryz.func43 (by kernel_rfl) rfl)
    (between_iter _ V.heap.size e he A0 T hlo hup w2 H2.out.1) (fun k hk => ⟨fun h => ?hb, by omega⟩) rfl
    (CI w e A0 T most) (CX w e A0 T most) (fun x A A' h hc => ⟨(hc.block _ (by omega)).trans h.m, (hc.block _ (by omega)).trans h.n, h.lt, h.ge, h.le, h.b.trans (hc.mono (by omega))⟩)
    (fun c x A A' h hc => ⟨h.c, (hc.block _ (by omega)).trans h.n, h.ge, h.b.trans (hc.mono (by omega))⟩) H2.out.2.1 ?hround ?hdone ?hstop
  case hb =>
    have h1 := H2.out.2.2.1
    have h2 := H2.out.2.2.2
    rcases h with h | h | h | h <;> omega
  case hround =>
    rintro l x y A hlB ⟨rr, hlr⟩ hzA hI hG
    clear hI hlr
    gi_wp2_with fail
    refine ⟨Below.refl _ _, ?_⟩
    intro A2 hbut _ hI
    obtain ⟨k1, f1⟩ := one_cell hI.m
    obtain ⟨k2, f2⟩ := one_cell hI.n
    have hzA2 := hbut.2.2.2.1
    have l1 : w.heap.size + 1 < A2.heap.size := by omega
    have l2 : w.heap.size + 2 < A2.heap.size := by omega
    have hcn := cnt_next e hG.1 hI.ge
    have hlt := hI.lt
    have HI := Lib.hid (And.intro hI (And.intro hG hcn))
    clear hI hG hbut hzA2 hcn
    generalize cnt e A0 x = c at k2 hlt HI
    by_cases hlast : c + 1 = most
    · gi_wp2_with fail
      obtain ⟨g1, g2⟩ := one_st (v := .int .i64 ((c : Int) + 1)) HI.out.1.n
      generalize A2.setCell ⟨w.heap.size + 1 + 1, 0, none⟩ (.int .i64 ((c : Int) + 1)) = Z at g1 g2 ⊢
      refine ⟨g2.weak (fun k hk => by omega), rfl, ?_, ?_, HI.out.1.b.trans (g2.below HI.out.1.b.size (fun k hk => by omega))⟩
      · rw [g1, ← hlast]; rfl
      · have := cnt_mono e (a := A0) HI.out.2.1.2
        have h9 := HI.out.2.2
        omega
    · gi_wp2_with fail
      obtain ⟨g1, g2⟩ := one_st (v := .int .i64 ((c : Int) + 1)) HI.out.1.n
      generalize A2.setCell ⟨w.heap.size + 1 + 1, 0, none⟩ (.int .i64 ((c : Int) + 1)) = Z at g1 g2 ⊢
      refine ⟨g2, (g2.block _ l1 (by omega)).trans HI.out.1.m, ?_, ?_, ?_, .inr HI.out.2.1.2, HI.out.1.b.trans (g2.below HI.out.1.b.size (fun k hk => by omega))⟩
      · rw [g1, HI.out.2.2]; rfl
      · have h9 := HI.out.2.2; omega
      · have := HI.out.2.1.1.1; have := HI.out.1.ge; omega
  case hdone =>
    intro D x X hD hS hI hK
    dsimp only
    obtain ⟨k2, f2⟩ := one_cell hI.n
    have HX := Lib.hid (And.intro hS (And.intro hI (And.intro hD hK)))
    clear hS hI hK hD
    gi_wp2_with fail
    have hDz := HX.out.2.2.1
    have hbut := but_put D X (.deferred none)
    have hRe : R = cnt e A0 x := by rw [HR.out, cnt_end HX.out.2.1.ge HX.out.2.1.le HX.out.1]; have := HX.out.2.1.lt; omega
    refine leaveD HX.out.2.2.2 (results_tmp rfl _ _ _) ⟨by rw [hRe]; rfl, HX.out.2.1.b.trans (hbut.below (by omega))⟩
  case hstop =>
    rintro D c x X hD h hK
    obtain rfl := h.c
    obtain ⟨k2, f2⟩ := one_cell h.n
    have HX := Lib.hid (And.intro h (And.intro hD hK))
    clear h hK hD
    gi_wp2_with fail
    have hDz := HX.out.2.1
    have hbut := but_put D X (.deferred none)
    have hRe : R = most := by rw [HR.out]; have := HX.out.1.ge; omega
    refine leaveD HX.out.2.2 (results_tmp rfl _ _ _) ⟨by rw [hRe]; rfl, HX.out.1.b.trans (hbut.below (by omega))⟩
end Go.Proofs.YtkkanggkbbmfnaaGreatDoor.Fi

/- fires: Count -/
namespace Go.Proofs.YtkkanggkbbmfnaaGreatDoor.Fi
open Go.RowKit Go.Lib Go.Proofs.YtkkanggkbbmfnaaGreatDoor.Cn Go.Proofs.YtkkanggkbbmfnaaGreatDoor.Rg Go.Proofs.YtkkanggkbbmfnaaGreatDoor.Ht
set_option linter.unusedVariables false

/-- what Count tells -/
noncomputable def ctd (e : Ex) (a t most : Int) : Int := if most ≤ 0 then 0 else min (cnt e (lo a) (up t) : Nat) most
theorem ctd_zero {e : Ex} {a t most : Int} (h : up t ≤ lo a ∨ most ≤ 0) : ctd e a t most = 0 := by
  unfold ctd
  split
  · rfl
  · rw [cnt_self e (by omega)]; omega
theorem lo_id {a : Int} (h : -1 ≤ a) : lo a = a := by unfold lo; omega
theorem up_id {a : Int} (h : a ≤ 1099511627776) : up a = a := by unfold up; omega
/-- by turns -/
theorem cnt_by (e : Ex) {a t : Int} {k : Nat} (ha : -1 ≤ a) (h1 : a ≤ t - 210379680 * k) : cnt e a t = cnt e a (t - 210379680 * k) + k * cnt e (t - 210379680 * k) (t - 210379680 * k + 210379680) := by
  have h := cnt_turns e (a := t - 210379680 * k) (by omega) k
  rw [show t - 210379680 * k + 210379680 * k = t by omega] at h
  rw [← h, cnt_add e h1 (by omega)]
theorem min_by {x y k M : Nat} (hk : 0 < k) : min (min x M + k * min y M) M = min (x + k * y) M := by
  by_cases hx : M ≤ x
  · rw [Nat.min_eq_right hx, Nat.min_eq_right (Nat.le_add_right _ _), Nat.min_eq_right (Nat.le_trans hx (Nat.le_add_right _ _))]
  · by_cases hy : M ≤ y
    · have h1 : M ≤ k * M := by have := Nat.mul_le_mul_right M hk; omega
      have h2 : M ≤ k * y := Nat.le_trans hy (by have := Nat.mul_le_mul_right y hk; omega)
      rw [Nat.min_eq_right hy, Nat.min_eq_right (by omega), Nat.min_eq_right (by omega)]
    · rw [Nat.min_eq_left (by omega : x ≤ M), Nat.min_eq_left (by omega : y ≤ M)]
set_option maxRecDepth 20000 in
set_option maxHeartbeats 8000000 in
theorem Count_any (e : Ex) (he : ExOk e) (a t most : Int) (ha : Ca.I64 a) (ht : Ca.I64 t) (hm : Ca.I64 most) (w : World) (hd : Db w) :
    Calls Tryz.prog 27 #[exv e, .int .i64 a, .int .i64 t, .int .i64 most] w fun r w' => r = .returned (.int .i64 (ctd e a t most)) ∧ Below w.heap.size w w' := by
  have hlo : -1 ≤ lo a ∧ lo a ≤ 9223372036854775807 := by unfold lo; unfold Ca.I64 at ha; omega
  have hup : -9223372036854775808 ≤ up t ∧ up t ≤ 1099511627776 := by unfold up; unfold Ca.I64 at ht; omega
  have hw := fun W => within_any a t ha ht W
  have hz := ctd_zero (e := e) (a := a) (t := t) (most := most)
  obtain ⟨V, hV⟩ : ∃ V, V = w.alloc (.cells (exC e) 57) := ⟨_, rfl⟩
  obtain ⟨b1, b2, b3⟩ := cell_new w (exC e) 57
  rw [← hV] at b1 b2 b3
  have hdV := hd.old b1
  have hct := fun c d (m : Nat) (h1 : -1 ≤ c ∧ c ≤ 1099511627776) (h2 : -1 ≤ d ∧ d ≤ 1099511627776) (h3 : 0 < m) (h4 : m ≤ 9223372036854775807) W hW => by
    have h := count_any e he c d m (by unfold Ca.I64; omega) (by unfold Ca.I64; omega) h3 h4 W hW
    rw [lo_id h1.1, up_id h2.2] at h
    exact h
  have hby := fun k => cnt_by e (a := lo a) (t := up t) (k := k) hlo.1
  have hC : ¬ most ≤ 0 → ctd e a t most = min ((cnt e (lo a) (up t) : Nat) : Int) most := fun h => by unfold ctd; rw [if_neg h]
  generalize ctd e a t most = C at hz hC ⊢
  generalize lo a = A at hw hlo hz hby hC
  generalize up t = T at hw hup hz hby hC
  have HV := Lib.hid (And.intro hV (And.intro b1 (And.intro b2 hdV)))
  have HC := Lib.hid (And.intro hw (And.intro hct (And.intro hby (And.intro hC hz))))
  unfold Ca.I64 at hm
  clear hw hct hby hC hz hV b1 b2 b3 hdV hd he ha ht
  by_cases hat : T ≤ A
  · obtain rfl := HC.out.2.2.2.2 (.inl hat)
    go_enter Tryz.func27, Tryz.ntmps27
    go_wp2_with fail
    rw [← HV.out.1]
    refine (HC.out.1 _).mono ?_
    rintro q w1 ⟨rfl, rfl⟩
    go_wp2_with fail
    go_ret
    exact ⟨rfl, HV.out.2.1⟩
  have hat' : A < T := by omega
  by_cases hm0 : most ≤ 0
  · obtain rfl := HC.out.2.2.2.2 (.inr hm0)
    go_enter Tryz.func27, Tryz.ntmps27
    go_wp2_with fail
    rw [← HV.out.1]
    refine (HC.out.1 _).mono ?_
    rintro q w1 ⟨rfl, rfl⟩
    go_wp2_with fail
    go_ret
    exact ⟨rfl, HV.out.2.1⟩
  have hm1 : 0 < most := by omega
  obtain ⟨M, rfl⟩ : ∃ M : Nat, most = (M : Nat) := ⟨most.toNat, by omega⟩
  obtain ⟨k, hk⟩ : ∃ k : Nat, (T - A) / 210379680 = (k : Nat) := ⟨((T - A) / 210379680).toNat, by omega⟩
  have hk2 : (T - A).tdiv 210379680 = (k : Nat) := by rw [Int.tdiv_eq_ediv_of_nonneg (by omega)]; exact hk
  have hk3 : A ≤ T - 210379680 * k ∧ T - 210379680 * k < A + 210379680 ∧ k ≤ 5300 := by omega
  rw [Int.mul_comm 210379680 (k : Int)] at hk3
  obtain ⟨Rr, hRr⟩ : ∃ R : Int, R = T - (k : Int) * 210379680 := ⟨_, rfl⟩
  have hCe := HC.out.2.2.2.1 hm0
  have hbyk := HC.out.2.2.1 k (by omega)
  rw [Int.mul_comm 210379680 (k : Int)] at hbyk
  rw [← hRr] at hbyk hk3
  have HR := Lib.hid (And.intro hCe hbyk)
  clear hCe hbyk
  go_enter Tryz.func27, Tryz.ntmps27
  go_wp2_with fail
  rw [← HV.out.1]
  refine (HC.out.1 _).mono ?_
  rintro q w1 ⟨rfl, rfl⟩
  obtain ⟨⟨c0, c1, c2, c3, c4, c5, c6⟩, _⟩ := seven HV.out.2.2.1
  go_wp2_with fail
  rw [← hRr]
  have hRT : (k : Int) = 0 ∧ Rr = T ∨ 0 < (k : Int) ∧ Rr + 210379680 ≤ T := by omega
  have hRb : -1 ≤ Rr ∧ Rr ≤ 1099511627776 := by omega
  refine (HC.out.2.1 A Rr M ⟨hlo.1, by omega⟩ hRb (by omega) (by omega) _ HV.out.2.2.2).mono ?_
  rintro q w2 ⟨rfl, hb⟩
  have hd2 := HV.out.2.2.2.old hb
  have hx2 := old_blk hb HV.out.2.2.1
  have H2 := Lib.hid (And.intro (HV.out.2.1.trans (hb.mono HV.out.2.1.size)) hd2)
  have hle1 := cnt_le e A Rr
  clear hb hd2 c0 c1 c2 c3 c4 c5 c6 hRr hk hk2
  obtain ⟨⟨c0, c1, c2, c3, c4, c5, c6⟩, _⟩ := seven hx2
  rcases hRT with ⟨hk0, hRT⟩ | ⟨hk0, hRT⟩
  · obtain rfl : k = 0 := by omega
    subst hRT
    have hCC : C = ((min (cnt e A Rr) M : Nat) : Int) := by rw [HR.out.1]; omega
    have hC2 := Lib.hid hCC
    clear hCC HR
    generalize cnt e A Rr = x at hle1 hC2 ⊢
    obtain ⟨y, hy⟩ : ∃ y, y = min x M := ⟨_, rfl⟩
    rw [← hy] at hC2 ⊢
    have hyM : y ≤ M := by omega
    clear hy
    go_wp2_with fail
    go_ret
    refine ⟨congrArg (fun z => Ending.returned (.int .i64 z)) ?_, H2.out.1⟩
    rw [hC2.out]; omega
  · go_wp2_with fail
    refine (HC.out.2.1 Rr (Rr + 210379680) M hRb ⟨by omega, by omega⟩ (by omega) (by omega) _ H2.out.2).mono ?_
    rintro q w3 ⟨rfl, hb⟩
    have H3 := Lib.hid (H2.out.1.trans (hb.mono H2.out.1.size))
    have hle2 := cnt_le e Rr (Rr + 210379680)
    have hmin := min_by (x := cnt e A Rr) (y := cnt e Rr (Rr + 210379680)) (k := k) (M := M) (by omega)
    have hCC : C = ((min (cnt e A T) M : Nat) : Int) := by rw [HR.out.1]; omega
    rw [HR.out.2, ← hmin] at hCC
    generalize cnt e A Rr = x at hle1 hCC ⊢
    generalize cnt e Rr (Rr + 210379680) = y at hle2 hCC ⊢
    obtain ⟨x', hx'⟩ : ∃ x', x' = min x M := ⟨_, rfl⟩
    obtain ⟨y', hy'⟩ : ∃ y', y' = min y M := ⟨_, rfl⟩
    rw [← hx', ← hy'] at hCC ⊢
    have hx9 : x' ≤ 210379680 := by omega
    have hy9 : y' ≤ 210379680 := by omega
    have hP0 : k * y' ≤ 5300 * 210379680 := Nat.mul_le_mul hk3.2.2 hy9
    obtain ⟨P, hP⟩ : ∃ P : Nat, P = k * y' := ⟨_, rfl⟩
    rw [← hP] at hCC hP0
    have hPI : (k : Int) * (y' : Int) = (P : Int) := by rw [hP]; simp
    have hmul : IntKind.i64.wrap ((k : Int) * (y' : Int)) = (P : Int) := by rw [hPI]; exact IntWalk.i64_in _ (by omega)
    have hC2 := Lib.hid hCC
    clear hb c0 c1 c2 c3 c4 c5 c6 hmin hCC hP hx' hy' hle1 hle2
    go_wp2_with fail
    go_ret
    refine ⟨congrArg (fun z => Ending.returned (.int .i64 z)) ?_, H3.out⟩
    rw [hC2.out]; omega
end Go.Proofs.YtkkanggkbbmfnaaGreatDoor.Fi

/- fires: FiresBetween's walk: what the loop keeps -/
namespace Go.Proofs.YtkkanggkbbmfnaaGreatDoor.Fi
open Go.RowKit Go.Lib Go.Proofs.YtkkanggkbbmfnaaGreatDoor.Cn Go.Proofs.YtkkanggkbbmfnaaGreatDoor.Rg Go.Proofs.YtkkanggkbbmfnaaGreatDoor.Ht
attribute [local go_sem] Oper.semAt_some
set_option linter.unusedVariables false

theorem results_b {fn : Func} {tmps : Array Value} {r b : Nat} {X : World} {v : Value} (hres : fn.results = #[.cell r 4]) (ht : tmps.getD r undef = .pointer (some ⟨b, 0, none⟩)) (h : X.heap[b]? = some (.cells #[v] 4 (0, 0))) :
    (results fn tmps).run Tryz.prog X = .ok v X := by
  have e1 := load_bool (one_cell h).1
  have ht' : tmps[r]?.getD undef = .pointer (some ⟨b, 0, none⟩) := by simpa using ht
  simp only [results, hres]
  simp [ht', asAddr, e1]
theorem leaveB0 {n : Nat} {fn : Func} {tmps : Array Value} {r b : Nat} {X : World} {v : Value} {R : Ending → World → Prop} (hres : fn.results = #[.cell r 4]) (ht : tmps.getD r undef = .pointer (some ⟨b, 0, none⟩)) (h : X.heap[b]? = some (.cells #[v] 4 (0, 0))) (hR : R (.returned v) X) :
    LeavesInM Fence.wide n Tryz.prog fn tmps R [] .returning X := ⟨v, results_b hres ht h, hR⟩
theorem res_st {w X : World} {v0 v : Value} (h : X.heap[w.heap.size + 1]? = some (.cells #[v0] 4 (0, 0))) (hb : Below w.heap.size w X) :
    (X.setCell ⟨w.heap.size + 1, 0, none⟩ v).heap[w.heap.size + 1]? = some (.cells #[v] 4 (0, 0)) ∧ Below w.heap.size w (X.setCell ⟨w.heap.size + 1, 0, none⟩ v) :=
  ⟨one_set h v, hb.setCell (p := ⟨w.heap.size + 1, 0, none⟩) (Nat.le_succ _) v⟩
/-- the loop's state: position x; c the block of the expression -/
structure FI (w : World) (X : Ex) (s0 tO T : Int) (c : Nat) (x : Int) (A : World) : Prop where
  t : A.heap[w.heap.size]? = some (.cells #[.int .i64 tO] 2 (0, 0))
  r : A.heap[w.heap.size + 1]? = some (.cells #[.bool false] 4 (0, 0))
  e : A.heap[c]? = some (.cells (exC X) 57 (0, 0))
  n : A.heap[c + 1]? = some (.cells #[.int .i64 (cnt X s0 x : Nat)] 3 (0, 0))
  l : ∃ v, lo v = x ∧ Ca.I64 v ∧ A.heap[c + 2]? = some (.cells #[.int .i64 v] 2 (0, 0))
  wh : A.heap[c + 3]? = some (.cells #[.bool true] 4 (0, 0))
  lt : cnt X s0 x < 60
  ge : s0 ≤ x
  le : x = s0 ∨ x ≤ T
  b : Below w.heap.size w A
  d : Db A
/-- how it is left, by a break -/
structure FX (w : World) (X : Ex) (s0 tO T : Int) (c : Nat) (k : Code) (x : Int) (A : World) : Prop where
  k : k = .exit 0
  t : A.heap[w.heap.size]? = some (.cells #[.int .i64 tO] 2 (0, 0))
  r : A.heap[w.heap.size + 1]? = some (.cells #[.bool false] 4 (0, 0))
  e : A.heap[c]? = some (.cells (exC X) 57 (0, 0))
  n : A.heap[c + 1]? = some (.cells #[.int .i64 60] 3 (0, 0))
  l : ∃ v, Ca.I64 v ∧ A.heap[c + 2]? = some (.cells #[.int .i64 v] 2 (0, 0))
  wh : A.heap[c + 3]? = some (.cells #[.bool false] 4 (0, 0))
  ge : 60 ≤ cnt X s0 T
  b : Below w.heap.size w A
  d : Db A
theorem FI.keep {w : World} {X : Ex} {s0 tO T x : Int} {c N : Nat} {A A' : World} (h : FI w X s0 tO T c x A) (hb : Below N A A') (h1 : w.heap.size + 1 < N) (h2 : c + 3 < N) (h3 : 5 < N) (h4 : w.heap.size ≤ N) : FI w X s0 tO T c x A' := by
  obtain ⟨v, v1, v2, v3⟩ := h.l
  exact ⟨(hb.block _ (by omega)).trans h.t, (hb.block _ (by omega)).trans h.r, (hb.block _ (by omega)).trans h.e, (hb.block _ (by omega)).trans h.n, ⟨v, v1, v2, (hb.block _ (by omega)).trans v3⟩, (hb.block _ (by omega)).trans h.wh, h.lt, h.ge, h.le, h.b.trans (hb.mono h4), h.d.keep (hb.block _ h3)⟩
theorem FX.keep {w : World} {X : Ex} {s0 tO T x : Int} {c N : Nat} {k : Code} {A A' : World} (h : FX w X s0 tO T c k x A) (hb : Below N A A') (h1 : w.heap.size + 1 < N) (h2 : c + 3 < N) (h3 : 5 < N) (h4 : w.heap.size ≤ N) : FX w X s0 tO T c k x A' := by
  obtain ⟨v, v2, v3⟩ := h.l
  exact ⟨h.k, (hb.block _ (by omega)).trans h.t, (hb.block _ (by omega)).trans h.r, (hb.block _ (by omega)).trans h.e, (hb.block _ (by omega)).trans h.n, ⟨v, v2, (hb.block _ (by omega)).trans v3⟩, (hb.block _ (by omega)).trans h.wh, h.ge, h.b.trans (hb.mono h4), h.d.keep (hb.block _ h3)⟩
/-- behind a round -/
theorem FI.next {w : World} {X : Ex} {s0 tO T x y : Int} {c : Nat} {A Z : World} (h : FI w X s0 tO T c x A) (hx : nx X x y) (hT : y ≤ T) (hT2 : T ≤ 1099511627776) (hc : w.heap.size + 1 < c) (hg : 5 < c) (h59 : cnt X s0 x + 1 < 60)
    (hZ : Z = (A.setCell ⟨c + 1 + 1, 0, none⟩ (.int .i64 y)).setCell ⟨c + 1, 0, none⟩ (.int .i64 ((cnt X s0 x : Nat) + 1))) :
    FI w X s0 tO T c y Z ∧ BelowO (fun k => k = c + 1 ∨ k = c + 2) A Z := by
  have h0 := nm_nonneg hx.2.1
  obtain ⟨v, v1, v2, v3⟩ := h.l
  have hb : BelowO (fun k => k = c + 1 ∨ k = c + 2) A Z := by
    rw [hZ]; exact ((BelowO.of (own := fun k => k = c + 1 ∨ k = c + 2) (Below.refl A.heap.size A)).set (p := ⟨c + 1 + 1, 0, none⟩) (.inr rfl) _).set (p := ⟨c + 1, 0, none⟩) (.inl rfl) _
  have hz : c + 3 < A.heap.size := (Array.getElem?_eq_some_iff.1 h.wh).1
  refine ⟨⟨(hb.block _ (by omega) (by omega)).trans h.t, (hb.block _ (by omega) (by omega)).trans h.r, (hb.block _ (by omega) (by omega)).trans h.e, ?_, ⟨y, by rw [lo_id (by omega)], by unfold Ca.I64; omega, ?_⟩, (hb.block _ (by omega) (by omega)).trans h.wh, ?_, ?_, .inr hT,
    h.b.trans (hb.below h.b.size (fun k hk => by omega)), h.d.keep (hb.block _ (by omega) (by omega))⟩, hb⟩
  · rw [cnt_next X hx h.ge, hZ]
    exact one_set ((heap_setCell_other _ _ _ _ (by simp)).trans h.n) _
  · rw [hZ]
    exact (heap_setCell_other _ _ _ _ (by simp)).trans (one_set v3 _)
  · rw [cnt_next X hx h.ge]; exact h59
  · have := hx.1; have := h.ge; omega
theorem FI.stop {w : World} {X : Ex} {s0 tO T x y : Int} {c : Nat} {A Z : World} (h : FI w X s0 tO T c x A) (hx : nx X x y) (hT : y ≤ T) (hT2 : T ≤ 1099511627776) (hc : w.heap.size + 1 < c) (hg : 5 < c) (h59 : cnt X s0 x + 1 = 60)
    (hZ : Z = ((A.setCell ⟨c + 1 + 1, 0, none⟩ (.int .i64 y)).setCell ⟨c + 1, 0, none⟩ (.int .i64 60)).setCell ⟨c + 1 + 1 + 1, 0, none⟩ (.bool false)) :
    FX w X s0 tO T c (.exit 0) y Z ∧ BelowO (fun k => k = c + 1 ∨ k = c + 2 ∨ k = c + 3) A Z := by
  have h0 := nm_nonneg hx.2.1
  obtain ⟨v, v1, v2, v3⟩ := h.l
  have hb : BelowO (fun k => k = c + 1 ∨ k = c + 2 ∨ k = c + 3) A Z := by
    rw [hZ]; exact (((BelowO.of (own := fun k => k = c + 1 ∨ k = c + 2 ∨ k = c + 3) (Below.refl A.heap.size A)).set (p := ⟨c + 1 + 1, 0, none⟩) (.inr (.inl rfl)) _).set (p := ⟨c + 1, 0, none⟩) (.inl rfl) _).set (p := ⟨c + 1 + 1 + 1, 0, none⟩) (.inr (.inr rfl)) _
  have hz : c + 3 < A.heap.size := (Array.getElem?_eq_some_iff.1 h.wh).1
  refine ⟨⟨rfl, (hb.block _ (by omega) (by omega)).trans h.t, (hb.block _ (by omega) (by omega)).trans h.r, (hb.block _ (by omega) (by omega)).trans h.e, ?_, ⟨y, by unfold Ca.I64; omega, ?_⟩, ?_, ?_,
    h.b.trans (hb.below h.b.size (fun k hk => by omega)), h.d.keep (hb.block _ (by omega) (by omega))⟩, hb⟩
  · rw [hZ]
    exact (heap_setCell_other _ _ _ _ (by simp)).trans (one_set ((heap_setCell_other _ _ _ _ (by simp)).trans h.n) _)
  · rw [hZ]
    exact (heap_setCell_other _ _ _ _ (by simp)).trans ((heap_setCell_other _ _ _ _ (by simp)).trans (one_set v3 _))
  · rw [hZ]
    exact one_set ((heap_setCell_other _ _ _ _ (by simp)).trans ((heap_setCell_other _ _ _ _ (by simp)).trans h.wh)) _
  · have h1 := cnt_next X hx h.ge
    have h2 := cnt_mono X (a := s0) hT
    omega
theorem four_new (w : World) (C0 C1 C2 C3 : Array Value) (t0 t1 t2 t3 : TypeId) {V : World} (hV : V = (((w.alloc (.cells C0 t0)).alloc (.cells C1 t1)).alloc (.cells C2 t2)).alloc (.cells C3 t3)) :
    Below w.heap.size w V ∧ V.heap[w.heap.size]? = some (.cells C0 t0 (0, 0)) ∧ V.heap[w.heap.size + 1]? = some (.cells C1 t1 (0, 0)) ∧ V.heap[w.heap.size + 2]? = some (.cells C2 t2 (0, 0)) ∧ V.heap[w.heap.size + 3]? = some (.cells C3 t3 (0, 0)) ∧ V.heap.size = w.heap.size + 4 := by
  obtain ⟨b1, b2, b3, b4⟩ := two_new w C0 t0 C1 t1
  obtain ⟨c1, c2, c3, c4⟩ := two_new ((w.alloc (.cells C0 t0)).alloc (.cells C1 t1)) C2 t2 C3 t3
  rw [b4] at c2 c3 c4
  subst hV
  exact ⟨b1.trans (c1.mono (by omega)), old_blk c1 b2, old_blk c1 b3, c2, c3, by rw [c4]⟩
/-- the last test -/
theorem ctd_same {X : Ex} {a t most : Int} {n : Nat} (h : cnt X (lo a) (up t) = n ∧ n < 60 ∨ 60 ≤ cnt X (lo a) (up t) ∧ n = 60) : ctd X a t (min most 60) = max 0 (min (n : Int) (min most 60)) := by
  unfold ctd
  split
  · omega
  · rcases h with ⟨h1, h2⟩ | ⟨h1, h2⟩
    · rw [h1]; omega
    · omega
end Go.Proofs.YtkkanggkbbmfnaaGreatDoor.Fi
