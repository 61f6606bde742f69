/- a range over a function whose rounds are handed memory of their own: the iterator tells, beside each round's values, what lies there (of no program) -/
import Derived.Test.YtcodjknhnhdkfaaGreatDoorRows
import Derived.RangeFuncNested
import Derived.RangeFuncBound
import Derived.RangeFuncCalls
import Derived.RangeFuncLeaves
import Derived.Below
namespace Go.Proofs.YtcodjknhnhdkfaaGreatDoor.Rg
open Go.RowKit

/-- below n₀, and from n₁ up to B, all lies as it lay -/
structure Mid (n₀ n₁ B : Nat) (W W' : World) : Prop where
  os : W'.os = W.os
  tape : W'.tape = W.tape
  output : W'.output = W.output
  size : W.heap.size ≤ W'.heap.size
  block : ∀ k, (k < n₀ ∨ n₁ ≤ k) → k < B → W'.heap[k]? = W.heap[k]?
theorem Mid.refl (n₀ n₁ B : Nat) (a : World) : Mid n₀ n₁ B a a := ⟨rfl, rfl, rfl, Nat.le_refl _, fun _ _ _ => rfl⟩
theorem Mid.trans {n₀ n₁ B : Nat} {a b c : World} (h : Mid n₀ n₁ B a b) (k : Mid n₀ n₁ B b c) : Mid n₀ n₁ B a c :=
  ⟨k.os.trans h.os, k.tape.trans h.tape, k.output.trans h.output, Nat.le_trans h.size k.size, fun i h1 h2 => (k.block i h1 h2).trans (h.block i h1 h2)⟩
theorem Mid.of {n₀ n₁ B : Nat} {a b : World} (h : Below B a b) : Mid n₀ n₁ B a b := ⟨h.os, h.tape, h.output, h.size, fun k _ hk => h.block k hk⟩
/-- but for block l all lies as it lay, and nothing is new -/
def But (l : Nat) (W W' : World) : Prop := W'.os = W.os ∧ W'.tape = W.tape ∧ W'.output = W.output ∧ W'.heap.size = W.heap.size ∧ ∀ k, k ≠ l → W'.heap[k]? = W.heap[k]?
theorem but_put (l : Nat) (W : World) (o : Obj) : But l W (W.putObj l o) := ⟨rfl, rfl, rfl, by simp, fun k hk => World.putObj_heap_other hk⟩
theorem But.below {l B : Nat} {W W' : World} (h : But l W W') (hl : B ≤ l) : Below B W W' := ⟨h.1, h.2.1, h.2.2.1, Nat.le_of_eq h.2.2.2.1.symm, fun k hk => h.2.2.2.2 k (by omega)⟩

/-- what an iterator says that goes on till its end: S of the number of rounds; G of each round's values and memory -/
def Iter {α : Type} (F : Fence) (n : Nat) (P : Program) (g : Nat) (lb : Array Value) (encs : α → Array Value) (n₀ n₁ B : Nat) (G : Nat → α → World → Prop) (S : Nat → Prop) (w : World) : Prop :=
  ∀ (l : Nat) (J : Nat → World → Prop) (W : World), Below B w W → (∀ m A A', J m A → Below A.heap.size A A' → J m A') →
    (∀ m x A, J m A → G m x A → YieldAt F (n - 1) P l (encs x) A fun e A' => e = .returned (.bool true) ∧ J (m + 1) A' ∧ Mid n₀ n₁ B A A') →
    J 0 W →
    CallsIn F n P g (#[.func (.yield l) #[] #[]] ++ lb) W fun e W' => (∃ v, e = .returned v) ∧ ∃ m, S m ∧ J m W'

/-- how a round ends: it goes on -/
def onPost (n₀ n₁ B m : Nat) (I : Nat → World → Prop) (W : World) : Exit → Act → World → Prop
  | .normal, _, W' => KeepsFrom B W W' ∧ Mid n₀ n₁ B W W' ∧ I (m + 1) W'
  | _, _, _ => False

variable {F : Fence} {n : Nat} {P : Program}

theorem range_all {α : Type} {g : Operand} {ps : Array Tmp} {assign body : Code} {Q : Exit → Act → World → Prop} {a : Act} {w : World}
    (hro : F.round = none) (h1 : 1 ≤ n) {gf : Nat} {lb : Array Value} (hg : a.eval g = .func (.func gf) #[] lb) (hFg : F.fn gf) (eg : ∀ args w, (callFunc gf args).run P w = .ok (.enter gf args) w)
    {encs : α → Array Value} {n₀ n₁ : Nat} {G : Nat → α → World → Prop} {S : Nat → Prop} (hseq : Iter F (n - 1) P gf lb encs n₀ n₁ w.heap.size G S w) (hps : ∀ x, (encs x).size = ps.size)
    (I : Nat → World → Prop) (hI : ∀ m A A', I m A → Below w.heap.size A A' → I m A') (h0 : I 0 w)
    (hGn : ∀ m x A A', G m x A → Below A.heap.size A A' → G m x A') (hGb : ∀ m x A A' l r, G m x A → A.heap[l]? = some (.loop r) → But l A A' → G m x A')
    (hround : ∀ (l m : Nat) (x : α) (A : World), w.heap.size < l → (∃ r, A.heap[l]? = some (.loop r)) → I m A → G m x A →
      assign.wpIn (F.inRound l) (n - 1 - 1) P (Exit.then (fun a' A1 => Below A.heap.size A A1 ∧ ∀ A2, But l A1 A2 → I m A2 → G m x A2 → body.wpIn (F.inRound l) (n - 1 - 1) P (onPost n₀ n₁ w.heap.size m I A2) a' A2) (fun _ _ _ => False))
        { tmps := (ps.zip (encs x)).foldl (fun t (p, v) => t.setIfInBounds p v) a.tmps, defers := [] } A)
    (hdone : ∀ (D m : Nat) (A : World), w.heap.size ≤ D → S m → I m A → A.heap[D]? = some (.deferred (some [])) → Q .normal { a with defers := { target := .collected D, args := #[] } :: a.defers } A) :
    (Code.rangeFunc g ps assign body).wpIn F n P Q a w := by
  refine wpIn_rangeFunc ?_
  intro fn hfn
  rw [hro]
  obtain ⟨rec, hrec⟩ : ∃ rec : LoopState → Loop, rec = fun st => { state := st, pending := none, fn, tmps := a.tmps, params := ps, assign, body, defers := w.heap.size } := ⟨_, rfl⟩
  have hin := run_enterLoop_outer (P := P) (w := w) fn a.tmps ps assign body
  have hin' : (Instr.enterLoop fn a.tmps ps assign body none).run P w = .ok (w.heap.size + 1, [{ target := .collected w.heap.size, args := #[] }]) ((w.alloc (.deferred (some []))).alloc (.loop (rec .ready))) := by rw [hrec]; exact hin
  have hWb : Below w.heap.size w ((w.alloc (.deferred (some []))).alloc (.loop (rec .ready))) := ((Below.refl _ _).alloc (Nat.le_refl _) _).alloc (by simp) _
  have hWd : ((w.alloc (.deferred (some []))).alloc (.loop (rec .ready))).heap[w.heap.size]? = some (.deferred (some [])) := (Below.heap_alloc _ _ _ (by simp)).trans (World.alloc_heap_new w _)
  have hWl : ((w.alloc (.deferred (some []))).alloc (.loop (rec .ready))).heap[w.heap.size + 1]? = some (.loop (rec .ready)) := by
    have := World.alloc_heap_new (w.alloc (.deferred (some []))) (.loop (rec .ready)); rwa [World.size_alloc] at this
  generalize (w.alloc (.deferred (some []))).alloc (.loop (rec .ready)) = U at hin' hWb hWd hWl
  clear hin
  refine ⟨_, _, U, { target := .fn (.func gf) lb, args := #[.func (.yield (w.heap.size + 1)) #[] #[]] }, U, gf, #[.func (.yield (w.heap.size + 1)) #[] #[]] ++ lb, U, hin', ?_, ?_, ?_, fun _ => h1, ?_⟩
  · simp only [resolve, hg]; simp [go_sem]
  · intro f' hf'; simp [Target.leads] at hf'; subst hf'; exact hFg
  · simp [invoke, go_sem, eg]
  · refine (hseq (w.heap.size + 1) (fun m A => I m A ∧ A.heap[w.heap.size + 1]? = some (.loop (rec .ready)) ∧ A.heap[w.heap.size]? = some (.deferred (some []))) U hWb ?_ ?_ ⟨hI 0 w U h0 hWb, hWl, hWd⟩).mono ?_
    · rintro m A A' ⟨i1, i2, i3⟩ hb
      have hlt := (Array.getElem?_eq_some_iff.1 i2).1
      exact ⟨hI m A A' i1 (hb.mono (by omega)), (hb.block _ hlt).trans i2, (hb.block _ (by omega)).trans i3⟩
    · rintro m x A ⟨i1, i2, i3⟩ hgx
      have hlt := (Array.getElem?_eq_some_iff.1 i2).1
      have hy := run_yield (P := P) (args := encs x) i2 (by rw [hrec]; exact hps x)
      rw [hrec] at hy
      refine ⟨fn, _, assign, body, hy, roundIn_of_wpIn hfn (wpIn_mono (hround _ m x A (Nat.lt_succ_self _) ⟨_, i2⟩ i1 hgx) ?_)⟩
      rintro e a' A1 hq
      obtain rfl : e = .normal := by cases e <;> first | rfl | exact hq.elim
      obtain ⟨hb1, hbody⟩ := hq
      have l1 : A1.heap[w.heap.size + 1]? = some (.loop (rec .ready)) := (hb1.block _ hlt).trans i2
      have d1 : A1.heap[w.heap.size]? = some (.deferred (some [])) := (hb1.block _ (by omega)).trans i3
      have lt1 := (Array.getElem?_eq_some_iff.1 l1).1
      refine ⟨_, run_beginRound l1 (by rw [hrec]), ?_⟩
      have hbut := but_put (w.heap.size + 1) A1 (.loop { rec .ready with state := .busy })
      have hl2 : (A1.putObj (w.heap.size + 1) (.loop { rec .ready with state := .busy })).heap[w.heap.size + 1]? = some (.loop { rec .ready with state := .busy }) := World.putObj_heap_same lt1
      have hd2 : (A1.putObj (w.heap.size + 1) (.loop { rec .ready with state := .busy })).heap[w.heap.size]? = some (.deferred (some [])) := (World.putObj_heap_other (by omega)).trans d1
      generalize A1.putObj (w.heap.size + 1) (.loop { rec .ready with state := .busy }) = A2 at hbut hl2 hd2
      have j1 : I m A2 := hI m A1 A2 (hI m A A1 i1 (hb1.mono (by omega))) (hbut.below (by omega))
      have j2 : G m x A2 := hGb m x A1 A2 _ _ (hGn m x A A1 hgx hb1) l1 hbut
      have lt2 := (Array.getElem?_eq_some_iff.1 hl2).1
      refine wpIn_mono (hbody A2 hbut j1 j2) ?_
      rintro e a3 A3 hp
      cases e with
      | normal =>
        obtain ⟨hk, hmid, hi3⟩ := hp
        have l3 := hk.same _ _ (by omega) hl2 rfl
        have d3 := hk.same _ _ (Nat.le_refl _) hd2 rfl
        have lt3 := (Array.getElem?_eq_some_iff.1 l3).1
        have hend := run_endRound (P := P) none l3
        have hbut3 := but_put (w.heap.size + 1) A3 (.loop (rec .ready))
        have hend' : (Instr.endRound (w.heap.size + 1) none).run P A3 = .ok (.bool true) (A3.putObj (w.heap.size + 1) (.loop (rec .ready))) := by rw [hend, hrec]; rfl
        refine ⟨_, _, hend', rfl, ⟨hI _ _ _ hi3 (hbut3.below (by omega)), World.putObj_heap_same lt3, (World.putObj_heap_other (by omega)).trans d3⟩, ?_⟩
        exact (((Mid.of (hb1.mono (by omega))).trans (Mid.of (hbut.below (by omega)))).trans hmid).trans (Mid.of (hbut3.below (by omega)))
      | ret => exact hp.elim
      | exit id => exact hp.elim
      | goto t => exact hp.elim
      | panic ch => exact hp.elim
      | outgrown => exact hp.elim
    · rintro e A ⟨⟨v, rfl⟩, m, hS, i1, i2, i3⟩
      have hend := run_endLoop (P := P) i2 (by rw [hrec]; simp)
      have hbut3 := but_put (w.heap.size + 1) A (.loop { rec .ready with state := .exhausted })
      refine ⟨none, _, by rw [hrec] at hend ⊢; exact hend, hdone _ m _ (Nat.le_refl _) hS (hI _ _ _ i1 (hbut3.below (by omega))) ?_⟩
      exact (World.putObj_heap_other (by omega)).trans i3
end Go.Proofs.YtcodjknhnhdkfaaGreatDoor.Rg
namespace Go.Proofs.YtcodjknhnhdkfaaGreatDoor.Rg
open Go.RowKit

/-- what is no loop's record lies as it lay -/
structure Calmly (N : Nat) (W W' : World) : Prop where
  os : W'.os = W.os
  tape : W'.tape = W.tape
  output : W'.output = W.output
  size : W.heap.size ≤ W'.heap.size
  same : ∀ (k : Nat) (o : Obj), (k < N ∨ o.isCells = true) → W.heap[k]? = some o → W'.heap[k]? = some o
theorem Calmly.of {N : Nat} {a b : World} (h : Below a.heap.size a b) : Calmly N a b := ⟨h.os, h.tape, h.output, h.size, fun k _ _ ho => (h.block k (Array.getElem?_eq_some_iff.1 ho).1).trans ho⟩
theorem Calmly.but' {N l : Nat} {a b : World} {r : Obj} (h : But l a b) (hl : N ≤ l) (hr : a.heap[l]? = some r) (hc : r.isCells = false) : Calmly N a b :=
  ⟨h.1, h.2.1, h.2.2.1, Nat.le_of_eq h.2.2.2.1.symm, fun k o hk ho => (h.2.2.2.2 k (fun e => by
    subst e
    rw [hr] at ho
    obtain rfl := Option.some.inj ho
    rcases hk with hk | hk
    · omega
    · rw [hc] at hk; cases hk)).trans ho⟩
theorem Calmly.but {N l : Nat} {a b : World} {r : Loop} (h : But l a b) (hl : N ≤ l) (hr : a.heap[l]? = some (.loop r)) : Calmly N a b := Calmly.but' h hl hr rfl
theorem Calmly.cell {N : Nat} {a b : World} (h : Calmly N a b) {k : Nat} {C : Array Value} {t : TypeId} {fr : Nat × Nat} (hk : a.heap[k]? = some (.cells C t fr)) : b.heap[k]? = some (.cells C t fr) := h.same k _ (.inr rfl) hk
theorem Calmly.below {N M : Nat} {a b : World} (h : Calmly N a b) (hM : M ≤ N) (hN : N ≤ a.heap.size) : Below M a b := ⟨h.os, h.tape, h.output, h.size, fun k hk => by
  have hlt : k < a.heap.size := by omega
  have e : a.heap[k]? = some a.heap[k] := Array.getElem?_eq_getElem hlt
  rw [e]; exact h.same k _ (.inl (by omega)) e⟩
theorem Calmly.own {N : Nat} {a b : World} (h : Calmly N a b) {B n k : Nat} {e : TypeId} {v : Value} {xs : List Value} (ho : a.ownsRow B e k v n xs) : b.ownsRow B e k v n xs := by
  refine ⟨ho.1, ?_⟩
  rcases ho.2 with h1 | ⟨g, cap, cur, h1, h2, h3, h4⟩
  · exact .inl h1
  · exact .inr ⟨g, cap, cur, h1, h2, h.cell h3, h4⟩

/-- what an iterator says that goes on till its end, or (if br) till a round says no more: S of the number of rounds; G of each round's values -/
def IterX {α : Type} (br : Bool) (F : Fence) (n : Nat) (P : Program) (g : Nat) (lb : Array Value) (encs : α → Array Value) (n₀ n₁ B : Nat) (G : Nat → α → World → Prop) (S : Nat → Prop) (w : World) : Prop :=
  ∀ (l : Nat) (J K : Nat → World → Prop) (W : World), Below B w W → (∀ m A A', J m A → Below A.heap.size A A' → J m A') → (∀ m A A', K m A → Below A.heap.size A A' → K m A') →
    (∀ m x A, J m A → G m x A → YieldAt F (n - 1) P l (encs x) A fun e A' => (e = .returned (.bool true) ∧ J (m + 1) A' ∧ Mid n₀ n₁ B A A') ∨ (br = true ∧ e = .returned (.bool false) ∧ K m A')) →
    J 0 W →
    CallsIn F n P g (#[.func (.yield l) #[] #[]] ++ lb) W fun e W' => (∃ v, e = .returned v) ∧ ((∃ m, S m ∧ J m W') ∨ ∃ m, K m W')
theorem Iter.x {α : Type} {F : Fence} {n : Nat} {P : Program} {g : Nat} {lb : Array Value} {encs : α → Array Value} {n₀ n₁ B : Nat} {G : Nat → α → World → Prop} {S : Nat → Prop} {w : World}
    (h : Iter F n P g lb encs n₀ n₁ B G S w) : IterX false F n P g lb encs n₀ n₁ B G S w := fun l J _ W hW hJ _ hY h0 =>
  (h l J W hW hJ (fun m x A hj hg => (hY m x A hj hg).mono fun _ _ hp => hp.elim id fun h => by cases h.1) h0).mono fun _ _ hp => ⟨hp.1, .inl hp.2⟩
theorem IterX.iter {α : Type} {br : Bool} {F : Fence} {n : Nat} {P : Program} {g : Nat} {lb : Array Value} {encs : α → Array Value} {n₀ n₁ B : Nat} {G : Nat → α → World → Prop} {S : Nat → Prop} {w : World}
    (h : IterX br F n P g lb encs n₀ n₁ B G S w) : Iter F n P g lb encs n₀ n₁ B G S w := fun l J W hW hJ hY h0 =>
  (h l J (fun _ _ => False) W hW hJ (fun _ _ _ h _ => h) (fun m x A hj hg => (hY m x A hj hg).mono fun _ _ hp => .inl hp) h0).mono fun _ _ hp => ⟨hp.1, hp.2.elim id fun ⟨_, h⟩ => h.elim⟩

/-- how a round ends -/
def onPostX (n₀ n₁ B m : Nat) (I : Nat → World → Prop) (Ix : Code → Nat → World → Prop) (W : World) : Exit → Act → World → Prop
  | .normal, _, W' => KeepsFrom B W W' ∧ Mid n₀ n₁ B W W' ∧ I (m + 1) W'
  | .exit id, _, W' => KeepsFrom B W W' ∧ Ix (.exit id) m W'
  | .ret, _, W' => KeepsFrom B W W' ∧ Ix .ret m W'
  | _, _, _ => False

variable {F : Fence} {n : Nat} {P : Program}
theorem range_exit {α : Type} {br : Bool} {g : Operand} {ps : Array Tmp} {assign body : Code} {Q : Exit → Act → World → Prop} {a : Act} {w : World}
    (hro : F.round = none) (h1 : 1 ≤ n) {gf : Nat} {lb : Array Value} (hg : a.eval g = .func (.func gf) #[] lb) (hFg : F.fn gf) (eg : ∀ args w, (callFunc gf args).run P w = .ok (.enter gf args) w)
    {encs : α → Array Value} {n₀ n₁ : Nat} {G : Nat → α → World → Prop} {S : Nat → Prop} (hseq : IterX br F (n - 1) P gf lb encs n₀ n₁ w.heap.size G S w) (hps : ∀ x, (encs x).size = ps.size)
    (I : Nat → World → Prop) (Ix : Code → Nat → World → Prop) (hI : ∀ m A A', I m A → Calmly w.heap.size A A' → I m A') (hIx : ∀ c m A A', Ix c m A → Calmly w.heap.size A A' → Ix c m A') (hbr : ∀ c m A, Ix c m A → br = true) (h0 : I 0 w)
    (hGn : ∀ m x A A', G m x A → Below A.heap.size A A' → G m x A') (hGb : ∀ m x A A' l r, G m x A → A.heap[l]? = some (.loop r) → But l A A' → G m x A')
    (hround : ∀ (l m : Nat) (x : α) (A : World), w.heap.size < l → (∃ r, A.heap[l]? = some (.loop r)) → I m A → G m x A →
      assign.wpIn (F.inRound l) (n - 1 - 1) P (Exit.then (fun a' A1 => Below A.heap.size A A1 ∧ ∀ A2, But l A1 A2 → I m A2 → G m x A2 → body.wpIn (F.inRound l) (n - 1 - 1) P (onPostX n₀ n₁ w.heap.size m I Ix A2) a' A2) (fun _ _ _ => False))
        { tmps := (ps.zip (encs x)).foldl (fun t (p, v) => t.setIfInBounds p v) a.tmps, defers := [] } A)
    (hdone : ∀ (D m : Nat) (A : World), w.heap.size ≤ D → S m → I m A → A.heap[D]? = some (.deferred (some [])) → Q .normal { a with defers := { target := .collected D, args := #[] } :: a.defers } A)
    (hstop : ∀ (D : Nat) (c : Code) (m : Nat) (A : World), w.heap.size ≤ D → Ix c m A → A.heap[D]? = some (.deferred (some [])) → c.wpIn F n P Q { a with defers := { target := .collected D, args := #[] } :: a.defers } A) :
    (Code.rangeFunc g ps assign body).wpIn F n P Q a w := by
  refine wpIn_rangeFunc ?_
  intro fn hfn
  rw [hro]
  obtain ⟨rec, hrec⟩ : ∃ rec : LoopState → Option Code → Loop, rec = fun st pe => { state := st, pending := pe, fn, tmps := a.tmps, params := ps, assign, body, defers := w.heap.size } := ⟨_, rfl⟩
  have hin := run_enterLoop_outer (P := P) (w := w) fn a.tmps ps assign body
  have hin' : (Instr.enterLoop fn a.tmps ps assign body none).run P w = .ok (w.heap.size + 1, [{ target := .collected w.heap.size, args := #[] }]) ((w.alloc (.deferred (some []))).alloc (.loop (rec .ready none))) := by rw [hrec]; exact hin
  have hWb : Below w.heap.size w ((w.alloc (.deferred (some []))).alloc (.loop (rec .ready none))) := ((Below.refl _ _).alloc (Nat.le_refl _) _).alloc (by simp) _
  have hWd : ((w.alloc (.deferred (some []))).alloc (.loop (rec .ready none))).heap[w.heap.size]? = some (.deferred (some [])) := (Below.heap_alloc _ _ _ (by simp)).trans (World.alloc_heap_new w _)
  have hWl : ((w.alloc (.deferred (some []))).alloc (.loop (rec .ready none))).heap[w.heap.size + 1]? = some (.loop (rec .ready none)) := by
    have := World.alloc_heap_new (w.alloc (.deferred (some []))) (.loop (rec .ready none)); rwa [World.size_alloc] at this
  generalize (w.alloc (.deferred (some []))).alloc (.loop (rec .ready none)) = U at hin' hWb hWd hWl
  clear hin
  refine ⟨_, _, U, { target := .fn (.func gf) lb, args := #[.func (.yield (w.heap.size + 1)) #[] #[]] }, U, gf, #[.func (.yield (w.heap.size + 1)) #[] #[]] ++ lb, U, hin', ?_, ?_, ?_, fun _ => h1, ?_⟩
  · simp only [resolve, hg]; simp [go_sem]
  · intro f' hf'; simp [Target.leads] at hf'; subst hf'; exact hFg
  · simp [invoke, go_sem, eg]
  · refine (hseq (w.heap.size + 1) (fun m A => I m A ∧ A.heap[w.heap.size + 1]? = some (.loop (rec .ready none)) ∧ A.heap[w.heap.size]? = some (.deferred (some [])))
      (fun m A => ∃ c, Ix c m A ∧ A.heap[w.heap.size + 1]? = some (.loop (rec .done (some c))) ∧ A.heap[w.heap.size]? = some (.deferred (some []))) U hWb ?_ ?_ ?_ ⟨hI 0 w U h0 (Calmly.of hWb), hWl, hWd⟩).mono ?_
    · rintro m A A' ⟨i1, i2, i3⟩ hb
      have hlt := (Array.getElem?_eq_some_iff.1 i2).1
      exact ⟨hI m A A' i1 (Calmly.of hb), (hb.block _ hlt).trans i2, (hb.block _ (by omega)).trans i3⟩
    · rintro m A A' ⟨c, i1, i2, i3⟩ hb
      have hlt := (Array.getElem?_eq_some_iff.1 i2).1
      exact ⟨c, hIx c m A A' i1 (Calmly.of hb), (hb.block _ hlt).trans i2, (hb.block _ (by omega)).trans i3⟩
    · rintro m x A ⟨i1, i2, i3⟩ hgx
      have hlt := (Array.getElem?_eq_some_iff.1 i2).1
      have hy := run_yield (P := P) (args := encs x) i2 (by rw [hrec]; exact hps x)
      rw [hrec] at hy
      refine ⟨fn, _, assign, body, hy, roundIn_of_wpIn hfn (wpIn_mono (hround _ m x A (Nat.lt_succ_self _) ⟨_, i2⟩ i1 hgx) ?_)⟩
      rintro e a' A1 hq
      obtain rfl : e = .normal := by cases e <;> first | rfl | exact hq.elim
      obtain ⟨hb1, hbody⟩ := hq
      have l1 : A1.heap[w.heap.size + 1]? = some (.loop (rec .ready none)) := (hb1.block _ hlt).trans i2
      have d1 : A1.heap[w.heap.size]? = some (.deferred (some [])) := (hb1.block _ (by omega)).trans i3
      have lt1 := (Array.getElem?_eq_some_iff.1 l1).1
      refine ⟨_, run_beginRound l1 (by rw [hrec]), ?_⟩
      have hbut := but_put (w.heap.size + 1) A1 (.loop { rec .ready none with state := .busy })
      have hl2 : (A1.putObj (w.heap.size + 1) (.loop { rec .ready none with state := .busy })).heap[w.heap.size + 1]? = some (.loop { rec .ready none with state := .busy }) := World.putObj_heap_same lt1
      have hd2 : (A1.putObj (w.heap.size + 1) (.loop { rec .ready none with state := .busy })).heap[w.heap.size]? = some (.deferred (some [])) := (World.putObj_heap_other (by omega)).trans d1
      generalize A1.putObj (w.heap.size + 1) (.loop { rec .ready none with state := .busy }) = A2 at hbut hl2 hd2
      have j1 : I m A2 := hI m A1 A2 (hI m A A1 i1 (Calmly.of hb1)) (Calmly.but hbut (by omega) l1)
      have j2 : G m x A2 := hGb m x A1 A2 _ _ (hGn m x A A1 hgx hb1) l1 hbut
      have lt2 := (Array.getElem?_eq_some_iff.1 hl2).1
      refine wpIn_mono (hbody A2 hbut j1 j2) ?_
      have fin : ∀ (jump : Option Code) (A3 : World), KeepsFrom w.heap.size A2 A3 →
          (Instr.endRound (w.heap.size + 1) jump).run P A3 = .ok (.bool jump.isNone) (A3.putObj (w.heap.size + 1) (.loop (rec (if jump.isNone then .ready else .done) jump))) ∧ A3.heap[w.heap.size + 1]? = some (.loop { rec .ready none with state := .busy }) ∧ A3.heap[w.heap.size]? = some (.deferred (some [])) := fun jump A3 hk => by
        have l3 := hk.same _ _ (by omega) hl2 rfl
        have hend := run_endRound (P := P) jump l3
        rw [hrec] at hend ⊢
        rw [hrec] at l3
        exact ⟨hend, l3, hk.same _ _ (Nat.le_refl _) hd2 rfl⟩
      have out : ∀ (c : Code) (A3 : World), KeepsFrom w.heap.size A2 A3 → Ix c m A3 → ∃ v A4, (Instr.endRound (w.heap.size + 1) (some c)).run P A3 = .ok v A4 ∧
          ((Ending.returned v = .returned (.bool true) ∧ (I (m + 1) A4 ∧ A4.heap[w.heap.size + 1]? = some (.loop (rec .ready none)) ∧ A4.heap[w.heap.size]? = some (.deferred (some []))) ∧ Mid n₀ n₁ w.heap.size A A4) ∨
            (br = true ∧ Ending.returned v = .returned (.bool false) ∧ ∃ c, Ix c m A4 ∧ A4.heap[w.heap.size + 1]? = some (.loop (rec .done (some c))) ∧ A4.heap[w.heap.size]? = some (.deferred (some [])))) := fun c A3 hk hix => by
        obtain ⟨he, l3, d3⟩ := fin (some c) A3 hk
        have lt3 := (Array.getElem?_eq_some_iff.1 l3).1
        have hbut3 := but_put (w.heap.size + 1) A3 (.loop (rec .done (some c)))
        exact ⟨_, _, he, .inr ⟨hbr _ _ _ hix, rfl, c, hIx c _ _ _ hix (Calmly.but hbut3 (by omega) l3), World.putObj_heap_same lt3, (World.putObj_heap_other (by omega)).trans d3⟩⟩
      rintro e a3 A3 hp
      cases e with
      | normal =>
        obtain ⟨hk, hmid, hi3⟩ := hp
        obtain ⟨he, l3, d3⟩ := fin none A3 hk
        have lt3 := (Array.getElem?_eq_some_iff.1 l3).1
        have hbut3 := but_put (w.heap.size + 1) A3 (.loop (rec .ready none))
        refine ⟨_, _, he, .inl ⟨rfl, ⟨hI _ _ _ hi3 (Calmly.but hbut3 (by omega) l3), World.putObj_heap_same lt3, (World.putObj_heap_other (by omega)).trans d3⟩, ?_⟩⟩
        exact (((Mid.of (hb1.mono (by omega))).trans (Mid.of (hbut.below (by omega)))).trans hmid).trans (Mid.of (hbut3.below (by omega)))
      | ret => exact out _ A3 hp.1 hp.2
      | exit id => exact out _ A3 hp.1 hp.2
      | goto t => exact hp.elim
      | panic ch => exact hp.elim
      | outgrown => exact hp.elim
    · rintro e A ⟨⟨v, rfl⟩, (⟨m, hS, i1, i2, i3⟩ | ⟨m, c, i1, i2, i3⟩)⟩
      · have hend := run_endLoop (P := P) i2 (by rw [hrec]; simp)
        have hbut3 := but_put (w.heap.size + 1) A (.loop { rec .ready none with state := .exhausted })
        refine ⟨none, _, by rw [hrec] at hend ⊢; exact hend, hdone _ m _ (Nat.le_refl _) hS (hI _ _ _ i1 (Calmly.but hbut3 (by omega) i2)) ?_⟩
        exact (World.putObj_heap_other (by omega)).trans i3
      · have hend := run_endLoop (P := P) i2 (by rw [hrec]; simp)
        have hbut3 := but_put (w.heap.size + 1) A (.loop { rec .done (some c) with state := .exhausted })
        refine ⟨some c, _, by rw [hrec] at hend ⊢; exact hend, hstop _ c m _ (Nat.le_refl _) (hIx c _ _ _ i1 (Calmly.but hbut3 (by omega) i2)) ?_⟩
        exact (World.putObj_heap_other (by omega)).trans i3
end Go.Proofs.YtcodjknhnhdkfaaGreatDoor.Rg
