/- a range over a function that keeps state of its own in boxes (blocks 'own'), whose rounds may leave the loop (of no program) -/
import Derived.Test.YtcodjknhnhdkfaaGreatDoorBr09
namespace Go.Proofs.YtcodjknhnhdkfaaGreatDoor.Rg
open Go.RowKit

/-- what lay there lies as it lay, but for the blocks of own -/
structure BelowO (own : Nat → Prop) (W W' : World) : Prop where
  os : W'.os = W.os
  tape : W'.tape = W.tape
  output : W'.output = W.output
  size : W.heap.size ≤ W'.heap.size
  block : ∀ k, k < W.heap.size → ¬ own k → W'.heap[k]? = W.heap[k]?
theorem BelowO.of {own : Nat → Prop} {a b : World} (h : Below a.heap.size a b) : BelowO own a b := ⟨h.os, h.tape, h.output, h.size, fun k hk _ => h.block k hk⟩
theorem BelowO.set {own : Nat → Prop} {a b : World} (h : BelowO own a b) {p : Addr} (hp : own p.block) (v : Value) : BelowO own a (b.setCell p v) :=
  ⟨h.os, h.tape, h.output, by simpa using h.size, fun k hk hn => (Below.heap_setCell b p v k (fun e => hn (e ▸ hp))).trans (h.block k hk hn)⟩
theorem BelowO.alloc {own : Nat → Prop} {a b : World} (h : BelowO own a b) (o : Obj) : BelowO own a (b.alloc o) :=
  ⟨h.os, h.tape, h.output, by simp; have := h.size; omega, fun k hk hn => (Below.heap_alloc b o k (by have := h.size; omega)).trans (h.block k hk hn)⟩
theorem BelowO.trans {own : Nat → Prop} {a b c : World} (h : BelowO own a b) (k : BelowO own b c) : BelowO own a c :=
  ⟨k.os.trans h.os, k.tape.trans h.tape, k.output.trans h.output, Nat.le_trans h.size k.size, fun i hi hn => (k.block i (by have := h.size; omega) hn).trans (h.block i hi hn)⟩
theorem BelowO.keeps {own : Nat → Prop} {a b : World} (h : BelowO own a b) {N : Nat} (hN : ∀ k, own k → k < N) : KeepsFrom N a b :=
  ⟨h.size, fun k o hk ho hc => (h.block k (Array.getElem?_eq_some_iff.1 ho).1 (fun x => by have := hN k x; omega)).trans ho⟩
theorem BelowO.mid {own : Nat → Prop} {a b : World} (h : BelowO own a b) {n₀ n₁ B : Nat} (hB : B ≤ a.heap.size) (hN : ∀ k, own k → n₀ ≤ k ∧ k < n₁) : Mid n₀ n₁ B a b :=
  ⟨h.os, h.tape, h.output, h.size, fun k hk hkB => h.block k (by omega) (fun x => by have := hN k x; omega)⟩
theorem BelowO.below {own : Nat → Prop} {a b : World} (h : BelowO own a b) {N : Nat} (hN : N ≤ a.heap.size) (ho : ∀ k, own k → N ≤ k) : Below N a b :=
  ⟨h.os, h.tape, h.output, h.size, fun k hk => h.block k (by omega) (fun x => by have := ho k x; omega)⟩
/-- what is no loop's record, nor own's, lies as it lay -/
structure CalmO (own : Nat → Prop) (N : Nat) (W W' : World) : Prop where
  os : W'.os = W.os
  tape : W'.tape = W.tape
  output : W'.output = W.output
  size : W.heap.size ≤ W'.heap.size
  same : ∀ (k : Nat) (o : Obj), ¬ own k → (k < N ∨ o.isCells = true) → W.heap[k]? = some o → W'.heap[k]? = some o
theorem CalmO.of {own : Nat → Prop} {N : Nat} {a b : World} (h : Calmly N a b) : CalmO own N a b := ⟨h.os, h.tape, h.output, h.size, fun k o _ hk ho => h.same k o hk ho⟩
theorem CalmO.ofO {own : Nat → Prop} {N : Nat} {a b : World} (h : BelowO own a b) : CalmO own N a b := ⟨h.os, h.tape, h.output, h.size, fun k _ hn _ ho => (h.block k (Array.getElem?_eq_some_iff.1 ho).1 hn).trans ho⟩
theorem CalmO.cell {own : Nat → Prop} {N : Nat} {a b : World} (h : CalmO own N a b) {k : Nat} (hn : ¬ own k) {C : Array Value} {t : TypeId} {fr : Nat × Nat} (hk : a.heap[k]? = some (.cells C t fr)) : b.heap[k]? = some (.cells C t fr) := h.same k _ hn (.inr rfl) hk
theorem CalmO.below {own : Nat → Prop} {N M : Nat} {a b : World} (h : CalmO own N a b) (hM : M ≤ N) (hN : N ≤ a.heap.size) (ho : ∀ k, own k → M ≤ k) : Below M a b := ⟨h.os, h.tape, h.output, h.size, fun k hk => by
  have hlt : k < a.heap.size := by omega
  have e : a.heap[k]? = some a.heap[k] := Array.getElem?_eq_getElem hlt
  rw [e]; exact h.same k _ (fun x => by have := ho k x; omega) (.inl (by omega)) e⟩
theorem Mid.set {n₀ n₁ B : Nat} {a b : World} (h : Mid n₀ n₁ B a b) {p : Addr} (hp : n₀ ≤ p.block) (h1 : p.block < n₁) (v : Value) : Mid n₀ n₁ B a (b.setCell p v) :=
  ⟨h.os, h.tape, h.output, by simpa using h.size, fun k hk hB => (Below.heap_setCell b p v k (by omega)).trans (h.block k hk hB)⟩

/-- what such an iterator says -/
def IterO {α : Type} (own : Nat → Prop) (br : Bool) (F : Fence) (n : Nat) (P : Program) (g : Nat) (lb : Array Value) (encs : α → Array Value) (n₀ n₁ B : Nat) (G : Nat → α → World → Prop) (S : Nat → Prop) (w : World) : Prop :=
  ∀ (l : Nat) (J K : Nat → World → Prop) (W : World), Below B w W → (∀ m A A', J m A → BelowO own A A' → J m A') → (∀ m A A', K m A → BelowO own A A' → K m A') →
    (∀ m x A, J m A → G m x A → YieldAt F (n - 1) P l (encs x) A fun e A' => (e = .returned (.bool true) ∧ J (m + 1) A' ∧ Mid n₀ n₁ B A A') ∨ (br = true ∧ e = .returned (.bool false) ∧ K m A')) →
    J 0 W →
    CallsIn F n P g (#[.func (.yield l) #[] #[]] ++ lb) W fun e W' => (∃ v, e = .returned v) ∧ ((∃ m, S m ∧ J m W') ∨ ∃ m, K m W')

variable {F : Fence} {n : Nat} {P : Program}
theorem range_own {α : Type} {own : Nat → Prop} {br : Bool} {g : Operand} {ps : Array Tmp} {assign body : Code} {Q : Exit → Act → World → Prop} {a : Act} {w : World}
    (hro : F.round = none) (h1 : 1 ≤ n) {gf : Nat} {lb : Array Value} (hg : a.eval g = .func (.func gf) #[] lb) (hFg : F.fn gf) (eg : ∀ args w, (callFunc gf args).run P w = .ok (.enter gf args) w)
    {encs : α → Array Value} {n₀ n₁ : Nat} {G : Nat → α → World → Prop} {S : Nat → Prop} (hseq : IterO own br F (n - 1) P gf lb encs n₀ n₁ w.heap.size G S w) (hown : ∀ k, own k → k < w.heap.size) (hps : ∀ x, (encs x).size = ps.size)
    (I : Nat → World → Prop) (Ix : Code → Nat → World → Prop) (hI0 : ∀ m A A', I m A → CalmO own w.heap.size A A' → I m A') (hIx0 : ∀ c m A A', Ix c m A → CalmO own w.heap.size A A' → Ix c m A') (hbr : ∀ c m A, Ix c m A → br = true) (h0 : I 0 w)
    (hGn : ∀ m x A A', G m x A → Below A.heap.size A A' → G m x A') (hGb : ∀ m x A A' l r, G m x A → A.heap[l]? = some (.loop r) → But l A A' → G m x A')
    (hround : ∀ (l m : Nat) (x : α) (A : World), w.heap.size < l → (∃ r, A.heap[l]? = some (.loop r)) → I m A → G m x A →
      assign.wpIn (F.inRound l) (n - 1 - 1) P (Exit.then (fun a' A1 => Below A.heap.size A A1 ∧ ∀ A2, But l A1 A2 → I m A2 → G m x A2 → body.wpIn (F.inRound l) (n - 1 - 1) P (onPostX n₀ n₁ w.heap.size m I Ix A2) a' A2) (fun _ _ _ => False))
        { tmps := (ps.zip (encs x)).foldl (fun t (p, v) => t.setIfInBounds p v) a.tmps, defers := [] } A)
    (hdone : ∀ (D m : Nat) (A : World), w.heap.size ≤ D → S m → I m A → A.heap[D]? = some (.deferred (some [])) → Q .normal { a with defers := { target := .collected D, args := #[] } :: a.defers } A)
    (hstop : ∀ (D : Nat) (c : Code) (m : Nat) (A : World), w.heap.size ≤ D → Ix c m A → A.heap[D]? = some (.deferred (some [])) → c.wpIn F n P Q { a with defers := { target := .collected D, args := #[] } :: a.defers } A) :
    (Code.rangeFunc g ps assign body).wpIn F n P Q a w := by
  have hI : ∀ m A A', I m A → Calmly w.heap.size A A' → I m A' := fun m A A' h hc => hI0 m A A' h (CalmO.of hc)
  have hIx : ∀ c m A A', Ix c m A → Calmly w.heap.size A A' → Ix c m A' := fun c m A A' h hc => hIx0 c m A A' h (CalmO.of hc)
  refine wpIn_rangeFunc ?_
  intro fn hfn
  rw [hro]
  obtain ⟨rec, hrec⟩ : ∃ rec : LoopState → Option Code → Loop, rec = fun st pe => { state := st, pending := pe, fn, tmps := a.tmps, params := ps, assign, body, defers := w.heap.size } := ⟨_, rfl⟩
  have hin := run_enterLoop_outer (P := P) (w := w) fn a.tmps ps assign body
  have hin' : (Instr.enterLoop fn a.tmps ps assign body none).run P w = .ok (w.heap.size + 1, [{ target := .collected w.heap.size, args := #[] }]) ((w.alloc (.deferred (some []))).alloc (.loop (rec .ready none))) := by rw [hrec]; exact hin
  have hWb : Below w.heap.size w ((w.alloc (.deferred (some []))).alloc (.loop (rec .ready none))) := ((Below.refl _ _).alloc (Nat.le_refl _) _).alloc (by simp) _
  have hWd : ((w.alloc (.deferred (some []))).alloc (.loop (rec .ready none))).heap[w.heap.size]? = some (.deferred (some [])) := (Below.heap_alloc _ _ _ (by simp)).trans (World.alloc_heap_new w _)
  have hWl : ((w.alloc (.deferred (some []))).alloc (.loop (rec .ready none))).heap[w.heap.size + 1]? = some (.loop (rec .ready none)) := by
    have := World.alloc_heap_new (w.alloc (.deferred (some []))) (.loop (rec .ready none)); rwa [World.size_alloc] at this
  generalize (w.alloc (.deferred (some []))).alloc (.loop (rec .ready none)) = U at hin' hWb hWd hWl
  clear hin
  refine ⟨_, _, U, { target := .fn (.func gf) lb, args := #[.func (.yield (w.heap.size + 1)) #[] #[]] }, U, gf, #[.func (.yield (w.heap.size + 1)) #[] #[]] ++ lb, U, hin', ?_, ?_, ?_, fun _ => h1, ?_⟩
  · simp only [resolve, hg]; simp [go_sem]
  · intro f' hf'; simp [Target.leads] at hf'; subst hf'; exact hFg
  · simp [invoke, go_sem, eg]
  · refine (hseq (w.heap.size + 1) (fun m A => I m A ∧ A.heap[w.heap.size + 1]? = some (.loop (rec .ready none)) ∧ A.heap[w.heap.size]? = some (.deferred (some [])))
      (fun m A => ∃ c, Ix c m A ∧ A.heap[w.heap.size + 1]? = some (.loop (rec .done (some c))) ∧ A.heap[w.heap.size]? = some (.deferred (some []))) U hWb ?_ ?_ ?_ ⟨hI 0 w U h0 (Calmly.of hWb), hWl, hWd⟩).mono ?_
    · rintro m A A' ⟨i1, i2, i3⟩ hb
      have hlt := (Array.getElem?_eq_some_iff.1 i2).1
      exact ⟨hI0 m A A' i1 (CalmO.ofO hb), (hb.block _ hlt (fun h => by have := hown _ h; omega)).trans i2, (hb.block _ (by omega) (fun h => by have := hown _ h; omega)).trans i3⟩
    · rintro m A A' ⟨c, i1, i2, i3⟩ hb
      have hlt := (Array.getElem?_eq_some_iff.1 i2).1
      exact ⟨c, hIx0 c m A A' i1 (CalmO.ofO hb), (hb.block _ hlt (fun h => by have := hown _ h; omega)).trans i2, (hb.block _ (by omega) (fun h => by have := hown _ h; omega)).trans i3⟩
    · rintro m x A ⟨i1, i2, i3⟩ hgx
      have hlt := (Array.getElem?_eq_some_iff.1 i2).1
      have hy := run_yield (P := P) (args := encs x) i2 (by rw [hrec]; exact hps x)
      rw [hrec] at hy
      refine ⟨fn, _, assign, body, hy, roundIn_of_wpIn hfn (wpIn_mono (hround _ m x A (Nat.lt_succ_self _) ⟨_, i2⟩ i1 hgx) ?_)⟩
      rintro e a' A1 hq
      obtain rfl : e = .normal := by cases e <;> first | rfl | exact hq.elim
      obtain ⟨hb1, hbody⟩ := hq
      have l1 : A1.heap[w.heap.size + 1]? = some (.loop (rec .ready none)) := (hb1.block _ hlt).trans i2
      have d1 : A1.heap[w.heap.size]? = some (.deferred (some [])) := (hb1.block _ (by omega)).trans i3
      have lt1 := (Array.getElem?_eq_some_iff.1 l1).1
      refine ⟨_, run_beginRound l1 (by rw [hrec]), ?_⟩
      have hbut := but_put (w.heap.size + 1) A1 (.loop { rec .ready none with state := .busy })
      have hl2 : (A1.putObj (w.heap.size + 1) (.loop { rec .ready none with state := .busy })).heap[w.heap.size + 1]? = some (.loop { rec .ready none with state := .busy }) := World.putObj_heap_same lt1
      have hd2 : (A1.putObj (w.heap.size + 1) (.loop { rec .ready none with state := .busy })).heap[w.heap.size]? = some (.deferred (some [])) := (World.putObj_heap_other (by omega)).trans d1
      generalize A1.putObj (w.heap.size + 1) (.loop { rec .ready none with state := .busy }) = A2 at hbut hl2 hd2
      have j1 : I m A2 := hI m A1 A2 (hI m A A1 i1 (Calmly.of hb1)) (Calmly.but hbut (by omega) l1)
      have j2 : G m x A2 := hGb m x A1 A2 _ _ (hGn m x A A1 hgx hb1) l1 hbut
      have lt2 := (Array.getElem?_eq_some_iff.1 hl2).1
      refine wpIn_mono (hbody A2 hbut j1 j2) ?_
      have fin : ∀ (jump : Option Code) (A3 : World), KeepsFrom w.heap.size A2 A3 →
          (Instr.endRound (w.heap.size + 1) jump).run P A3 = .ok (.bool jump.isNone) (A3.putObj (w.heap.size + 1) (.loop (rec (if jump.isNone then .ready else .done) jump))) ∧ A3.heap[w.heap.size + 1]? = some (.loop { rec .ready none with state := .busy }) ∧ A3.heap[w.heap.size]? = some (.deferred (some [])) := fun jump A3 hk => by
        have l3 := hk.same _ _ (by omega) hl2 rfl
        have hend := run_endRound (P := P) jump l3
        rw [hrec] at hend ⊢
        rw [hrec] at l3
        exact ⟨hend, l3, hk.same _ _ (Nat.le_refl _) hd2 rfl⟩
      have out : ∀ (c : Code) (A3 : World), KeepsFrom w.heap.size A2 A3 → Ix c m A3 → ∃ v A4, (Instr.endRound (w.heap.size + 1) (some c)).run P A3 = .ok v A4 ∧
          ((Ending.returned v = .returned (.bool true) ∧ (I (m + 1) A4 ∧ A4.heap[w.heap.size + 1]? = some (.loop (rec .ready none)) ∧ A4.heap[w.heap.size]? = some (.deferred (some []))) ∧ Mid n₀ n₁ w.heap.size A A4) ∨
            (br = true ∧ Ending.returned v = .returned (.bool false) ∧ ∃ c, Ix c m A4 ∧ A4.heap[w.heap.size + 1]? = some (.loop (rec .done (some c))) ∧ A4.heap[w.heap.size]? = some (.deferred (some [])))) := fun c A3 hk hix => by
        obtain ⟨he, l3, d3⟩ := fin (some c) A3 hk
        have lt3 := (Array.getElem?_eq_some_iff.1 l3).1
        have hbut3 := but_put (w.heap.size + 1) A3 (.loop (rec .done (some c)))
        exact ⟨_, _, he, .inr ⟨hbr _ _ _ hix, rfl, c, hIx c _ _ _ hix (Calmly.but hbut3 (by omega) l3), World.putObj_heap_same lt3, (World.putObj_heap_other (by omega)).trans d3⟩⟩
      rintro e a3 A3 hp
      cases e with
      | normal =>
        obtain ⟨hk, hmid, hi3⟩ := hp
        obtain ⟨he, l3, d3⟩ := fin none A3 hk
        have lt3 := (Array.getElem?_eq_some_iff.1 l3).1
        have hbut3 := but_put (w.heap.size + 1) A3 (.loop (rec .ready none))
        refine ⟨_, _, he, .inl ⟨rfl, ⟨hI _ _ _ hi3 (Calmly.but hbut3 (by omega) l3), World.putObj_heap_same lt3, (World.putObj_heap_other (by omega)).trans d3⟩, ?_⟩⟩
        exact (((Mid.of (hb1.mono (by omega))).trans (Mid.of (hbut.below (by omega)))).trans hmid).trans (Mid.of (hbut3.below (by omega)))
      | ret => exact out _ A3 hp.1 hp.2
      | exit id => exact out _ A3 hp.1 hp.2
      | goto t => exact hp.elim
      | panic ch => exact hp.elim
      | outgrown => exact hp.elim
    · rintro e A ⟨⟨v, rfl⟩, (⟨m, hS, i1, i2, i3⟩ | ⟨m, c, i1, i2, i3⟩)⟩
      · have hend := run_endLoop (P := P) i2 (by rw [hrec]; simp)
        have hbut3 := but_put (w.heap.size + 1) A (.loop { rec .ready none with state := .exhausted })
        refine ⟨none, _, by rw [hrec] at hend ⊢; exact hend, hdone _ m _ (Nat.le_refl _) hS (hI _ _ _ i1 (Calmly.but hbut3 (by omega) i2)) ?_⟩
        exact (World.putObj_heap_other (by omega)).trans i3
      · have hend := run_endLoop (P := P) i2 (by rw [hrec]; simp)
        have hbut3 := but_put (w.heap.size + 1) A (.loop { rec .done (some c) with state := .exhausted })
        refine ⟨some c, _, by rw [hrec] at hend ⊢; exact hend, hstop _ c m _ (Nat.le_refl _) (hIx c _ _ _ i1 (Calmly.but hbut3 (by omega) i2)) ?_⟩
        exact (World.putObj_heap_other (by omega)).trans i3
end Go.Proofs.YtcodjknhnhdkfaaGreatDoor.Rg
