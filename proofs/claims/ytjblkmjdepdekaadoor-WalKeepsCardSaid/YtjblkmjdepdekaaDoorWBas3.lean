
/- texts that build one behind the other: Fm5 Rg Fm8 FmT FmU Wl0 Wl1 Rx Wl2 Ro Hr Wl3 Wl4 FmV Wl5 -/
import Derived.Test.YtjblkmjdepdekaaDoorWBas2
import Derived.Test.YtjblkmjdepdekaaDoorRows
import Derived.RangeFuncNested
import Derived.RangeFuncBound
import Derived.RangeFuncCalls
import Derived.RangeFuncLeaves
import Derived.Below
import Derived.Shelf.Abstract
import Derived.Shelf.RegionOpen
import Derived.WalkKit
import Derived.OwnWalkIn
import Derived.TacticsInMore
import Derived.LoopNIn
import Derived.LoopIn
import Derived.OrdersIn
import Derived.Lib.QuietBelowIn
import Derived.Deep.RegionHeld
/- frames: the contract of Good -/
namespace Go.Proofs.YtjblkmjdepdekaaDoor.Fm
open Go.RowKit Go.Lib Go.Proofs.YtjblkmjdepdekaaDoor.By Go.Proofs.YtjblkmjdepdekaaDoor.Oc Go.Proofs.YtjblkmjdepdekaaDoor.Cr

theorem add_add2 (x : Addr) (i j : Nat) : (x.add i).add j = x.add (i + j) := by
  by_cases hi : i = 0
  · subst hi; simp [Addr.add]
  · by_cases hj : j = 0
    · subst hj; simp [Addr.add]
    · simp [Addr.add, hi, hj, Nat.add_assoc]
/-- what is left of it, from a place on -/
theorem IsB.from {w : World} {a : Option Addr} {len cap k : Nat} {l : List UInt8} (h : IsB w a len cap l) (hk : k ≤ len) : IsB w (a.map fun x => x.add k) (len - k) (cap - k) (l.drop k) := by
  obtain ⟨h1, ⟨rfl, h3, h4⟩ | ⟨x, rfl, h3, h4, h5⟩⟩ := h
  · exact ⟨by simp; omega, .inl ⟨rfl, by omega, by omega⟩⟩
  · refine ⟨by simp; omega, .inr ⟨_, rfl, by omega, by omega, fun j u hu => ?_⟩⟩
    rw [add_add2]
    refine h5 _ u ?_
    simpa [byteCells, List.getElem?_drop] using hu
theorem IsB.from0 {w : World} {a : Option Addr} {len cap k : Nat} {l : List UInt8} (h : IsB w a len cap l) (hk : k ≤ len) (hc : cap = k) : IsB w a (len - k) 0 (l.drop k) := by
  obtain ⟨h1, ⟨rfl, h3, h4⟩ | ⟨x, rfl, h3, h4, h5⟩⟩ := h
  · exact ⟨by simp; omega, .inl ⟨rfl, by omega, rfl⟩⟩
  · have e : l.drop k = [] := by rw [List.drop_eq_nil_iff]; omega
    rw [e]
    exact ⟨by simp; omega, .inr ⟨_, rfl, by omega, by omega, fun j u hu => by simp [byteCells] at hu⟩⟩

end Go.Proofs.YtjblkmjdepdekaaDoor.Fm

/- a range over a function whose rounds are handed memory of their own: the iterator tells, beside each round's values, what lies there (of no program) -/
namespace Go.Proofs.YtjblkmjdepdekaaDoor.Rg
open Go.RowKit

/-- below n₀, and from n₁ up to B, all lies as it lay -/
structure Mid (n₀ n₁ B : Nat) (W W' : World) : Prop where
  os : W'.os = W.os
  tape : W'.tape = W.tape
  output : W'.output = W.output
  size : W.heap.size ≤ W'.heap.size
  block : ∀ k, (k < n₀ ∨ n₁ ≤ k) → k < B → W'.heap[k]? = W.heap[k]?
theorem Mid.refl (n₀ n₁ B : Nat) (a : World) : Mid n₀ n₁ B a a := ⟨rfl, rfl, rfl, Nat.le_refl _, fun _ _ _ => rfl⟩
theorem Mid.trans {n₀ n₁ B : Nat} {a b c : World} (h : Mid n₀ n₁ B a b) (k : Mid n₀ n₁ B b c) : Mid n₀ n₁ B a c :=
  ⟨k.os.trans h.os, k.tape.trans h.tape, k.output.trans h.output, Nat.le_trans h.size k.size, fun i h1 h2 => (k.block i h1 h2).trans (h.block i h1 h2)⟩
theorem Mid.of {n₀ n₁ B : Nat} {a b : World} (h : Below B a b) : Mid n₀ n₁ B a b := ⟨h.os, h.tape, h.output, h.size, fun k _ hk => h.block k hk⟩
/-- but for block l all lies as it lay, and nothing is new -/
def But (l : Nat) (W W' : World) : Prop := W'.os = W.os ∧ W'.tape = W.tape ∧ W'.output = W.output ∧ W'.heap.size = W.heap.size ∧ ∀ k, k ≠ l → W'.heap[k]? = W.heap[k]?
theorem but_put (l : Nat) (W : World) (o : Obj) : But l W (W.putObj l o) := ⟨rfl, rfl, rfl, by simp, fun k hk => World.putObj_heap_other hk⟩
theorem But.below {l B : Nat} {W W' : World} (h : But l W W') (hl : B ≤ l) : Below B W W' := ⟨h.1, h.2.1, h.2.2.1, Nat.le_of_eq h.2.2.2.1.symm, fun k hk => h.2.2.2.2 k (by omega)⟩

/-- what an iterator says that goes on till its end: S of the number of rounds; G of each round's values and memory -/
def Iter {α : Type} (F : Fence) (n : Nat) (P : Program) (g : Nat) (lb : Array Value) (encs : α → Array Value) (n₀ n₁ B : Nat) (G : Nat → α → World → Prop) (S : Nat → Prop) (w : World) : Prop :=
  ∀ (l : Nat) (J : Nat → World → Prop) (W : World), Below B w W → (∀ m A A', J m A → Below A.heap.size A A' → J m A') →
    (∀ m x A, J m A → G m x A → YieldAt F (n - 1) P l (encs x) A fun e A' => e = .returned (.bool true) ∧ J (m + 1) A' ∧ Mid n₀ n₁ B A A') →
    J 0 W →
    CallsIn F n P g (#[.func (.yield l) #[] #[]] ++ lb) W fun e W' => (∃ v, e = .returned v) ∧ ∃ m, S m ∧ J m W'

/-- how a round ends: it goes on -/
def onPost (n₀ n₁ B m : Nat) (I : Nat → World → Prop) (W : World) : Exit → Act → World → Prop
  | .normal, _, W' => KeepsFrom B W W' ∧ Mid n₀ n₁ B W W' ∧ I (m + 1) W'
  | _, _, _ => False

variable {F : Fence} {n : Nat} {P : Program}

theorem range_all {α : Type} {g : Operand} {ps : Array Tmp} {assign body : Code} {Q : Exit → Act → World → Prop} {a : Act} {w : World}
    (hro : F.round = none) (h1 : 1 ≤ n) {gf : Nat} {lb : Array Value} (hg : a.eval g = .func (.func gf) #[] lb) (hFg : F.fn gf) (eg : ∀ args w, (callFunc gf args).run P w = .ok (.enter gf args) w)
    {encs : α → Array Value} {n₀ n₁ : Nat} {G : Nat → α → World → Prop} {S : Nat → Prop} (hseq : Iter F (n - 1) P gf lb encs n₀ n₁ w.heap.size G S w) (hps : ∀ x, (encs x).size = ps.size)
    (I : Nat → World → Prop) (hI : ∀ m A A', I m A → Below w.heap.size A A' → I m A') (h0 : I 0 w)
    (hGn : ∀ m x A A', G m x A → Below A.heap.size A A' → G m x A') (hGb : ∀ m x A A' l r, G m x A → A.heap[l]? = some (.loop r) → But l A A' → G m x A')
    (hround : ∀ (l m : Nat) (x : α) (A : World), w.heap.size < l → (∃ r, A.heap[l]? = some (.loop r)) → I m A → G m x A →
      assign.wpIn (F.inRound l) (n - 1 - 1) P (Exit.then (fun a' A1 => Below A.heap.size A A1 ∧ ∀ A2, But l A1 A2 → I m A2 → G m x A2 → body.wpIn (F.inRound l) (n - 1 - 1) P (onPost n₀ n₁ w.heap.size m I A2) a' A2) (fun _ _ _ => False))
        { tmps := (ps.zip (encs x)).foldl (fun t (p, v) => t.setIfInBounds p v) a.tmps, defers := [] } A)
    (hdone : ∀ (D m : Nat) (A : World), w.heap.size ≤ D → S m → I m A → A.heap[D]? = some (.deferred (some [])) → Q .normal { a with defers := { target := .collected D, args := #[] } :: a.defers } A) :
    (Code.rangeFunc g ps assign body).wpIn F n P Q a w := by
  refine wpIn_rangeFunc ?_
  intro fn hfn
  rw [hro]
  obtain ⟨rec, hrec⟩ : ∃ rec : LoopState → Loop, rec = fun st => { state := st, pending := none, fn, tmps := a.tmps, params := ps, assign, body, defers := w.heap.size } := ⟨_, rfl⟩
  have hin := run_enterLoop_outer (P := P) (w := w) fn a.tmps ps assign body
  have hin' : (Instr.enterLoop fn a.tmps ps assign body none).run P w = .ok (w.heap.size + 1, [{ target := .collected w.heap.size, args := #[] }]) ((w.alloc (.deferred (some []))).alloc (.loop (rec .ready))) := by rw [hrec]; exact hin
  have hWb : Below w.heap.size w ((w.alloc (.deferred (some []))).alloc (.loop (rec .ready))) := ((Below.refl _ _).alloc (Nat.le_refl _) _).alloc (by simp) _
  have hWd : ((w.alloc (.deferred (some []))).alloc (.loop (rec .ready))).heap[w.heap.size]? = some (.deferred (some [])) := (Below.heap_alloc _ _ _ (by simp)).trans (World.alloc_heap_new w _)
  have hWl : ((w.alloc (.deferred (some []))).alloc (.loop (rec .ready))).heap[w.heap.size + 1]? = some (.loop (rec .ready)) := by
    have := World.alloc_heap_new (w.alloc (.deferred (some []))) (.loop (rec .ready)); rwa [World.size_alloc] at this
  generalize (w.alloc (.deferred (some []))).alloc (.loop (rec .ready)) = U at hin' hWb hWd hWl
  clear hin
  refine ⟨_, _, U, { target := .fn (.func gf) lb, args := #[.func (.yield (w.heap.size + 1)) #[] #[]] }, U, gf, #[.func (.yield (w.heap.size + 1)) #[] #[]] ++ lb, U, hin', ?_, ?_, ?_, fun _ => h1, ?_⟩
  · simp only [resolve, hg]; simp [go_sem]
  · intro f' hf'; simp [Target.leads] at hf'; subst hf'; exact hFg
  · simp [invoke, go_sem, eg]
  · refine (hseq (w.heap.size + 1) (fun m A => I m A ∧ A.heap[w.heap.size + 1]? = some (.loop (rec .ready)) ∧ A.heap[w.heap.size]? = some (.deferred (some []))) U hWb ?_ ?_ ⟨hI 0 w U h0 hWb, hWl, hWd⟩).mono ?_
    · rintro m A A' ⟨i1, i2, i3⟩ hb
      have hlt := (Array.getElem?_eq_some_iff.1 i2).1
      exact ⟨hI m A A' i1 (hb.mono (by omega)), (hb.block _ hlt).trans i2, (hb.block _ (by omega)).trans i3⟩
    · rintro m x A ⟨i1, i2, i3⟩ hgx
      have hlt := (Array.getElem?_eq_some_iff.1 i2).1
      have hy := run_yield (P := P) (args := encs x) i2 (by rw [hrec]; exact hps x)
      rw [hrec] at hy
      refine ⟨fn, _, assign, body, hy, roundIn_of_wpIn hfn (wpIn_mono (hround _ m x A (Nat.lt_succ_self _) ⟨_, i2⟩ i1 hgx) ?_)⟩
      rintro e a' A1 hq
      obtain rfl : e = .normal := by cases e <;> first | rfl | exact hq.elim
      obtain ⟨hb1, hbody⟩ := hq
      have l1 : A1.heap[w.heap.size + 1]? = some (.loop (rec .ready)) := (hb1.block _ hlt).trans i2
      have d1 : A1.heap[w.heap.size]? = some (.deferred (some [])) := (hb1.block _ (by omega)).trans i3
      have lt1 := (Array.getElem?_eq_some_iff.1 l1).1
      refine ⟨_, run_beginRound l1 (by rw [hrec]), ?_⟩
      have hbut := but_put (w.heap.size + 1) A1 (.loop { rec .ready with state := .busy })
      have hl2 : (A1.putObj (w.heap.size + 1) (.loop { rec .ready with state := .busy })).heap[w.heap.size + 1]? = some (.loop { rec .ready with state := .busy }) := World.putObj_heap_same lt1
      have hd2 : (A1.putObj (w.heap.size + 1) (.loop { rec .ready with state := .busy })).heap[w.heap.size]? = some (.deferred (some [])) := (World.putObj_heap_other (by omega)).trans d1
      generalize A1.putObj (w.heap.size + 1) (.loop { rec .ready with state := .busy }) = A2 at hbut hl2 hd2
      have j1 : I m A2 := hI m A1 A2 (hI m A A1 i1 (hb1.mono (by omega))) (hbut.below (by omega))
      have j2 : G m x A2 := hGb m x A1 A2 _ _ (hGn m x A A1 hgx hb1) l1 hbut
      have lt2 := (Array.getElem?_eq_some_iff.1 hl2).1
      refine wpIn_mono (hbody A2 hbut j1 j2) ?_
      rintro e a3 A3 hp
      cases e with
      | normal =>
        obtain ⟨hk, hmid, hi3⟩ := hp
        have l3 := hk.same _ _ (by omega) hl2 rfl
        have d3 := hk.same _ _ (Nat.le_refl _) hd2 rfl
        have lt3 := (Array.getElem?_eq_some_iff.1 l3).1
        have hend := run_endRound (P := P) none l3
        have hbut3 := but_put (w.heap.size + 1) A3 (.loop (rec .ready))
        have hend' : (Instr.endRound (w.heap.size + 1) none).run P A3 = .ok (.bool true) (A3.putObj (w.heap.size + 1) (.loop (rec .ready))) := by rw [hend, hrec]; rfl
        refine ⟨_, _, hend', rfl, ⟨hI _ _ _ hi3 (hbut3.below (by omega)), World.putObj_heap_same lt3, (World.putObj_heap_other (by omega)).trans d3⟩, ?_⟩
        exact (((Mid.of (hb1.mono (by omega))).trans (Mid.of (hbut.below (by omega)))).trans hmid).trans (Mid.of (hbut3.below (by omega)))
      | ret => exact hp.elim
      | exit id => exact hp.elim
      | goto t => exact hp.elim
      | panic ch => exact hp.elim
      | outgrown => exact hp.elim
    · rintro e A ⟨⟨v, rfl⟩, m, hS, i1, i2, i3⟩
      have hend := run_endLoop (P := P) i2 (by rw [hrec]; simp)
      have hbut3 := but_put (w.heap.size + 1) A (.loop { rec .ready with state := .exhausted })
      refine ⟨none, _, by rw [hrec] at hend ⊢; exact hend, hdone _ m _ (Nat.le_refl _) hS (hI _ _ _ i1 (hbut3.below (by omega))) ?_⟩
      exact (World.putObj_heap_other (by omega)).trans i3
end Go.Proofs.YtjblkmjdepdekaaDoor.Rg

/- frames: what Scan's iterator says -/
namespace Go.Proofs.YtjblkmjdepdekaaDoor.Fm
open Go.RowKit Go.Lib Go.Proofs.YtjblkmjdepdekaaDoor.By Go.Proofs.YtjblkmjdepdekaaDoor.Oc Go.Proofs.YtjblkmjdepdekaaDoor.Cr Go.Proofs.YtjblkmjdepdekaaDoor.Rg
attribute [local go_sem] Oper.semAt_some

/-- where the m-th record begins, and the sum ahead of it -/
def stt (b : List UInt8) (s : Nat) : Nat → Nat × Nat
  | 0 => (0, s)
  | m + 1 => ((stt b s m).1 + (nxt (stt b s m).2 (b.drop (stt b s m).1)).2.1, (nxt (stt b s m).2 (b.drop (stt b s m).1)).2.2.1)
/-- what the m-th is -/
def at' (b : List UInt8) (s m : Nat) : (UInt8 × List UInt8) × Nat × Nat × Int := nxt (stt b s m).2 (b.drop (stt b s m).1)
theorem stt_succ (b : List UInt8) (s m : Nat) : stt b s (m + 1) = ((stt b s m).1 + (at' b s m).2.1, (at' b s m).2.2.1) := rfl
theorem stt_u32 {b : List UInt8} {s : Nat} (h : U32 s) : ∀ m, U32 (stt b s m).2
  | 0 => h
  | _ + 1 => nxt_u32 _ _

/-- what a round is handed -/
structure Told where
  at' : Nat
  k : UInt8
  d : List UInt8
  a : Option Addr
  co : Nat
def enc2 (x : Told) : Array Value := #[.int .i64 (x.at' : Nat), .agg #[.int .u8 (x.k.toNat : Nat), .slice x.a x.d.length x.co]]
def Good2 (b : List UInt8) (s : Nat) (m : Nat) (x : Told) (A : World) : Prop :=
  (Fm.at' b s m).2.2.2 = 0 ∧ x.at' = (stt b s m).1 ∧ (x.k, x.d) = (Fm.at' b s m).1 ∧ IsB A x.a x.d.length x.co x.d

theorem yield_there (l : Nat) (w : World) : (binOp BinOp.eql 112 (.func (.yield l) #[] #[]) .nilFunc).run Tryd.prog w = .ok (.bool false) w := by
  kernel_rfl

set_option maxRecDepth 20000 in
set_option maxHeartbeats 4000000 in
theorem scan1_iter (n : Nat) (n₀ n₁ : Nat) (s : Nat) (a : Option Addr) (len cap : Nat) (b : List UInt8) (sb bb : Nat) (w : World) (hs : U32 s)
    (hK : ∀ W, Mid n₀ n₁ w.heap.size w W → Nibs W ∧ IsB W a len cap b ∧ W.cell? ⟨sb, 0, none⟩ = some (.int .u32 (s : Nat)) ∧ W.cell? ⟨bb, 0, none⟩ = some (.slice a len cap)) :
    Iter Fence.wide n Tryd.prog 62 #[.pointer (some ⟨sb, 0, none⟩), .pointer (some ⟨bb, 0, none⟩)] enc2 n₀ n₁ w.heap.size (Good2 b s) (fun m => (Fm.at' b s m).2.2.2 ≠ 0) w := by
  intro l J W hW hJ hY hJ0
  obtain ⟨hn0, hb0, hsc, hbc⟩ := hK W (Mid.of hW)
  obtain rfl : b.length = len := hb0.1
  have hlc : b.length ≤ cap ∧ cap ≤ 9223372036854775807 := by
    obtain ⟨h1, ⟨h2, h3, h4⟩ | ⟨x, h2, h3, h4, h5⟩⟩ := id hb0
    · omega
    · exact ⟨h3, by unfold maxLen at h4; omega⟩
  have HK := Lib.hid hK
  have HJ := Lib.hid hJ
  have HY := Lib.hid hY
  have HJ0 := Lib.hid hJ0
  have HW := Lib.hid hW
  have HS := Lib.hid hs
  clear hK hJ hY hJ0 hW hn0 hb0
  refine callsIn_of_wp Tryd.func62 rfl trivial ?_ rfl
  simp only [Tryd.ntmps62, List.size_toArray, List.length_cons, List.length_nil, Nat.reduceAdd, Nat.reduceSub, Array.replicate_succ, Array.replicate_zero, List.push_toArray, List.append_toArray, List.nil_append, List.cons_append]
  have hyl := yield_there l
  gi_wp2_with fail
  refine wpIn_wide.2 ?_
  go_region
  gi_wp2_with fail
  gi_loopw [4, 5] (fun p q wr => ∃ m : Nat, (stt b s m).1 ≤ b.length ∧ p = .int .i64 ((stt b s m).1 : Nat) ∧ q = .int .u32 ((stt b s m).2 : Nat) ∧ J m wr ∧ Mid n₀ n₁ w.heap.size w wr) (fun p _ _ => b.length - (intOf p).toNat)
  case atStart => exact ⟨0, Nat.zero_le _, rfl, rfl, HJ.out 0 W _ HJ0.out (Below.refl _ _).drew, Mid.of HW.out.drew⟩
  case round =>
    obtain ⟨m, hle, rfl, rfl, hj, hmid⟩ := hrel
    obtain ⟨hn0, hb0, hsc, hbc⟩ := HK.out wr hmid
    have hu := stt_u32 (b := b) HS.out m
    have hnx : nxt (stt b s m).2 (b.drop (stt b s m).1) = Fm.at' b s m := rfl
    have hl6 : (Fm.at' b s m).2.2.2 = 0 → 6 ≤ (Fm.at' b s m).2.1 ∧ (Fm.at' b s m).2.1 ≤ b.length - (stt b s m).1 := fun h => by
      have := nxt_len (s := (stt b s m).2) (b := b.drop (stt b s m).1) h
      rwa [List.length_drop] at this
    have hsu := stt_succ b s m
    have hG : ∀ (x : Told) A, Good2 b s m x A ↔ ((Fm.at' b s m).2.2.2 = 0 ∧ x.at' = (stt b s m).1 ∧ (x.k, x.d) = (Fm.at' b s m).1 ∧ IsB A x.a x.d.length x.co x.d) := fun _ _ => Iff.rfl
    obtain ⟨ST, hST⟩ : ∃ S, S = stt b s m := ⟨_, rfl⟩
    obtain ⟨N, hN⟩ : ∃ N, N = Fm.at' b s m := ⟨_, rfl⟩
    rw [← hST] at hle hu hnx hl6 hsu hG ⊢
    rw [← hN] at hnx hl6 hsu hG
    obtain ⟨k, r⟩ := ST
    obtain ⟨⟨Nk, Nd⟩, Nn, Ns, Ne⟩ := N
    simp only at hle hu hnx hl6 hsu hG ⊢
    have HA := Lib.hid (And.intro hj (And.intro hmid (And.intro hsu (And.intro hG (And.intro hl6 (And.intro hST hN))))))
    have HB := Lib.hid hb0
    have HN := Lib.hid (And.intro hn0 (And.intro hu hnx))
    clear hj hmid hn0 hb0 hsc hu hnx hl6 hsu hST hN hG
    gi_wp2_with fail
    · have hib := IsB.from0 HB.out hle (by assumption)
      refine ⟨trivial, (fun h => (by cases h)), ?_⟩
      have hnx := next_any r _ _ _ (b.drop k) wr HN.out.2.1 hib HN.out.1
      rw [HN.out.2.2] at hnx
      refine (callsIn_wide.2 hnx).mono ?_
      clear hnx
      rintro e W1 ⟨ao, co, rfl, hibd, hb1⟩
      have hj1 := HA.out.1
      have hmid := HA.out.2.1
      have hbA : Below wr.heap.size wr (W1.alloc (.cells #[.int .u8 (Nk.toNat : Nat), .slice ao Nd.length co] 34)) := hb1.alloc hb1.size _
      have hjA := HJ.out m _ _ hj1 hbA
      have hmA : Mid n₀ n₁ w.heap.size w (W1.alloc (.cells #[.int .u8 (Nk.toNat : Nat), .slice ao Nd.length co] 34)) := hmid.trans (Mid.of (hbA.mono hmid.size))
      have hibA := hibd.old ((Below.refl _ _).alloc (Nat.le_refl _) (.cells #[.int .u8 (Nk.toNat : Nat), .slice ao Nd.length co] 34))
      by_cases he : Ne = 0
      · subst he
        exact absurd (HA.out.2.2.2.2.1 rfl) (by omega)
      · have hne : (Ne != 0) = true := by simpa using he
        have HF := Lib.hid hjA
        clear hj1 hmid hbA hjA hmA hibA hibd hb1
        gi_wp2_with fail
        refine ⟨fun _ h => (by cases h), ?_⟩
        gi_wp2_with fail
        refine bodyPost_ret (results_none rfl _ _ _) rfl ?_
        refine ⟨⟨_, rfl⟩, m, ?_, HF.out⟩
        rw [← HA.out.2.2.2.2.2.2]
        exact he
    · have hib := IsB.from HB.out hle
      refine ⟨trivial, (fun h => (by cases h)), ?_⟩
      have hnx := next_any r _ _ _ (b.drop k) wr HN.out.2.1 hib HN.out.1
      rw [HN.out.2.2] at hnx
      refine (callsIn_wide.2 hnx).mono ?_
      clear hnx
      rintro e W1 ⟨ao, co, rfl, hibd, hb1⟩
      have hj1 := HA.out.1
      have hmid := HA.out.2.1
      have hbA : Below wr.heap.size wr (W1.alloc (.cells #[.int .u8 (Nk.toNat : Nat), .slice ao Nd.length co] 34)) := hb1.alloc hb1.size _
      have hjA := HJ.out m _ _ hj1 hbA
      have hmA : Mid n₀ n₁ w.heap.size w (W1.alloc (.cells #[.int .u8 (Nk.toNat : Nat), .slice ao Nd.length co] 34)) := hmid.trans (Mid.of (hbA.mono hmid.size))
      have hibA := hibd.old ((Below.refl _ _).alloc (Nat.le_refl _) (.cells #[.int .u8 (Nk.toNat : Nat), .slice ao Nd.length co] 34))
      by_cases he : Ne = 0
      · subst he
        have hg6 := HA.out.2.2.2.2.1 rfl
        obtain ⟨fn, tmps, assign, body, hy, hR⟩ := HY.out m ⟨k, Nk, Nd, ao, co⟩ _ hjA ((HA.out.2.2.2.1 ⟨k, Nk, Nd, ao, co⟩ _).2 ⟨rfl, rfl, rfl, hibA⟩)
        dsimp only [enc2] at hy
        have HM := Lib.hid hmA
        clear hj1 hmid hbA hjA hmA hibA hibd hb1
        gi_wp2_with fail
        refine ⟨(fun h => (by cases h)), hR.mono ?_⟩
        rintro e W3 ⟨rfl, hJ3, hm3⟩
        have HF := Lib.hid (And.intro hJ3 (HM.out.trans hm3))
        clear hJ3 hm3
        gi_wp2_with fail
        go_roundw
        case rel => exact ⟨m + 1, by rw [HA.out.2.2.1]; simp only; omega, by rw [HA.out.2.2.1]; go_num, by rw [HA.out.2.2.1], HF.out.1, HF.out.2⟩
        case measure => simp [intOf]; omega
      · have hne : (Ne != 0) = true := by simpa using he
        have HF := Lib.hid hjA
        clear hj1 hmid hbA hjA hmA hibA hibd hb1
        gi_wp2_with fail
        refine ⟨fun _ h => (by cases h), ?_⟩
        gi_wp2_with fail
        refine bodyPost_ret (results_none rfl _ _ _) rfl ?_
        refine ⟨⟨_, rfl⟩, m, ?_, HF.out⟩
        rw [← HA.out.2.2.2.2.2.2]
        exact he
end Go.Proofs.YtjblkmjdepdekaaDoor.Fm

/- chains: the plain part -/
namespace Go.Proofs.YtjblkmjdepdekaaDoor.Fm
open Go.RowKit Go.Lib Go.Proofs.YtjblkmjdepdekaaDoor.By Go.Proofs.YtjblkmjdepdekaaDoor.Oc Go.Proofs.YtjblkmjdepdekaaDoor.Cr

abbrev Rc := UInt8 × List UInt8
/-- a chain of records behind a sum; its last sum -/
def cat (s : Nat) : List Rc → List UInt8
  | [] => []
  | (k, d) :: t => fb s k d ++ cat (fs s k d) t
def sm (s : Nat) : List Rc → Nat
  | [] => s
  | (k, d) :: t => sm (fs s k d) t
theorem cat_app (s : Nat) : ∀ l m : List Rc, cat s (l ++ m) = cat s l ++ cat (sm s l) m
  | [], _ => rfl
  | (k, d) :: l, m => by show fb s k d ++ cat (fs s k d) (l ++ m) = _; rw [cat_app (fs s k d) l m, ← List.append_assoc]; rfl
theorem sm_app (s : Nat) : ∀ l m : List Rc, sm s (l ++ m) = sm (sm s l) m
  | [], _ => rfl
  | (k, d) :: l, m => sm_app (fs s k d) l m
theorem sm_u32 {s : Nat} (h : U32 s) : ∀ l : List Rc, U32 (sm s l)
  | [] => h
  | (_, _) :: l => sm_u32 (more_u32 _ _) l
theorem cat_split (s : Nat) (l : List Rc) (i : Nat) : cat s l = cat s (l.take i) ++ cat (sm s (l.take i)) (l.drop i) := by
  rw [← cat_app, List.take_append_drop]
theorem cat_next (s : Nat) {l : List Rc} {i : Nat} (h : i < l.length) : cat s (l.take (i + 1)) = cat s (l.take i) ++ fb (sm s (l.take i)) l[i].1 l[i].2 ∧ sm s (l.take (i + 1)) = fs (sm s (l.take i)) l[i].1 l[i].2 := by
  rw [List.take_succ_eq_append_getElem h, cat_app, sm_app]
  exact ⟨by simp [cat], rfl⟩
theorem cat_here (s : Nat) {l : List Rc} {i : Nat} (h : i < l.length) : cat s l = cat s (l.take i) ++ (fb (sm s (l.take i)) l[i].1 l[i].2 ++ cat (sm s (l.take (i + 1))) (l.drop (i + 1))) := by
  rw [cat_split s l (i + 1), (cat_next s h).1, List.append_assoc]
/-- where records begin in a chain with whatever behind -/
theorem stt_cat (s : Nat) {l : List Rc} (t : List UInt8) (hl : ∀ x ∈ l, x.2.length ≤ 1024) : ∀ i, i ≤ l.length → stt (cat s l ++ t) s i = ((cat s (l.take i)).length, sm s (l.take i))
  | 0, _ => rfl
  | i + 1, hi => by
    have ih := stt_cat s t hl i (by omega)
    have hlt : i < l.length := by omega
    have e1 : (cat s l ++ t).drop (cat s (l.take i)).length = fb (sm s (l.take i)) l[i].1 l[i].2 ++ (cat (sm s (l.take (i + 1))) (l.drop (i + 1)) ++ t) := by
      rw [cat_here s hlt, List.append_assoc, List.append_assoc]; exact List.drop_left
    rw [stt_succ]
    unfold Fm.at'
    rw [ih]
    simp only
    rw [e1, nxt_fb _ _ (hl _ (List.getElem_mem hlt)), (cat_next s hlt).1, (cat_next s hlt).2, List.length_append]
theorem at_cat (s : Nat) {l : List Rc} (t : List UInt8) (hl : ∀ x ∈ l, x.2.length ≤ 1024) {i : Nat} (hi : i < l.length) : Fm.at' (cat s l ++ t) s i = (l[i], (fb (sm s (l.take i)) l[i].1 l[i].2).length, sm s (l.take (i + 1)), 0) := by
  have e1 : (cat s l ++ t).drop (cat s (l.take i)).length = fb (sm s (l.take i)) l[i].1 l[i].2 ++ (cat (sm s (l.take (i + 1))) (l.drop (i + 1)) ++ t) := by
    rw [cat_here s hi, List.append_assoc, List.append_assoc]; exact List.drop_left
  unfold Fm.at'
  rw [stt_cat s t hl i (by omega)]
  simp only
  rw [e1, nxt_fb _ _ (hl _ (List.getElem_mem hi)), (cat_next s hi).2]
/-- how far it goes on: from any of its records on -/
theorem good_stt (b : List UInt8) (s : Nat) : ∀ m, (∀ i, i < m → (Fm.at' b s i).2.2.2 = 0) → good b 0 s = good b (stt b s m).1 (stt b s m).2
  | 0, _ => rfl
  | m + 1, h => by
    rw [good_stt b s m (fun i hi => h i (by omega)), stt_succ]
    exact good_go (h m (by omega))
theorem good_stop {b : List UInt8} {s m : Nat} (h : ∀ i, i < m → (Fm.at' b s i).2.2.2 = 0) (he : (Fm.at' b s m).2.2.2 ≠ 0) : good b 0 s = stt b s m := by
  rw [good_stt b s m h]; exact good_end he

/-! ### a beginning of a frame -/
theorem dec_app : ∀ (l : List UInt8) (k X v : Nat) (r t : List UInt8), dec k X l = (v, r, 0) → dec k X (l ++ t) = (v, r ++ t, 0)
  | [], k, X, v, r, t, h => by simp [dec] at h
  | c :: l, k, X, v, r, t, h => by
    rw [List.cons_append]
    by_cases hb : (k = 9 ∧ 1 < c.toNat) ∨ (0 < k ∧ c.toNat = 0)
    · rw [dec_bad hb] at h; simp at h
    · by_cases hl : c.toNat < 128
      · rw [dec_last hb hl] at h ⊢
        simp only [Prod.mk.injEq, and_true] at h ⊢
        exact ⟨h.1, by rw [h.2]⟩
      · rw [dec_more hb hl] at h ⊢
        exact dec_app l (k + 1) _ v r t h
theorem dat_app {b : List UInt8} (t : List UInt8) (h : (dat b).2.2 = 0) : dat (b ++ t) = dat b := by
  have hok := dat_ok h
  by_cases h0 : 0 < b.length ∧ b.getD 0 0 ≠ 197
  · unfold dat at h; rw [if_pos h0] at h; simp at h
  · have h2 : ¬ b.length < 2 := by omega
    have hg : (b ++ t).getD 0 0 = b.getD 0 0 := by simp [List.getD, List.getElem?_append_left (show 0 < b.length by omega)]
    have h0' : ¬ (0 < (b ++ t).length ∧ (b ++ t).getD 0 0 ≠ 197) := by
      rw [hg]; intro e; exact h0 ⟨by omega, e.2⟩
    have h2' : ¬ (b ++ t).length < 2 := by rw [List.length_append]; omega
    have e1 := dat_rdr h0 h2
    have e2 := dat_rdr h0' h2'
    have hd : (b ++ t).drop 2 = b.drop 2 ++ t := by rw [List.drop_append_of_le_length (by omega)]
    have hz : (rdr (b.drop 2)).2.2 = 0 := by
      by_cases hz : (rdr (b.drop 2)).2.2 = 0
      · exact hz
      · rw [e1, if_pos hz] at h; exact h
    have hdz : (dec 0 0 (b.drop 2)).2.2 = 0 := by
      unfold rdr at hz; split at hz
      · assumption
      · exact hz
    have happ := dec_app (b.drop 2) 0 0 (dec 0 0 (b.drop 2)).1 (dec 0 0 (b.drop 2)).2.1 t (by rw [← hdz])
    have er : rdr ((b ++ t).drop 2) = rdr (b.drop 2) := by
      unfold rdr
      rw [hd, happ, if_pos rfl, if_pos hdz]
      simp only [List.length_append, Prod.mk.injEq, true_and, and_true]
      omega
    rw [e2, er]
    rw [e1] at h ⊢
    by_cases hx : (rdr (b.drop 2)).2.2 ≠ 0
    · rw [if_pos hx, if_pos hx]
    · rw [if_neg hx] at h
      rw [if_neg hx, if_neg hx]
      by_cases hy : 1024 < (rdr (b.drop 2)).1
      · rw [if_pos hy, if_pos hy]
      · rw [if_neg hy] at h
        rw [if_neg hy, if_neg hy]
        by_cases hs : b.length < 2 + (rdr (b.drop 2)).2.1 + (rdr (b.drop 2)).1 + 4
        · rw [if_pos hs] at h; simp at h
        · rw [if_neg hs, if_neg (by rw [List.length_append]; omega)]
theorem nxt_short {s j : Nat} {k : UInt8} {d : List UInt8} (hd' : d.length ≤ 1024) (hj : j < (fb s k d).length) : (nxt s ((fb s k d).take j)).2.2.2 ≠ 0 := by
  intro h
  obtain ⟨h1, _⟩ := nxt_ok h
  have hok := dat_ok h1
  have e := dat_app ((fb s k d).drop j) h1
  rw [List.take_append_drop] at e
  have e2 := dat_hd (k := k) (t := le4 (fs s k d)) hd' (by simp [le4_len])
  rw [show hd k d ++ le4 (fs s k d) = fb s k d from rfl, e] at e2
  rw [e2] at hok
  rw [List.length_take, fb_len] at hok
  rw [fb_len] at hj
  simp only at hok
  omega

/-- of a chain that is cut as many are told as are whole -/
theorem cut_ok {s c m : Nat} {l : List Rc} (hl : ∀ x ∈ l, x.2.length ≤ 1024) (hm : m ≤ l.length) (h1 : (cat s (l.take m)).length ≤ c) (h2 : m < l.length → c < (cat s (l.take (m + 1))).length) :
    (∀ i, i < m → (Fm.at' ((cat s l).take c) s i).2.2.2 = 0) ∧ (Fm.at' ((cat s l).take c) s m).2.2.2 ≠ 0 := by
  have e : (cat s l).take c = cat s (l.take m) ++ (cat (sm s (l.take m)) (l.drop m)).take (c - (cat s (l.take m)).length) := by
    conv => lhs; rw [cat_split s l m]
    rw [List.take_append, List.take_of_length_le h1]
  have hlm : (l.take m).length = m := by rw [List.length_take]; omega
  have hlt : ∀ x ∈ l.take m, x.2.length ≤ 1024 := fun x hx => hl x (List.mem_of_mem_take hx)
  rw [e]
  refine ⟨fun i hi => ?_, ?_⟩
  · rw [at_cat s (l := l.take m) _ hlt (i := i) (by omega)]
  · have hst := stt_cat s (l := l.take m) ((cat (sm s (l.take m)) (l.drop m)).take (c - (cat s (l.take m)).length)) hlt m (by omega)
    rw [List.take_take, Nat.min_self] at hst
    unfold Fm.at'
    rw [hst]
    simp only
    rw [List.drop_left]
    by_cases hml : m < l.length
    · have hx := hl _ (List.getElem_mem hml)
      have hc := h2 hml
      rw [(cat_next s hml).1, List.length_append] at hc
      have ed : cat (sm s (l.take m)) (l.drop m) = fb (sm s (l.take m)) l[m].1 l[m].2 ++ cat (fs (sm s (l.take m)) l[m].1 l[m].2) (l.drop (m + 1)) := by
        rw [List.drop_eq_getElem_cons hml]; rfl
      rw [ed, List.take_append_of_le_length (by omega)]
      exact nxt_short hx (by omega)
    · have ed : l.drop m = [] := by rw [List.drop_eq_nil_iff]; omega
      rw [ed]
      show (nxt _ ([].take _)).2.2.2 ≠ 0
      rw [List.take_nil]
      exact nxt_nil _
end Go.Proofs.YtjblkmjdepdekaaDoor.Fm

/- frames: Scan -/
namespace Go.Proofs.YtjblkmjdepdekaaDoor.Fm
open Go.RowKit Go.Lib Go.Proofs.YtjblkmjdepdekaaDoor.By Go.Proofs.YtjblkmjdepdekaaDoor.Oc Go.Proofs.YtjblkmjdepdekaaDoor.Cr Go.Proofs.YtjblkmjdepdekaaDoor.Rg

set_option maxHeartbeats 2000000 in
theorem scan_any (s : Nat) (a : Option Addr) (len cap : Nat) (b : List UInt8) (w : World) (hb : IsB w a len cap b) (hl : len ≤ 1000000) :
    Calls Tryd.prog 60 #[.int .u32 s, .slice a len cap] w fun e w' => e = .returned (.func (.func 62) #[] #[.pointer (some ⟨w.heap.size, 0, none⟩), .pointer (some ⟨w.heap.size + 1, 0, none⟩)]) ∧
      ∃ ac cc, w'.cell? ⟨w.heap.size, 0, none⟩ = some (.int .u32 s) ∧ w'.cell? ⟨w.heap.size + 1, 0, none⟩ = some (.slice ac b.length cc) ∧ w'.ownsRow (w.heap.size + 2) 5 1 (.slice ac b.length cc) b.length (byteCells b) ∧ Below w.heap.size w w' ∧ w.heap.size + 2 ≤ w'.heap.size := by
  obtain rfl : b.length = len := hb.1
  have hmf : ∀ (fn : Fn) (first cap : Array Value) (w : World), (Instr.makeFunc fn first cap).run Tryd.prog w = .ok (.func fn first cap) w := fun _ _ _ _ => rfl
  have hb0 : Below w.heap.size w ((w.alloc (.cells #[.int .u32 s] 68)).alloc (.cells #[.slice a b.length cap] 32)) := ((Below.refl _ _).alloc (Nat.le_refl _) _).alloc (by simp) _
  have HC := Lib.hid (clone_any a b.length cap b _ (hb.old hb0) (by omega))
  have hx1 : ((w.alloc (.cells #[.int .u32 s] 68)).alloc (.cells #[.slice a b.length cap] 32)).heap[w.heap.size]? = some (.cells #[.int .u32 s] 68 (0, 0)) := heap_old ((Below.refl _ _).alloc (Nat.le_refl _) _) (heap_alloc_new w _)
  have hx2 : ((w.alloc (.cells #[.int .u32 s] 68)).alloc (.cells #[.slice a b.length cap] 32)).heap[w.heap.size + 1]? = some (.cells #[.slice a b.length cap] 32 (0, 0)) := by
    have := heap_alloc_new (w.alloc (.cells #[.int .u32 s] 68)) (.cells #[.slice a b.length cap] 32)
    rw [World.size_alloc] at this; exact this
  have HX := Lib.hid (And.intro hb0 (And.intro hx1 hx2))
  clear hb hb0 hx1 hx2
  go_enter Tryd.func60, Tryd.ntmps60
  go_wp2_with fail
  refine HC.out.mono ?_
  rintro e w1 ⟨v', rfl, hown, hb1⟩
  obtain ⟨ac, cc, rfl⟩ := own_shape hown
  have hy1 := heap_old hb1 HX.out.2.1
  have hy2 := heap_old hb1 HX.out.2.2
  have hz := hb1.size
  simp only [World.size_alloc] at hz hown
  have c1 := cell_of_one hy2
  have f1 := free_of_one hy2
  have hown2 := ownsRow_setCell_below (a := ⟨w.heap.size + 1, 0, none⟩) hown (Nat.lt_succ_self _) (.slice ac b.length cc)
  have hbw : Below w.heap.size w (w1.setCell ⟨w.heap.size + 1, 0, none⟩ (.slice ac b.length cc)) := (HX.out.1.trans (hb1.mono (by simp only [World.size_alloc]; omega))).setCell (p := ⟨w.heap.size + 1, 0, none⟩) (Nat.le_succ _) _
  have d1 : (w1.setCell ⟨w.heap.size + 1, 0, none⟩ (.slice ac b.length cc)).cell? ⟨w.heap.size, 0, none⟩ = some (.int .u32 s) :=
    (World.cell?_of_block (w := w1) (Below.heap_setCell w1 _ _ w.heap.size (by simp))).trans (cell_of_one hy1)
  have d2 : (w1.setCell ⟨w.heap.size + 1, 0, none⟩ (.slice ac b.length cc)).cell? ⟨w.heap.size + 1, 0, none⟩ = some (.slice ac b.length cc) := cell_of_one (one_setCell hy2)
  have hz2 : w.heap.size + 2 ≤ (w1.setCell ⟨w.heap.size + 1, 0, none⟩ (.slice ac b.length cc)).heap.size := by simp only [World.size_setCell]; omega
  have HF := Lib.hid (And.intro d1 (And.intro d2 (And.intro hown2 (And.intro hbw hz2))))
  clear d1 d2 hown2 hbw hz2 hown hy1 hy2 hb1 HX HC
  go_wp2_with fail
  go_ret
  exact ⟨rfl, ac, cc, HF.out⟩

end Go.Proofs.YtjblkmjdepdekaaDoor.Fm

/- logs: the plain mathematics of turns and sectors -/
namespace Go.Proofs.YtjblkmjdepdekaaDoor.Wl
open Go.RowKit Go.Lib Go.Proofs.YtjblkmjdepdekaaDoor.By Go.Proofs.YtjblkmjdepdekaaDoor.Dk Go.Proofs.YtjblkmjdepdekaaDoor.Oc

/-- bytes as a number, the lowest first; a number as so many bytes -/
def unl : List UInt8 → Nat
  | [] => 0
  | b :: r => b.toNat + 256 * unl r
def lel : Nat → Nat → List UInt8
  | 0, _ => []
  | k + 1, t => UInt8.ofNat (t % 256) :: lel k (t / 256)
theorem lel_len : ∀ k t, (lel k t).length = k
  | 0, _ => rfl
  | k + 1, t => by simp [lel, lel_len k]
theorem unl_lt : ∀ l : List UInt8, unl l < 256 ^ l.length
  | [] => by simp [unl]
  | b :: r => by
    have := unl_lt r
    have hb := b.toNat_lt
    simp only [unl, List.length_cons, Nat.pow_succ]
    omega
theorem unl_snoc : ∀ (l : List UInt8) (b : UInt8), unl (l ++ [b]) = unl l + b.toNat * 256 ^ l.length
  | [], b => by simp [unl]
  | a :: l, b => by
    have := unl_snoc l b
    simp only [List.cons_append, unl, this, List.length_cons, Nat.pow_succ]
    rw [Nat.mul_add, ← Nat.add_assoc]
    congr 1
    rw [Nat.mul_comm 256, Nat.mul_assoc]
theorem unl_lel : ∀ k t, t < 256 ^ k → unl (lel k t) = t
  | 0, t, h => by simp at h; simp [lel, unl, h]
  | k + 1, t, h => by
    rw [Nat.pow_succ] at h
    have := unl_lel k (t / 256) (Nat.div_lt_of_lt_mul (by omega))
    simp only [lel, unl, this]
    rw [UInt8.toNat_ofNat']
    omega
theorem lel_snoc : ∀ k t, lel (k + 1) t = lel k t ++ [UInt8.ofNat (t / 256 ^ k % 256)]
  | 0, t => by simp [lel]
  | k + 1, t => by
    have := lel_snoc k (t / 256)
    rw [lel, this, lel, List.cons_append, Nat.div_div_eq_div_mul, Nat.pow_succ, Nat.mul_comm]
theorem le8_u64 {t : Nat} (h : U64 t) : unl (lel 8 t) = t := unl_lel 8 t (by unfold U64 at h; simpa using h)
theorem unl8_u64 {l : List UInt8} (h : l.length = 8) : U64 (unl l) := by
  have := unl_lt l; rw [h] at this; unfold U64; simpa using this
/-- a sector's turn, and how many of its bytes count -/
def trn (s : List UInt8) : Nat := unl (s.take 8)
def ctn (s : List UInt8) : Nat := (s.getD 8 0).toNat
/-- the sector of a turn, and of bytes that count -/
def secB (t : Nat) (b : List UInt8) : List UInt8 := full (lel 8 t ++ UInt8.ofNat b.length :: b)
theorem secB_len {t : Nat} {b : List UInt8} (h : b.length ≤ 55) : (secB t b).length = 64 := by
  unfold secB; exact length_full (by simp [lel_len]; omega)
theorem trn_secB {t : Nat} {b : List UInt8} (ht : U64 t) : trn (secB t b) = t := by
  have e : (secB t b).take 8 = lel 8 t := by
    unfold secB full
    rw [List.append_assoc]
    exact List.take_left' (lel_len 8 t)
  unfold trn; rw [e, le8_u64 ht]
theorem ctn_secB {t : Nat} {b : List UInt8} (h : b.length ≤ 55) : ctn (secB t b) = b.length := by
  have e : (secB t b).getD 8 0 = UInt8.ofNat b.length := by
    unfold secB full
    rw [List.append_assoc, List.getD_eq_getElem?_getD, List.getElem?_append_right (by rw [lel_len]; exact Nat.le_refl _), lel_len]
    rfl
  unfold ctn; rw [e, UInt8.toNat_ofNat']; omega
theorem bytes_secB {t : Nat} {b : List UInt8} : ((secB t b).drop 9).take b.length = b := by
  unfold secB full
  rw [List.append_assoc, show 9 = (lel 8 t).length + 1 by rw [lel_len], ← List.drop_drop, List.drop_left, List.cons_append, List.drop_succ_cons, List.drop_zero, List.take_left]
end Go.Proofs.YtjblkmjdepdekaaDoor.Wl

/- logs: a sector's turn is read; a sector is made -/
namespace Go.Proofs.YtjblkmjdepdekaaDoor.Wl
open Go.RowKit Go.Lib Go.Joins Go.Proofs.YtjblkmjdepdekaaDoor.By Go.Proofs.YtjblkmjdepdekaaDoor.Dk Go.Proofs.YtjblkmjdepdekaaDoor.Oc

theorem pow_8 (k : Nat) : (2 : Int) ^ (8 * k) = ((256 ^ k : Nat) : Int) := by
  have h : (2 : Nat) ^ (8 * k) = 256 ^ k := by rw [Nat.pow_mul]
  rw [← h]; simp
theorem orbits {k X c : Nat} (hk : k < 8) (hX : X < 256 ^ k) (hc : c < 256) :
    bits .or .u64 (X : Int) (IntKind.u64.wrap (IntKind.u64.wrap (c : Int) * 2 ^ (8 * k))) = ((X + c * 256 ^ k : Nat) : Int) := by
  have hP : 256 ^ k ≤ 256 ^ 7 := Nat.pow_le_pow_right (by decide) (by omega)
  have hlt : c * 256 ^ k < 18446744073709551616 := Nat.lt_of_le_of_lt (Nat.mul_le_mul (show c ≤ 255 by omega) hP) (by decide)
  have hXl : X < 18446744073709551616 := Nat.lt_of_lt_of_le hX (Nat.le_trans hP (by decide))
  have e1 : IntKind.u64.wrap (c : Int) = (c : Int) := u64_wrap_id _ (by omega) (by omega)
  rw [e1, pow_8, ← Int.natCast_mul, u64_wrap_id _ (by omega) (by omega)]
  rw [bits_join_low .u64 64 (by decide) wraps_u64 (8 * k) (X : Int) ((c * 256 ^ k : Nat) : Int) (by omega) (by rw [pow_8]; omega) (by omega) (by omega) (by rw [pow_8, ← Int.natCast_emod, Nat.mul_mod_left]; rfl) (by omega)]
  omega
theorem orbits0 {X c : Nat} (hX : X < 256 ^ 0) (hc : c < 256) : bits .or .u64 (X : Int) (IntKind.u64.wrap (IntKind.u64.wrap (c : Int))) = ((X + c * 256 ^ 0 : Nat) : Int) := by
  have := orbits (k := 0) (by omega) hX hc
  simpa using this
theorem unl_step {s : List UInt8} {k : Nat} (h : k < s.length) : unl (s.take (k + 1)) = unl (s.take k) + s[k].toNat * 256 ^ k := by
  rw [List.take_succ_eq_append_getElem h, unl_snoc, List.length_take, Nat.min_eq_left (by omega)]
theorem unl_take {s : List UInt8} {k : Nat} (h : k ≤ s.length) : unl (s.take k) < 256 ^ k := by
  have := unl_lt (s.take k); rwa [List.length_take, Nat.min_eq_left h] at this
set_option maxRecDepth 20000 in
set_option maxHeartbeats 2000000 in
theorem turnOf_any (a : Option Addr) (len cap : Nat) (s : List UInt8) (w : World) (hs : IsB w a len cap s) (h8 : 8 ≤ s.length) :
    Calls Tryd.prog 46 #[.slice a len cap] w fun e w' => e = .returned (.int .u64 (trn s : Nat)) ∧ w = w' := by
  obtain rfl : s.length = len := hs.1
  have HS := Lib.hid hs
  have hl := hs.le
  unfold maxLen at hl
  have h8I : (8 : Int) ≤ (s.length : Int) := by omega
  clear hs
  go_enter Tryd.func46, Tryd.ntmps46
  go_wp2_with fail
  go_loop [3, 5] (fun x v => ∃ k : Nat, k ≤ 8 ∧ v = .int .i64 k ∧ x = .int .u64 (unl (s.take k) : Nat)) (fun _ v => 8 - (intOf v).toNat)
  case atStart => exact ⟨0, Nat.zero_le _, rfl, rfl⟩
  case round =>
    obtain ⟨k, hk, rfl, rfl⟩ := hrel
    by_cases hlt : k < 8
    · obtain ⟨x, rfl, hc⟩ := HS.out.at (k := k) (by omega)
      have hkI : (k : Int) < 8 := by omega
      have hk0 : (0 : Int) ≤ (k : Int) := by omega
      have hkl : (k : Int) < (s.length : Int) := by omega
      go_wp2_with fail
      go_round
      case rel => exact ⟨k + 1, by omega, by go_num, by rw [orbits hlt (unl_take (by omega)) (UInt8.toNat_lt _), unl_step (by omega)]⟩
      case measure => simp [intOf]; omega
    · obtain rfl : k = 8 := by omega
      go_wp2_with fail
      go_ret
      exact ⟨rfl, rfl⟩
/-- an array of 64 bytes that lies in a block -/
def A64 (w : World) (q : Nat) (l : List UInt8) : Prop := w.heap[q]? = some (.cells (byteCells l).toArray 78 (0, 0))
theorem splice_bytes (X l : List UInt8) (o : Nat) : splice (byteCells X) o (byteCells l) = byteCells (X.take o ++ l ++ X.drop (o + l.length)) := by
  unfold splice byteCells; simp
/-- bytes are copied into a block, from some cell on -/
theorem copy_at (W : World) {g o dl dc len cap : Nat} {t : TypeId} {Yl : List Value} {a : Option Addr} {l : List UInt8} (hg : W.heap[g]? = some (.cells Yl.toArray t (0, 0))) (ho : o + dl ≤ Yl.length) (hb : IsB W a len cap l) :
    ∃ W', (Builtin.copy_ #[32, 32] 3 #[.slice (some ⟨g, o, none⟩) dl dc, .slice a len cap]).run Tryd.prog W = .ok (goInt (Nat.min len dl)) W' ∧ W'.heap[g]? = some (.cells (splice Yl o (byteCells (l.take dl))).toArray t (0, 0)) ∧
      (∀ B, B ≤ g → Below B W W') ∧ ∀ k, k ≠ g → W'.heap[k]? = W.heap[k]? := by
  obtain ⟨i0, hi, hz0, hz1, hz2⟩ := info_parts info5
  obtain ⟨rfl, h2 | ⟨x, rfl, h3, h4, h5⟩⟩ := hb
  · obtain ⟨rfl, h3, rfl⟩ := h2
    have hl0 : l = [] := List.eq_nil_of_length_eq_zero h3
    subst hl0
    refine ⟨W, ?_, ?_, fun B _ => Below.refl _ _, fun _ _ => rfl⟩
    · have := run_copy_none (P := Tryd.prog) W 32 32 3 5 (some ⟨g, o, none⟩) none dl dc 0 0 Tryd.underlying32 (by simp [hi, hz1]) (by simp)
      simpa using this
    · rw [hg]; unfold splice; simp [byteCells]
  · have hr := run_copy_row (P := Tryd.prog) W 32 32 3 5 g o dl dc x l.length cap Yl.toArray t (byteCells (l.take dl)) Tryd.underlying32 (by simp [hi, hz1]) hg (by simp only [byteCells, List.length_map, List.length_take]; exact Nat.min_comm _ _) (fun j u hu => h5 j u (by
      simp only [byteCells, List.map_take, List.getElem?_take] at hu ⊢
      split at hu
      · exact hu
      · cases hu)) (by simp [byteCells]; omega) (bytes_one _)
    refine ⟨W.setRow g (splice Yl o (byteCells (l.take dl))).toArray, ?_, setRow_heap W g Yl.toArray _ t (0, 0) hg, fun B hB => below_setRow (Below.refl _ _) hB _, fun k hk => setRow_other W g k _ hk⟩
    have e : (byteCells (l.take dl)).length = Nat.min l.length dl := by simp only [byteCells, List.length_map, List.length_take]; exact Nat.min_comm _ _
    rw [← e]
    simpa [splice, byteCells] using hr
theorem byte_at (t k : Nat) : (t : Int) / 2 ^ (8 * k) % 256 = ((UInt8.ofNat (t / 256 ^ k % 256)).toNat : Nat) := by
  rw [pow_8, UInt8.toNat_ofNat']
  have : t / 256 ^ k % 256 % 2 ^ 8 = t / 256 ^ k % 256 := Nat.mod_mod _ _
  rw [this]; simp
theorem lel_set (t : Nat) {k : Nat} (hk : k < 8) : (lel k t ++ List.replicate (64 - k) 0).set k (UInt8.ofNat (t / 256 ^ k % 256)) = lel (k + 1) t ++ List.replicate (64 - (k + 1)) 0 := by
  rw [lel_snoc, List.set_append_right _ _ (by rw [lel_len]; exact Nat.le_refl _), lel_len, Nat.sub_self, show 64 - k = (64 - (k + 1)) + 1 by omega, List.replicate_succ, List.set_cons_zero, List.append_assoc]
  rfl
theorem sec_list (t : Nat) {b : List UInt8} (h : b.length ≤ 55) : ((lel 8 t ++ List.replicate (64 - 8) 0).set 8 (UInt8.ofNat b.length)).take 9 ++ b ++ ((lel 8 t ++ List.replicate (64 - 8) 0).set 8 (UInt8.ofNat b.length)).drop (9 + b.length) = secB t b := by
  have e : (lel 8 t ++ List.replicate (64 - 8) 0).set 8 (UInt8.ofNat b.length) = (lel 8 t ++ [UInt8.ofNat b.length]) ++ List.replicate 55 0 := by
    rw [List.set_append_right _ _ (by rw [lel_len]; exact Nat.le_refl _), lel_len, List.append_assoc]; rfl
  have l9 : (lel 8 t ++ [UInt8.ofNat b.length]).length = 9 := by simp [lel_len]
  rw [e, List.take_left' l9, ← List.drop_drop, List.drop_left' l9, List.drop_replicate]
  unfold secB full
  simp only [List.append_assoc, List.cons_append, List.nil_append, List.length_append, List.length_cons, lel_len]
  rw [show 64 - (8 + (b.length + 1)) = 55 - b.length by omega]
theorem IsB.of_cells {w : World} {q cap : Nat} {l : List UInt8} {t : TypeId} {fr : Nat × Nat} (h : w.heap[q]? = some (.cells (byteCells l).toArray t fr)) (hc : l.length ≤ cap) (hm : cap ≤ maxLen) : IsB w (some ⟨q, 0, none⟩) l.length cap l :=
  ⟨rfl, .inr ⟨_, rfl, hc, hm, fun j u hu => by rw [add_lit, Nat.zero_add, cell_of_block h]; simpa using hu⟩⟩
theorem zero_arr64 : ∀ w, (zeroValue 78).run Tryd.prog w = .ok (.agg (byteCells (List.replicate 64 0)).toArray) w := fun w => by kernel_rfl
theorem A64.set {w : World} {q : Nat} {l : List UInt8} (h : A64 w q l) (k : Nat) (c : UInt8) {v : Int} (hv : v = (c.toNat : Nat)) : A64 (w.setCell ⟨q, k, none⟩ (.int .u8 v)) q (l.set k c) := by
  subst hv
  have := block_setCell h (i := k) (.int .u8 (c.toNat : Nat))
  unfold A64
  rw [this]
  simp [byteCells, List.map_set]
theorem A64.cell {w : World} {q : Nat} {l : List UInt8} (h : A64 w q l) {k : Nat} (hk : k < l.length) : w.cell? ⟨q, k, none⟩ = some (.int .u8 (l[k].toNat : Nat)) := by
  rw [cell_of_block h]; simp [byteCells, hk]
theorem A64.free {w : World} {q : Nat} {l : List UInt8} (h : A64 w q l) (k : Nat) : w.frozen? ⟨q, k, none⟩ = false := unfrozen_of_block h k
set_option maxRecDepth 20000 in
set_option maxHeartbeats 2000000 in
theorem sector_any (t : Nat) (a : Option Addr) (len cap : Nat) (b : List UInt8) (w : World) (ht : U64 t) (hb : IsB w a len cap b) (hl : b.length ≤ 55) :
    Calls Tryd.prog 52 #[.int .u64 (t : Nat), .slice a len cap] w fun e w' => e = .returned (.slice (some ⟨w.heap.size, 0, none⟩) 64 64) ∧ IsB w' (some ⟨w.heap.size, 0, none⟩) 64 64 (secB t b) ∧ Below w.heap.size w w' := by
  obtain rfl : b.length = len := hb.1
  have HS := Lib.hid hb
  have HT := Lib.hid ht
  have hlI : (b.length : Int) ≤ 55 := by omega
  clear hb ht
  go_enter Tryd.func52, Tryd.ntmps52
  have hz64 := zero_arr64
  obtain ⟨Z, hZ⟩ : ∃ Z, Z = (byteCells (List.replicate 64 0)).toArray := ⟨_, rfl⟩
  rw [← hZ] at hz64
  have h0 : A64 (w.alloc (.cells Z 78)) w.heap.size (lel 0 t ++ List.replicate (64 - 0) 0) := by
    rw [hZ]; exact heap_alloc_new w _
  have H0 := Lib.hid h0
  have hb0 : Below w.heap.size w (w.alloc (.cells Z 78)) := (Below.refl _ _).alloc (Nat.le_refl _) _
  have HB0 := Lib.hid hb0
  clear hZ h0 hb0
  go_wp2_with fail
  go_loopw [7] (fun v wr => ∃ k : Nat, k ≤ 8 ∧ v = .int .i64 k ∧ A64 wr w.heap.size (lel k t ++ List.replicate (64 - k) 0) ∧ Below w.heap.size w wr) (fun v _ => 8 - (intOf v).toNat)
  case atStart => exact ⟨0, Nat.zero_le _, rfl, H0.out, HB0.out⟩
  case round =>
    obtain ⟨k, hk, rfl, ha, hbw⟩ := hrel
    have hlen : (lel k t ++ List.replicate (64 - k) 0).length = 64 := by simp [lel_len]; omega
    by_cases hlt : k < 8
    · have hkI : (k : Int) < 8 := by omega
      have hk0 : (0 : Int) ≤ (k : Int) := by omega
      obtain ⟨c0, hc⟩ : ∃ v, wr.cell? ⟨w.heap.size, k, none⟩ = some v := ⟨_, ha.cell (k := k) (by omega)⟩
      have hf := ha.free k
      have HA := Lib.hid (And.intro ha hbw)
      clear ha hbw hlen
      go_wp2_with fail
      go_roundw
      case rel =>
        refine ⟨k + 1, by omega, by go_num, ?_, HA.out.2.setCell (p := ⟨w.heap.size, k, none⟩) (Nat.le_refl _) _⟩
        rw [← lel_set t hlt]
        exact HA.out.1.set k _ (byte_at t k)
      case measure => simp [intOf]; omega
    · obtain rfl : k = 8 := by omega
      have hfr := ha.free 8
      obtain ⟨c0, hc⟩ : ∃ v, wr.cell? ⟨w.heap.size, 8, none⟩ = some v := ⟨_, ha.cell (k := 8) (by omega)⟩
      have ha2 := ha.set 8 (UInt8.ofNat b.length) (v := (b.length : Nat)) (by rw [UInt8.toNat_ofNat']; omega)
      have hbw2 : Below w.heap.size w (wr.setCell ⟨w.heap.size, 8, none⟩ (.int .u8 (b.length : Nat))) := hbw.setCell (p := ⟨w.heap.size, 8, none⟩) (Nat.le_refl _) _
      obtain ⟨W3, hcp, hg3, hb3, _⟩ := copy_at (o := 9) (dl := 55) (dc := 55) _ ha2 (by simp [byteCells, lel_len]) (HS.out.old hbw2)
      have HA := Lib.hid (And.intro hg3 (hbw2.trans (hb3 _ (Nat.le_refl _))))
      have hl0 : (0 : Int) ≤ (b.length : Int) := by omega
      clear ha hbw hlen ha2 hbw2 hg3 hb3
      go_wp2_with fail
      go_ret
      refine ⟨rfl, ?_, HA.out.2⟩
      have h3 := HA.out.1
      rw [splice_bytes, (List.take_of_length_le hl : b.take 55 = b), sec_list t hl] at h3
      have := IsB.of_cells (l := secB t b) (cap := 64) h3 (by rw [secB_len hl]; exact Nat.le_refl _) (by unfold maxLen; omega)
      rwa [secB_len hl] at this
end Go.Proofs.YtjblkmjdepdekaaDoor.Wl

/- a range over a function whose rounds may leave the loop (of no program) -/
namespace Go.Proofs.YtjblkmjdepdekaaDoor.Rg
open Go.RowKit

/-- what is no loop's record lies as it lay -/
structure Calmly (N : Nat) (W W' : World) : Prop where
  os : W'.os = W.os
  tape : W'.tape = W.tape
  output : W'.output = W.output
  size : W.heap.size ≤ W'.heap.size
  same : ∀ (k : Nat) (o : Obj), (k < N ∨ o.isCells = true) → W.heap[k]? = some o → W'.heap[k]? = some o
theorem Calmly.of {N : Nat} {a b : World} (h : Below a.heap.size a b) : Calmly N a b := ⟨h.os, h.tape, h.output, h.size, fun k _ _ ho => (h.block k (Array.getElem?_eq_some_iff.1 ho).1).trans ho⟩
theorem Calmly.but' {N l : Nat} {a b : World} {r : Obj} (h : But l a b) (hl : N ≤ l) (hr : a.heap[l]? = some r) (hc : r.isCells = false) : Calmly N a b :=
  ⟨h.1, h.2.1, h.2.2.1, Nat.le_of_eq h.2.2.2.1.symm, fun k o hk ho => (h.2.2.2.2 k (fun e => by
    subst e
    rw [hr] at ho
    obtain rfl := Option.some.inj ho
    rcases hk with hk | hk
    · omega
    · rw [hc] at hk; cases hk)).trans ho⟩
theorem Calmly.but {N l : Nat} {a b : World} {r : Loop} (h : But l a b) (hl : N ≤ l) (hr : a.heap[l]? = some (.loop r)) : Calmly N a b := Calmly.but' h hl hr rfl
theorem Calmly.cell {N : Nat} {a b : World} (h : Calmly N a b) {k : Nat} {C : Array Value} {t : TypeId} {fr : Nat × Nat} (hk : a.heap[k]? = some (.cells C t fr)) : b.heap[k]? = some (.cells C t fr) := h.same k _ (.inr rfl) hk
theorem Calmly.below {N M : Nat} {a b : World} (h : Calmly N a b) (hM : M ≤ N) (hN : N ≤ a.heap.size) : Below M a b := ⟨h.os, h.tape, h.output, h.size, fun k hk => by
  have hlt : k < a.heap.size := by omega
  have e : a.heap[k]? = some a.heap[k] := Array.getElem?_eq_getElem hlt
  rw [e]; exact h.same k _ (.inl (by omega)) e⟩
theorem Calmly.own {N : Nat} {a b : World} (h : Calmly N a b) {B n k : Nat} {e : TypeId} {v : Value} {xs : List Value} (ho : a.ownsRow B e k v n xs) : b.ownsRow B e k v n xs := by
  refine ⟨ho.1, ?_⟩
  rcases ho.2 with h1 | ⟨g, cap, cur, h1, h2, h3, h4⟩
  · exact .inl h1
  · exact .inr ⟨g, cap, cur, h1, h2, h.cell h3, h4⟩

/-- what an iterator says that goes on till its end, or (if br) till a round says no more: S of the number of rounds; G of each round's values -/
def IterX {α : Type} (br : Bool) (F : Fence) (n : Nat) (P : Program) (g : Nat) (lb : Array Value) (encs : α → Array Value) (n₀ n₁ B : Nat) (G : Nat → α → World → Prop) (S : Nat → Prop) (w : World) : Prop :=
  ∀ (l : Nat) (J K : Nat → World → Prop) (W : World), Below B w W → (∀ m A A', J m A → Below A.heap.size A A' → J m A') → (∀ m A A', K m A → Below A.heap.size A A' → K m A') →
    (∀ m x A, J m A → G m x A → YieldAt F (n - 1) P l (encs x) A fun e A' => (e = .returned (.bool true) ∧ J (m + 1) A' ∧ Mid n₀ n₁ B A A') ∨ (br = true ∧ e = .returned (.bool false) ∧ K m A')) →
    J 0 W →
    CallsIn F n P g (#[.func (.yield l) #[] #[]] ++ lb) W fun e W' => (∃ v, e = .returned v) ∧ ((∃ m, S m ∧ J m W') ∨ ∃ m, K m W')
theorem Iter.x {α : Type} {F : Fence} {n : Nat} {P : Program} {g : Nat} {lb : Array Value} {encs : α → Array Value} {n₀ n₁ B : Nat} {G : Nat → α → World → Prop} {S : Nat → Prop} {w : World}
    (h : Iter F n P g lb encs n₀ n₁ B G S w) : IterX false F n P g lb encs n₀ n₁ B G S w := fun l J _ W hW hJ _ hY h0 =>
  (h l J W hW hJ (fun m x A hj hg => (hY m x A hj hg).mono fun _ _ hp => hp.elim id fun h => by cases h.1) h0).mono fun _ _ hp => ⟨hp.1, .inl hp.2⟩
theorem IterX.iter {α : Type} {br : Bool} {F : Fence} {n : Nat} {P : Program} {g : Nat} {lb : Array Value} {encs : α → Array Value} {n₀ n₁ B : Nat} {G : Nat → α → World → Prop} {S : Nat → Prop} {w : World}
    (h : IterX br F n P g lb encs n₀ n₁ B G S w) : Iter F n P g lb encs n₀ n₁ B G S w := fun l J W hW hJ hY h0 =>
  (h l J (fun _ _ => False) W hW hJ (fun _ _ _ h _ => h) (fun m x A hj hg => (hY m x A hj hg).mono fun _ _ hp => .inl hp) h0).mono fun _ _ hp => ⟨hp.1, hp.2.elim id fun ⟨_, h⟩ => h.elim⟩

/-- how a round ends -/
def onPostX (n₀ n₁ B m : Nat) (I : Nat → World → Prop) (Ix : Code → Nat → World → Prop) (W : World) : Exit → Act → World → Prop
  | .normal, _, W' => KeepsFrom B W W' ∧ Mid n₀ n₁ B W W' ∧ I (m + 1) W'
  | .exit id, _, W' => KeepsFrom B W W' ∧ Ix (.exit id) m W'
  | .ret, _, W' => KeepsFrom B W W' ∧ Ix .ret m W'
  | _, _, _ => False

variable {F : Fence} {n : Nat} {P : Program}
theorem range_exit {α : Type} {br : Bool} {g : Operand} {ps : Array Tmp} {assign body : Code} {Q : Exit → Act → World → Prop} {a : Act} {w : World}
    (hro : F.round = none) (h1 : 1 ≤ n) {gf : Nat} {lb : Array Value} (hg : a.eval g = .func (.func gf) #[] lb) (hFg : F.fn gf) (eg : ∀ args w, (callFunc gf args).run P w = .ok (.enter gf args) w)
    {encs : α → Array Value} {n₀ n₁ : Nat} {G : Nat → α → World → Prop} {S : Nat → Prop} (hseq : IterX br F (n - 1) P gf lb encs n₀ n₁ w.heap.size G S w) (hps : ∀ x, (encs x).size = ps.size)
    (I : Nat → World → Prop) (Ix : Code → Nat → World → Prop) (hI : ∀ m A A', I m A → Calmly w.heap.size A A' → I m A') (hIx : ∀ c m A A', Ix c m A → Calmly w.heap.size A A' → Ix c m A') (hbr : ∀ c m A, Ix c m A → br = true) (h0 : I 0 w)
    (hGn : ∀ m x A A', G m x A → Below A.heap.size A A' → G m x A') (hGb : ∀ m x A A' l r, G m x A → A.heap[l]? = some (.loop r) → But l A A' → G m x A')
    (hround : ∀ (l m : Nat) (x : α) (A : World), w.heap.size < l → (∃ r, A.heap[l]? = some (.loop r)) → I m A → G m x A →
      assign.wpIn (F.inRound l) (n - 1 - 1) P (Exit.then (fun a' A1 => Below A.heap.size A A1 ∧ ∀ A2, But l A1 A2 → I m A2 → G m x A2 → body.wpIn (F.inRound l) (n - 1 - 1) P (onPostX n₀ n₁ w.heap.size m I Ix A2) a' A2) (fun _ _ _ => False))
        { tmps := (ps.zip (encs x)).foldl (fun t (p, v) => t.setIfInBounds p v) a.tmps, defers := [] } A)
    (hdone : ∀ (D m : Nat) (A : World), w.heap.size ≤ D → S m → I m A → A.heap[D]? = some (.deferred (some [])) → Q .normal { a with defers := { target := .collected D, args := #[] } :: a.defers } A)
    (hstop : ∀ (D : Nat) (c : Code) (m : Nat) (A : World), w.heap.size ≤ D → Ix c m A → A.heap[D]? = some (.deferred (some [])) → c.wpIn F n P Q { a with defers := { target := .collected D, args := #[] } :: a.defers } A) :
    (Code.rangeFunc g ps assign body).wpIn F n P Q a w := by
  refine wpIn_rangeFunc ?_
  intro fn hfn
  rw [hro]
  obtain ⟨rec, hrec⟩ : ∃ rec : LoopState → Option Code → Loop, rec = fun st pe => { state := st, pending := pe, fn, tmps := a.tmps, params := ps, assign, body, defers := w.heap.size } := ⟨_, rfl⟩
  have hin := run_enterLoop_outer (P := P) (w := w) fn a.tmps ps assign body
  have hin' : (Instr.enterLoop fn a.tmps ps assign body none).run P w = .ok (w.heap.size + 1, [{ target := .collected w.heap.size, args := #[] }]) ((w.alloc (.deferred (some []))).alloc (.loop (rec .ready none))) := by rw [hrec]; exact hin
  have hWb : Below w.heap.size w ((w.alloc (.deferred (some []))).alloc (.loop (rec .ready none))) := ((Below.refl _ _).alloc (Nat.le_refl _) _).alloc (by simp) _
  have hWd : ((w.alloc (.deferred (some []))).alloc (.loop (rec .ready none))).heap[w.heap.size]? = some (.deferred (some [])) := (Below.heap_alloc _ _ _ (by simp)).trans (World.alloc_heap_new w _)
  have hWl : ((w.alloc (.deferred (some []))).alloc (.loop (rec .ready none))).heap[w.heap.size + 1]? = some (.loop (rec .ready none)) := by
    have := World.alloc_heap_new (w.alloc (.deferred (some []))) (.loop (rec .ready none)); rwa [World.size_alloc] at this
  generalize (w.alloc (.deferred (some []))).alloc (.loop (rec .ready none)) = U at hin' hWb hWd hWl
  clear hin
  refine ⟨_, _, U, { target := .fn (.func gf) lb, args := #[.func (.yield (w.heap.size + 1)) #[] #[]] }, U, gf, #[.func (.yield (w.heap.size + 1)) #[] #[]] ++ lb, U, hin', ?_, ?_, ?_, fun _ => h1, ?_⟩
  · simp only [resolve, hg]; simp [go_sem]
  · intro f' hf'; simp [Target.leads] at hf'; subst hf'; exact hFg
  · simp [invoke, go_sem, eg]
  · refine (hseq (w.heap.size + 1) (fun m A => I m A ∧ A.heap[w.heap.size + 1]? = some (.loop (rec .ready none)) ∧ A.heap[w.heap.size]? = some (.deferred (some [])))
      (fun m A => ∃ c, Ix c m A ∧ A.heap[w.heap.size + 1]? = some (.loop (rec .done (some c))) ∧ A.heap[w.heap.size]? = some (.deferred (some []))) U hWb ?_ ?_ ?_ ⟨hI 0 w U h0 (Calmly.of hWb), hWl, hWd⟩).mono ?_
    · rintro m A A' ⟨i1, i2, i3⟩ hb
      have hlt := (Array.getElem?_eq_some_iff.1 i2).1
      exact ⟨hI m A A' i1 (Calmly.of hb), (hb.block _ hlt).trans i2, (hb.block _ (by omega)).trans i3⟩
    · rintro m A A' ⟨c, i1, i2, i3⟩ hb
      have hlt := (Array.getElem?_eq_some_iff.1 i2).1
      exact ⟨c, hIx c m A A' i1 (Calmly.of hb), (hb.block _ hlt).trans i2, (hb.block _ (by omega)).trans i3⟩
    · rintro m x A ⟨i1, i2, i3⟩ hgx
      have hlt := (Array.getElem?_eq_some_iff.1 i2).1
      have hy := run_yield (P := P) (args := encs x) i2 (by rw [hrec]; exact hps x)
      rw [hrec] at hy
      refine ⟨fn, _, assign, body, hy, roundIn_of_wpIn hfn (wpIn_mono (hround _ m x A (Nat.lt_succ_self _) ⟨_, i2⟩ i1 hgx) ?_)⟩
      rintro e a' A1 hq
      obtain rfl : e = .normal := by cases e <;> first | rfl | exact hq.elim
      obtain ⟨hb1, hbody⟩ := hq
      have l1 : A1.heap[w.heap.size + 1]? = some (.loop (rec .ready none)) := (hb1.block _ hlt).trans i2
      have d1 : A1.heap[w.heap.size]? = some (.deferred (some [])) := (hb1.block _ (by omega)).trans i3
      have lt1 := (Array.getElem?_eq_some_iff.1 l1).1
      refine ⟨_, run_beginRound l1 (by rw [hrec]), ?_⟩
      have hbut := but_put (w.heap.size + 1) A1 (.loop { rec .ready none with state := .busy })
      have hl2 : (A1.putObj (w.heap.size + 1) (.loop { rec .ready none with state := .busy })).heap[w.heap.size + 1]? = some (.loop { rec .ready none with state := .busy }) := World.putObj_heap_same lt1
      have hd2 : (A1.putObj (w.heap.size + 1) (.loop { rec .ready none with state := .busy })).heap[w.heap.size]? = some (.deferred (some [])) := (World.putObj_heap_other (by omega)).trans d1
      generalize A1.putObj (w.heap.size + 1) (.loop { rec .ready none with state := .busy }) = A2 at hbut hl2 hd2
      have j1 : I m A2 := hI m A1 A2 (hI m A A1 i1 (Calmly.of hb1)) (Calmly.but hbut (by omega) l1)
      have j2 : G m x A2 := hGb m x A1 A2 _ _ (hGn m x A A1 hgx hb1) l1 hbut
      have lt2 := (Array.getElem?_eq_some_iff.1 hl2).1
      refine wpIn_mono (hbody A2 hbut j1 j2) ?_
      have fin : ∀ (jump : Option Code) (A3 : World), KeepsFrom w.heap.size A2 A3 →
          (Instr.endRound (w.heap.size + 1) jump).run P A3 = .ok (.bool jump.isNone) (A3.putObj (w.heap.size + 1) (.loop (rec (if jump.isNone then .ready else .done) jump))) ∧ A3.heap[w.heap.size + 1]? = some (.loop { rec .ready none with state := .busy }) ∧ A3.heap[w.heap.size]? = some (.deferred (some [])) := fun jump A3 hk => by
        have l3 := hk.same _ _ (by omega) hl2 rfl
        have hend := run_endRound (P := P) jump l3
        rw [hrec] at hend ⊢
        rw [hrec] at l3
        exact ⟨hend, l3, hk.same _ _ (Nat.le_refl _) hd2 rfl⟩
      have out : ∀ (c : Code) (A3 : World), KeepsFrom w.heap.size A2 A3 → Ix c m A3 → ∃ v A4, (Instr.endRound (w.heap.size + 1) (some c)).run P A3 = .ok v A4 ∧
          ((Ending.returned v = .returned (.bool true) ∧ (I (m + 1) A4 ∧ A4.heap[w.heap.size + 1]? = some (.loop (rec .ready none)) ∧ A4.heap[w.heap.size]? = some (.deferred (some []))) ∧ Mid n₀ n₁ w.heap.size A A4) ∨
            (br = true ∧ Ending.returned v = .returned (.bool false) ∧ ∃ c, Ix c m A4 ∧ A4.heap[w.heap.size + 1]? = some (.loop (rec .done (some c))) ∧ A4.heap[w.heap.size]? = some (.deferred (some [])))) := fun c A3 hk hix => by
        obtain ⟨he, l3, d3⟩ := fin (some c) A3 hk
        have lt3 := (Array.getElem?_eq_some_iff.1 l3).1
        have hbut3 := but_put (w.heap.size + 1) A3 (.loop (rec .done (some c)))
        exact ⟨_, _, he, .inr ⟨hbr _ _ _ hix, rfl, c, hIx c _ _ _ hix (Calmly.but hbut3 (by omega) l3), World.putObj_heap_same lt3, (World.putObj_heap_other (by omega)).trans d3⟩⟩
      rintro e a3 A3 hp
      cases e with
      | normal =>
        obtain ⟨hk, hmid, hi3⟩ := hp
        obtain ⟨he, l3, d3⟩ := fin none A3 hk
        have lt3 := (Array.getElem?_eq_some_iff.1 l3).1
        have hbut3 := but_put (w.heap.size + 1) A3 (.loop (rec .ready none))
        refine ⟨_, _, he, .inl ⟨rfl, ⟨hI _ _ _ hi3 (Calmly.but hbut3 (by omega) l3), World.putObj_heap_same lt3, (World.putObj_heap_other (by omega)).trans d3⟩, ?_⟩⟩
        exact (((Mid.of (hb1.mono (by omega))).trans (Mid.of (hbut.below (by omega)))).trans hmid).trans (Mid.of (hbut3.below (by omega)))
      | ret => exact out _ A3 hp.1 hp.2
      | exit id => exact out _ A3 hp.1 hp.2
      | goto t => exact hp.elim
      | panic ch => exact hp.elim
      | outgrown => exact hp.elim
    · rintro e A ⟨⟨v, rfl⟩, (⟨m, hS, i1, i2, i3⟩ | ⟨m, c, i1, i2, i3⟩)⟩
      · have hend := run_endLoop (P := P) i2 (by rw [hrec]; simp)
        have hbut3 := but_put (w.heap.size + 1) A (.loop { rec .ready none with state := .exhausted })
        refine ⟨none, _, by rw [hrec] at hend ⊢; exact hend, hdone _ m _ (Nat.le_refl _) hS (hI _ _ _ i1 (Calmly.but hbut3 (by omega) i2)) ?_⟩
        exact (World.putObj_heap_other (by omega)).trans i3
      · have hend := run_endLoop (P := P) i2 (by rw [hrec]; simp)
        have hbut3 := but_put (w.heap.size + 1) A (.loop { rec .done (some c) with state := .exhausted })
        refine ⟨some c, _, by rw [hrec] at hend ⊢; exact hend, hstop _ c m _ (Nat.le_refl _) (hIx c _ _ _ i1 (Calmly.but hbut3 (by omega) i2)) ?_⟩
        exact (World.putObj_heap_other (by omega)).trans i3
end Go.Proofs.YtjblkmjdepdekaaDoor.Rg

/- logs: slices.Chunk -/
namespace Go.Proofs.YtjblkmjdepdekaaDoor.Wl
open Go.RowKit Go.Lib Go.Joins Go.Proofs.YtjblkmjdepdekaaDoor.By Go.Proofs.YtjblkmjdepdekaaDoor.Dk Go.Proofs.YtjblkmjdepdekaaDoor.Oc Go.Proofs.YtjblkmjdepdekaaDoor.Rg
attribute [local go_sem] Oper.semAt_some

/-- a part that is told: where it begins, how long it is -/
def encC (g : Nat) (x : Nat × Nat) : Array Value := #[.slice (some ⟨g, x.1, none⟩) x.2 x.2]
def PartC (c o len m : Nat) (x : Nat × Nat) (_ : World) : Prop := m * c < len ∧ x = (o + m * c, min c (len - m * c))
theorem yield_thereB (l : Nat) (w : World) : (binOp BinOp.eql 106 (.func (.yield l) #[] #[]) .nilFunc).run Tryd.prog w = .ok (.bool false) w := by
  kernel_rfl
theorem chunk_any (a : Option Addr) (len cap c : Nat) (w : World) (hc : 1 ≤ c ∧ c ≤ 64) :
    Calls Tryd.prog 45 #[.slice a len cap, .int .i64 (c : Nat)] w fun e w' => e = .returned (.func (.func 57) #[] #[.pointer (some ⟨w.heap.size, 0, none⟩), .pointer (some ⟨w.heap.size + 1, 0, none⟩)]) ∧
      w' = (w.alloc (.cells #[.slice a len cap] 32)).alloc (.cells #[.int .i64 (c : Nat)] 3) := by
  have hmf : ∀ (fn : Fn) (first cap : Array Value) (w : World), (Instr.makeFunc fn first cap).run Tryd.prog w = .ok (.func fn first cap) w := fun _ _ _ _ => rfl
  have h1 : (1 : Int) ≤ (c : Int) := by omega
  go_enter Tryd.func45, Tryd.ntmps45
  go_wp2_with fail
  go_ret
  exact ⟨rfl, rfl⟩
set_option maxRecDepth 20000 in
set_option maxHeartbeats 4000000 in
theorem chunk1_iter (n n₀ n₁ c g o len cap sb nb : Nat) (w : World) (hc : 1 ≤ c ∧ c ≤ 64) (hl : len ≤ cap ∧ len ≤ 1000000 ∧ cap ≤ 9223372036854775807)
    (hK : ∀ W, Mid n₀ n₁ w.heap.size w W → W.cell? ⟨sb, 0, none⟩ = some (.slice (some ⟨g, o, none⟩) len cap) ∧ W.cell? ⟨nb, 0, none⟩ = some (.int .i64 (c : Nat))) :
    IterX true Fence.wide n Tryd.prog 57 #[.pointer (some ⟨sb, 0, none⟩), .pointer (some ⟨nb, 0, none⟩)] (encC g) n₀ n₁ w.heap.size (PartC c o len) (fun m => len ≤ m * c) w := by
  intro l J K W hW hJ hKK hY hJ0
  have HK := Lib.hid hK
  have HJ := Lib.hid hJ
  have HKK := Lib.hid hKK
  have HY := Lib.hid hY
  have HJ0 := Lib.hid hJ0
  have HW := Lib.hid hW
  clear hK hJ hKK hY hJ0 hW
  refine callsIn_of_wp Tryd.func57 rfl trivial ?_ rfl
  simp only [Tryd.ntmps57, List.size_toArray, List.length_cons, List.length_nil, Nat.reduceAdd, Nat.reduceSub, Array.replicate_succ, Array.replicate_zero, List.push_toArray, List.append_toArray, List.nil_append, List.cons_append]
  gi_wp2_with fail
  gi_loopw [4] (fun p wr => ∃ m : Nat, p = .int .i64 ((m * c : Nat) : Int) ∧ m * c < len + c ∧ J m wr ∧ Mid n₀ n₁ w.heap.size w wr) (fun p _ => (len + c) - (intOf p).toNat)
  case atStart => exact ⟨0, by simp, by omega, HJ0.out, Mid.of HW.out⟩
  case round =>
    obtain ⟨m, rfl, hm, hj, hmid⟩ := hrel
    obtain ⟨hsc, hnc⟩ := HK.out wr hmid
    obtain ⟨p, hp⟩ : ∃ p, p = m * c := ⟨_, rfl⟩
    rw [← hp] at hm ⊢
    have HA := Lib.hid (And.intro hj (And.intro hmid hp))
    clear hj hmid hp
    have hp0 : (0 : Int) ≤ (p : Int) := by omega
    have hc1 : (1 : Int) ≤ (c : Int) := by omega
    have hc64 : (c : Int) ≤ 64 := by omega
    by_cases hlt : p < len
    · have hpl : (p : Int) < (len : Int) := by omega
      have hlc : (len : Int) ≤ (cap : Int) := by omega
      gi_wp2_with fail
      refine wpIn_wide.2 ?_
      go_region
      obtain ⟨e, he⟩ : ∃ e, e = min c (len - p) := ⟨_, rfl⟩
      have hme : (if len - p < c then ((len - p : Nat) : Int) else (c : Int)) = ((e : Nat) : Int) := by
        rw [he]; split <;> omega
      rw [hme]
      have e1 : 1 ≤ e := by omega
      have e2 : p + e ≤ len := by omega
      have hjd := HJ.out m wr wr.drew HA.out.1 (Below.refl _ _).drew
      have hmd := HA.out.2.1.trans (Mid.of ((Below.refl w.heap.size wr).drew))
      have hcd : wr.drew.cell? ⟨sb, 0, none⟩ = some (.slice (some ⟨g, o, none⟩) len cap) := hsc
      have hnd : wr.drew.cell? ⟨nb, 0, none⟩ = some (.int .i64 (c : Nat)) := hnc
      obtain ⟨fn, tmps, assign, body, hy, hR⟩ := HY.out m (o + p, e) _ hjd ⟨by rw [← HA.out.2.2]; exact hlt, by rw [← HA.out.2.2, ← he]⟩
      dsimp only [encC] at hy
      obtain ⟨wd, hwd⟩ : ∃ wd, wd = wr.drew := ⟨_, rfl⟩
      rw [← hwd] at hmd hcd hnd hy hR ⊢
      have HM := Lib.hid (And.intro hmd (And.intro he hme))
      clear hjd hmd hwd hsc hnc he hme
      have e1I : (1 : Int) ≤ (e : Int) := by omega
      have e2I : (p : Int) + (e : Int) ≤ (len : Int) := by omega
      have e3I : (p : Int) + (e : Int) ≤ (cap : Int) := by omega
      gi_wp2_with fail
      refine ⟨(fun h => (by cases h)), hR.mono ?_⟩
      rintro e' W3 (⟨rfl, hJ3, hm3⟩ | ⟨_, rfl, hK3⟩)
      · have hk3 := HK.out W3 (HM.out.1.trans hm3)
        have hcd3 := hk3.1
        have hnd3 := hk3.2
        have HF := Lib.hid (And.intro hJ3 (HM.out.1.trans hm3))
        clear hJ3 hm3 hk3 hcd hnd
        gi_wp2_with fail
        go_roundw
        case rel => exact ⟨m + 1, by rw [Nat.succ_mul, ← HA.out.2.2]; go_num, by rw [Nat.succ_mul, ← HA.out.2.2]; omega, HF.out⟩
        case measure => simp [intOf]; omega
      · have HF := Lib.hid hK3
        clear hK3
        gi_wp2_with fail
        refine bodyPost_ret (results_none rfl _ _ _) rfl ?_
        exact ⟨⟨_, rfl⟩, .inr ⟨m, HF.out⟩⟩
    · have hpl : ¬ (p : Int) < (len : Int) := by omega
      gi_wp2_with fail
      go_end0
      exact ⟨⟨_, rfl⟩, .inl ⟨m, by rw [← HA.out.2.2]; omega, HA.out.1⟩⟩
end Go.Proofs.YtjblkmjdepdekaaDoor.Wl

/- a region in a round of a range over a function goes as it goes ahead of it (of no program) -/
namespace Go.Proofs.YtjblkmjdepdekaaDoor.Rg
open Go.RowKit Go.Sort
variable {F : Fence} {n : Nat} {P : Program} {ops : Array Oper} {Q : Exit → Act → World → Prop}

theorem upon_round {o : Oper} {a : Act} {K : Act → World → Prop} {r : Result Next} {l : Nat} (h : o.uponIn F n P a K Q r) : o.uponIn (F.inRound l) n P a K Q r := by
  cases r with
  | ok x w => cases x <;> exact h
  | halt x w => cases x <;> exact h

theorem op_round {l i : Nat} {K K' : Act → World → Prop} {a : Act} {w : World} (hd : ∀ (i : Nat) (o : Oper), ops[i]? = some o → ∀ c, o.op ≠ .defer c) (hK : ∀ a w, K a w → K' a w) (h : wpOpIn F n P ops Q i K a w) :
    wpOpIn (F.inRound l) n P ops Q i K' a w := by
  have h := wpOpIn_mono hK h
  unfold wpOpIn at h ⊢
  cases ho : ops[i]? with
  | none => simpa [ho] using h
  | some o =>
    simp only [ho] at h ⊢
    by_cases hw : Region.wanted o (yielded ops a.tmps) = true
    · simp only [hw, if_true] at h ⊢
      refine ⟨h.1, ?_⟩
      have h2 := h.2
      rw [Oper.semAt_eq _ _ _ (hd i o ho)] at h2 ⊢
      exact upon_round h2
    · simp only [hw] at h ⊢
      exact h

theorem any_round {md : Region.Mode} {l : Nat} (hd : ∀ (i : Nat) (o : Oper), ops[i]? = some o → ∀ c, o.op ≠ .defer c) : ∀ (fuel : Nat) (listed : Array Bool) (a : Act) (w : World),
    wpAnyIn F n P md ops Q fuel listed a w → wpAnyIn (F.inRound l) n P md ops Q fuel listed a w
  | 0, _, _, _, h => h
  | fuel + 1, _, _, _, h => ⟨h.1, fun i hi => op_round hd (fun a w => any_round hd fuel _ a w) (h.2 i hi)⟩

def noDefer (l : Array Oper) : Bool := l.all fun o => match o.op with | .defer _ => false | _ => true
theorem noDefer_spec {l : Array Oper} (h : noDefer l = true) : ∀ (i : Nat) (o : Oper), l[i]? = some o → ∀ c, o.op ≠ .defer c := by
  intro i o ho c e
  unfold noDefer at h
  rw [Array.all_eq_true_iff_forall_mem] at h
  have := h o (Array.mem_of_getElem? ho)
  rw [e] at this
  cases this

/-- a region in a round that only reads, and whose callees leave all that was there: walked once, in the order of the text -/
theorem region_quiet_round {n : Nat} {P : Program} {id k : Nat} {Q : Exit → Act → World → Prop} {a : Act} {w : World} {l : List Oper} (hm : P.follows .mixedOrders = true) (hB : Region.lexB .any l.toArray = true) (hd : noDefer l.toArray = true)
    (h : wpQuietIn Fence.wide n P l.toArray (fun w' => ∃ p : Regrown, w' = grow (redrawn w p.d) p.os) (fun a' => ∀ w', (∃ p : Regrown, w' = grow (redrawn w p.d) p.os) → Q .normal a' w') l a) : (Code.region id l.toArray true).wpIn (Fence.wide.inRound k) n P Q a w := by
  simp only [Region.lexB, Bool.and_eq_true] at hB
  refine wpIn_region_any hm (any_round (noDefer_spec hd) _ _ _ _ (wpAnyIn_of_quiet (C := fun w' => ∃ p : Regrown, w' = grow (redrawn w p.d) p.os) (Q := fun a' => ∀ w', (∃ p : Regrown, w' = grow (redrawn w p.d) p.os) → Q .normal a' w') rfl (fun _ w' hw' h => h w' hw') _ _ _ _ ⟨⟨w.drawn + 1, #[]⟩, by rw [grow_empty]; rfl⟩ ?_))
  have := wpAnyQIn_lex (F := Fence.wide) (n := n) (C := fun w' => ∃ p : Regrown, w' = grow (redrawn w p.d) p.os) (md := .any) hB.1 l 0 (Array.replicate l.toArray.size false) a (by simp) (by simpa using hB.2) h
  simpa using this

theorem upon_wide {o : Oper} {a : Act} {K : Act → World → Prop} {r : Result Next} (h : o.upon P a K Q r) : o.uponIn Fence.wide n P a K Q r := by
  cases r with
  | ok x w => cases x <;> first
    | exact h
    | exact ⟨fun h => (by cases h), callsIn_wide.2 h⟩
    | exact ⟨fun h => (by cases h), fun c cs _ => let ⟨v, w', q, s⟩ := h c cs; ⟨v, w', q, stepsIn_wide.2 s⟩⟩
    | exact h.elim
  | halt x w => cases x <;> exact h

theorem any_wide {md : Region.Mode} (hl : ¬ LetsOut Q) : ∀ (fuel : Nat) (listed : Array Bool) (a : Act) (w : World),
    wpAny P md ops Q fuel listed a w → wpAnyIn Fence.wide n P md ops Q fuel listed a w
  | 0, _, _, _, h => h
  | fuel + 1, _, a, w, h => ⟨h.1, fun i hi => by
    have h := wpOp_mono (fun a' w' h' => any_wide hl fuel _ a' w' h') (h.2 i hi)
    unfold wpOp at h
    unfold wpOpIn
    cases ho : ops[i]? with
    | none => simpa [ho] using h
    | some o =>
      simp only [ho] at h ⊢
      by_cases hw : Region.wanted o (yielded ops a.tmps) = true
      · simp only [hw, if_true] at h ⊢
        rcases h with h | h
        · exact ⟨fun _ _ => trivial, upon_wide h⟩
        · exact absurd h.2 hl
      · simp only [hw] at h ⊢
        exact ⟨fun _ _ => trivial, h⟩⟩

/-- a region in a round, by the laws of wpAnyH: what S says holds behind every operation -/
theorem region_held_round {id k : Nat} {a : Act} {w : World} {S : World → Prop} (hm : P.follows .mixedOrders = true) (hd : noDefer ops = true) (hl : ¬ LetsOut Q) (hS : S w.drew)
    (h : S w.drew → wpAnyH P .any ops Q S ops.size (Array.replicate ops.size false) a w.drew) : (Code.region id ops true).wpIn (Fence.wide.inRound k) n P Q a w :=
  wpIn_region_any hm (any_round (noDefer_spec hd) _ _ _ _ (any_wide hl _ _ _ _ (wpAny_of_held _ _ _ _ (h hS))))
end Go.Proofs.YtjblkmjdepdekaaDoor.Rg

/- a region that draws, whose last operation waits for all others, in a round of a range over a function; a call as a step (of no program) -/
namespace Go.Proofs.YtjblkmjdepdekaaDoor.Ht
open Go.RowKit Go.Sort Go.Proofs.YtjblkmjdepdekaaDoor.Rg
variable {P : Program} {ops : Array Oper} {Q : Exit → Act → World → Prop} {S : World → Prop}

theorem begin_round {id k n : Nat} {a : Act} {w : World} (L : Nat) (S : World → Prop) (hm : P.follows .mixedOrders = true) (hd : noDefer ops = true) (hS : S w.drew)
    (h : S w.drew → Ahead P .any ops (Nrm Q) S L ops.size (Array.replicate ops.size false) a w.drew) : (Code.region id ops true).wpIn (Fence.wide.inRound k) n P Q a w := by
  have h1 : (Code.region id ops true).wpIn (Fence.wide.inRound k) n P (Nrm Q) a w :=
    wpIn_region_any hm (any_round (noDefer_spec hd) _ _ _ _ (any_wide (fun ⟨_, _, h⟩ => h) _ _ _ _ (Ahead.any _ _ _ _ (h hS))))
  exact wpIn_mono h1 (fun e _ _ hq => by cases e <;> first | exact hq | exact hq.elim)
/-- a call of a function of the program -/
theorem enter {o : Oper} {a : Act} {w : World} {K : Act → World → Prop} (f : FuncId) (args : Array Value) (hr : (execOp a.eval o).run P w = .ok (.enter f args) w) {R : Ending → World → Prop} (hc : Calls P f args w R)
    (h : ∀ e w', R e w' → ∃ v, e = .returned v ∧ K (a.put o.dst v) w') : Oper.wp P o a w K Q := by
  unfold Oper.wp
  rw [hr]
  exact hc.mono fun e w' hR => by obtain ⟨v, rfl, hk⟩ := h e w' hR; exact hk
end Go.Proofs.YtjblkmjdepdekaaDoor.Ht

/- logs: the greatest turn of all sectors -/
namespace Go.Proofs.YtjblkmjdepdekaaDoor.Wl
open Go.RowKit Go.Lib Go.Joins Go.Proofs.YtjblkmjdepdekaaDoor.By Go.Proofs.YtjblkmjdepdekaaDoor.Dk Go.Proofs.YtjblkmjdepdekaaDoor.Oc Go.Proofs.YtjblkmjdepdekaaDoor.Rg Go.Proofs.YtjblkmjdepdekaaDoor.Ht
attribute [local go_sem] Oper.semAt_some

/-- a round that turns some blocks alone -/
theorem fr_round {p : Nat → Prop} {n₀ n₁ B : Nat} {W W' : World} (h : Fr p W W') (hp : ∀ k, p k → (n₀ ≤ k ∧ k < n₁) ∨ (B ≤ k ∧ ∀ o, W.heap[k]? = some o → o.isCells = true)) (h1 : n₁ ≤ B) (hB : B ≤ W.heap.size) : KeepsFrom B W W' ∧ Mid n₀ n₁ B W W' := by
  refine ⟨⟨h.size, fun k o hk ho hc => ?_⟩, ⟨h.os, h.tape, h.output, h.size, fun k hk hkB => h.block k (by omega) fun hpk => ?_⟩⟩
  · refine (h.block k (Array.getElem?_eq_some_iff.1 ho).1 fun hpk => ?_).trans ho
    rcases hp k hpk with ⟨_, h2⟩ | ⟨_, h2⟩
    · omega
    · rw [h2 o ho] at hc; cases hc
  · rcases hp k hpk with ⟨h2, h3⟩ | ⟨h2, _⟩ <;> omega
theorem fr_drew {p : Nat → Prop} (W : World) : Fr p W W.drew := ⟨rfl, rfl, rfl, Nat.le_refl _, fun _ _ _ => rfl⟩
/-- what a loop's record turns -/
theorem isB_but {l : Nat} {A A' : World} {r : Loop} {a : Option Addr} {len cap : Nat} {b : List UInt8} (h : IsB A a len cap b) (hl : A.heap[l]? = some (.loop r)) (hb : But l A A') : IsB A' a len cap b := by
  obtain ⟨h1, h2 | ⟨x, rfl, h3, h4, h5⟩⟩ := h
  · exact ⟨h1, .inl h2⟩
  · refine ⟨h1, .inr ⟨x, rfl, h3, h4, fun j u hu => ?_⟩⟩
    have hc := h5 j u hu
    rw [← hc]
    refine World.cell?_of_block (w := A) (hb.2.2.2.2 _ fun e => ?_)
    unfold World.cell? at hc
    rw [e, hl] at hc
    simp at hc
/-- the activation is left, its mark and all -/
theorem leaveV {fn : Func} {tmps : Array Value} {N D r : Nat} {w X : World} {v : Value} (hres : fn.results = #[.tmp r]) (ht : tmps.getD r undef = v) (hD : N ≤ D) (h : X.heap[D]? = some (.deferred (some []))) (hb : Below N w X) :
    LeavesInM Fence.wide 3 Tryd.prog fn tmps (fun e w' => e = .returned v ∧ Below N w w') [{ target := .collected D, args := #[] }] .returning X := by
  refine ⟨by simp, .inl ⟨D, _, rfl, run_takeDeferred h, ?_⟩⟩
  exact ⟨_, by rw [← ht]; exact results_tmp hres _ _ _, rfl, hb.trans ((but_put D X (.deferred none)).below hD)⟩
/-- the greatest of the first so many sectors -/
def lat (b : List UInt8) : Nat → Nat
  | 0 => 0
  | m + 1 => max (lat b m) (trn (getS b m))
theorem lat_u64 (b : List UInt8) {k : Nat} (hb : b.length = 64 * k) : ∀ m, m ≤ k → U64 (lat b m)
  | 0, _ => by unfold lat U64; omega
  | m + 1, h => by
    have h1 := lat_u64 b hb m (by omega)
    have h2 : U64 (trn (getS b m)) := unl8_u64 (by rw [List.length_take, length_getS hb (by omega)]; rfl)
    unfold lat
    unfold U64 at *
    omega
theorem part_sec {o k m : Nat} {x : Nat × Nat} {A : World} (h : PartC 64 o (64 * k) m x A) : m < k ∧ x = (o + 64 * m, 64) := by
  obtain ⟨h1, rfl⟩ := h
  have : m < k := by omega
  exact ⟨this, by rw [Nat.mul_comm m 64, show min 64 (64 * k - 64 * m) = 64 by omega]⟩
/-- one sector of many -/
theorem isB_sec {w : World} {g o cap k m : Nat} {b : List UInt8} (h : IsB w (some ⟨g, o, none⟩) (64 * k) cap b) (hm : m < k) : IsB w (some ⟨g, o + 64 * m, none⟩) 64 64 (getS b m) := by
  have h1 := Fm.IsB.sub h (i := 64 * m) (j := 64 * m + 64) (by omega) (by omega)
  obtain ⟨h2, h3 | ⟨x, h3, h4, h5, h6⟩⟩ := h1
  · cases h3.1
  · have e : (b.take (64 * m + 64)).drop (64 * m) = getS b m := by
      unfold getS; rw [List.take_add, List.drop_append, List.drop_of_length_le (by rw [List.length_take]; exact Nat.min_le_left _ _), List.nil_append]
      have : (b.take (64 * m)).length = 64 * m := by rw [List.length_take, h.1]; omega
      rw [this, Nat.sub_self, List.drop_zero]
    rw [e] at h2 h6
    exact ⟨by omega, .inr ⟨x, h3, by omega, by unfold maxLen; omega, h6⟩⟩
set_option maxRecDepth 20000 in
set_option maxHeartbeats 4000000 in
theorem latest_any (g o cap k : Nat) (b : List UInt8) (w : World) (hb : IsB w (some ⟨g, o, none⟩) (64 * k) cap b) (hk : 1 ≤ k ∧ k ≤ 4096) :
    Calls Tryd.prog 30 #[.slice (some ⟨g, o, none⟩) (64 * k : Nat) cap] w fun e w' => e = .returned (.int .u64 (lat b k : Nat)) ∧ Below w.heap.size w w' := by
  have hlb : b.length = 64 * k := hb.1
  have hcap : 64 * k ≤ cap ∧ cap ≤ 9223372036854775807 := by
    obtain ⟨h1, ⟨h2, _⟩ | ⟨x, h2, h3, h4, h5⟩⟩ := hb
    · cases h2
    · exact ⟨h3, by unfold maxLen at h4; omega⟩
  have HB := Lib.hid (And.intro hb hlb)
  refine (callsIn_wide (n := 3)).1 ?_
  refine callsIn_of_wp_marks Tryd.func30 rfl trivial ?_ rfl
  simp only [Tryd.ntmps30, List.size_toArray, List.length_cons, List.length_nil, Nat.reduceAdd, Nat.reduceSub, Array.replicate_succ, Array.replicate_zero, List.push_toArray, List.append_toArray, List.nil_append, List.cons_append]
  refine wpIn_wide.2 ?_
  clear hb hlb
  go_wp2_with fail
  refine (chunk_any _ _ _ 64 _ (by decide)).mono ?_
  rintro e w' ⟨rfl, rfl⟩
  obtain ⟨V, hV⟩ : ∃ V, V = ((w.alloc (.cells #[.int .u64 0] 35)).alloc (.cells #[.slice (some ⟨g, o, none⟩) (64 * k) cap] 32)).alloc (.cells #[.int .i64 64] 3) := ⟨_, rfl⟩
  have hbV : Below w.heap.size w V := by rw [hV]; exact (((Below.refl _ _).alloc (Nat.le_refl _) _).alloc (by simp) _).alloc (by simp; omega) _
  have hzV : V.heap.size = w.heap.size + 3 := by rw [hV]; simp
  have g0 : V.heap[w.heap.size]? = some (.cells #[.int .u64 0] 35 (0, 0)) := by
    rw [hV]; exact heap_old ((Below.refl _ _).alloc (Nat.le_refl _) _) (heap_old ((Below.refl _ _).alloc (Nat.le_refl _) _) (heap_alloc_new w _))
  have g1 : V.heap[w.heap.size + 1]? = some (.cells #[.slice (some ⟨g, o, none⟩) (64 * k) cap] 32 (0, 0)) := by
    have := heap_alloc_new (w.alloc (.cells #[.int .u64 0] 35)) (.cells #[.slice (some ⟨g, o, none⟩) (64 * k) cap] 32)
    rw [World.size_alloc] at this
    rw [hV]; exact heap_old ((Below.refl _ _).alloc (Nat.le_refl _) _) this
  have g2 : V.heap[w.heap.size + 1 + 1]? = some (.cells #[.int .i64 64] 3 (0, 0)) := by
    have := heap_alloc_new ((w.alloc (.cells #[.int .u64 0] 35)).alloc (.cells #[.slice (some ⟨g, o, none⟩) (64 * k) cap] 32)) (.cells #[.int .i64 64] 3)
    rw [World.size_alloc, World.size_alloc] at this
    rw [hV]; exact this
  go_wp2_with fail
  rw [← hV]
  have HV := Lib.hid (And.intro hbV (And.intro hzV (And.intro g0 (And.intro g1 g2))))
  clear hV hbV hzV g0 g1 g2
  refine (wpIn_wide (n := 3)).1 ?_
  refine range_all rfl (by omega) (gf := 57) (lb := #[.pointer (some ⟨w.heap.size + 1, 0, none⟩), .pointer (some ⟨w.heap.size + 1 + 1, 0, none⟩)]) rfl trivial (enters_of Tryd.func57 (by kernel_rfl) rfl)
    (chunk1_iter (3 - 1) 0 (w.heap.size + 1) 64 g o (64 * k) cap (w.heap.size + 1) (w.heap.size + 1 + 1) V (by decide) ⟨hcap.1, by omega, hcap.2⟩ ?hK).iter (fun _ => rfl)
    (fun m X => X.heap[w.heap.size]? = some (.cells #[.int .u64 (lat b m : Nat)] 35 (0, 0)) ∧ Below w.heap.size w X ∧ w.heap.size + 3 ≤ X.heap.size ∧ m ≤ k) (fun m X X' h hb => ⟨(hb.block _ (by have := HV.out.2.1; omega)).trans h.1, h.2.1.trans (hb.mono (by have := HV.out.2.1; omega)), Nat.le_trans h.2.2.1 hb.size, h.2.2.2⟩) ?h0 (fun m x X X' h hb => h) (fun m x X X' l r h hl hb => h) ?hround ?hdone
  case hK =>
    intro W hm
    exact ⟨cell_of_one ((hm.block _ (.inr (Nat.le_refl _)) (by have := HV.out.2.1; omega)).trans HV.out.2.2.2.1), cell_of_one ((hm.block _ (.inr (Nat.le_succ _)) (by have := HV.out.2.1; omega)).trans HV.out.2.2.2.2)⟩
  case h0 => exact ⟨HV.out.2.2.1, HV.out.1, by have := HV.out.2.1; omega, Nat.zero_le _⟩
  case hround =>
    rintro l m x X hlB ⟨rr, hlr⟩ hI hG
    dsimp only [encC]
    obtain ⟨hmk, rfl⟩ := part_sec hG
    gi_wp2_with fail
    refine ⟨Below.refl _ _, ?_⟩
    intro A2 hbut hI2 hG2
    have hib := isB_sec (HB.out.1.old hI2.2.1) hmk
    have hun : U64 (trn (getS b m)) := unl8_u64 (by rw [List.length_take, length_getS HB.out.2 hmk]; rfl)
    have hul := length_getS HB.out.2 hmk
    obtain ⟨T, hT⟩ : ∃ T, T = trn (getS b m) := ⟨_, rfl⟩
    obtain ⟨M, hM⟩ : ∃ M, M = lat b m := ⟨_, rfl⟩
    have htn := turnOf_any _ 64 64 (getS b m) A2.drew (hib.old (Below.refl _ _).drew) (by rw [hul]; decide)
    rw [← hT] at htn
    rw [← hM] at hI2
    have HX := Lib.hid (And.intro hI2 (And.intro htn (And.intro hT hM)))
    have hmix : Tryd.prog.follows .mixedOrders = true := by kernel_rfl
    clear hib hun hul htn hT hM
    gi_wp2_with fail
    refine begin_round 4 (fun Y => Y.heap[w.heap.size]? = some (.cells #[.int .u64 (M : Nat)] 35 (0, 0))) hmix (by kernel_rfl) HX.out.1.1 (fun hS0 => ?_)
    refine Ht.take (i := 0) ⟨some 8, _, _, _, _, _⟩ (.int .u64 (M : Nat)) rfl (by kernel_rfl) (by kernel_rfl) (by decide) (by kernel_rfl) (by kernel_rfl) (by kernel_rfl) hS0 (Or.inl ⟨by rfl, by (intro X hX; have := cell_of_one hX; go_simp)⟩) ?_
    simp only [Act.put, List.setIfInBounds_toArray, List.set_cons_zero, List.set_cons_succ]
    refine Ht.take (i := 1) ⟨some 9, _, _, _, _, _⟩ (.slice (some ⟨g, o + 64 * m, none⟩) 64 64) rfl (by kernel_rfl) (by kernel_rfl) (by decide) (by kernel_rfl) (by kernel_rfl) (by kernel_rfl) hS0 (Or.inl ⟨by rfl, by (intro X hX; go_simp)⟩) ?_
    simp only [Act.put, List.setIfInBounds_toArray, List.set_cons_zero, List.set_cons_succ]
    refine Ht.step (i := 2) ⟨some 10, _, _, _, _, _⟩ rfl (by kernel_rfl) (by rfl) (fun K hK => ?_)
    refine Ht.enter 46 #[.slice (some ⟨g, o + 64 * m, none⟩) 64 64] (by have hen := fun args w => enters_of (P := Tryd.prog) Tryd.func46 (by kernel_rfl) rfl args w; go_simp) HX.out.2.1 ?_
    rintro e W1 ⟨rfl, rfl⟩
    refine ⟨_, rfl, hK _ _ (fun _ => hS0) (fun _ => ?_)⟩
    clear hK K
    simp only [Act.put, List.setIfInBounds_toArray, List.set_cons_zero, List.set_cons_succ]
    refine Ht.take (i := 3) ⟨some 11, _, _, _, _, _⟩ (.int .u64 (if (T : Int) > (M : Int) then (T : Int) else (M : Int))) rfl (by kernel_rfl) (by kernel_rfl) (by decide) (by kernel_rfl) (by kernel_rfl) (by kernel_rfl) hS0 (Or.inl ⟨by rfl, by (intro X hX; go_simp)⟩) ?_
    simp only [Act.put, List.setIfInBounds_toArray, List.set_cons_zero, List.set_cons_succ]
    refine Ht.step (i := 4) ⟨none, _, _, _, _, _⟩ rfl (by kernel_rfl) (by rfl) (fun K hK => ?_)
    have c2 := cell_of_one hS0
    have f2 := free_of_one hS0
    go_simp
    refine hK _ _ (fun h => absurd rfl h) (fun _ => ?_)
    clear hK K
    refine done (by kernel_rfl) ?_
    rw [show (if M < T then (T : Int) else (M : Int)) = ((max M T : Nat) : Int) by split <;> omega]
    have hfr : Fr (fun j => j = w.heap.size) A2 (A2.setCell ⟨w.heap.size, 0, none⟩ (.int .u64 ((max M T : Nat) : Int))).drew := (Fr.setCell (p := fun j => j = w.heap.size) (Fr.refl _ A2) (.inl rfl) _).drew
    have hk := fr_round (n₀ := 0) (n₁ := w.heap.size + 1) (B := V.heap.size) hfr (fun j hj => .inl (by omega)) (by have := HV.out.2.1; omega) (by have := HV.out.2.1; have := HX.out.1.2.2.1; omega)
    refine ⟨hk.1, hk.2, ?_, HX.out.1.2.1.trans (hfr.below HX.out.1.2.1.size (fun j hj => by omega)), ?_, hmk⟩
    · have := one_setCell (u := .int .u64 ((max M T : Nat) : Int)) HX.out.1.1
      rw [HX.out.2.2.1, HX.out.2.2.2] at this ⊢
      exact this
    · have := HX.out.1.2.2.1; simp; omega
  case hdone =>
    intro D m2 X hD hS hI hK
    dsimp only
    obtain rfl : m2 = k := by have := hI.2.2.2; omega
    have c3 := cell_of_one hI.1
    have HX := Lib.hid (And.intro hI (And.intro hK hD))
    clear hI hK hD hS
    go_wp2_with fail
    exact leaveV rfl rfl (by have := HX.out.2.2; have := HV.out.2.1; omega) HX.out.2.1 HX.out.1.2.1
end Go.Proofs.YtjblkmjdepdekaaDoor.Wl

/- logs: the bytes of a half -/
namespace Go.Proofs.YtjblkmjdepdekaaDoor.Wl
open Go.RowKit Go.Lib Go.Joins Go.Proofs.YtjblkmjdepdekaaDoor.By Go.Proofs.YtjblkmjdepdekaaDoor.Dk Go.Proofs.YtjblkmjdepdekaaDoor.Oc Go.Proofs.YtjblkmjdepdekaaDoor.Rg Go.Proofs.YtjblkmjdepdekaaDoor.Ht
attribute [local go_sem] Oper.semAt_some

/-- the bytes of a half of k sectors, of a turn, from the m-th sector on -/
def cnb (t : Nat) (b : List UInt8) (k : Nat) : Nat → Nat → List UInt8
  | 0, _ => []
  | f + 1, m => if m < k ∧ trn (getS b m) = t ∧ ctn (getS b m) ≤ 55 then ((getS b m).drop 9).take (ctn (getS b m)) ++ (if ctn (getS b m) < 55 then [] else cnb t b k f (m + 1)) else []
def cnt (b : List UInt8) (k : Nat) : List UInt8 := if trn b = 0 then [] else cnb (trn b) b k k 0
theorem cnb_end (t : Nat) (b : List UInt8) (k f : Nat) : cnb t b k f k = [] := by
  cases f
  · rfl
  · unfold cnb; rw [if_neg (by omega)]
theorem cnb_stop {t : Nat} {b : List UInt8} {k f m : Nat} (h : ¬ (trn (getS b m) = t ∧ ctn (getS b m) ≤ 55)) : cnb t b k f m = [] := by
  cases f
  · rfl
  · unfold cnb; rw [if_neg (fun h2 => h h2.2)]
theorem cnb_last {t : Nat} {b : List UInt8} {k f m : Nat} (hm : m < k) (h1 : trn (getS b m) = t) (h2 : ctn (getS b m) < 55) : cnb t b k (f + 1) m = ((getS b m).drop 9).take (ctn (getS b m)) := by
  rw [cnb, if_pos ⟨hm, h1, by omega⟩, if_pos h2, List.append_nil]
theorem cnb_more {t : Nat} {b : List UInt8} {k f m : Nat} (hm : m < k) (h1 : trn (getS b m) = t) (h2 : ctn (getS b m) = 55) : cnb t b k (f + 1) m = ((getS b m).drop 9).take 55 ++ cnb t b k f (m + 1) := by
  rw [cnb, if_pos ⟨hm, h1, by omega⟩, h2, if_neg (by omega)]
/-- what a loop over a half has so far: the box, a row of its own -/
def Cs (w : World) (p q t : Nat) (C : List UInt8) (b : List UInt8) (k m : Nat) (X : World) : Prop :=
  ∃ v l, X.heap[p]? = some (.cells #[.int .u64 (t : Nat)] 35 (0, 0)) ∧ X.heap[q]? = some (.cells #[v] 32 (0, 0)) ∧ X.ownsRow (q + 3) 5 1 v l.length (byteCells l) ∧ l ++ cnb t b k (k - m) m = C ∧ l.length ≤ 55 * m ∧ m ≤ k ∧ Below w.heap.size w X ∧ q + 2 < X.heap.size
def Ce (w : World) (q : Nat) (C : List UInt8) (X : World) : Prop :=
  ∃ v, X.heap[q]? = some (.cells #[v] 32 (0, 0)) ∧ X.ownsRow (q + 3) 5 1 v C.length (byteCells C) ∧ Below w.heap.size w X ∧ q + 2 < X.heap.size
theorem Cs.calm {w X X' : World} {p q t N : Nat} {C b : List UInt8} {k m : Nat} (h : Cs w p q t C b k m X) (hb : Calmly N X X') (hN : w.heap.size ≤ N) (hN2 : N ≤ X.heap.size) : Cs w p q t C b k m X' := by
  obtain ⟨v, l, h1, h2, h3, h4, h5, h6, h7, h8⟩ := h
  exact ⟨v, l, hb.cell h1, hb.cell h2, hb.own h3, h4, h5, h6, h7.trans (hb.below hN hN2), Nat.lt_of_lt_of_le h8 hb.size⟩
theorem Ce.calm {w X X' : World} {q N : Nat} {C : List UInt8} (h : Ce w q C X) (hb : Calmly N X X') (hN : w.heap.size ≤ N) (hN2 : N ≤ X.heap.size) : Ce w q C X' := by
  obtain ⟨v, h1, h2, h3, h4⟩ := h
  exact ⟨v, hb.cell h1, hb.own h2, h3.trans (hb.below hN hN2), Nat.lt_of_lt_of_le h4 hb.size⟩
/-- the activation is left, one mark and all -/
theorem leaveN {fn : Func} {tmps : Array Value} {r : Nat} {X : World} {v : Value} {R : Ending → World → Prop} (hres : fn.results = #[.tmp r]) (ht : tmps.getD r undef = v) (h : R (.returned v) X) :
    LeavesInM Fence.wide 3 Tryd.prog fn tmps R [] .returning X := ⟨_, by rw [← ht]; exact results_tmp hres _ _ _, h⟩
theorem leaveX {fn : Func} {tmps : Array Value} {N D r : Nat} {X : World} {v : Value} {R : Ending → World → Prop} (hres : fn.results = #[.tmp r]) (ht : tmps.getD r undef = v) (hD : N ≤ D) (h : X.heap[D]? = some (.deferred (some []))) (hR : ∀ X', Calmly N X X' → R (.returned v) X') :
    LeavesInM Fence.wide 3 Tryd.prog fn tmps R [{ target := .collected D, args := #[] }] .returning X := by
  refine ⟨by simp, .inl ⟨D, _, rfl, run_takeDeferred h, ?_⟩⟩
  exact ⟨_, by rw [← ht]; exact results_tmp hres _ _ _, hR _ (Calmly.but' (but_put D X (.deferred none)) hD h rfl)⟩
set_option maxRecDepth 20000 in
set_option maxHeartbeats 4000000 in
theorem counting_any (g o cap k : Nat) (b : List UInt8) (w : World) (hb : IsB w (some ⟨g, o, none⟩) (64 * k) cap b) (hk : 1 ≤ k ∧ k ≤ 4096) :
    Calls Tryd.prog 61 #[.slice (some ⟨g, o, none⟩) (64 * k : Nat) cap] w fun e w' => ∃ v, e = .returned v ∧ w'.ownsRow w.heap.size 5 1 v (cnt b k).length (byteCells (cnt b k)) ∧ Below w.heap.size w w' := by
  have hlb : b.length = 64 * k := hb.1
  have hcap : 64 * k ≤ cap ∧ cap ≤ 9223372036854775807 := by
    obtain ⟨h1, ⟨h2, _⟩ | ⟨x, h2, h3, h4, h5⟩⟩ := hb
    · cases h2
    · exact ⟨h3, by unfold maxLen at h4; omega⟩
  have htn := turnOf_any _ _ _ b w hb (by omega)
  have HB := Lib.hid (And.intro hb (And.intro hlb htn))
  refine (callsIn_wide (n := 3)).1 ?_
  refine callsIn_of_wp_marks Tryd.func61 rfl trivial ?_ rfl
  simp only [Tryd.ntmps61, List.size_toArray, List.length_cons, List.length_nil, Nat.reduceAdd, Nat.reduceSub, Array.replicate_succ, Array.replicate_zero, List.push_toArray, List.append_toArray, List.nil_append, List.cons_append]
  refine wpIn_wide.2 ?_
  clear hb hlb htn
  obtain ⟨t, ht⟩ : ∃ t, t = trn b := ⟨_, rfl⟩
  obtain ⟨C, hC⟩ : ∃ C, C = cnt b k := ⟨_, rfl⟩
  rw [← ht] at HB
  rw [← hC]
  have HC := Lib.hid (And.intro ht hC)
  clear ht hC
  by_cases h0 : t = 0
  · go_wp2_with (go_at_call 46; (with_reducible refine HB.out.2.2.mono ?_); rintro e w' ⟨rfl, rfl⟩)
    have hC0 : C = [] := by rw [HC.out.2]; unfold cnt; rw [if_pos (HC.out.1.symm.trans h0)]
    rw [hC0]
    exact leaveN rfl rfl ⟨_, rfl, World.ownsRow_nil _ _ _ _, (Below.refl _ _).alloc (Nat.le_refl _) _⟩
  · have h0I : ((t : Int) == 0) = false := by simp; omega
    have hCm : C = cnb t b k k 0 := by rw [HC.out.2]; unfold cnt; rw [if_neg (fun h => h0 (HC.out.1.trans h)), ← HC.out.1]
    go_wp2_with (go_at_call 46; (with_reducible refine HB.out.2.2.mono ?_); rintro e w' ⟨rfl, rfl⟩)
    refine (chunk_any _ _ _ 64 _ (by decide)).mono ?_
    rintro e w' ⟨rfl, rfl⟩
    obtain ⟨V, hV⟩ : ∃ V, V = (((w.alloc (.cells #[.int .u64 (t : Nat)] 35)).alloc (.cells #[.slice none 0 0] 32)).alloc (.cells #[.slice (some ⟨g, o, none⟩) (64 * k) cap] 32)).alloc (.cells #[.int .i64 64] 3) := ⟨_, rfl⟩
    have hbV : Below w.heap.size w V := by rw [hV]; exact ((((Below.refl _ _).alloc (Nat.le_refl _) _).alloc (by simp) _).alloc (by simp; omega) _).alloc (by simp; omega) _
    have hzV : V.heap.size = w.heap.size + 4 := by rw [hV]; simp
    have g0 : V.heap[w.heap.size]? = some (.cells #[.int .u64 (t : Nat)] 35 (0, 0)) := by
      rw [hV]; exact heap_old ((Below.refl _ _).alloc (Nat.le_refl _) _) (heap_old ((Below.refl _ _).alloc (Nat.le_refl _) _) (heap_old ((Below.refl _ _).alloc (Nat.le_refl _) _) (heap_alloc_new w _)))
    have g1 : V.heap[w.heap.size + 1]? = some (.cells #[.slice none 0 0] 32 (0, 0)) := by
      have := heap_alloc_new (w.alloc (.cells #[.int .u64 (t : Nat)] 35)) (.cells #[.slice none 0 0] 32)
      rw [World.size_alloc] at this
      rw [hV]; exact heap_old ((Below.refl _ _).alloc (Nat.le_refl _) _) (heap_old ((Below.refl _ _).alloc (Nat.le_refl _) _) this)
    have g2 : V.heap[w.heap.size + 1 + 1]? = some (.cells #[.slice (some ⟨g, o, none⟩) (64 * k) cap] 32 (0, 0)) := by
      have := heap_alloc_new ((w.alloc (.cells #[.int .u64 (t : Nat)] 35)).alloc (.cells #[.slice none 0 0] 32)) (.cells #[.slice (some ⟨g, o, none⟩) (64 * k) cap] 32)
      rw [World.size_alloc, World.size_alloc] at this
      rw [hV]; exact heap_old ((Below.refl _ _).alloc (Nat.le_refl _) _) this
    have g3 : V.heap[w.heap.size + 1 + 1 + 1]? = some (.cells #[.int .i64 64] 3 (0, 0)) := by
      have := heap_alloc_new (((w.alloc (.cells #[.int .u64 (t : Nat)] 35)).alloc (.cells #[.slice none 0 0] 32)).alloc (.cells #[.slice (some ⟨g, o, none⟩) (64 * k) cap] 32)) (.cells #[.int .i64 64] 3)
      rw [World.size_alloc, World.size_alloc, World.size_alloc] at this
      rw [hV]; exact this
    go_wp2_with fail
    rw [← hV]
    have HV := Lib.hid (And.intro hbV (And.intro hzV (And.intro g0 (And.intro g1 (And.intro g2 g3)))))
    have HC2 := Lib.hid hCm
    clear hV hbV hzV g0 g1 g2 g3 hCm
    refine (wpIn_wide (n := 3)).1 ?_
    refine range_exit rfl (by omega) (gf := 57) (lb := #[.pointer (some ⟨w.heap.size + 1 + 1, 0, none⟩), .pointer (some ⟨w.heap.size + 1 + 1 + 1, 0, none⟩)]) rfl trivial (enters_of Tryd.func57 (by kernel_rfl) rfl)
      (chunk1_iter (3 - 1) 0 (w.heap.size + 1 + 1) 64 g o (64 * k) cap (w.heap.size + 1 + 1) (w.heap.size + 1 + 1 + 1) V (by decide) ⟨hcap.1, by omega, hcap.2⟩ ?hK) (fun _ => rfl)
      (fun m X => Cs w w.heap.size (w.heap.size + 1) t C b k m X ∧ V.heap.size ≤ X.heap.size) (fun c _ X => c = .exit 0 ∧ Ce w (w.heap.size + 1) C X ∧ V.heap.size ≤ X.heap.size) (fun m X X' h hb => ⟨h.1.calm hb HV.out.1.size h.2, Nat.le_trans h.2 hb.size⟩) (fun c m X X' h hb => ⟨h.1, h.2.1.calm hb HV.out.1.size h.2.2, Nat.le_trans h.2.2 hb.size⟩) (fun _ _ _ _ => rfl) ?h0 (fun m x X X' h hb => h) (fun m x X X' l r h hl hb => h) ?hround ?hdone ?hstop
    case hK =>
      intro W hm
      exact ⟨cell_of_one ((hm.block _ (.inr (Nat.le_refl _)) (by have := HV.out.2.1; omega)).trans HV.out.2.2.2.2.1), cell_of_one ((hm.block _ (.inr (Nat.le_succ _)) (by have := HV.out.2.1; omega)).trans HV.out.2.2.2.2.2)⟩
    case h0 => exact ⟨⟨_, [], HV.out.2.2.1, HV.out.2.2.2.1, World.ownsRow_nil _ _ _ _, by rw [HC2.out]; rfl, Nat.zero_le _, Nat.zero_le _, HV.out.1, by have := HV.out.2.1; omega⟩, Nat.le_refl _⟩
    case hround =>
      rintro l m x X hlB ⟨rr, hlr⟩ hI hG
      dsimp only [encC]
      obtain ⟨hmk, rfl⟩ := part_sec hG
      gi_wp2_with fail
      refine ⟨Below.refl _ _, ?_⟩
      intro A2 hbut hI2 hG2
      have hbw : Below w.heap.size w A2 := by obtain ⟨⟨v, l0, h1, h2, h3, h4, h5, h6, h7, h8⟩, h9⟩ := hI2; exact h7
      have hb1 : A2.heap[w.heap.size]? = some (.cells #[.int .u64 (t : Nat)] 35 (0, 0)) := by obtain ⟨⟨v, l0, h1, h2, h3, h4, h5, h6, h7, h8⟩, h9⟩ := hI2; exact h1
      have hib := isB_sec (HB.out.1.old hbw) hmk
      have hul := length_getS HB.out.2.1 hmk
      obtain ⟨x8, hx8, hc8⟩ := hib.at (k := 8) (by omega)
      obtain rfl := Option.some.inj hx8
      rw [add_lit] at hc8
      obtain ⟨n, hn⟩ : ∃ n, n = ctn (getS b m) := ⟨_, rfl⟩
      obtain ⟨T, hT⟩ : ∃ T, T = trn (getS b m) := ⟨_, rfl⟩
      have hn8 : (getS b m)[8].toNat = n := by rw [hn]; unfold ctn; rw [List.getD_eq_getElem?_getD, List.getElem?_eq_getElem (by omega)]; rfl
      have hn256 : n < 256 := by rw [← hn8]; exact UInt8.toNat_lt _
      rw [hn8] at hc8
      have htn := turnOf_any _ 64 64 (getS b m) A2.drew (hib.old (Below.refl _ _).drew) (by rw [hul]; decide)
      rw [← hT] at htn
      have HX := Lib.hid (And.intro hb1 (And.intro hib (And.intro hI2.1 (And.intro htn hI2.2))))
      have HN := Lib.hid (And.intro hn (And.intro hT hul))
      have hmix : Tryd.prog.follows .mixedOrders = true := by kernel_rfl
      have hn0 : (0 : Int) ≤ (n : Int) := by omega
      clear hbw hb1 hib hul hn8 htn hI2 hT hn
      by_cases hTt : T = t
      · have hTt' : t = T := hTt.symm
        subst hTt'
        by_cases hn55 : n ≤ 55
        · have hnI : ¬ (n : Int) > 55 := by omega
          gi_wp2_with fail
          refine begin_round 7 (fun Y => Y.heap[w.heap.size]? = some (.cells #[.int .u64 (t : Nat)] 35 (0, 0))) hmix (by kernel_rfl) HX.out.1 (fun hS0 => ?_)
          refine Ht.take (i := 0) ⟨some 18, _, _, _, _, _⟩ (.slice (some ⟨g, o + 64 * m, none⟩) 64 64) rfl (by kernel_rfl) (by kernel_rfl) (by decide) (by kernel_rfl) (by kernel_rfl) (by kernel_rfl) hS0 (Or.inl ⟨by rfl, by (intro X hX; go_simp)⟩) ?_
          simp only [Act.put, List.setIfInBounds_toArray, List.set_cons_zero, List.set_cons_succ]
          refine Ht.take (i := 2) ⟨some 20, _, _, _, _, _⟩ (.int .u64 (t : Nat)) rfl (by kernel_rfl) (by kernel_rfl) (by decide) (by kernel_rfl) (by kernel_rfl) (by kernel_rfl) hS0 (Or.inl ⟨by rfl, by (intro X hX; have := cell_of_one hX; go_simp)⟩) ?_
          simp only [Act.put, List.setIfInBounds_toArray, List.set_cons_zero, List.set_cons_succ]
          refine Ht.step (i := 1) ⟨some 19, _, _, _, _, _⟩ rfl (by kernel_rfl) (by rfl) (fun K hK => ?_)
          refine Ht.enter 46 #[.slice (some ⟨g, o + 64 * m, none⟩) 64 64] (by have hen := fun args w => enters_of (P := Tryd.prog) Tryd.func46 (by kernel_rfl) rfl args w; go_simp) HX.out.2.2.2.1 ?_
          rintro e W1 ⟨rfl, rfl⟩
          refine ⟨_, rfl, hK _ _ (fun _ => hS0) (fun _ => ?_)⟩
          clear hK K
          simp only [Act.put, List.setIfInBounds_toArray, List.set_cons_zero, List.set_cons_succ]
          refine Ht.take (i := 3) ⟨some 21, _, _, _, _, _⟩ (.bool false) rfl (by kernel_rfl) (by kernel_rfl) (by decide) (by kernel_rfl) (by kernel_rfl) (by kernel_rfl) hS0 (Or.inl ⟨by rfl, by (intro X hX; go_simp)⟩) ?_
          simp only [Act.put, List.setIfInBounds_toArray, List.set_cons_zero, List.set_cons_succ]
          refine Ht.take (i := 4) ⟨some 22, _, _, _, _, _⟩ (.bool false) rfl (by kernel_rfl) (by kernel_rfl) (by decide) (by kernel_rfl) (by kernel_rfl) (by kernel_rfl) hS0 (Or.inl ⟨by rfl, by (intro X hX; go_simp)⟩) ?_
          simp only [Act.put, List.setIfInBounds_toArray, List.set_cons_zero, List.set_cons_succ]
          refine Ht.take (i := 5) ⟨some 23, _, _, _, _, _⟩ (.int .i64 (n : Nat)) rfl (by kernel_rfl) (by kernel_rfl) (by decide) (by kernel_rfl) (by kernel_rfl) (by kernel_rfl) hS0 (Or.inl ⟨by rfl, by (intro X hX; go_simp)⟩) ?_
          simp only [Act.put, List.setIfInBounds_toArray, List.set_cons_zero, List.set_cons_succ]
          refine Ht.take (i := 6) ⟨some 24, _, _, _, _, _⟩ (.bool false) rfl (by kernel_rfl) (by kernel_rfl) (by decide) (by kernel_rfl) (by kernel_rfl) (by kernel_rfl) hS0 (Or.inl ⟨by rfl, by (intro X hX; go_simp)⟩) ?_
          simp only [Act.put, List.setIfInBounds_toArray, List.set_cons_zero, List.set_cons_succ]
          refine Ht.step (i := 7) ⟨some 25, _, _, _, _, _⟩ rfl (by kernel_rfl) (by rfl) (fun K hK => ?_)
          go_simp
          refine hK _ _ (fun h => absurd rfl h) (fun _ => ?_)
          clear hK K
          refine done (by kernel_rfl) ?_
          gi_wp2_with fail
          obtain ⟨v, l0, h1, h2, h3, h4, h5, h6, h7, h8⟩ := HX.out.2.2.1
          obtain ⟨R, hR⟩ : ∃ R, R = ((getS b m).drop 9).take n := ⟨_, rfl⟩
          have hRl : R.length = n := by rw [hR, List.length_take, List.length_drop, HN.out.2.2]; omega
          have hnews : ∀ j u, (byteCells R)[j]? = some u → A2.drew.cell? ((⟨g, o + 64 * m + 9, none⟩ : Addr).add j) = some u := by
            have h := Fm.IsB.sub (HX.out.2.1.old (Below.refl _ _).drew) (i := 9) (j := 9 + n) (by omega) (by omega)
            obtain ⟨_, ⟨h, _⟩ | ⟨x, hx, _, _, hh⟩⟩ := h
            · cases h
            · obtain rfl := Option.some.inj hx
              intro j u hu
              refine hh j u ?_
              rw [List.drop_take, show 9 + n - 9 = n by omega, ← hR]
              exact hu
          have z1 : IntKind.i64.wrap (9 + (n : Int)) = 9 + (n : Int) := IntWalk.i64_in _ (by omega)
          have z2 : (0 : Int) ≤ 9 + (n : Int) := by omega
          have z3 : 9 + (n : Int) ≤ 64 := by omega
          have z4 : (9 : Int) ≤ max (9 + (n : Int)) 0 := by omega
          have z5 : (9 + (n : Int)).toNat - 9 = n := by omega
          have HS := Lib.hid (And.intro h1 (And.intro h2 (And.intro h3 (And.intro h4 (And.intro h5 (And.intro h6 (And.intro h7 h8)))))))
          have HR := Lib.hid (And.intro hR (And.intro hRl hnews))
          obtain ⟨i0, hi, hz0, hz1, hz2⟩ := info_parts info5
          clear h1 h2 h3 h4 h5 h6 h7 h8 hR hRl hnews
          refine begin_round 6 (fun Y => Y.heap[w.heap.size + 1]? = some (.cells #[v] 32 (0, 0))) hmix (by kernel_rfl) HS.out.2.1 (fun hS0 => ?_)
          refine Ht.take (i := 0) ⟨some 26, _, _, _, _, _⟩ (v) rfl (by kernel_rfl) (by kernel_rfl) (by decide) (by kernel_rfl) (by kernel_rfl) (by kernel_rfl) hS0 (Or.inl ⟨by rfl, by (intro X hX; have := cell_of_one hX; go_simp)⟩) ?_
          simp only [Act.put, List.setIfInBounds_toArray, List.set_cons_zero, List.set_cons_succ]
          refine Ht.take (i := 1) ⟨some 27, _, _, _, _, _⟩ (.slice (some ⟨g, o + 64 * m, none⟩) 64 64) rfl (by kernel_rfl) (by kernel_rfl) (by decide) (by kernel_rfl) (by kernel_rfl) (by kernel_rfl) hS0 (Or.inl ⟨by rfl, by (intro X hX; go_simp)⟩) ?_
          simp only [Act.put, List.setIfInBounds_toArray, List.set_cons_zero, List.set_cons_succ]
          refine Ht.take (i := 2) ⟨some 28, _, _, _, _, _⟩ (.int .i64 (n : Nat)) rfl (by kernel_rfl) (by kernel_rfl) (by decide) (by kernel_rfl) (by kernel_rfl) (by kernel_rfl) hS0 (Or.inl ⟨by rfl, by (intro X hX; go_simp)⟩) ?_
          simp only [Act.put, List.setIfInBounds_toArray, List.set_cons_zero, List.set_cons_succ]
          refine Ht.take (i := 3) ⟨some 29, _, _, _, _, _⟩ (.int .i64 (9 + (n : Int))) rfl (by kernel_rfl) (by kernel_rfl) (by decide) (by kernel_rfl) (by kernel_rfl) (by kernel_rfl) hS0 (Or.inl ⟨by rfl, by (intro X hX; go_simp)⟩) ?_
          simp only [Act.put, List.setIfInBounds_toArray, List.set_cons_zero, List.set_cons_succ]
          refine Ht.take (i := 4) ⟨some 30, _, _, _, _, _⟩ (.slice (some ⟨g, o + 64 * m + 9, none⟩) n 55) rfl (by kernel_rfl) (by kernel_rfl) (by decide) (by kernel_rfl) (by kernel_rfl) (by kernel_rfl) hS0 (Or.inl ⟨by rfl, by (intro X hX; go_simp)⟩) ?_
          simp only [Act.put, List.setIfInBounds_toArray, List.set_cons_zero, List.set_cons_succ]
          refine Ht.step (i := 5) ⟨some 31, _, _, _, _, _⟩ rfl (by kernel_rfl) (by rfl) (fun K hK => ?_)
          refine Ao.wp_append_own_new _ _ _ 32 rfl (w.heap.size + 1 + 3) 5 i0 _ 1 1 Tryd.underlying32 hi hz0 hz1 hz2 (by rfl) (by decide) v l0.length (byteCells l0) rfl (own_other HS.out.2.2.1 (fun _ _ => rfl)) ⟨g, o + 64 * m + 9, none⟩ n 55 (byteCells R) rfl (by simp [byteCells, HR.out.2.1]) HR.out.2.2 (bytes_one R) ?n1 ?n2 ?n3 ?_
          case n1 => have := HS.out.2.2.2.2.1; unfold maxLen; omega
          case n2 => have := HS.out.2.2.2.2.1; omega
          case n3 => have := HS.out.2.2.2.2.2.2.2; simp; omega
          intro v5 W5 hown5 hg5 hnew5
          have hbx5 : ∀ q (C0 : Array Value) (t0 : TypeId), 5 ≠ t0 → A2.heap[q]? = some (Obj.cells C0 t0 (0, 0)) → W5.heap[q]? = some (Obj.cells C0 t0 (0, 0)) := fun q C0 t0 hne hq =>
            (hg5.block q (lt_of_block hq) (fun e => own_not HS.out.2.2.1 hq hne q e.symm rfl)).trans hq
          have hS5 := hbx5 _ _ _ (by decide) HS.out.2.1
          refine hK _ _ (fun _ => hS5) (fun _ => ?_)
          clear hK K
          simp only [Act.put, List.setIfInBounds_toArray, List.set_cons_zero, List.set_cons_succ]
          refine Ht.step (i := 6) ⟨none, _, _, _, _, _⟩ rfl (by kernel_rfl) (by rfl) (fun K hK => ?_)
          have c5 := cell_of_one hS5
          have f5 := free_of_one hS5
          obtain ⟨a5, cp5, rfl⟩ := own_shape hown5
          go_simp
          refine hK _ _ (fun h => absurd rfl h) (fun _ => ?_)
          clear hK K
          refine done (by kernel_rfl) ?_
          have hlen : (l0 ++ R).length = l0.length + n := by rw [List.length_append, HR.out.2.1]
          have hq := HS.out.2.2.2.2.2.2.2
          have hown6 : (W5.setCell ⟨w.heap.size + 1, 0, none⟩ (.slice a5 (l0.length + n) cp5)).ownsRow (w.heap.size + 1 + 3) 5 1 (.slice a5 (l0.length + n) cp5) (l0 ++ R).length (byteCells (l0 ++ R)) := by
            rw [hlen, byteCells_append]
            exact own_other hown5 (fun q hq2 => heap_setCell_other W5 _ q _ (by have := (hown5.lt q hq2).1; show q ≠ w.heap.size + 1; omega))
          have hfr : Fr (fun q => q = w.heap.size + 1 ∨ some q = v.ownBlock) A2 (W5.setCell ⟨w.heap.size + 1, 0, none⟩ (.slice a5 (l0.length + n) cp5)) :=
            Fr.setCell (show Fr (fun q => q = w.heap.size + 1 ∨ some q = v.ownBlock) A2 W5 from ⟨hg5.os, hg5.tape, hg5.output, hg5.size, fun q h1 h2 => hg5.block q h1 (fun e => h2 (.inr e))⟩) (.inl (.inl rfl)) _
          have hk2 := fr_round (n₀ := 0) (n₁ := w.heap.size + 1 + 1) (B := V.heap.size) hfr (fun q hq2 => by
            rcases hq2 with rfl | hq2
            · exact .inl ⟨Nat.zero_le _, Nat.lt_succ_self _⟩
            · have h1 := (HS.out.2.2.1.lt q hq2.symm).1
              refine .inr ⟨by have := HV.out.2.1; omega, fun o2 ho2 => ?_⟩
              obtain ⟨cur, hc⟩ := own_type HS.out.2.2.1 hq2.symm
              rw [hc] at ho2
              obtain rfl := Option.some.inj ho2
              rfl) (by have := HV.out.2.1; omega) HX.out.2.2.2.2
          have hbx6 := one_setCell (u := .slice a5 (l0.length + n) cp5) hS5
          have hb6 : Below w.heap.size w (W5.setCell ⟨w.heap.size + 1, 0, none⟩ (.slice a5 (l0.length + n) cp5)) := HS.out.2.2.2.2.2.2.1.trans (hfr.below HS.out.2.2.2.2.2.2.1.size (fun q hq2 => by
            rcases hq2 with rfl | hq2
            · omega
            · have h1 := (HS.out.2.2.1.lt q hq2.symm).1; omega))
          have hz6 := hfr.size
          by_cases hlt : n < 55
          · have hltI : (n : Int) < 55 := by omega
            have hCe : l0 ++ R = C := by
              rw [← HS.out.2.2.2.1, show k - m = (k - (m + 1)) + 1 by omega, cnb_last hmk HN.out.2.1.symm (by rw [← HN.out.1]; exact hlt), HR.out.1, HN.out.1]
            rw [hCe] at hown6
            have HF := Lib.hid (And.intro hk2.1 (And.intro hbx6 (And.intro hown6 (And.intro hb6 hz6))))
            clear hk2 hbx6 hown6 hb6 hz6 hfr hCe hlen hbx5 hS5 hown5 hg5 hnew5 z1 z2 z3 z4 z5 hi hz0 hz1 hz2 hS0
            gi_wp2_with fail
            exact ⟨HF.out.1, rfl, ⟨_, HF.out.2.1, HF.out.2.2.1, HF.out.2.2.2.1, by have := HF.out.2.2.2.2; omega⟩, Nat.le_trans HX.out.2.2.2.2 HF.out.2.2.2.2⟩
          · have hltI : ¬ (n : Int) < 55 := by omega
            have hCe : (l0 ++ R) ++ cnb t b k (k - (m + 1)) (m + 1) = C := by
              rw [← HS.out.2.2.2.1, show k - m = (k - (m + 1)) + 1 by omega, cnb_more hmk HN.out.2.1.symm (by rw [← HN.out.1]; omega), HR.out.1, List.append_assoc, show n = 55 by omega]
            have hb1 : (W5.setCell ⟨w.heap.size + 1, 0, none⟩ (.slice a5 (l0.length + n) cp5)).heap[w.heap.size]? = some (.cells #[.int .u64 (t : Nat)] 35 (0, 0)) := (heap_setCell_other W5 _ _ _ (by show w.heap.size ≠ w.heap.size + 1; omega)).trans (hbx5 _ _ _ (by decide) HS.out.1)
            have HF := Lib.hid (And.intro hk2 (And.intro hbx6 (And.intro hown6 (And.intro hb6 (And.intro hz6 (And.intro hCe (And.intro hb1 hlen)))))))
            clear hk2 hbx6 hown6 hb6 hz6 hfr hCe hlen hbx5 hS5 hown5 hg5 hnew5 z1 z2 z3 z4 z5 hi hz0 hz1 hz2 hS0 hb1
            gi_wp2_with fail
            exact ⟨HF.out.1.1, HF.out.1.2, ⟨_, _, HF.out.2.2.2.2.2.2.1, HF.out.2.1, HF.out.2.2.1, HF.out.2.2.2.2.2.1, by have := HF.out.2.2.2.2.2.2.2; have := HS.out.2.2.2.2.1; omega, hmk, HF.out.2.2.2.1, by have := HF.out.2.2.2.2.1; omega⟩, Nat.le_trans HX.out.2.2.2.2 HF.out.2.2.2.2.1⟩
        · have hnI : (n : Int) > 55 := by omega
          have hno : ¬ (trn (getS b m) = t ∧ ctn (getS b m) ≤ 55) := by rw [← HN.out.1]; omega
          have HNO := Lib.hid hno
          clear hno
          gi_wp2_with fail
          refine begin_round 7 (fun Y => Y.heap[w.heap.size]? = some (.cells #[.int .u64 (t : Nat)] 35 (0, 0))) hmix (by kernel_rfl) HX.out.1 (fun hS0 => ?_)
          refine Ht.take (i := 0) ⟨some 18, _, _, _, _, _⟩ (.slice (some ⟨g, o + 64 * m, none⟩) 64 64) rfl (by kernel_rfl) (by kernel_rfl) (by decide) (by kernel_rfl) (by kernel_rfl) (by kernel_rfl) hS0 (Or.inl ⟨by rfl, by (intro X hX; go_simp)⟩) ?_
          simp only [Act.put, List.setIfInBounds_toArray, List.set_cons_zero, List.set_cons_succ]
          refine Ht.take (i := 2) ⟨some 20, _, _, _, _, _⟩ (.int .u64 (t : Nat)) rfl (by kernel_rfl) (by kernel_rfl) (by decide) (by kernel_rfl) (by kernel_rfl) (by kernel_rfl) hS0 (Or.inl ⟨by rfl, by (intro X hX; have := cell_of_one hX; go_simp)⟩) ?_
          simp only [Act.put, List.setIfInBounds_toArray, List.set_cons_zero, List.set_cons_succ]
          refine Ht.step (i := 1) ⟨some 19, _, _, _, _, _⟩ rfl (by kernel_rfl) (by rfl) (fun K hK => ?_)
          refine Ht.enter 46 #[.slice (some ⟨g, o + 64 * m, none⟩) 64 64] (by have hen := fun args w => enters_of (P := Tryd.prog) Tryd.func46 (by kernel_rfl) rfl args w; go_simp) HX.out.2.2.2.1 ?_
          rintro e W1 ⟨rfl, rfl⟩
          refine ⟨_, rfl, hK _ _ (fun _ => hS0) (fun _ => ?_)⟩
          clear hK K
          simp only [Act.put, List.setIfInBounds_toArray, List.set_cons_zero, List.set_cons_succ]
          refine Ht.take (i := 3) ⟨some 21, _, _, _, _, _⟩ (.bool false) rfl (by kernel_rfl) (by kernel_rfl) (by decide) (by kernel_rfl) (by kernel_rfl) (by kernel_rfl) hS0 (Or.inl ⟨by rfl, by (intro X hX; go_simp)⟩) ?_
          simp only [Act.put, List.setIfInBounds_toArray, List.set_cons_zero, List.set_cons_succ]
          refine Ht.take (i := 4) ⟨some 22, _, _, _, _, _⟩ (.bool false) rfl (by kernel_rfl) (by kernel_rfl) (by decide) (by kernel_rfl) (by kernel_rfl) (by kernel_rfl) hS0 (Or.inl ⟨by rfl, by (intro X hX; go_simp)⟩) ?_
          simp only [Act.put, List.setIfInBounds_toArray, List.set_cons_zero, List.set_cons_succ]
          refine Ht.take (i := 5) ⟨some 23, _, _, _, _, _⟩ (.int .i64 (n : Nat)) rfl (by kernel_rfl) (by kernel_rfl) (by decide) (by kernel_rfl) (by kernel_rfl) (by kernel_rfl) hS0 (Or.inl ⟨by rfl, by (intro X hX; go_simp)⟩) ?_
          simp only [Act.put, List.setIfInBounds_toArray, List.set_cons_zero, List.set_cons_succ]
          refine Ht.take (i := 6) ⟨some 24, _, _, _, _, _⟩ (.bool true) rfl (by kernel_rfl) (by kernel_rfl) (by decide) (by kernel_rfl) (by kernel_rfl) (by kernel_rfl) hS0 (Or.inl ⟨by rfl, by (intro X hX; go_simp)⟩) ?_
          simp only [Act.put, List.setIfInBounds_toArray, List.set_cons_zero, List.set_cons_succ]
          refine Ht.step (i := 7) ⟨some 25, _, _, _, _, _⟩ rfl (by kernel_rfl) (by rfl) (fun K hK => ?_)
          go_simp
          refine hK _ _ (fun h => absurd rfl h) (fun _ => ?_)
          clear hK K
          refine done (by kernel_rfl) ?_
          have hno := HNO.out
          gi_wp2_with fail
          have hfr : Fr (fun _ => False) A2 A2.drew := fr_drew A2
          have hk2 := fr_round (n₀ := 0) (n₁ := w.heap.size + 1 + 1) (B := V.heap.size) hfr (fun _ h => h.elim) (by have := HV.out.2.1; omega) HX.out.2.2.2.2
          have hCs := HX.out.2.2.1
          refine ⟨hk2.1, rfl, ?_, HX.out.2.2.2.2⟩
          obtain ⟨v, l0, h1, h2, h3, h4, h5, h6, h7, h8⟩ := hCs
          rw [cnb_stop hno, List.append_nil] at h4
          subst h4
          exact ⟨v, h2, own_other h3 (fun _ _ => rfl), h7.trans ((Below.refl _ _).drew.mono h7.size), h8⟩
      · have hneI : ¬ (T : Int) = (t : Int) := by omega
        have hno : ¬ (trn (getS b m) = t ∧ ctn (getS b m) ≤ 55) := by rw [← HN.out.2.1]; exact fun h => hTt h.1
        have HNO := Lib.hid hno
        clear hno
        gi_wp2_with fail
        refine begin_round 7 (fun Y => Y.heap[w.heap.size]? = some (.cells #[.int .u64 (t : Nat)] 35 (0, 0))) hmix (by kernel_rfl) HX.out.1 (fun hS0 => ?_)
        refine Ht.take (i := 0) ⟨some 18, _, _, _, _, _⟩ (.slice (some ⟨g, o + 64 * m, none⟩) 64 64) rfl (by kernel_rfl) (by kernel_rfl) (by decide) (by kernel_rfl) (by kernel_rfl) (by kernel_rfl) hS0 (Or.inl ⟨by rfl, by (intro X hX; go_simp)⟩) ?_
        simp only [Act.put, List.setIfInBounds_toArray, List.set_cons_zero, List.set_cons_succ]
        refine Ht.take (i := 2) ⟨some 20, _, _, _, _, _⟩ (.int .u64 (t : Nat)) rfl (by kernel_rfl) (by kernel_rfl) (by decide) (by kernel_rfl) (by kernel_rfl) (by kernel_rfl) hS0 (Or.inl ⟨by rfl, by (intro X hX; have := cell_of_one hX; go_simp)⟩) ?_
        simp only [Act.put, List.setIfInBounds_toArray, List.set_cons_zero, List.set_cons_succ]
        refine Ht.step (i := 1) ⟨some 19, _, _, _, _, _⟩ rfl (by kernel_rfl) (by rfl) (fun K hK => ?_)
        refine Ht.enter 46 #[.slice (some ⟨g, o + 64 * m, none⟩) 64 64] (by have hen := fun args w => enters_of (P := Tryd.prog) Tryd.func46 (by kernel_rfl) rfl args w; go_simp) HX.out.2.2.2.1 ?_
        rintro e W1 ⟨rfl, rfl⟩
        refine ⟨_, rfl, hK _ _ (fun _ => hS0) (fun _ => ?_)⟩
        clear hK K
        simp only [Act.put, List.setIfInBounds_toArray, List.set_cons_zero, List.set_cons_succ]
        refine Ht.take (i := 3) ⟨some 21, _, _, _, _, _⟩ (.bool true) rfl (by kernel_rfl) (by kernel_rfl) (by decide) (by kernel_rfl) (by kernel_rfl) (by kernel_rfl) hS0 (Or.inl ⟨by rfl, by (intro X hX; go_simp)⟩) ?_
        simp only [Act.put, List.setIfInBounds_toArray, List.set_cons_zero, List.set_cons_succ]
        refine Ht.take (i := 4) ⟨some 22, _, _, _, _, _⟩ (.bool true) rfl (by kernel_rfl) (by kernel_rfl) (by decide) (by kernel_rfl) (by kernel_rfl) (by kernel_rfl) hS0 (Or.inl ⟨by rfl, by (intro X hX; go_simp)⟩) ?_
        simp only [Act.put, List.setIfInBounds_toArray, List.set_cons_zero, List.set_cons_succ]
        refine Ht.take (i := 5) ⟨some 23, _, _, _, _, _⟩ (undef) rfl (by kernel_rfl) (by kernel_rfl) (by decide) (by kernel_rfl) (by kernel_rfl) (by kernel_rfl) hS0 (Or.inr ⟨by rfl, rfl⟩) ?_
        simp only [Act.put, List.setIfInBounds_toArray, List.set_cons_zero, List.set_cons_succ]
        refine Ht.take (i := 6) ⟨some 24, _, _, _, _, _⟩ (undef) rfl (by kernel_rfl) (by kernel_rfl) (by decide) (by kernel_rfl) (by kernel_rfl) (by kernel_rfl) hS0 (Or.inr ⟨by rfl, rfl⟩) ?_
        simp only [Act.put, List.setIfInBounds_toArray, List.set_cons_zero, List.set_cons_succ]
        refine Ht.step (i := 7) ⟨some 25, _, _, _, _, _⟩ rfl (by kernel_rfl) (by rfl) (fun K hK => ?_)
        go_simp
        refine hK _ _ (fun h => absurd rfl h) (fun _ => ?_)
        clear hK K
        refine done (by kernel_rfl) ?_
        have hno := HNO.out
        gi_wp2_with fail
        have hfr : Fr (fun _ => False) A2 A2.drew := fr_drew A2
        have hk2 := fr_round (n₀ := 0) (n₁ := w.heap.size + 1 + 1) (B := V.heap.size) hfr (fun _ h => h.elim) (by have := HV.out.2.1; omega) HX.out.2.2.2.2
        have hCs := HX.out.2.2.1
        refine ⟨hk2.1, rfl, ?_, HX.out.2.2.2.2⟩
        obtain ⟨v, l0, h1, h2, h3, h4, h5, h6, h7, h8⟩ := hCs
        rw [cnb_stop hno, List.append_nil] at h4
        subst h4
        exact ⟨v, h2, own_other h3 (fun _ _ => rfl), h7.trans ((Below.refl _ _).drew.mono h7.size), h8⟩
    case hdone =>
      intro D m2 X hD hS hI hK
      dsimp only
      obtain ⟨⟨v, l, h1, h2, h3, h4, h5, h6, h7, h8⟩, h9⟩ := hI
      obtain rfl : m2 = k := by omega
      rw [Nat.sub_self] at h4
      have h4' : l = C := by rw [← h4]; simp [cnb]
      subst h4'
      have c3 := cell_of_one h2
      have HX := Lib.hid (And.intro h3 (And.intro h7 (And.intro hK (And.intro hD h9))))
      clear h1 h2 h3 h4 h5 h6 h7 h8 h9 hK hD hS
      go_wp2_with fail
      exact leaveX rfl rfl HX.out.2.2.2.1 HX.out.2.2.1 fun X' hb => ⟨_, rfl, Joins.ownsRow_le (hb.own HX.out.1) (by omega), HX.out.2.1.trans (hb.below HV.out.1.size HX.out.2.2.2.2)⟩
    case hstop =>
      rintro D c m X hD ⟨rfl, ⟨v, h1, h2, h3, h4⟩, h5⟩ hK
      dsimp only
      have c3 := cell_of_one h1
      have HX := Lib.hid (And.intro h2 (And.intro h3 (And.intro hK (And.intro hD h5))))
      clear h1 h2 h3 h4 h5 hK hD
      refine wpIn_wide.2 ?_
      go_wp2_with fail
      exact leaveX rfl rfl HX.out.2.2.2.1 HX.out.2.2.1 fun X' hb => ⟨_, rfl, Joins.ownsRow_le (hb.own HX.out.1) (by omega), HX.out.2.1.trans (hb.below HV.out.1.size HX.out.2.2.2.2)⟩
end Go.Proofs.YtjblkmjdepdekaaDoor.Wl

/- frames: what Scan's iterator says, the records' bytes its own rows -/
namespace Go.Proofs.YtjblkmjdepdekaaDoor.Fm
open Go.RowKit Go.Lib Go.Proofs.YtjblkmjdepdekaaDoor.By Go.Proofs.YtjblkmjdepdekaaDoor.Oc Go.Proofs.YtjblkmjdepdekaaDoor.Cr Go.Proofs.YtjblkmjdepdekaaDoor.Rg
attribute [local go_sem] Oper.semAt_some

def Good3 (N : Nat) (b : List UInt8) (s : Nat) (m : Nat) (x : Told) (A : World) : Prop :=
  (Fm.at' b s m).2.2.2 = 0 ∧ x.at' = (stt b s m).1 ∧ (x.k, x.d) = (Fm.at' b s m).1 ∧ A.ownsRow N 5 1 (.slice x.a x.d.length x.co) x.d.length (byteCells x.d)
set_option maxRecDepth 20000 in
set_option maxHeartbeats 4000000 in
theorem scan1_own (n : Nat) (n₀ n₁ N : Nat) (s : Nat) (a : Option Addr) (len cap : Nat) (b : List UInt8) (sb bb : Nat) (w : World) (hs : U32 s) (hN : N ≤ w.heap.size)
    (hK : ∀ W, Mid n₀ n₁ w.heap.size w W → Nibs W ∧ IsB W a len cap b ∧ W.cell? ⟨sb, 0, none⟩ = some (.int .u32 (s : Nat)) ∧ W.cell? ⟨bb, 0, none⟩ = some (.slice a len cap)) :
    Iter Fence.wide n Tryd.prog 62 #[.pointer (some ⟨sb, 0, none⟩), .pointer (some ⟨bb, 0, none⟩)] enc2 n₀ n₁ w.heap.size (Good3 N b s) (fun m => (Fm.at' b s m).2.2.2 ≠ 0) w := by
  intro l J W hW hJ hY hJ0
  obtain ⟨hn0, hb0, hsc, hbc⟩ := hK W (Mid.of hW)
  obtain rfl : b.length = len := hb0.1
  have hlc : b.length ≤ cap ∧ cap ≤ 9223372036854775807 := by
    obtain ⟨h1, ⟨h2, h3, h4⟩ | ⟨x, h2, h3, h4, h5⟩⟩ := id hb0
    · omega
    · exact ⟨h3, by unfold maxLen at h4; omega⟩
  have HK := Lib.hid hK
  have HJ := Lib.hid hJ
  have HY := Lib.hid hY
  have HJ0 := Lib.hid hJ0
  have HW := Lib.hid hW
  have HS := Lib.hid hs
  have HNN := Lib.hid hN
  clear hK hJ hY hJ0 hW hn0 hb0 hN
  refine callsIn_of_wp Tryd.func62 rfl trivial ?_ rfl
  simp only [Tryd.ntmps62, List.size_toArray, List.length_cons, List.length_nil, Nat.reduceAdd, Nat.reduceSub, Array.replicate_succ, Array.replicate_zero, List.push_toArray, List.append_toArray, List.nil_append, List.cons_append]
  have hyl := yield_there l
  gi_wp2_with fail
  refine wpIn_wide.2 ?_
  go_region
  gi_wp2_with fail
  gi_loopw [4, 5] (fun p q wr => ∃ m : Nat, (stt b s m).1 ≤ b.length ∧ p = .int .i64 ((stt b s m).1 : Nat) ∧ q = .int .u32 ((stt b s m).2 : Nat) ∧ J m wr ∧ Mid n₀ n₁ w.heap.size w wr) (fun p _ _ => b.length - (intOf p).toNat)
  case atStart => exact ⟨0, Nat.zero_le _, rfl, rfl, HJ.out 0 W _ HJ0.out (Below.refl _ _).drew, Mid.of HW.out.drew⟩
  case round =>
    obtain ⟨m, hle, rfl, rfl, hj, hmid⟩ := hrel
    obtain ⟨hn0, hb0, hsc, hbc⟩ := HK.out wr hmid
    have hu := stt_u32 (b := b) HS.out m
    have hnx : nxt (stt b s m).2 (b.drop (stt b s m).1) = Fm.at' b s m := rfl
    have hl6 : (Fm.at' b s m).2.2.2 = 0 → 6 ≤ (Fm.at' b s m).2.1 ∧ (Fm.at' b s m).2.1 ≤ b.length - (stt b s m).1 := fun h => by
      have := nxt_len (s := (stt b s m).2) (b := b.drop (stt b s m).1) h
      rwa [List.length_drop] at this
    have hsu := stt_succ b s m
    have hG : ∀ (x : Told) A, Good3 N b s m x A ↔ ((Fm.at' b s m).2.2.2 = 0 ∧ x.at' = (stt b s m).1 ∧ (x.k, x.d) = (Fm.at' b s m).1 ∧ A.ownsRow N 5 1 (.slice x.a x.d.length x.co) x.d.length (byteCells x.d)) := fun _ _ => Iff.rfl
    obtain ⟨ST, hST⟩ : ∃ S, S = stt b s m := ⟨_, rfl⟩
    obtain ⟨NX, hN⟩ : ∃ N, N = Fm.at' b s m := ⟨_, rfl⟩
    rw [← hST] at hle hu hnx hl6 hsu hG ⊢
    rw [← hN] at hnx hl6 hsu hG
    obtain ⟨k, r⟩ := ST
    obtain ⟨⟨Nk, Nd⟩, Nn, Ns, Ne⟩ := NX
    simp only at hle hu hnx hl6 hsu hG ⊢
    have HA := Lib.hid (And.intro hj (And.intro hmid (And.intro hsu (And.intro hG (And.intro hl6 (And.intro hST hN))))))
    have HB := Lib.hid hb0
    have HN := Lib.hid (And.intro hn0 (And.intro hu hnx))
    clear hj hmid hn0 hb0 hsc hu hnx hl6 hsu hST hN hG
    gi_wp2_with fail
    · have hib := IsB.from0 HB.out hle (by assumption)
      refine ⟨trivial, (fun h => (by cases h)), ?_⟩
      have hnx := next_own r _ _ _ (b.drop k) wr HN.out.2.1 hib HN.out.1
      rw [HN.out.2.2] at hnx
      refine (callsIn_wide.2 hnx).mono ?_
      clear hnx
      rintro e W1 ⟨ao, co, rfl, hibd, hb1⟩
      have hj1 := HA.out.1
      have hmid := HA.out.2.1
      have hbA : Below wr.heap.size wr (W1.alloc (.cells #[.int .u8 (Nk.toNat : Nat), .slice ao Nd.length co] 34)) := hb1.alloc hb1.size _
      have hjA := HJ.out m _ _ hj1 hbA
      have hmA : Mid n₀ n₁ w.heap.size w (W1.alloc (.cells #[.int .u8 (Nk.toNat : Nat), .slice ao Nd.length co] 34)) := hmid.trans (Mid.of (hbA.mono hmid.size))
      have hibA := own_below (Joins.ownsRow_le hibd (Nat.le_trans HNN.out hmid.size)) ((Below.refl _ _).alloc (Nat.le_refl _) (.cells #[.int .u8 (Nk.toNat : Nat), .slice ao Nd.length co] 34)) (Nat.le_refl _)
      by_cases he : Ne = 0
      · subst he
        exact absurd (HA.out.2.2.2.2.1 rfl) (by omega)
      · have hne : (Ne != 0) = true := by simpa using he
        have HF := Lib.hid hjA
        clear hj1 hmid hbA hjA hmA hibA hibd hb1
        gi_wp2_with fail
        refine ⟨fun _ h => (by cases h), ?_⟩
        gi_wp2_with fail
        refine bodyPost_ret (results_none rfl _ _ _) rfl ?_
        refine ⟨⟨_, rfl⟩, m, ?_, HF.out⟩
        rw [← HA.out.2.2.2.2.2.2]
        exact he
    · have hib := IsB.from HB.out hle
      refine ⟨trivial, (fun h => (by cases h)), ?_⟩
      have hnx := next_own r _ _ _ (b.drop k) wr HN.out.2.1 hib HN.out.1
      rw [HN.out.2.2] at hnx
      refine (callsIn_wide.2 hnx).mono ?_
      clear hnx
      rintro e W1 ⟨ao, co, rfl, hibd, hb1⟩
      have hj1 := HA.out.1
      have hmid := HA.out.2.1
      have hbA : Below wr.heap.size wr (W1.alloc (.cells #[.int .u8 (Nk.toNat : Nat), .slice ao Nd.length co] 34)) := hb1.alloc hb1.size _
      have hjA := HJ.out m _ _ hj1 hbA
      have hmA : Mid n₀ n₁ w.heap.size w (W1.alloc (.cells #[.int .u8 (Nk.toNat : Nat), .slice ao Nd.length co] 34)) := hmid.trans (Mid.of (hbA.mono hmid.size))
      have hibA := own_below (Joins.ownsRow_le hibd (Nat.le_trans HNN.out hmid.size)) ((Below.refl _ _).alloc (Nat.le_refl _) (.cells #[.int .u8 (Nk.toNat : Nat), .slice ao Nd.length co] 34)) (Nat.le_refl _)
      by_cases he : Ne = 0
      · subst he
        have hg6 := HA.out.2.2.2.2.1 rfl
        obtain ⟨fn, tmps, assign, body, hy, hR⟩ := HY.out m ⟨k, Nk, Nd, ao, co⟩ _ hjA ((HA.out.2.2.2.1 ⟨k, Nk, Nd, ao, co⟩ _).2 ⟨rfl, rfl, rfl, hibA⟩)
        dsimp only [enc2] at hy
        have HM := Lib.hid hmA
        clear hj1 hmid hbA hjA hmA hibA hibd hb1
        gi_wp2_with fail
        refine ⟨(fun h => (by cases h)), hR.mono ?_⟩
        rintro e W3 ⟨rfl, hJ3, hm3⟩
        have HF := Lib.hid (And.intro hJ3 (HM.out.trans hm3))
        clear hJ3 hm3
        gi_wp2_with fail
        go_roundw
        case rel => exact ⟨m + 1, by rw [HA.out.2.2.1]; simp only; omega, by rw [HA.out.2.2.1]; go_num, by rw [HA.out.2.2.1], HF.out.1, HF.out.2⟩
        case measure => simp [intOf]; omega
      · have hne : (Ne != 0) = true := by simpa using he
        have HF := Lib.hid hjA
        clear hj1 hmid hbA hjA hmA hibA hibd hb1
        gi_wp2_with fail
        refine ⟨fun _ h => (by cases h), ?_⟩
        gi_wp2_with fail
        refine bodyPost_ret (results_none rfl _ _ _) rfl ?_
        refine ⟨⟨_, rfl⟩, m, ?_, HF.out⟩
        rw [← HA.out.2.2.2.2.2.2]
        exact he
end Go.Proofs.YtjblkmjdepdekaaDoor.Fm

/- logs: the records of a half -/
namespace Go.Proofs.YtjblkmjdepdekaaDoor.Wl
open Go.RowKit Go.Lib Go.Joins Go.Proofs.YtjblkmjdepdekaaDoor.By Go.Proofs.YtjblkmjdepdekaaDoor.Dk Go.Proofs.YtjblkmjdepdekaaDoor.Oc Go.Proofs.YtjblkmjdepdekaaDoor.Rg Go.Proofs.YtjblkmjdepdekaaDoor.Ht Go.Proofs.YtjblkmjdepdekaaDoor.Cr Go.Proofs.YtjblkmjdepdekaaDoor.Fm
attribute [local go_sem] Oper.semAt_some

/-- a record that lies in memory -/
structure Rv where
  k : UInt8
  a : Option Addr
  c : Nat
  d : List UInt8
def rcv (x : Rv) : List Value := [.int .u8 (x.k.toNat : Nat), .slice x.a x.d.length x.c]
def rcvs (L : List Rv) : List Value := L.flatMap rcv
def rc (x : Rv) : Rc := (x.k, x.d)
theorem rcvs_len : ∀ L : List Rv, (rcvs L).length = L.length * 2
  | [] => rfl
  | x :: L => by have := rcvs_len L; simp only [rcvs, List.flatMap_cons, List.length_append, List.length_cons] at *; rw [this]; simp [rcv]; omega
theorem rcvs_app (L M : List Rv) : rcvs (L ++ M) = rcvs L ++ rcvs M := by simp [rcvs]
/-- a slice of the call's own that owns records -/
structure IsRs (B : Nat) (w : World) (v : Value) (L : List Rv) : Prop where
  own : w.ownsRow B 34 2 v L.length (rcvs L)
  data : ∀ x ∈ L, w.ownsRow B 5 1 (.slice x.a x.d.length x.c) x.d.length (byteCells x.d)
theorem IsRs.calm {B N : Nat} {w w' : World} {v : Value} {L : List Rv} (h : IsRs B w v L) (hc : Calmly N w w') : IsRs B w' v L := ⟨hc.own h.own, fun x hx => hc.own (h.data x hx)⟩
theorem IsRs.old {B : Nat} {w w' : World} {v : Value} {L : List Rv} (h : IsRs B w v L) (hc : Below w.heap.size w w') : IsRs B w' v L := ⟨own_below h.own hc (Nat.le_refl _), fun x hx => own_below (h.data x hx) hc (Nat.le_refl _)⟩
/-- the records of a chain, as far as it goes -/
def Tells (b : List UInt8) (L : List Rc) : Prop := (∀ i (h : i < L.length), (Fm.at' b 0 i).2.2.2 = 0 ∧ (Fm.at' b 0 i).1 = L[i]) ∧ (Fm.at' b 0 L.length).2.2.2 ≠ 0
/-- without the first seal; whether there is one -/
def stp (s : List Rc × Bool) (r : Rc) : List Rc × Bool := if s.2 = false ∧ r.1 = 255 ∧ r.2 = [] then (s.1, true) else (s.1 ++ [r], s.2)
def uf (L : List Rc) : List Rc × Bool := L.foldl stp ([], false)
theorem uf_snoc (L : List Rc) (r : Rc) : uf (L ++ [r]) = stp (uf L) r := by unfold uf; rw [List.foldl_append]; rfl
theorem cnb_len (t : Nat) (b : List UInt8) (k : Nat) : ∀ f m, (cnb t b k f m).length ≤ 55 * f
  | 0, _ => Nat.zero_le _
  | f + 1, m => by
    have ih := cnb_len t b k f (m + 1)
    unfold cnb
    split
    · rename_i h
      rw [List.length_append]
      have : (((getS b m).drop 9).take (ctn (getS b m))).length ≤ 55 := by rw [List.length_take]; omega
      split
      · simp only [List.length_nil]; omega
      · omega
    · simp
theorem cnt_len (b : List UInt8) (k : Nat) : (cnt b k).length ≤ 55 * k := by
  unfold cnt; split
  · simp
  · exact cnb_len _ _ _ _ _
theorem info34 : (Tryd.prog.info? 34).map (fun i => (i.zero, i.size, i.bytes)) = some (some (.agg #[.int .u8 0, .slice none 0 0]), 2, 32) := by kernel_rfl
theorem cell_mid {n₀ n₁ : Nat} {w W : World} (h : Mid n₀ n₁ w.heap.size w W) {p : Addr} {v : Value} (hc : w.cell? p = some v) (hp : p.block < n₀ ∨ n₁ ≤ p.block) : W.cell? p = some v :=
  (World.cell?_of_block (w := w) (h.block p.block hp (World.block_lt_of_cell? w _ hc))).trans hc
theorem own_mid {n₀ n₁ B : Nat} {w W : World} (h : Mid n₀ n₁ w.heap.size w W) {e : TypeId} {k n : Nat} {v : Value} {xs : List Value} (ho : w.ownsRow B e k v n xs) (hB : n₁ ≤ B) : W.ownsRow B e k v n xs := by
  refine ⟨ho.1, ?_⟩
  rcases ho.2 with h1 | ⟨g, cp, cur, h1, h2, h3, h4⟩
  · exact .inl h1
  · exact .inr ⟨g, cp, cur, h1, h2, (h.block g (.inr (by omega)) (lt_of_block h3)).trans h3, h4⟩
theorem nibs_mid {n₀ n₁ : Nat} {w0 w W : World} (h : Mid n₀ n₁ w.heap.size w W) (hn : Nibs w0) (h0 : w0.heap.size ≤ n₀) (hb : Below w0.heap.size w0 w) : Nibs W := fun i hi =>
  cell_mid h ((hn.old hb) i hi) (.inl (by have := World.block_lt_of_cell? w0 _ (hn i hi); exact Nat.lt_of_lt_of_le this h0))
theorem isB_of_own' {w : World} {B : Nat} {a : Option Addr} {cp : Nat} {l : List UInt8} (h : w.ownsRow B 5 1 (.slice a l.length cp) l.length (byteCells l)) : IsB w a l.length cp l := by
  obtain ⟨x, y, hv, hib⟩ := isB_own h
  simp only [Value.slice.injEq, true_and] at hv
  obtain ⟨rfl, rfl⟩ := hv
  exact hib
/-- what the loop over a half's chain has so far -/
def Rs (w : World) (N p : Nat) (b : List UInt8) (m : Nat) (X : World) : Prop :=
  ∃ v L rv, X.heap[p]? = some (.cells #[v] 31 (0, 0)) ∧ X.heap[p + 1]? = some (.cells #[.bool (uf L).2] 4 (0, 0)) ∧ IsRs N X v rv ∧ rv.map rc = (uf L).1 ∧ L.length = m ∧ (∀ i (h : i < L.length), (Fm.at' b 0 i).2.2.2 = 0 ∧ (Fm.at' b 0 i).1 = L[i]) ∧ Below w.heap.size w X ∧ N ≤ X.heap.size
theorem Rs.calm {w X X' : World} {p N m : Nat} {b : List UInt8} (h : Rs w N p b m X) (hb : Calmly N X X') (hN : w.heap.size ≤ N) : Rs w N p b m X' := by
  obtain ⟨v, L, rv, h1, h2, h3, h4, h5, h6, h7, h8⟩ := h
  exact ⟨v, L, rv, hb.cell h1, hb.cell h2, h3.calm hb, h4, h5, h6, h7.trans (hb.below hN h8), Nat.le_trans h8 hb.size⟩
theorem uf_gen : ∀ (M : List Rc) (s : List Rc × Bool), (M.foldl stp s).1.length ≤ s.1.length + M.length
  | [], _ => Nat.le_refl _
  | r :: M, s => by
    have h := uf_gen M (stp s r)
    rw [List.foldl_cons, List.length_cons]
    have h2 : (stp s r).1.length ≤ s.1.length + 1 := by unfold stp; split <;> simp
    omega
theorem uf_len (M : List Rc) : (uf M).1.length ≤ M.length := by have := uf_gen M ([], false); simpa [uf] using this
theorem stt_ge {b : List UInt8} : ∀ m, (∀ i, i < m → (Fm.at' b 0 i).2.2.2 = 0) → 6 * m ≤ (stt b 0 m).1 ∧ (stt b 0 m).1 ≤ b.length
  | 0, _ => ⟨Nat.le_refl _, Nat.zero_le _⟩
  | m + 1, h => by
    have ih := stt_ge m (fun i hi => h i (by omega))
    have hl := nxt_len (h m (Nat.lt_succ_self _))
    rw [List.length_drop] at hl
    rw [stt_succ]
    simp only
    unfold Fm.at'
    omega
theorem told_len {b : List UInt8} {L : List Rc} (h : ∀ i (h : i < L.length), (Fm.at' b 0 i).2.2.2 = 0 ∧ (Fm.at' b 0 i).1 = L[i]) : 6 * L.length ≤ b.length := by
  have := stt_ge (b := b) L.length (fun i hi => (h i hi).1); omega
theorem cell_two_new (w : World) (v u : Value) (t : TypeId) : ∀ j x, [v, u][j]? = some x → (w.alloc (.cells #[v, u] t)).cell? ((⟨w.heap.size, 0, none⟩ : Addr).add j) = some x := by
  intro j x hj
  match j, hj with
  | 0, hj | 1, hj =>
    simp at hj
    subst hj
    simp [Addr.add]
/-- a record more -/
theorem Rs_more {w A2 W5 : World} {N p m : Nat} {b : List UInt8} {v v5 : Value} {L acc : List Rc} {sl : Bool} {rv : List Rv} {x : Rv} {O : Obj} (hp : w.heap.size ≤ p) (hpN : p + 2 ≤ N)
    (i1 : A2.heap[p]? = some (.cells #[v] 31 (0, 0))) (i2 : A2.heap[p + 1]? = some (.cells #[.bool sl] 4 (0, 0))) (i3 : IsRs N A2 v rv) (i4 : rv.map rc = acc) (hup : uf (L ++ [rc x]) = (acc ++ [rc x], sl)) (i5 : L.length = m)
    (hL : ∀ i (h : i < (L ++ [rc x]).length), (Fm.at' b 0 i).2.2.2 = 0 ∧ (Fm.at' b 0 i).1 = (L ++ [rc x])[i]) (i7 : Below w.heap.size w A2) (i8 : N ≤ A2.heap.size) (hx : A2.ownsRow N 5 1 (.slice x.a x.d.length x.c) x.d.length (byteCells x.d))
    (hg : (A2.alloc O).grownBy W5 v.ownBlock) (ho : W5.ownsRow N 34 2 v5 (rv.length + 1) (rcvs (rv ++ [x]))) :
    KeepsFrom N A2 (W5.setCell ⟨p, 0, none⟩ v5) ∧ Mid w.heap.size (p + 2) N A2 (W5.setCell ⟨p, 0, none⟩ v5) ∧ Rs w N p b (m + 1) (W5.setCell ⟨p, 0, none⟩ v5) := by
  have hfr : Fr (fun q => q = p ∨ some q = v.ownBlock) A2 (W5.setCell ⟨p, 0, none⟩ v5) :=
    Fr.setCell (show Fr (fun q => q = p ∨ some q = v.ownBlock) A2 W5 from ⟨hg.os, hg.tape, hg.output, Nat.le_trans (by simp) hg.size, fun q h1 h2 => (hg.block q (by simp; omega) (fun e => h2 (.inr e))).trans (Below.heap_alloc A2 _ q h1)⟩) (.inl (.inl rfl)) _
  have hrow : ∀ q, some q = v.ownBlock → N ≤ q ∧ ∃ cur, A2.heap[q]? = some (.cells cur 34 (0, 0)) := fun q hq => ⟨(i3.own.lt q hq.symm).1, own_type i3.own hq.symm⟩
  have hk := fr_round (n₀ := w.heap.size) (n₁ := p + 2) (B := N) hfr (fun q hq => by
    rcases hq with rfl | hq
    · exact .inl ⟨hp, by omega⟩
    · obtain ⟨h1, cur, hc⟩ := hrow q hq
      refine .inr ⟨h1, fun o ho => ?_⟩
      rw [hc] at ho
      obtain rfl := Option.some.inj ho
      rfl) hpN i8
  have hz := hfr.size
  have hu8 : ∀ {y : Value} {n : Nat} {xs : List Value}, A2.ownsRow N 5 1 y n xs → (W5.setCell ⟨p, 0, none⟩ v5).ownsRow N 5 1 y n xs := fun {y n xs} hy => own_other hy fun q hq => by
    have h1 := hy.lt q hq
    refine hfr.block q h1.2 fun h2 => ?_
    rcases h2 with rfl | h2
    · omega
    · obtain ⟨_, cur, hc⟩ := hrow q h2
      exact own_not hy hc (by decide) q hq rfl
  have hbox : ∀ q, q < N → q ≠ p → q < A2.heap.size → (W5.setCell ⟨p, 0, none⟩ v5).heap[q]? = A2.heap[q]? := fun q h1 h2 h3 => hfr.block q h3 fun h4 => by
    rcases h4 with rfl | h4
    · exact h2 rfl
    · have := (hrow q h4).1; omega
  have hb5 : W5.heap[p]? = some (.cells #[v] 31 (0, 0)) := (hg.block p (by simp; have := lt_of_block i1; omega) (fun e => by have := (hrow p e).1; omega)).trans ((Below.heap_alloc A2 _ p (lt_of_block i1)).trans i1)
  refine ⟨hk.1, hk.2, v5, L ++ [rc x], rv ++ [x], one_setCell hb5, ?_, ⟨?_, fun y hy => ?_⟩, ?_, by rw [List.length_append, i5]; rfl, hL, i7.trans (hfr.below i7.size (fun q hq => ?_)), by omega⟩
  · rw [hup]
    exact (hbox (p + 1) (by omega) (by omega) (by omega)).trans i2
  · rw [List.length_append]
    exact own_other ho fun q hq => heap_setCell_other W5 _ q _ (by have := (ho.lt q hq).1; show q ≠ p; omega)
  · rcases List.mem_append.1 hy with hy | hy
    · exact hu8 (i3.data y hy)
    · obtain rfl := List.mem_singleton.1 hy
      exact hu8 hx
  · rw [hup, List.map_append, i4]; rfl
  · rcases hq with rfl | hq
    · exact hp
    · have := (hrow q hq).1; omega
theorem results_two {fn : Func} {r1 r2 : Nat} (hres : fn.results = #[.tmp r1, .tmp r2]) (tmps : Array Value) (P : Program) (w : World) : (results fn tmps).run P w = .ok (.tuple #[tmps.getD r1 undef, tmps.getD r2 undef]) w := by
  simp only [results, hres]
  simp
theorem leaveX2 {fn : Func} {tmps : Array Value} {N D r1 r2 : Nat} {X : World} {v1 v2 : Value} {R : Ending → World → Prop} (hres : fn.results = #[.tmp r1, .tmp r2]) (ht1 : tmps.getD r1 undef = v1) (ht2 : tmps.getD r2 undef = v2) (hD : N ≤ D) (h : X.heap[D]? = some (.deferred (some []))) (hR : ∀ X', Calmly N X X' → R (.returned (.tuple #[v1, v2])) X') :
    LeavesInM Fence.wide 3 Tryd.prog fn tmps R [{ target := .collected D, args := #[] }] .returning X := by
  refine ⟨by simp, .inl ⟨D, _, rfl, run_takeDeferred h, ?_⟩⟩
  exact ⟨_, by rw [← ht1, ← ht2]; exact results_two hres _ _ _, hR _ (Calmly.but' (but_put D X (.deferred none)) hD h rfl)⟩
set_option maxRecDepth 20000 in
set_option maxHeartbeats 4000000 in
theorem records_any (g o cap k : Nat) (b : List UInt8) (w : World) (hb : IsB w (some ⟨g, o, none⟩) (64 * k) cap b) (hk : 1 ≤ k ∧ k ≤ 4096) (hn : Nibs w) :
    Calls Tryd.prog 56 #[.slice (some ⟨g, o, none⟩) (64 * k : Nat) cap] w fun e w' => ∃ v L rv, e = .returned (.tuple #[v, .bool (uf L).2]) ∧ Tells (cnt b k) L ∧ IsRs w.heap.size w' v rv ∧ rv.map rc = (uf L).1 ∧ Below w.heap.size w w' := by
  have hb0 : Below w.heap.size w ((w.alloc (.cells #[.slice none 0 0] 31)).alloc (.cells #[.bool false] 4)) := ((Below.refl _ _).alloc (Nat.le_refl _) _).alloc (by simp) _
  have hct := counting_any g o cap k b _ (hb.old hb0) hk
  have x1 : ((w.alloc (.cells #[.slice none 0 0] 31)).alloc (.cells #[.bool false] 4)).heap[w.heap.size]? = some (.cells #[.slice none 0 0] 31 (0, 0)) := heap_old ((Below.refl _ _).alloc (Nat.le_refl _) _) (heap_alloc_new w _)
  have x2 : ((w.alloc (.cells #[.slice none 0 0] 31)).alloc (.cells #[.bool false] 4)).heap[w.heap.size + 1]? = some (.cells #[.bool false] 4 (0, 0)) := by
    have := heap_alloc_new (w.alloc (.cells #[.slice none 0 0] 31)) (.cells #[.bool false] 4); rw [World.size_alloc] at this; exact this
  have HB := Lib.hid (And.intro hb0 (And.intro hct (And.intro x1 (And.intro x2 hn))))
  have hcl := cnt_len b k
  clear hb hb0 hct x1 x2 hn
  refine (callsIn_wide (n := 3)).1 ?_
  refine callsIn_of_wp_marks Tryd.func56 rfl trivial ?_ rfl
  simp only [Tryd.ntmps56, List.size_toArray, List.length_cons, List.length_nil, Nat.reduceAdd, Nat.reduceSub, Array.replicate_succ, Array.replicate_zero, List.push_toArray, List.append_toArray, List.nil_append, List.cons_append]
  refine wpIn_wide.2 ?_
  obtain ⟨C, hC⟩ : ∃ C, C = cnt b k := ⟨_, rfl⟩
  rw [← hC] at HB hcl ⊢
  clear hC
  go_wp2_with fail
  refine HB.out.2.1.mono ?_
  rintro e w1 ⟨v1, rfl, ho1, hb1⟩
  obtain ⟨a1, c1, rfl⟩ := own_shape ho1
  have hz1 := hb1.size
  simp only [World.size_alloc] at hz1 ho1
  have hib : IsB w1 a1 C.length c1 C := isB_of_own' ho1
  have H1 := Lib.hid (And.intro (HB.out.1.trans (hb1.mono (by simp; omega))) (And.intro (heap_old hb1 HB.out.2.2.1) (And.intro (heap_old hb1 HB.out.2.2.2.1) hib)))
  have HZ := Lib.hid hz1
  clear ho1 hb1 hib hz1
  go_wp2_with fail
  refine (scan_any 0 a1 C.length c1 C w1 H1.out.2.2.2 (by omega)).mono ?_
  rintro e w2 ⟨rfl, ac, cc, d1, d2, d3, d4, d5⟩
  have hb2 : Below w.heap.size w w2 := H1.out.1.trans (d4.mono H1.out.1.size)
  have hz1 := HZ.out
  have H2 := Lib.hid (And.intro hb2 (And.intro (heap_old d4 H1.out.2.1) (And.intro (heap_old d4 H1.out.2.2.1) (And.intro d1 (And.intro d2 (And.intro d3 d5))))))
  clear hb2 d1 d2 d3 d4
  go_wp2_with fail
  refine (wpIn_wide (n := 3)).1 ?_
  refine range_exit rfl (by omega) (gf := 62) (lb := #[.pointer (some ⟨w1.heap.size, 0, none⟩), .pointer (some ⟨w1.heap.size + 1, 0, none⟩)]) rfl trivial (enters_of Tryd.func62 (by kernel_rfl) rfl)
    (scan1_own (3 - 1) w.heap.size (w.heap.size + 2) w2.heap.size 0 ac C.length cc C w1.heap.size (w1.heap.size + 1) w2 U32.zero (Nat.le_refl _) ?hK).x (fun _ => rfl)
    (Rs w w2.heap.size w.heap.size C) (fun _ _ _ => False) (fun m X X' h hb => h.calm hb H2.out.1.size) (fun _ _ _ _ h _ => h) (fun _ _ _ h => h.elim) ?h0 (fun m x X X' h hb => ⟨h.1, h.2.1, h.2.2.1, own_below h.2.2.2 hb (Nat.le_refl _)⟩) (fun m x X X' l r h hl hb => ⟨h.1, h.2.1, h.2.2.1, (Calmly.but hb (Nat.zero_le _) hl).own h.2.2.2⟩) ?hround ?hdone ?hstop
  case hK =>
    intro W hm
    refine ⟨nibs_mid hm HB.out.2.2.2.2 (Nat.le_refl _) H2.out.1, isB_of_own' (own_mid hm H2.out.2.2.2.2.2.1 (by omega)), cell_mid hm H2.out.2.2.2.1 (.inr ?_), cell_mid hm H2.out.2.2.2.2.1 (.inr ?_)⟩
    · show w.heap.size + 2 ≤ w1.heap.size; omega
    · show w.heap.size + 2 ≤ w1.heap.size + 1; omega
  case h0 => exact ⟨_, [], [], H2.out.2.1, H2.out.2.2.1, ⟨World.ownsRow_nil _ _ _ _, by simp⟩, rfl, rfl, fun i h => absurd h (Nat.not_lt_zero i), H2.out.1, Nat.le_refl _⟩
  case hround =>
    rintro l m ⟨xat, xk, xd, xa, xco⟩ X hlB ⟨rr, hlr⟩ hI hG
    dsimp only [enc2]
    gi_wp2_with fail
    refine ⟨(Below.refl _ _).alloc (Nat.le_refl _) _, ?_⟩
    intro A2 hbut hI2 hG2
    have hlX := (Array.getElem?_eq_some_iff.1 hlr).1
    have x25 : A2.heap[X.heap.size]? = some (.cells #[.int .u8 (xk.toNat : Nat), .slice xa xd.length xco] 34 (0, 0)) := (hbut.2.2.2.2 _ (by omega)).trans (heap_alloc_new X _)
    have hXA : X.heap.size < A2.heap.size := by have := hbut.2.2.2.1; simp at this; omega
    obtain ⟨v, L, rv, i1, i2, i3, i4, i5, i6, i7, i8⟩ := hI2
    obtain ⟨g1, g2, g3, g4⟩ := hG2
    have hup := uf_snoc L (xk, xd)
    obtain ⟨U, hU⟩ : ∃ U, U = uf L := ⟨_, rfl⟩
    rw [← hU] at hup i2 i4
    have HUF := Lib.hid hU
    obtain ⟨acc, sl⟩ := U
    simp only at i2 i4 hup
    have hL' : ∀ i (h : i < (L ++ [(xk, xd)]).length), (Fm.at' C 0 i).2.2.2 = 0 ∧ (Fm.at' C 0 i).1 = (L ++ [(xk, xd)])[i] := fun i h => by
      rw [List.length_append, List.length_cons, List.length_nil] at h
      by_cases hi : i < L.length
      · rw [List.getElem_append_left hi]; exact i6 i hi
      · have e : i = m := by omega
        subst e
        refine ⟨g1, ?_⟩
        rw [List.getElem_append_right (by omega)]
        simp only [i5, Nat.sub_self, List.getElem_cons_zero]
        exact g3.symm
    obtain ⟨⟨y0, y1⟩, f0, f1⟩ := two_cells x25
    have y4 := cell_of_one i1
    have y5 := cell_of_one i2
    have z4 := free_of_one i1
    have z5 := free_of_one i2
    have HX := Lib.hid (And.intro i1 (And.intro i2 (And.intro i3 (And.intro i4 (And.intro i5 (And.intro hL' (And.intro i7 (And.intro i8 (And.intro hup (And.intro g4 hXA))))))))))
    clear i1 i2 i3 i4 i5 i6 i7 i8 hup hL' g1 g2 g3 g4 hI hG hU
    by_cases hs : sl = false ∧ xk = 255 ∧ xd = []
    · obtain ⟨rfl, rfl, rfl⟩ := hs
      gi_wp2_with fail
      have hfr : Fr (fun q => q = w.heap.size + 1) A2 (A2.setCell ⟨w.heap.size + 1, 0, none⟩ (.bool true)) := Fr.setCell (p := fun q => q = w.heap.size + 1) (Fr.refl _ A2) (.inl rfl) _
      have hk2 := fr_round (n₀ := w.heap.size) (n₁ := w.heap.size + 2) (B := w2.heap.size) hfr (fun q hq2 => .inl (by omega)) (by have := H2.out.2.2.2.2.2.2; omega) HX.out.2.2.2.2.2.2.2.1
      have hoth : ∀ q, q ≠ w.heap.size + 1 → (A2.setCell ⟨w.heap.size + 1, 0, none⟩ (.bool true)).heap[q]? = A2.heap[q]? := fun q hq => heap_setCell_other A2 _ q _ hq
      have hN : w.heap.size + 2 ≤ w2.heap.size := by have := H2.out.2.2.2.2.2.2; omega
      refine ⟨hk2.1, hk2.2, v, L ++ [(255, [])], rv, (hoth _ (by omega)).trans HX.out.1, ?_, ⟨own_other HX.out.2.2.1.own (fun q hq => hoth q (by have := (HX.out.2.2.1.own.lt q hq).1; omega)), fun x hx => own_other (HX.out.2.2.1.data x hx) (fun q hq => hoth q (by have := ((HX.out.2.2.1.data x hx).lt q hq).1; omega))⟩, ?_, by rw [List.length_append, HX.out.2.2.2.2.1]; rfl, HX.out.2.2.2.2.2.1, HX.out.2.2.2.2.2.2.1.trans (hfr.below HX.out.2.2.2.2.2.2.1.size (fun q hq2 => by omega)), by have := hfr.size; have := HX.out.2.2.2.2.2.2.2.1; omega⟩
      · rw [HX.out.2.2.2.2.2.2.2.2.1]
        exact one_setCell (u := .bool true) HX.out.2.1
      · rw [HX.out.2.2.2.2.2.2.2.2.1]
        exact HX.out.2.2.2.1
    · have hup2 : uf (L ++ [(xk, xd)]) = (acc ++ [(xk, xd)], sl) := by
        rw [HX.out.2.2.2.2.2.2.2.2.1]; unfold stp; rw [if_neg hs]
      have hrl : rv.length ≤ 225280 := by
        have h1 := uf_len L
        rw [← HUF.out] at h1
        rw [← HX.out.2.2.2.1, List.length_map] at h1
        have h2 := told_len (b := C) HX.out.2.2.2.2.2.1
        rw [List.length_append] at h2
        omega
      have HU := Lib.hid (And.intro hup2 hrl)
      obtain ⟨i0, hi, hz0, hz1', hz2⟩ := info_parts info34
      clear hup2 hrl
      cases sl
      · by_cases hk : xk = 255
        · have hl0 : ¬ (xd.length : Int) = 0 := by
            intro h
            exact hs ⟨rfl, hk, List.length_eq_zero_iff.1 (by omega)⟩
          subst hk
          clear hs
          gi_wp2_with (gi_at_builtin; refine wpListIn_append_own _ rfl _ _ 31 rfl w2.heap.size 34 i0 _ 2 32 Tryd.underlying31 hi hz0 hz1' hz2 (by rfl) (by decide) v rv.length (rcvs rv) rfl (own_below HX.out.2.2.1.own ((Below.refl _ _).alloc (Nat.le_refl _) _) (Nat.le_refl _)) ⟨A2.heap.size, 0, none⟩ 1 1 [_, _] rfl rfl (cell_two_new _ _ _ _) (by simp [Value.oneCell']) (by have := HU.out.2; unfold maxLen; omega) (by have := HU.out.2; omega) (by have := HX.out.2.2.2.2.2.2.2.1; simp; omega) ?_; intro v5 W5 hown5 hg5 _; obtain ⟨a5, cp5, rfl⟩ := own_shape hown5; have hS5 := (hg5.block w.heap.size (by simp; have := lt_of_block HX.out.1; omega) (fun e => own_not HX.out.2.2.1.own HX.out.1 (by decide) w.heap.size e.symm rfl)).trans ((Below.heap_alloc A2 _ w.heap.size (lt_of_block HX.out.1)).trans HX.out.1); have c5 := cell_of_one hS5; have f5 := free_of_one hS5)
          exact Rs_more (x := ⟨255, xa, xco, xd⟩) (Nat.le_refl _) (by have := H2.out.2.2.2.2.2.2; omega) HX.out.1 HX.out.2.1 HX.out.2.2.1 HX.out.2.2.2.1 HU.out.1 HX.out.2.2.2.2.1 HX.out.2.2.2.2.2.1 HX.out.2.2.2.2.2.2.1 HX.out.2.2.2.2.2.2.2.1 HX.out.2.2.2.2.2.2.2.2.2.1 hg5 (by rw [rcvs_app]; exact hown5)
        · have hk0 : ¬ (xk.toNat : Int) = 255 := fun h => hk (UInt8.toNat_inj.1 (show xk.toNat = 255 by omega))
          clear hs hk
          gi_wp2_with (gi_at_builtin; refine wpListIn_append_own _ rfl _ _ 31 rfl w2.heap.size 34 i0 _ 2 32 Tryd.underlying31 hi hz0 hz1' hz2 (by rfl) (by decide) v rv.length (rcvs rv) rfl (own_below HX.out.2.2.1.own ((Below.refl _ _).alloc (Nat.le_refl _) _) (Nat.le_refl _)) ⟨A2.heap.size, 0, none⟩ 1 1 [_, _] rfl rfl (cell_two_new _ _ _ _) (by simp [Value.oneCell']) (by have := HU.out.2; unfold maxLen; omega) (by have := HU.out.2; omega) (by have := HX.out.2.2.2.2.2.2.2.1; simp; omega) ?_; intro v5 W5 hown5 hg5 _; obtain ⟨a5, cp5, rfl⟩ := own_shape hown5; have hS5 := (hg5.block w.heap.size (by simp; have := lt_of_block HX.out.1; omega) (fun e => own_not HX.out.2.2.1.own HX.out.1 (by decide) w.heap.size e.symm rfl)).trans ((Below.heap_alloc A2 _ w.heap.size (lt_of_block HX.out.1)).trans HX.out.1); have c5 := cell_of_one hS5; have f5 := free_of_one hS5)
          exact Rs_more (x := ⟨xk, xa, xco, xd⟩) (Nat.le_refl _) (by have := H2.out.2.2.2.2.2.2; omega) HX.out.1 HX.out.2.1 HX.out.2.2.1 HX.out.2.2.2.1 HU.out.1 HX.out.2.2.2.2.1 HX.out.2.2.2.2.2.1 HX.out.2.2.2.2.2.2.1 HX.out.2.2.2.2.2.2.2.1 HX.out.2.2.2.2.2.2.2.2.2.1 hg5 (by rw [rcvs_app]; exact hown5)
      · clear hs
        gi_wp2_with (gi_at_builtin; refine wpListIn_append_own _ rfl _ _ 31 rfl w2.heap.size 34 i0 _ 2 32 Tryd.underlying31 hi hz0 hz1' hz2 (by rfl) (by decide) v rv.length (rcvs rv) rfl (own_below HX.out.2.2.1.own ((Below.refl _ _).alloc (Nat.le_refl _) _) (Nat.le_refl _)) ⟨A2.heap.size, 0, none⟩ 1 1 [_, _] rfl rfl (cell_two_new _ _ _ _) (by simp [Value.oneCell']) (by have := HU.out.2; unfold maxLen; omega) (by have := HU.out.2; omega) (by have := HX.out.2.2.2.2.2.2.2.1; simp; omega) ?_; intro v5 W5 hown5 hg5 _; obtain ⟨a5, cp5, rfl⟩ := own_shape hown5; have hS5 := (hg5.block w.heap.size (by simp; have := lt_of_block HX.out.1; omega) (fun e => own_not HX.out.2.2.1.own HX.out.1 (by decide) w.heap.size e.symm rfl)).trans ((Below.heap_alloc A2 _ w.heap.size (lt_of_block HX.out.1)).trans HX.out.1); have c5 := cell_of_one hS5; have f5 := free_of_one hS5)
        exact Rs_more (x := ⟨xk, xa, xco, xd⟩) (Nat.le_refl _) (by have := H2.out.2.2.2.2.2.2; omega) HX.out.1 HX.out.2.1 HX.out.2.2.1 HX.out.2.2.2.1 HU.out.1 HX.out.2.2.2.2.1 HX.out.2.2.2.2.2.1 HX.out.2.2.2.2.2.2.1 HX.out.2.2.2.2.2.2.2.1 HX.out.2.2.2.2.2.2.2.2.2.1 hg5 (by rw [rcvs_app]; exact hown5)
  case hdone =>
    intro D m2 X hD hS hI hK
    dsimp only
    obtain ⟨v, L, rv, i1, i2, i3, i4, i5, i6, i7, i8⟩ := hI
    have c4 := cell_of_one i1
    have c5 := cell_of_one i2
    have HX := Lib.hid (And.intro i3 (And.intro i4 (And.intro (show Tells C L from ⟨i6, by rw [i5]; exact hS⟩) (And.intro i7 (And.intro i8 (And.intro hK hD))))))
    clear i1 i2 i3 i4 i5 i6 i7 i8 hK hD hS
    go_wp2_with fail
    go_region
    all_goals
      go_wp2_with fail
      exact leaveX2 rfl rfl rfl HX.out.2.2.2.2.2.2 HX.out.2.2.2.2.2.1 fun X' hb => ⟨_, L, rv, rfl, HX.out.2.2.1, ⟨Joins.ownsRow_le (hb.own HX.out.1.own) H2.out.1.size, fun x hx => Joins.ownsRow_le (hb.own (HX.out.1.data x hx)) H2.out.1.size⟩, HX.out.2.1, HX.out.2.2.2.1.drew.trans (hb.below H2.out.1.size HX.out.2.2.2.2.1)⟩
  case hstop =>
    rintro D c m X hD h hK
    exact h.elim
end Go.Proofs.YtjblkmjdepdekaaDoor.Wl
