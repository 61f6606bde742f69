
/- fires: all ticks between two, plainly -/
import Derived.Test.YtkkanggkbbmfnaaGreatDoorFi6
namespace Go.Proofs.YtkkanggkbbmfnaaGreatDoor.Fi
open Go.RowKit Go.Lib Go.Proofs.YtkkanggkbbmfnaaGreatDoor.Cn Go.Proofs.YtkkanggkbbmfnaaGreatDoor.Rg
set_option linter.unusedVariables false

theorem roundIn_any {n m k l : Nat} {P : Program} {f : FuncId} {tmps : Array Value} {assign body : Code} {w : World} {R : Ending → World → Prop} (h : RoundIn Fence.wide n P l f tmps assign body w R) : RoundIn (Fence.wide.inRound k) m P l f tmps assign body w R :=
  ⟨h.1, fun c cs _ => h.2 c cs (room_wide _)⟩
theorem yieldAt_any {n m l : Nat} {P : Program} {args : Array Value} {w : World} {R : Ending → World → Prop} (h : YieldAt Fence.wide n P l args w R) : YieldAt Fence.wide m P l args w R := by
  obtain ⟨fn, tmps, assign, body, hy, hR⟩ := h
  exact ⟨fn, tmps, assign, body, hy, hR.1, fun c cs _ => hR.2 c cs (room_wide _)⟩
theorem callsIn_any {n m : Nat} {P : Program} {f : FuncId} {args : Array Value} {w : World} {R : Ending → World → Prop} (h : CallsIn Fence.wide n P f args w R) : CallsIn Fence.wide m P f args w R := callsIn_wide.2 (callsIn_wide.1 h)
theorem SeqI.any {n m : Nat} {P : Program} {g : Nat} {lb : Array Value} {box : Nat → Prop} {x0 : Int} {G : Int → Int → Prop} {S : Int → Prop} {w : World} (h : SeqI Fence.wide n P g lb box x0 G S w) : SeqI Fence.wide m P g lb box x0 G S w :=
  fun own l J K W hW hown hJ hK hY hJ0 => callsIn_any (h own l J K W hW hown hJ hK (fun x y A h1 h2 h3 => yieldAt_any (hY x y A h1 h2 h3)) hJ0)
/-- the boxes that the iterator reads: the two ticks', the expression's -/
abbrev betB (b : Nat) : Array Value := #[.pointer (some ⟨b + 1, 0, none⟩), .pointer (some ⟨b + 2, 0, none⟩), .pointer (some ⟨b, 0, none⟩)]
/-- which tick comes next -/
def BG (e : Ex) (tO s t : Int) : Prop := nx e s t ∧ t ≤ tO
def BS (e : Ex) (tO s : Int) : Prop := ∀ u, s < u → u ≤ tO → ¬ nm e u
/-- days up to x are through -/
structure Opn (e : Ex) (a x s : Int) : Prop where
  ge : a ≤ s
  no : ∀ u, nm e u → s < u → x < u - u % 1440
  alt : s = a ∨ (x % 1440 = 0 ∧ s < x + 1440)
/-- .. and ticks of day F up to p -/
structure Ipn (e : Ex) (a F p s : Int) : Prop where
  ge : a ≤ s
  no : ∀ u, nm e u → s < u → F ≤ u ∧ p < u
  lt : s ≤ p ∨ s < F
  alt : s = a ∨ s < F + 1440
theorem Opn.start (e : Ex) (a : Int) : Opn e a (a + 1 - (a + 1) % 1440 - 1) a := ⟨Int.le_refl _, fun u _ hu => by omega, .inl rfl⟩
theorem Opn.day {e : Ex} {a x s F tO : Int} (h : Opn e a x s) (g : DG e tO x F) : Ipn e a F a s := by
  have hF := dn_day g.2.1.2
  refine ⟨h.ge, fun u hu hs => ?_, ?_, ?_⟩
  · have h1 := h.no u hu hs
    have h2 := nm_dl hu
    have h3 : F ≤ u - u % 1440 := by
      by_cases hc : F ≤ u - u % 1440
      · exact hc
      · exact absurd h2 (g.2.2.2 _ h1 (by omega))
    have := h.ge
    omega
  · rcases h.alt with h1 | ⟨h1, h2⟩
    · exact .inl (by omega)
    · have := g.1; exact .inr (by omega)
  · rcases h.alt with h1 | ⟨h1, h2⟩
    · exact .inl h1
    · have := g.1; exact .inr (by omega)
theorem Ipn.next {e : Ex} {a F p s t : Int} (h : Ipn e a F p s) (hd : dn e F) (g : TG e F a p t) : nx e s t ∧ Ipn e a F t t := by
  obtain ⟨g0, g1, g2, g3⟩ := g
  have l1 := g2.1
  have l2 := g2.2.1
  have hst : s < t := by rcases h.lt with h | h <;> omega
  refine ⟨⟨hst, (nm_tn hd l1 l2).2 g2, fun u h1 h2 hu => ?_⟩, by omega, fun u _ hu => by omega, .inl (Int.le_refl _), .inr l2⟩
  obtain ⟨i1, i2⟩ := h.no u hu h1
  exact g3 u i2 h2 ((nm_tn hd i1 (by omega)).1 hu)
theorem Ipn.far {e : Ex} {a F p s t tO : Int} (h : Ipn e a F p s) (hd : dn e F) (g : TG e F a p t) (ht : tO < t) : BS e tO s := fun u h1 h2 hu => (h.next hd g).1.2.2 u h1 (by omega) hu
theorem Ipn.done {e : Ex} {a F p s : Int} (h : Ipn e a F p s) (hd : dn e F) (g : TS e F p) : Opn e a F s := by
  have hF := dn_day hd
  refine ⟨h.ge, fun u hu hs => ?_, h.alt.elim .inl (fun h => .inr ⟨hF.2, h⟩)⟩
  obtain ⟨i1, i2⟩ := h.no u hu hs
  by_cases hc : u < F + 1440
  · exact absurd ((nm_tn hd i1 hc).1 hu) (g u i2)
  · omega
theorem Opn.done {e : Ex} {a x s tO : Int} (h : Opn e a x s) (g : DS e tO x) : BS e tO s := fun u h1 h2 hu => g _ (h.no u hu h1) (by have := nm_nonneg hu; omega) (nm_dl hu)
theorem between_any (e : Ex) (a t : Int) (ha : Ca.I64 a) (ht : Ca.I64 t) (w : World) (hd : Db w) :
    Calls Tryz.prog 26 #[exv e, .int .i64 a, .int .i64 t] w fun r w' => r = .returned (.func (.func 43) #[] (betB w.heap.size)) ∧ Below w.heap.size w w' ∧ DB w.heap.size e (lo a) (up t) w' := by
  have hmf : ∀ (fn : Fn) (first cap : Array Value) (w : World), (Instr.makeFunc fn first cap).run Tryz.prog w = .ok (.func fn first cap) w := fun _ _ _ _ => rfl
  have hA : lo a = max a (-1) := rfl
  have hT : up t = min t 1099511627776 := rfl
  rw [hA, hT]
  obtain ⟨V, hV⟩ : ∃ V, V = ((w.alloc (.cells (exC e) 57)).alloc (.cells #[.int .i64 (max a (-1))] 2)).alloc (.cells #[.int .i64 (min t 1099511627776)] 2) := ⟨_, rfl⟩
  have hb : Below w.heap.size w V := by rw [hV]; exact (((Below.refl _ _).alloc (Nat.le_refl _) _).alloc (by simp) _).alloc (by simp; omega) _
  have q0 : V.heap[w.heap.size]? = some (.cells (exC e) 57 (0, 0)) := by
    rw [hV]; exact (Below.heap_alloc _ _ _ (by simp; omega)).trans (two_new w _ 57 #[.int .i64 (max a (-1))] 2).2.1
  have q1 : V.heap[w.heap.size + 1]? = some (.cells #[.int .i64 (max a (-1))] 2 (0, 0)) := by
    rw [hV]; exact (Below.heap_alloc _ _ _ (by simp)).trans (two_new w _ 57 #[.int .i64 (max a (-1))] 2).2.2.1
  have q2 : V.heap[w.heap.size + 2]? = some (.cells #[.int .i64 (min t 1099511627776)] 2 (0, 0)) := by
    have := (two_new (w.alloc (.cells (exC e) 57)) #[.int .i64 (max a (-1))] 2 #[.int .i64 (min t 1099511627776)] 2).2.2.1
    rw [hV]; simpa using this
  have HV := Lib.hid (And.intro hV (And.intro hb (show DB w.heap.size e (max a (-1)) (min t 1099511627776) V from ⟨q0, q1, q2, hd.old hb⟩)))
  clear hV hb q0 q1 q2 hd
  go_enter Tryz.func26, Tryz.ntmps26
  go_wp2_with go_in
  go_ret
  exact ⟨rfl, by rw [← HV.out.1]; exact HV.out.2⟩
end Go.Proofs.YtkkanggkbbmfnaaGreatDoor.Fi
