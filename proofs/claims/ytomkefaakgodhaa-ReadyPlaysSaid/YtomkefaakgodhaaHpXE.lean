
/- heaps of string and uint64: one that lies behind a place -/
import Derived.Test.YtomkefaakgodhaaHpLE
namespace Go.Proofs.Ytomkefaakgodhaa.HpE
open Go.RowKit Go.Lib Go.Sort Hp
set_option linter.unusedVariables false
/-- a heap whose blocks all lie from B on -/
def Hx (B : Nat) (w : World) (hb : Nat) (m : List (K × Int)) : Prop := ∃ S, Hv S w hb m ∧ ∀ k, S k → B ≤ k
theorem Hx.old {B : Nat} {w Y : World} {hb : Nat} {m : List (K × Int)} (h : Hx B w hb m) (e : Below w.heap.size w Y) : Hx B Y hb m := by
  obtain ⟨S, h1, h2⟩ := h
  exact ⟨S, h1.old e, h2⟩
theorem Hx.mono {B C : Nat} {w : World} {hb : Nat} {m : List (K × Int)} (h : Hx B w hb m) (e : C ≤ B) : Hx C w hb m := by
  obtain ⟨S, h1, h2⟩ := h
  exact ⟨S, h1, fun k hk => Nat.le_trans e (h2 k hk)⟩
theorem Hx.perm {B : Nat} {w : World} {hb : Nat} {m m' : List (K × Int)} (h : Hx B w hb m) (e : m.Perm m') : Hx B w hb m' := by
  obtain ⟨S, h1, h2⟩ := h
  exact ⟨S, h1.perm e, h2⟩
theorem Hx.of {B : Nat} {S : Nat → Prop} {w w' : World} {hb : Nat} {m : List (K × Int)} (h : Hw S w hb w' m) (hs : ∀ k, S k → B ≤ k) (hB : B ≤ w.heap.size) : Hx B w' hb m ∧ Below B w w' := by
  obtain ⟨S', h1, h2, h3⟩ := h
  exact ⟨⟨S', h1, fun k hk => (h3 k hk).elim (hs k) (fun e => Nat.le_trans hB e)⟩, h2.below hB hs⟩
theorem new_x (w : World) : Calls Try.prog 23 #[] w fun e w' => e = .returned (.pointer (some ⟨w.heap.size, 0, none⟩)) ∧ Hx w.heap.size w' w.heap.size [] ∧ Below w.heap.size w w' := by
  refine (new_any w).mono ?_
  rintro e w' ⟨rfl, h1, h2⟩
  exact ⟨rfl, ⟨_, ⟨_, _, _, _, h1, fun j _ hj => absurd hj (by simp), List.Perm.refl _⟩, fun k hk => Nat.le_of_eq hk.symm⟩, h2⟩
section
variable {B : Nat} {w : World} {hb : Nat} {m : List (K × Int)}
theorem Hx.put (h : Hx B w hb m) (hB : B ≤ w.heap.size) {k : K} (hk : wk k) (r : Int) (hn : m.length < 1000000) :
    Calls Try.prog 24 #[.pointer (some ⟨hb, 0, none⟩), ek k, er r] w fun e w' => e = .returned (.bool (decide (k ∈ m.map (·.1)))) ∧ Hx B w' hb (put k r m) ∧ Below B w w' := by
  obtain ⟨S, h1, h2⟩ := h
  refine (put_any h1 hk r hn).mono ?_
  rintro e w' ⟨rfl, h3⟩
  exact ⟨rfl, Hx.of h3 h2 hB⟩
theorem Hx.len (h : Hx B w hb m) : Calls Try.prog 32 #[.pointer (some ⟨hb, 0, none⟩)] w fun e w' => e = .returned (.int .i64 ((m.length : Nat) : Int)) ∧ w' = w := by
  obtain ⟨S, h1, h2⟩ := h
  exact h1.len
theorem Hx.pop (h : Hx B w hb m) (hB : B ≤ w.heap.size) (hm : m ≠ []) (hn : m.length ≤ 1000000) :
    Calls Try.prog 27 #[.pointer (some ⟨hb, 0, none⟩)] w fun e w' => ∃ x, Lst m x ∧ e = .returned (.tuple #[item x, .bool true]) ∧ Hx B w' hb (cut x.1 m) ∧ Below B w w' := by
  obtain ⟨S, h1, h2⟩ := h
  refine (pop_some h1 hm hn).mono ?_
  rintro e w' ⟨x, hx, rfl, h3⟩
  exact ⟨x, hx, rfl, Hx.of h3 h2 hB⟩
theorem Hx.nodup (h : Hx B w hb m) : (m.map (·.1)).Nodup := h.elim fun _ h => h.1.nodup
theorem Hx.keys (h : Hx B w hb m) : ∀ x ∈ m, wk x.1 := h.elim fun _ h => h.1.keys
end
end Go.Proofs.Ytomkefaakgodhaa.HpE
