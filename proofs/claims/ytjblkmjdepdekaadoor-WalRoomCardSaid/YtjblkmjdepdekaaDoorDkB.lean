
/- disks: whatever is written; acts that came in -/
import Derived.Test.YtjblkmjdepdekaaDoorDk9
import Derived.Test.YtjblkmjdepdekaaDoorDkM
import Derived.Shelf.Abstract
import Derived.Shelf.RegionOpen
namespace Go.Proofs.YtjblkmjdepdekaaDoor.Dk
open Go.RowKit Go.Lib Go.Proofs.YtjblkmjdepdekaaDoor.By Go.Proofs.YtjblkmjdepdekaaDoor.Ht
section
variable {w : World} {B bd gs cs gn cn n : Nat} {vw : Value} {F G : List UInt8} {W : List Wr} {dn : Bool}
theorem write_any (h : IsDk w B bd gs cs gn cn vw n F (ov F W) W false) (i : Int) (hi : i ≤ 9223372036854775807) (a : Option Addr) (len cap : Nat) (l : List UInt8) (hl : len ≤ 64) (hb : IsB w a len cap l) (hWl : W.length ≤ 1000000) :
    Calls Tryd.prog 24 #[.pointer (some ⟨bd, 0, none⟩), .int .i64 i, .slice a len cap] w fun e w' => ∃ (e0 : Int) (vw' : Value) (W' : List Wr), e = .returned (.int .i64 e0) ∧ IsDk w' B bd gs cs gn cn vw' n F (ov F W') W' false ∧
      ((e0 = 3 ∧ W' = W) ∨ ∃ k : Nat, i = k ∧ k < n ∧ e0 = 0 ∧ W' = W ++ [(k, full l)]) ∧ (vw'.ownBlock = vw.ownBlock ∨ ∃ g, vw'.ownBlock = some g ∧ w.heap.size ≤ g) ∧ Fr (Foot bd gs gn vw) w w' := by
  by_cases h1 : 0 ≤ i ∧ i < n
  · obtain ⟨k, rfl⟩ : ∃ k : Nat, i = k := ⟨i.toNat, by omega⟩
    refine (write_ok h k (by omega) a len cap l hl hb hWl).mono ?_
    rintro e w' ⟨rfl, ⟨vw', hd, hv⟩, hf⟩
    exact ⟨0, vw', _, rfl, by rw [ov_snoc]; exact hd, .inr ⟨k, rfl, by omega, rfl, rfl⟩, hv, hf⟩
  · refine (write_range h i hi (by unfold hasB; simp; omega) _).mono ?_
    rintro e w' ⟨rfl, rfl⟩
    exact ⟨3, vw, W, rfl, h, .inl ⟨rfl, rfl⟩, .inl rfl, Fr.refl _ _⟩
theorem IsDk.okW (h : IsDk w B bd gs cs gn cn vw n F G W dn) : OkW n W := h.hw
theorem IsDk.foot_lt (h : IsDk w B bd gs cs gn cn vw n F G W dn) : ∀ k, Foot bd gs gn vw k → k < w.heap.size := by
  rintro k (rfl | rfl | rfl | hk)
  · exact lt_of_block h.blk
  · exact (h.os.lt k rfl).2
  · exact (h.on.lt k rfl).2
  · exact (h.ow.lt k hk.symm).2
/-- a row of another kind is no disk's -/
theorem IsDk.not_foot (h : IsDk w B bd gs cs gn cn vw n F G W dn) {q : Nat} {C : Array Value} {t : TypeId} {fr : Nat × Nat} (hq : w.heap[q]? = some (.cells C t fr)) (h1 : 63 ≠ t) (h2 : 79 ≠ t) (h3 : 81 ≠ t) : ¬ Foot bd gs gn vw q := by
  rintro (rfl | rfl | rfl | hk)
  · have := h.blk; rw [hq] at this; simp at this; exact h1 this.2.1.symm
  · exact own_not h.os hq h2 q rfl rfl
  · exact own_not h.on hq h2 q rfl rfl
  · exact own_not h.ow hq h3 q hk.symm rfl
/-- a row of bytes stays -/
theorem IsDk.bytes {w' : World} {B2 m : Nat} {v : Value} {xs : List Value} (h : IsDk w B bd gs cs gn cn vw n F G W dn) (hf : Fr (Foot bd gs gn vw) w w') (ho : w.ownsRow B2 5 1 v m xs) : w'.ownsRow B2 5 1 v m xs :=
  own_other ho fun g hg => by
    obtain ⟨cur, hc⟩ := own_type ho hg
    exact hf.block g (ho.lt g hg).2 (h.not_foot hc (by decide) (by decide) (by decide))
end
/-- an act that came in: its numbers, where its bytes lie, these -/
structure Act4 where
  k : Int
  at' : Int
  n : Int
  a : Option Addr
  cap : Nat
  l : List UInt8
  keep : Nat
def ActAt (w : World) (b o i : Nat) (x : Act4) : Prop :=
  (w.cell? ⟨b, o + i * 5, none⟩ = some (.int .i64 x.k) ∧ w.cell? ⟨b, o + i * 5 + 1, none⟩ = some (.int .i64 x.at') ∧ w.cell? ⟨b, o + i * 5 + 2, none⟩ = some (.int .i64 x.n) ∧
    w.cell? ⟨b, o + i * 5 + 3, none⟩ = some (.slice x.a x.l.length x.cap) ∧ w.cell? ⟨b, o + i * 5 + 4, none⟩ = some (.int .u64 (x.keep : Nat))) ∧ IsB w x.a x.l.length x.cap x.l ∧ x.at' ≤ 9223372036854775807
def IsActs (w : World) (a : Option Addr) (L : List Act4) : Prop := L = [] ∨ ∃ b o, a = some ⟨b, o, none⟩ ∧ ∀ i (h : i < L.length), ActAt w b o i L[i]
theorem ActAt.old {w w' : World} {b o i : Nat} {x : Act4} (h : ActAt w b o i x) (hb : Below w.heap.size w w') : ActAt w' b o i x := by
  obtain ⟨⟨h1, h2, h3, h4, h5⟩, h6, h7⟩ := h
  have hlt := World.block_lt_of_cell? w _ h1
  have hc : ∀ o', w'.cell? ⟨b, o', none⟩ = w.cell? ⟨b, o', none⟩ := fun o' => hb.cell (p := ⟨b, o', none⟩) hlt
  exact ⟨⟨(hc _).trans h1, (hc _).trans h2, (hc _).trans h3, (hc _).trans h4, (hc _).trans h5⟩, h6.old hb, h7⟩
theorem IsActs.old {w w' : World} {a : Option Addr} {L : List Act4} (h : IsActs w a L) (hb : Below w.heap.size w w') : IsActs w' a L := by
  rcases h with h | ⟨b, o, e, h⟩
  · exact .inl h
  · exact .inr ⟨b, o, e, fun i hi => (h i hi).old hb⟩
end Go.Proofs.YtjblkmjdepdekaaDoor.Dk
