/- expressions: is a moment, a tick, named; the chapter's example -/
import Derived.Test.YtcodjknhnhdkfaaGreatDoorBr26
import Derived.Test.YtcodjknhnhdkfaaGreatDoorBr24
namespace Go.Proofs.YtcodjknhnhdkfaaGreatDoor.Cn
open Go.RowKit Go.Lib Go.Proofs.YtcodjknhnhdkfaaGreatDoor.Ht
set_option linter.unusedVariables false

/-- is a number among values -/
def hb (n : Nat) (x : Int) : Bool := decide (0 ≤ x) && n.testBit x.toNat
def namesB (e : Ex) (mo d wd h mi : Int) : Bool :=
  hb e.a mi && (hb e.b h && (hb e.d mo && (if (e.x || e.y) = true then hb e.c d && hb e.e wd else hb e.c d || hb e.e wd)))
structure ExOk (e : Ex) : Prop where
  a : e.a < 18446744073709551616
  b : e.b < 18446744073709551616
  c : e.c < 18446744073709551616
  d : e.d < 18446744073709551616
  e : e.e < 18446744073709551616
theorem exOk_parse (s : L) : ExOk (parseV s) := by
  unfold parseV
  split
  · exact ⟨mk_lt _, mk_lt _, mk_lt _, mk_lt _, mk_lt _⟩
  · exact ⟨by decide, by decide, by decide, by decide, by decide⟩
end Go.Proofs.YtcodjknhnhdkfaaGreatDoor.Cn
namespace Go.Proofs.YtcodjknhnhdkfaaGreatDoor.Ca
open Go.RowKit Go.Lib
set_option linter.unusedVariables false

theorem bcell {W w1 : World} (hb : Below W.heap.size W w1) : (∀ b o, b < W.heap.size → w1.cell? ⟨b, o, none⟩ = W.cell? ⟨b, o, none⟩) ∧ (∀ b o, b < W.heap.size → w1.frozen? ⟨b, o, none⟩ = W.frozen? ⟨b, o, none⟩) :=
  ⟨fun b o h => hb.cell (p := ⟨b, o, none⟩) h, fun b o h => hb.frozen (p := ⟨b, o, none⟩) h⟩
theorem old_blk {w w' : World} {b : Nat} {o : Obj} (hb : Below w.heap.size w w') (h : w.heap[b]? = some o) : w'.heap[b]? = some o := (hb.block b (by
  have := (Array.getElem?_eq_some_iff.1 h).1; exact this)).trans h

end Go.Proofs.YtcodjknhnhdkfaaGreatDoor.Ca
namespace Go.Proofs.YtcodjknhnhdkfaaGreatDoor.Cn
open Go.RowKit Go.Lib Go.Proofs.YtcodjknhnhdkfaaGreatDoor.Ht
set_option linter.unusedVariables false

/-- what is told of a tick -/
def AtIs (e : Ex) (t : Int) (b : Bool) : Prop :=
  ((t < 0 ∨ 1099511627776 < t) ∧ b = false) ∨ ((0 ≤ t ∧ t ≤ 1099511627776) ∧ ∃ y mo d wd h mi, Ca.IsM t y mo d wd h mi ∧ b = namesB e mo d wd h mi)
theorem isM_in {t y mo d wd h mi : Int} (i : Ca.IsM t y mo d wd h mi) : Ca.I64 mo ∧ Ca.I64 d ∧ Ca.I64 wd ∧ Ca.I64 h ∧ Ca.I64 mi := by
  have h1 := i.m1; have h2 := i.m2; have h3 := i.d1; have h4 := i.d2; have h5 := Ca.dm_le y mo; have h6 := i.wd; have h7 := i.h; have h8 := i.mi
  unfold Ca.I64
  omega
theorem AtIs.same {e : Ex} {t : Int} {b c : Bool} (h : AtIs e t b) (k : AtIs e t c) : b = c := by
  rcases h with ⟨h1, rfl⟩ | ⟨h1, y, mo, d, wd, hh, mi, hi, rfl⟩ <;> rcases k with ⟨k1, rfl⟩ | ⟨k1, y', mo', d', wd', hh', mi', hj, rfl⟩
  · rfl
  · omega
  · omega
  · obtain ⟨rfl, rfl, rfl, rfl, rfl, rfl⟩ := hi.same hj; rfl
theorem cell_new (w : World) (C : Array Value) (t : TypeId) : Below w.heap.size w (w.alloc (.cells C t)) ∧ (w.alloc (.cells C t)).heap[w.heap.size]? = some (.cells C t (0, 0)) ∧ (w.alloc (.cells C t)).heap.size = w.heap.size + 1 :=
  ⟨(Below.refl _ _).alloc (Nat.le_refl _) _, heap_alloc_new w _, by simp⟩
theorem ex_lives : parseE [48, 32, 49, 50, 32, 49, 32, 42, 32, 109, 111, 110] = 0 ∧ parseV [48, 32, 49, 50, 32, 49, 32, 42, 32, 109, 111, 110] = ⟨1, 4096, 2, 8190, 2, false, false⟩ := by
  constructor
  · decide +kernel
  · kernel_rfl
theorem at720 : AtIs ⟨1, 4096, 2, 8190, 2, false, false⟩ 720 true := .inr ⟨by decide, 2000, 1, 1, 6, 12, 0, ⟨by decide, by decide, by decide, by decide, by decide, by decide, by decide, by decide, by decide⟩, by decide +kernel⟩
theorem at721 : AtIs ⟨1, 4096, 2, 8190, 2, false, false⟩ 721 false := .inr ⟨by decide, 2000, 1, 1, 6, 12, 1, ⟨by decide, by decide, by decide, by decide, by decide, by decide, by decide, by decide, by decide⟩, by decide +kernel⟩
theorem at2160 : AtIs ⟨1, 4096, 2, 8190, 2, false, false⟩ 2160 false := .inr ⟨by decide, 2000, 1, 2, 0, 12, 0, ⟨by decide, by decide, by decide, by decide, by decide, by decide, by decide, by decide, by decide⟩, by decide +kernel⟩
theorem at3600 : AtIs ⟨1, 4096, 2, 8190, 2, false, false⟩ 3600 true := .inr ⟨by decide, 2000, 1, 3, 1, 12, 0, ⟨by decide, by decide, by decide, by decide, by decide, by decide, by decide, by decide, by decide⟩, by decide +kernel⟩
end Go.Proofs.YtcodjknhnhdkfaaGreatDoor.Cn
