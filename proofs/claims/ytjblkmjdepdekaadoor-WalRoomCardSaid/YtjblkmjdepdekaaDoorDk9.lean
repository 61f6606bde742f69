
/- disks: the chapter's example; what a disk that isn't there answers -/
import Derived.Test.YtjblkmjdepdekaaDoorDk8
import Derived.Lib.SmallJoins
namespace Go.Proofs.YtjblkmjdepdekaaDoor.Dk
open Go.RowKit Go.Lib Go.Proofs.YtjblkmjdepdekaaDoor.By Go.Proofs.YtjblkmjdepdekaaDoor.Ht

theorem isB_one (w : World) (c : UInt8) (fr : Nat × Nat) : IsB (w.alloc (.cells #[.int .u8 (c.toNat : Nat)] 5 fr)) (some ⟨w.heap.size, 0, none⟩) 1 1 [c] := by
  refine ⟨rfl, .inr ⟨_, rfl, Nat.le_refl _, by unfold maxLen; omega, fun j u hu => ?_⟩⟩
  rw [Addr.add_mid, Nat.zero_add, cell_of_row _ _ j _ _ _ (heap_alloc_new w _)]
  simpa [byteCells] using hu
theorem getM_one (G : List UInt8) (i : Nat) : getM G i 1 = getS G i := rfl
section
variable {w : World} {B bd gs cs gn cn n : Nat} {vw : Value} {F G : List UInt8} {W : List Wr} {dn : Bool}
theorem IsDk.foot_ge (h : IsDk w B bd gs cs gn cn vw n F G W dn) : ∀ k, Foot bd gs gn vw k → B ≤ k := by
  rintro k (rfl | rfl | rfl | hk)
  · exact h.hb
  · exact (h.os.lt k rfl).1
  · exact (h.on.lt k rfl).1
  · exact (h.ow.lt k hk.symm).1
theorem IsDk.below {w' : World} (h : IsDk w B bd gs cs gn cn vw n F G W dn) (hf : Fr (Foot bd gs gn vw) w w') : Below B w w' := hf.below (Nat.le_trans h.hb (Nat.le_of_lt (lt_of_block h.blk))) h.foot_ge
end
theorem first_byte {w : World} {a : Option Addr} {len cap : Nat} {l : List UInt8} {c : UInt8} (h : IsB w a len cap l) (hc : l[0]? = some c) : ∃ x, a = some x ∧ w.cell? x = some (.int .u8 (c.toNat : Nat)) := by
  obtain ⟨h0, e⟩ := List.getElem?_eq_some_iff.1 hc
  obtain ⟨x, hx, hcx⟩ := h.at h0
  refine ⟨x, hx, ?_⟩
  rw [e] at hcx
  have : x.add 0 = x := by obtain ⟨b, o, sp⟩ := x; unfold Addr.add; split <;> simp_all
  rwa [this] at hcx
end Go.Proofs.YtjblkmjdepdekaaDoor.Dk
