
/- frames: the contract of Good -/
import Derived.Test.YtjblkmjdepdekaaDoorFm4
namespace Go.Proofs.YtjblkmjdepdekaaDoor.Fm
open Go.RowKit Go.Lib Go.Proofs.YtjblkmjdepdekaaDoor.By Go.Proofs.YtjblkmjdepdekaaDoor.Oc Go.Proofs.YtjblkmjdepdekaaDoor.Cr

theorem add_add2 (x : Addr) (i j : Nat) : (x.add i).add j = x.add (i + j) := by
  by_cases hi : i = 0
  · subst hi; simp [Addr.add]
  · by_cases hj : j = 0
    · subst hj; simp [Addr.add]
    · simp [Addr.add, hi, hj, Nat.add_assoc]
/-- what is left of it, from a place on -/
theorem IsB.from {w : World} {a : Option Addr} {len cap k : Nat} {l : List UInt8} (h : IsB w a len cap l) (hk : k ≤ len) : IsB w (a.map fun x => x.add k) (len - k) (cap - k) (l.drop k) := by
  obtain ⟨h1, ⟨rfl, h3, h4⟩ | ⟨x, rfl, h3, h4, h5⟩⟩ := h
  · exact ⟨by simp; omega, .inl ⟨rfl, by omega, by omega⟩⟩
  · refine ⟨by simp; omega, .inr ⟨_, rfl, by omega, by omega, fun j u hu => ?_⟩⟩
    rw [add_add2]
    refine h5 _ u ?_
    simpa [byteCells, List.getElem?_drop] using hu
theorem IsB.from0 {w : World} {a : Option Addr} {len cap k : Nat} {l : List UInt8} (h : IsB w a len cap l) (hk : k ≤ len) (hc : cap = k) : IsB w a (len - k) 0 (l.drop k) := by
  obtain ⟨h1, ⟨rfl, h3, h4⟩ | ⟨x, rfl, h3, h4, h5⟩⟩ := h
  · exact ⟨by simp; omega, .inl ⟨rfl, by omega, rfl⟩⟩
  · have e : l.drop k = [] := by rw [List.drop_eq_nil_iff]; omega
    rw [e]
    exact ⟨by simp; omega, .inr ⟨_, rfl, by omega, by omega, fun j u hu => by simp [byteCells] at hu⟩⟩

end Go.Proofs.YtjblkmjdepdekaaDoor.Fm
