
/- disks: plain mathematics of sectors: what waits written over what was synced (of no program but Sc, Dk5, Dk7) -/
import Derived.Test.YtjblkmjdepdekaaDoorDk9
namespace Go.Proofs.YtjblkmjdepdekaaDoor.Dk
open Go.RowKit Go.Lib Go.Proofs.YtjblkmjdepdekaaDoor.By

/-- what waits, written over the sectors -/
def ov (F : List UInt8) (W : List Wr) : List UInt8 := W.foldl (fun F x => setS F x.1 x.2) F
def OkW (n : Nat) (W : List Wr) : Prop := ∀ x ∈ W, x.1 < n ∧ x.2.length = 64
theorem ov_snoc (F : List UInt8) (W : List Wr) (x : Wr) : ov F (W ++ [x]) = setS (ov F W) x.1 x.2 := by unfold ov; rw [List.foldl_append]; rfl
theorem ov_len {n : Nat} : ∀ (W : List Wr) (F : List UInt8), F.length = 64 * n → OkW n W → (ov F W).length = 64 * n
  | [], _, h, _ => h
  | x :: r, F, h, hw => ov_len r _ (length_setS h (hw x (by simp)).1 (hw x (by simp)).2) (fun y hy => hw y (by simp [hy]))
theorem ov_get {n : Nat} : ∀ (W : List Wr) (F : List UInt8), F.length = 64 * n → OkW n W → ∀ j, (∀ x ∈ W, x.1 ≠ j) → getS (ov F W) j = getS F j
  | [], _, _, _, _, _ => rfl
  | x :: r, F, h, hw, j, hj => by
    have hx := hw x (by simp)
    show getS (ov (setS F x.1 x.2) r) j = getS F j
    rw [ov_get r _ (length_setS h hx.1 hx.2) (fun y hy => hw y (by simp [hy])) j (fun y hy => hj y (by simp [hy])), getS_other h hx.1 hx.2 (fun e => hj x (by simp) e.symm)]
/-- a sector is one of those that were written, or as it was -/
theorem ov_one {n : Nat} : ∀ (W : List Wr) (F : List UInt8), F.length = 64 * n → OkW n W → ∀ j, getS (ov F W) j = getS F j ∨ ∃ x ∈ W, x.1 = j ∧ getS (ov F W) j = x.2
  | [], _, _, _, _ => .inl rfl
  | x :: r, F, h, hw, j => by
    have hx := hw x (by simp)
    rcases ov_one r (setS F x.1 x.2) (length_setS h hx.1 hx.2) (fun y hy => hw y (by simp [hy])) j with h1 | ⟨y, hy, h2, h3⟩
    · by_cases e : j = x.1
      · subst e; exact .inr ⟨x, by simp, rfl, h1.trans (getS_same h hx.1 hx.2)⟩
      · exact .inl (h1.trans (getS_other h hx.1 hx.2 e))
    · exact .inr ⟨y, by simp [hy], h2, h3⟩
theorem sync_len {n : Nat} {G : List UInt8} (hG : G.length = 64 * n) : ∀ (W : List Wr) (F : List UInt8), F.length = 64 * n → OkW n W → (syncF G F W).length = 64 * n
  | [], _, h, _ => h
  | x :: r, F, h, hw => sync_len hG r _ (length_setS h (hw x (by simp)).1 (length_getS hG (hw x (by simp)).1)) (fun y hy => hw y (by simp [hy]))
theorem sync_get {n : Nat} {G : List UInt8} (hG : G.length = 64 * n) : ∀ (W : List Wr) (F : List UInt8), F.length = 64 * n → OkW n W → ∀ j, ((∃ x ∈ W, x.1 = j) → getS (syncF G F W) j = getS G j) ∧ ((∀ x ∈ W, x.1 ≠ j) → getS (syncF G F W) j = getS F j)
  | [], _, _, _, _ => ⟨fun ⟨_, h, _⟩ => by simp at h, fun _ => rfl⟩
  | x :: r, F, h, hw, j => by
    have hx := hw x (by simp)
    have hl := length_getS hG hx.1
    have ih := sync_get hG r (setS F x.1 (getS G x.1)) (length_setS h hx.1 hl) (fun y hy => hw y (by simp [hy])) j
    show ((∃ y ∈ x :: r, y.1 = j) → getS (syncF G (setS F x.1 (getS G x.1)) r) j = getS G j) ∧ ((∀ y ∈ x :: r, y.1 ≠ j) → getS (syncF G (setS F x.1 (getS G x.1)) r) j = getS F j)
    by_cases hr : ∃ y ∈ r, y.1 = j
    · exact ⟨fun _ => ih.1 hr, fun hn => by obtain ⟨y, hy, e⟩ := hr; exact absurd e (hn y (by simp [hy]))⟩
    · have hr' : ∀ y ∈ r, y.1 ≠ j := fun y hy e => hr ⟨y, hy, e⟩
      rw [ih.2 hr']
      refine ⟨fun ⟨y, hy, e⟩ => ?_, fun hn => getS_other h hx.1 hl (fun e => hn x (by simp) e.symm)⟩
      rcases List.mem_cons.1 hy with rfl | hy
      · subst e; exact getS_same h hx.1 hl
      · exact absurd e (hr' y hy)
theorem ext_getS {n : Nat} {F G : List UInt8} (hF : F.length = 64 * n) (hG : G.length = 64 * n) (h : ∀ j, j < n → getS F j = getS G j) : F = G := by
  apply List.ext_getElem?
  intro i
  by_cases hi : i < 64 * n
  · have h1 := congrArg (fun l : List UInt8 => l[i % 64]?) (h (i / 64) (by omega))
    have hm : i % 64 < 64 := Nat.mod_lt _ (by omega)
    simp only [getS, List.getElem?_take_of_lt hm, List.getElem?_drop] at h1
    rwa [show 64 * (i / 64) + i % 64 = i by omega] at h1
  · rw [List.getElem?_eq_none (by omega), List.getElem?_eq_none (by omega)]
theorem sync_ov {n : Nat} {F : List UInt8} {W : List Wr} (hF : F.length = 64 * n) (hw : OkW n W) : syncF (ov F W) F W = ov F W :=
  ext_getS (sync_len (ov_len W F hF hw) W F hF hw) (ov_len W F hF hw) fun j _ => by
    have h := sync_get (ov_len W F hF hw) W F hF hw j
    by_cases hr : ∃ x ∈ W, x.1 = j
    · exact h.1 hr
    · have hr' : ∀ y ∈ W, y.1 ≠ j := fun y hy e => hr ⟨y, hy, e⟩
      rw [h.2 hr', ov_get W F hF hw j hr']
theorem sync_back {n : Nat} {F : List UInt8} {W : List Wr} (hF : F.length = 64 * n) (hw : OkW n W) : syncF F (ov F W) W = F :=
  ext_getS (sync_len hF W _ (ov_len W F hF hw) hw) hF fun j _ => by
    have h := sync_get hF W (ov F W) (ov_len W F hF hw) hw j
    by_cases hr : ∃ x ∈ W, x.1 = j
    · exact h.1 hr
    · have hr' : ∀ y ∈ W, y.1 ≠ j := fun y hy e => hr ⟨y, hy, e⟩
      rw [h.2 hr', ov_get W F hF hw j hr']
theorem cF_none (W : List Wr) (F : List UInt8) : ∀ m, cF (fun _ => false) W F m = F
  | 0 => rfl
  | m + 1 => by rw [cF_succ, cF_none W F m]; rfl
theorem cF_all (W : List Wr) (F : List UInt8) : ∀ m, m ≤ W.length → cF (fun _ => true) W F m = ov F (W.take m)
  | 0, _ => by simp [cF, ov]
  | m + 1, h => by
    rw [cF_succ, cF_all W F m (by omega), List.take_succ_eq_append_getElem (by omega), ov_snoc]
    simp [List.getD, show m < W.length by omega]
/-- of those that wait some, in their order -/
theorem cF_some (k : Nat → Bool) (W : List Wr) (F : List UInt8) : ∀ m, m ≤ W.length → ∃ V : List Wr, (∀ x ∈ V, x ∈ W) ∧ cF k W F m = ov F V
  | 0, _ => ⟨[], by simp, rfl⟩
  | m + 1, h => by
    obtain ⟨V, h1, h2⟩ := cF_some k W F m (by omega)
    rw [cF_succ, h2]
    by_cases hk : k m = true
    · rw [if_pos hk]
      refine ⟨V ++ [W[m]], fun x hx => ?_, ?_⟩
      · rcases List.mem_append.1 hx with hx | hx
        · exact h1 x hx
        · obtain rfl := List.mem_singleton.1 hx; exact List.getElem_mem _
      · rw [ov_snoc]; simp [List.getD, show m < W.length by omega]
    · rw [if_neg hk]
      exact ⟨V, h1, rfl⟩
end Go.Proofs.YtjblkmjdepdekaaDoor.Dk
