
/- disks: Up, has, New -/
import Derived.Test.YtjblkmjdepdekaaDoorDk
namespace Go.Proofs.YtjblkmjdepdekaaDoor.Dk
open Go.RowKit Go.Lib Go.Proofs.YtjblkmjdepdekaaDoor.By Go.Proofs.YtjblkmjdepdekaaDoor.Ht
section
variable {w : World} {B bd gs cs gn cn n : Nat} {vw : Value} {F G : List UInt8} {W : List Wr} {dn : Bool}

theorem own_other {w w' : World} {B : Nat} {e : TypeId} {k n : Nat} {v : Value} {xs : List Value} (h : w.ownsRow B e k v n xs) (hb : ∀ g, v.ownBlock = some g → w'.heap[g]? = w.heap[g]?) : w'.ownsRow B e k v n xs := by
  refine ⟨h.1, ?_⟩
  rcases h.2 with h1 | ⟨g, cap, cur, h1, h2, h3, h4⟩
  · exact .inl h1
  · exact .inr ⟨g, cap, cur, h1, h2, (hb g (by rw [h1]; rfl)).trans h3, h4⟩
theorem own_type {w : World} {B : Nat} {e : TypeId} {k n : Nat} {v : Value} {xs : List Value} (h : w.ownsRow B e k v n xs) {g : Nat} (hg : v.ownBlock = some g) : ∃ cur, w.heap[g]? = some (.cells cur e (0, 0)) := by
  rcases h.2 with ⟨rfl, _⟩ | ⟨g', cap, cur, rfl, h2, h3, h4⟩
  · simp [Value.ownBlock] at hg
  · simp [Value.ownBlock] at hg; subst hg; exact ⟨cur, h3⟩
theorem own_not {w : World} {B : Nat} {e t : TypeId} {k n q : Nat} {v : Value} {xs : List Value} {C : Array Value} {fr : Nat × Nat} (h : w.ownsRow B e k v n xs) (hq : w.heap[q]? = some (.cells C t fr)) (hne : e ≠ t) : ∀ g, v.ownBlock = some g → g ≠ q := by
  intro g hg e1
  obtain ⟨cur, hc⟩ := own_type h hg
  rw [e1, hq] at hc
  simp at hc
  exact hne hc.2.1.symm
/-- a disk that is not touched -/
theorem IsDk.other {w' : World} (h : IsDk w B bd gs cs gn cn vw n F G W dn) (hb : ∀ k, k < w.heap.size → Foot bd gs gn vw k → w'.heap[k]? = w.heap[k]?) : IsDk w' B bd gs cs gn cn vw n F G W dn :=
  ⟨(hb bd (lt_of_block h.blk) (.inl rfl)).trans h.blk, own_other h.os (fun g hg => hb g (h.os.lt g hg).2 (.inr (.inl (by simpa [Value.ownBlock] using hg.symm)))),
    own_other h.on (fun g hg => hb g (h.on.lt g hg).2 (.inr (.inr (.inl (by simpa [Value.ownBlock] using hg.symm))))), own_other h.ow (fun g hg => hb g (h.ow.lt g hg).2 (.inr (.inr (.inr hg.symm)))), h.ne, h.n1, h.n2, h.hw, h.hb⟩
theorem IsDk.old {w' : World} (h : IsDk w B bd gs cs gn cn vw n F G W dn) (hb : Below w.heap.size w w') : IsDk w' B bd gs cs gn cn vw n F G W dn := h.other fun k hk _ => hb.block k hk
theorem IsDk.fr {w' : World} {p : Nat → Prop} (h : IsDk w B bd gs cs gn cn vw n F G W dn) (hb : Fr p w w') (hp : ∀ k, Foot bd gs gn vw k → ¬ p k) : IsDk w' B bd gs cs gn cn vw n F G W dn := h.other fun k hk hf => hb.block k hk (hp k hf)
/-- the disk's own cells are stored -/
theorem IsDk.cell3 (h : IsDk w B bd gs cs gn cn vw n F G W dn) (d : Bool) : IsDk (w.setCell ⟨bd, 3, none⟩ (.bool d)) B bd gs cs gn cn vw n F G W d := by
  have hk : ∀ k, k ≠ bd → (w.setCell ⟨bd, 3, none⟩ (.bool d)).heap[k]? = w.heap[k]? := fun k hk => heap_setCell_other w _ k _ hk
  refine ⟨?_, own_other h.os (fun g hg => hk g (own_not h.os h.blk (by decide) g hg)), own_other h.on (fun g hg => hk g (own_not h.on h.blk (by decide) g hg)), own_other h.ow (fun g hg => hk g (own_not h.ow h.blk (by decide) g hg)), h.ne, h.n1, h.n2, h.hw, h.hb⟩
  have := heap_setCell_same w bd 3 _ _ (.bool d) h.blk
  simpa using this
theorem IsDk.nowait (h : IsDk w B bd gs cs gn cn vw n F G W dn) : IsDk (w.setCell ⟨bd, 2, none⟩ (.slice none 0 0)) B bd gs cs gn cn (.slice none 0 0) n F G [] dn := by
  have hk : ∀ k, k ≠ bd → (w.setCell ⟨bd, 2, none⟩ (.slice none 0 0)).heap[k]? = w.heap[k]? := fun k hk => heap_setCell_other w _ k _ hk
  refine ⟨?_, own_other h.os (fun g hg => hk g (own_not h.os h.blk (by decide) g hg)), own_other h.on (fun g hg => hk g (own_not h.on h.blk (by decide) g hg)), World.ownsRow_nil _ _ _ _, h.ne, h.n1, h.n2, by simp, h.hb⟩
  have := heap_setCell_same w bd 2 _ _ (.slice none 0 0) h.blk
  simpa using this

theorem up_any (h : IsDk w B bd gs cs gn cn vw n F G W dn) : Calls Tryd.prog 17 #[.pointer (some ⟨bd, 0, none⟩)] w fun e w' => e = .returned (.tuple #[]) ∧ IsDk w' B bd gs cs gn cn vw n F G W false ∧ Fr (Foot bd gs gn vw) w w' ∧ w'.heap.size = w.heap.size := by
  obtain ⟨⟨_, _, _, c3⟩, _, _, _, f3⟩ := four_cells h.blk
  have hr := h.cell3 false
  have H := Lib.hid hr
  clear h hr
  go_enter Tryd.func17, Tryd.ntmps17
  go_wp2_with fail
  go_end0
  exact ⟨rfl, H.out, (Fr.refl _ _).setCell (.inl (.inl rfl)) _, by simp⟩

/-- are there so many sectors from one on? -/
def hasB (n : Nat) (i m : Int) : Bool := decide (0 ≤ i) && decide (0 ≤ m) && decide (m ≤ (n : Int) - i)
theorem has_any (h : IsDk w B bd gs cs gn cn vw n F G W dn) (i m : Int) (hi : i ≤ 9223372036854775807) :
    Calls Tryd.prog 43 #[.pointer (some ⟨bd, 0, none⟩), .int .i64 i, .int .i64 m] w fun e w' => e = .returned (.bool (hasB n i m)) ∧ w = w' := by
  obtain ⟨⟨_, c1, _, _⟩, _⟩ := four_cells h.blk
  have hn := h.n2
  clear h
  by_cases h1 : 0 ≤ i
  · by_cases h2 : 0 ≤ m
    · have e0 : decide (i ≥ 0) = true := by simpa using h1
      have e1 : decide (m ≥ 0) = true := by simpa using h2
      have e2 : wrap64 ((n : Int) - i) = (n : Int) - i := by unfold wrap64; omega
      have e3 : hasB n i m = decide (m ≤ (n : Int) - i) := by unfold hasB; simp [h1, h2]
      have HE := Lib.hid e3
      clear e3 e2
      have b1 : (n : Int) ≤ 4096 := by omega
      go_enter Tryd.func43, Tryd.ntmps43
      go_wp2_with fail
      rw [HE.out]
      go_ret
      exact ⟨rfl, rfl⟩
    · have e0 : decide (i ≥ 0) = true := by simpa using h1
      have e1 : decide (m ≥ 0) = false := by simpa using h2
      have e3 : hasB n i m = false := by unfold hasB; simp [h2]
      rw [e3]
      clear e3
      go_enter Tryd.func43, Tryd.ntmps43
      go_wp2_with fail
      go_ret
      exact ⟨rfl, rfl⟩
  · have e0 : decide (i ≥ 0) = false := by simpa using h1
    have e3 : hasB n i m = false := by unfold hasB; simp [h1]
    rw [e3]
    clear e3
    go_enter Tryd.func43, Tryd.ntmps43
    go_wp2_with fail
    go_ret
    exact ⟨rfl, rfl⟩
end
end Go.Proofs.YtjblkmjdepdekaaDoor.Dk
