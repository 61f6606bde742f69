
/- who is next: how a row lies; New, lineOf, first -/
import Derived.Test.YtomkefaakgodhaaNxM
import Derived.Test.YtomkefaakgodhaaHpRE
import Derived.Test.YtomkefaakgodhaaHpZE
namespace Go.Proofs.Ytomkefaakgodhaa.Nx
open Go.RowKit Go.Lib Go.Sort Hp HpE
set_option linter.unusedVariables false
set_option linter.unusedSectionVars false
set_option maxRecDepth 20000
/-- a line: none, or a heap -/
def Ln (T : Nat → Prop) (w : World) (v : Value) (m : List (K × Int)) : Prop := (v = .pointer none ∧ m = []) ∨ ∃ h, v = .pointer (some ⟨h, 0, none⟩) ∧ Hv T w h m
theorem Ln.kept {T : Nat → Prop} {w Y : World} {v : Value} {m : List (K × Int)} (h : Ln T w v m) (hs : w.heap.size ≤ Y.heap.size) (e : ∀ k, T k → Y.heap[k]? = w.heap[k]?) : Ln T Y v m := by
  rcases h with h | ⟨b, h1, h2⟩
  · exact .inl h
  · exact .inr ⟨b, h1, h2.kept hs e⟩
theorem Ln.perm {T : Nat → Prop} {w : World} {v : Value} {m m' : List (K × Int)} (h : Ln T w v m) (e : m.Perm m') : Ln T w v m' := by
  rcases h with ⟨h1, rfl⟩ | ⟨b, h1, h2⟩
  · exact .inl ⟨h1, e.nil_eq.symm⟩
  · exact .inr ⟨b, h1, h2.perm e⟩
theorem Ln.shape {T : Nat → Prop} {w : World} {v : Value} {m : List (K × Int)} (h : Ln T w v m) : ∃ a, v = .pointer a := by
  rcases h with ⟨h1, _⟩ | ⟨b, h1, _⟩
  · exact ⟨_, h1⟩
  · exact ⟨_, h1⟩
/-- a row: its lines, all apart -/
structure Rq (w : World) (rb : Nat) (p : Nat → Value) (T : Nat → Nat → Prop) (M : List O) : Prop where
  obj : w.heap[rb]? = some (.cells #[p 0, p 1, p 2, p 3] 57 (0, 0))
  line : ∀ i, i < 4 → Ln (T i) w (p i) (lin M i)
  apart : ∀ i j k, i < 4 → j < 4 → T i k → T j k → i = j
  away : ∀ i k, i < 4 → T i k → k ≠ rb
  size : ∀ i k, i < 4 → T i k → k < w.heap.size
  pri : ∀ x ∈ M, x.2.1 < 4
  nodup : (M.map (·.1)).Nodup
  keys : ∀ x ∈ M, wk x.1
/-- a row's blocks -/
def bk (rb : Nat) (T : Nat → Nat → Prop) (k : Nat) : Prop := k = rb ∨ ∃ i, i < 4 ∧ T i k
theorem Rq.lt {w : World} {rb : Nat} {p : Nat → Value} {T : Nat → Nat → Prop} {M : List O} (h : Rq w rb p T M) : rb < w.heap.size := (Array.getElem?_eq_some_iff.1 h.obj).1
theorem Rq.kept {w Y : World} {rb : Nat} {p : Nat → Value} {T : Nat → Nat → Prop} {M : List O} (h : Rq w rb p T M) (hs : w.heap.size ≤ Y.heap.size) (e : ∀ k, bk rb T k → Y.heap[k]? = w.heap[k]?) : Rq Y rb p T M where
  obj := (e rb (.inl rfl)).trans h.obj
  line i hi := (h.line i hi).kept hs fun k hk => e k (.inr ⟨i, hi, hk⟩)
  apart := h.apart
  away := h.away
  size i k hi hk := Nat.lt_of_lt_of_le (h.size i k hi hk) hs
  pri := h.pri
  nodup := h.nodup
  keys := h.keys
theorem Rq.blt {w : World} {rb : Nat} {p : Nat → Value} {T : Nat → Nat → Prop} {M : List O} (h : Rq w rb p T M) : ∀ k, bk rb T k → k < w.heap.size := by
  rintro k (rfl | ⟨i, hi, hk⟩)
  · exact h.lt
  · exact h.size i k hi hk
theorem Rq.old {w Y : World} {rb : Nat} {p : Nat → Value} {T : Nat → Nat → Prop} {M : List O} (h : Rq w rb p T M) (e : Below w.heap.size w Y) : Rq Y rb p T M := h.kept e.size fun k hk => e.block k (h.blt k hk)
theorem Rq.perm {w : World} {rb : Nat} {p : Nat → Value} {T : Nat → Nat → Prop} {M M' : List O} (h : Rq w rb p T M) (e : M.Perm M') : Rq w rb p T M' where
  obj := h.obj
  line i hi := (h.line i hi).perm (lin_perm e i)
  apart := h.apart
  away := h.away
  size := h.size
  pri x hx := h.pri x (e.mem_iff.2 hx)
  nodup := (e.map _).nodup_iff.1 h.nodup
  keys x hx := h.keys x (e.mem_iff.2 hx)
section
variable {T : Nat → Prop} {w : World} {v : Value} {m : List (K × Int)}
theorem rank_ln (h : Ln T w v m) {k : K} (hk : wk k) :
    Calls Try.prog 33 #[v, ek k] w fun e w' => ((k ∉ m.map (·.1) ∧ e = .returned (.tuple #[.int .u64 0, .bool false])) ∨ (∃ r, (k, r) ∈ m ∧ e = .returned (.tuple #[er r, .bool true]))) ∧ Below w.heap.size w w' := by
  rcases h with ⟨rfl, rfl⟩ | ⟨b, rfl, h⟩
  · refine (rank_nil w k).mono ?_
    rintro e w' ⟨rfl, hb⟩
    exact ⟨.inl ⟨by simp, rfl⟩, hb⟩
  · exact rank_any h hk
theorem len_ln (h : Ln T w v m) : Calls Try.prog 32 #[v] w fun e w' => e = .returned (.int .i64 ((m.length : Nat) : Int)) ∧ w' = w := by
  rcases h with ⟨rfl, rfl⟩ | ⟨b, rfl, h⟩
  · exact len_nil w
  · exact h.len
end
section
variable {w : World} {rb : Nat} {p : Nat → Value} {T : Nat → Nat → Prop} {M : List O}
theorem Rq.cells (h : Rq w rb p T M) : w.cell? ⟨rb, 0, none⟩ = some (p 0) ∧ w.cell? ⟨rb, 1, none⟩ = some (p 1) ∧ w.cell? ⟨rb, 2, none⟩ = some (p 2) ∧ w.cell? ⟨rb, 3, none⟩ = some (p 3) := by
  refine ⟨?_, ?_, ?_, ?_⟩ <;> (rw [cell_of_row w rb _ _ _ _ h.obj]; rfl)
theorem ix (p : Nat → Value) {i : Nat} (hi : i < 4) (W : World) : (Instr.index 55 (.agg #[p 0, p 1, p 2, p 3]) (.int .i64 ((i : Nat) : Int))).run Try.prog W = .ok (p i) W := by
  rcases (by omega : i = 0 ∨ i = 1 ∨ i = 2 ∨ i = 3) with rfl | rfl | rfl | rfl <;> kernel_rfl
theorem wrap4 {i : Nat} (hi : i < 4) : wrap64 (((i : Nat) : Int) + 1) = ((i + 1 : Nat) : Int) := by unfold wrap64; omega
set_option maxHeartbeats 1000000 in
theorem lineOf_any (h : Rq w rb p T M) {k : K} (hk : wk k) : Calls Try.prog 21 #[.pointer (some ⟨rb, 0, none⟩), ek k] w fun e w' =>
    ((∃ i, i < 4 ∧ k ∈ (lin M i).map (·.1) ∧ e = .returned (p i)) ∨ (k ∉ M.map (·.1) ∧ e = .returned (.pointer none))) ∧ Below w.heap.size w w' := by
  obtain ⟨c0, c1, c2, c3⟩ := h.cells
  have H := Lib.hid h
  have HK := Lib.hid hk
  clear h hk
  obtain ⟨kv, hkv⟩ : ∃ v, v = ek k := ⟨_, rfl⟩
  rw [← hkv]
  have HV := Lib.hid hkv
  clear hkv
  go_enter Try.func21, Try.ntmps21
  go_wp2_with fail
  go_loopw [15] (fun s wr => ∃ i : Nat, s = .int .i64 ((i : Nat) : Int) ∧ i ≤ 4 ∧ (∀ j, j < i → k ∉ (lin M j).map (·.1)) ∧ Below w.heap.size w wr) (fun s _ => 4 - (RowKit.intOf s).toNat)
  case atStart => exact ⟨0, rfl, by omega, fun j hj => absurd hj (by omega), Below.refl _ _⟩
  case round =>
    obtain ⟨i, rfl, hi, hno, hb⟩ := hrel
    by_cases hlt : i < 4
    · have hx := fun W => ix p hlt W
      have hR := rank_ln ((H.out.old hb).line i hlt) HK.out
      rw [← HV.out] at hR
      have hw := wrap4 hlt
      have hlt' : ((i : Nat) : Int) < 4 := by omega
      have HB := Lib.hid (And.intro hno (And.intro hb (And.intro hlt hi)))
      clear hno hb hlt hi
      go_wp2_with fail
      refine hR.mono ?_
      rintro e w1 ⟨hr, hb1⟩
      have H1 := Lib.hid (HB.out.2.1.trans (hb1.mono HB.out.2.1.size))
      clear hb1 hR
      rcases hr with ⟨h1, rfl⟩ | ⟨r, h1, rfl⟩
      · have h1' := Lib.hid h1
        clear h1
        go_wp2_with fail
        go_roundw
        case rel => exact ⟨i + 1, by simp, HB.out.2.2.1, fun j hj => by
          rcases Nat.lt_or_ge j i with e | e
          · exact HB.out.1 j e
          · obtain rfl : j = i := by omega
            exact h1'.out, H1.out⟩
        case measure => simp only [RowKit.intOf]; omega
      · have h1' := Lib.hid h1
        clear h1
        go_wp2_with fail
        go_ret
        exact ⟨.inl ⟨i, HB.out.2.2.1, List.mem_map.2 ⟨_, h1'.out, rfl⟩, rfl⟩, H1.out⟩
    · have hlt' : ¬ ((i : Nat) : Int) < 4 := by omega
      have HB := Lib.hid (And.intro hno (And.intro hb (show i = 4 by omega)))
      clear hno hb hlt hi
      go_wp2_with fail
      go_ret
      have hno' : k ∉ M.map (·.1) := fun hm => by
        obtain ⟨j, r, hj⟩ := key_of' hm
        have h4 : j < 4 := H.out.pri _ hj
        exact HB.out.1 j (by have := HB.out.2.2; omega) (key_lin.2 ⟨r, hj⟩)
      exact ⟨.inr ⟨by simpa using hno', rfl⟩, HB.out.2.1⟩
set_option maxHeartbeats 1000000 in
theorem first_row (h : Rq w rb p T M) (hl : M.length ≤ 1000000) : Calls Try.prog 26 #[.pointer (some ⟨rb, 0, none⟩)] w fun e w' =>
    ((∃ i, i < 4 ∧ lin M i ≠ [] ∧ (∀ j, j < i → lin M j = []) ∧ e = .returned (p i)) ∨ (M = [] ∧ e = .returned (.pointer none))) ∧ w' = w := by
  obtain ⟨c0, c1, c2, c3⟩ := h.cells
  have H := Lib.hid (And.intro h hl)
  clear h hl
  go_enter Try.func26, Try.ntmps26
  go_wp2_with fail
  go_loopw [11] (fun s wr => ∃ i : Nat, s = .int .i64 ((i : Nat) : Int) ∧ i ≤ 4 ∧ (∀ j, j < i → lin M j = []) ∧ wr = w) (fun s _ => 4 - (RowKit.intOf s).toNat)
  case atStart => exact ⟨0, rfl, by omega, fun j hj => absurd hj (by omega), rfl⟩
  case round =>
    obtain ⟨i, rfl, hi, hno, rfl⟩ := hrel
    by_cases hlt : i < 4
    · have hx := fun W => ix p hlt W
      have hR := len_ln (H.out.1.line i hlt)
      have hw := wrap4 hlt
      have hlt' : ((i : Nat) : Int) < 4 := by omega
      have HB := Lib.hid (And.intro hno (And.intro hlt hi))
      clear hno hlt hi
      go_wp2_with fail
      refine hR.mono ?_
      rintro e w1 ⟨rfl, rfl⟩
      by_cases h0 : lin M i = []
      · have hz : ¬ (0 : Int) < (((lin M i).length : Nat) : Int) := by rw [h0]; simp
        have h0' := Lib.hid h0
        clear h0 hR
        generalize (((lin M i).length : Nat) : Int) = n at hz ⊢
        go_wp2_with fail
        go_roundw
        case rel => exact ⟨i + 1, by simp, HB.out.2.1, fun j hj => by
          rcases Nat.lt_or_ge j i with e | e
          · exact HB.out.1 j e
          · obtain rfl : j = i := by omega
            exact h0'.out, trivial⟩
        case measure => have := HB.out.2.1; simp only [RowKit.intOf]; omega
      · have hz : (0 : Int) < (((lin M i).length : Nat) : Int) := by have := List.length_pos_iff.2 h0; omega
        have h0' := Lib.hid h0
        clear h0 hR
        generalize (((lin M i).length : Nat) : Int) = n at hz ⊢
        go_wp2_with fail
        go_ret
        exact ⟨.inl ⟨i, HB.out.2.1, h0'.out, HB.out.1, rfl⟩, rfl⟩
    · have hlt' : ¬ ((i : Nat) : Int) < 4 := by omega
      have HB := Lib.hid (And.intro hno (show i = 4 by omega))
      clear hno hlt hi
      go_wp2_with fail
      go_ret
      refine ⟨.inr ⟨List.eq_nil_iff_forall_not_mem.2 fun x hx => ?_, rfl⟩, rfl⟩
      obtain ⟨k, j, r⟩ := x
      have h1 := HB.out.1 j (by have h4 : j < 4 := H.out.1.pri _ hx; have := HB.out.2; omega)
      have h2 := mem_lin.2 hx
      rw [h1] at h2
      cases h2
end
end Go.Proofs.Ytomkefaakgodhaa.Nx
