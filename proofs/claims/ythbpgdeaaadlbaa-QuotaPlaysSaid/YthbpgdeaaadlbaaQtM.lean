
/- QuotaPlays: the law's own look-up; one call a time -/
import Derived.Test.YthbpgdeaaadlbaaQtK
namespace Go.Proofs.Ythbpgdeaaadlbaa.Qt
open Go.RowKit Go.Lib Go.Maps Go.WideElems Go.ChangeMaps Go.MapKept Go.Sort Hp
set_option linter.unusedVariables false
set_option linter.unusedSectionVars false
set_option maxRecDepth 20000
section
variable {w X X0 Y : World} {B lb : Nat} {ea : Int} {nm c b2 b4 b7 bH bM b8 b9 ab : Nat} {A : Obj} {v : Value} {tl : List K} {M H f g : K → Option Int} {nH nM : Nat}
theorem St.mayL (h : St w X0 B lb ea nm c b2 b4 b7 bH bM b8 b9 ab A v tl M H f g nH nM) (lo : Lo tl M H f g) (k : K) (hk : wk k) (hl : tl.length ≤ 1000000) (X : World) (eX : X.heap = X0.heap) :
    Calls Try.prog 8 #[.string ⟨k.toArray⟩, .pointer (some ⟨b7, 0, none⟩), .pointer (some ⟨b9, 0, none⟩), .pointer (some ⟨b2, 0, none⟩)] X fun e Y => e = .returned (.int .i64 (may ea M k)) ∧ Y = X := by
  obtain ⟨hr, _⟩ := rw_own h.row rfl
  obtain ⟨a1, c1, rfl⟩ := hr.shape
  have hr : Rw X (.slice a1 tl.length c1) tl := hr.kept fun a n c e => by rw [eX]
  have k7 := (c1_of (w := X) (by rw [eX]; exact h.e7)).1
  have k9 := (c1_of (w := X) (by rw [eX]; exact h.e9)).1
  have k2 := (c1_of (w := X) (by rw [eX]; exact h.e2)).1
  have lk := Qt.look1 h.mM (Y := X) (by rw [eX]) hk
  clear eX
  rw [lo.may ea k]
  obtain ⟨n, hn⟩ : ∃ n, n = tl.length := ⟨_, rfl⟩
  have HS := Lib.hid (And.intro hr (And.intro hl hn))
  rw [← hn] at k7
  clear hr hl hn h
  obtain ⟨z, hz⟩ : ∃ z, z = (g k).getD 0 := ⟨_, rfl⟩
  rw [← hz] at lk ⊢
  obtain ⟨r, hrr⟩ : ∃ r, r = if k ∈ tl then z else ea := ⟨_, rfl⟩
  rw [← hrr]
  have HR := Lib.hid (And.intro hrr lo)
  clear hrr lo hz
  go_enter Try.func8, Try.ntmps8
  go_wp2_with fail
  go_loopw [10] (fun cv wr => ∃ (i : Nat), cv = .int .i64 ((i : Nat) : Int) ∧ i ≤ n ∧ wr = X ∧ ∀ j, j < i → tl.getD j [] ≠ k) (fun cv _ => n - (RowKit.intOf cv).toNat)
  case atStart => exact ⟨0, rfl, Nat.zero_le _, rfl, fun j hj => by omega⟩
  case round =>
    obtain ⟨i, hcv, hin, hwr, hno⟩ := hrel
    subst hcv hwr
    by_cases hix : i < n
    · obtain ⟨ha, hl, hn⟩ := HS.out
      have hil : i < tl.length := by omega
      obtain ⟨g1, e1, k1⟩ : ∃ g, a1 = some ⟨g, 0, none⟩ ∧ wr.cell? ⟨g, i, none⟩ = some (.string ⟨(tl.getD i []).toArray⟩) := by
        rcases ha with ⟨h1, _⟩ | ⟨g, c, h1, h2⟩
        · rw [h1] at hil; simp at hil
        · cases h1; exact ⟨g, rfl, h2 i hil⟩
      subst e1
      obtain ⟨x, hx⟩ : ∃ x, x = tl.getD i [] := ⟨_, rfl⟩
      rw [← hx] at k1
      have hic : ((i : Nat) : Int) < ((n : Nat) : Int) := by omega
      have hi0 : (0 : Int) ≤ ((i : Nat) : Int) := by omega
      have hi4 : ((i : Nat) : Int) ≤ 1000000 := by omega
      have HI := Lib.hid (And.intro hix (And.intro hno (And.intro hx hil)))
      clear ha hl hn hil hin hix hno hx
      by_cases hxk : x = k
      · subst hxk
        go_wp2_with fail
        go_ret
        refine ⟨?_, rfl⟩
        rw [HR.out.1, if_pos (by rw [HI.out.2.2.1]; exact getD_in tl HI.out.2.2.2)]
        rfl
      · have HX := Lib.hid hxk
        have hxb : (x == k) = false := by simp [hxk]
        go_wp2_with fail
        go_roundw
        case rel => exact ⟨i + 1, by simp, HI.out.1, trivial, fun j hj => by
          by_cases e : j = i
          · subst e; rw [← HI.out.2.2.1]; exact HX.out
          · exact HI.out.2.1 j (by omega)⟩
        case measure => have := HI.out.1; simp [RowKit.intOf]; omega
    · have hie : n = i := by omega
      subst hie
      have HN := Lib.hid hno
      clear hno
      go_wp2_with fail
      go_ret
      refine ⟨?_, rfl⟩
      have hne : k ∉ tl := fun hm => by
        obtain ⟨j, hj, e⟩ := List.mem_iff_getElem.1 hm
        exact HN.out j (by have := HS.out.2.2; omega) (by rw [List.getD_eq_getElem?_getD, List.getElem?_eq_getElem hj]; exact e)
      rw [HR.out.1, if_neg hne]
      rfl
theorem St.Has (h : St w X0 B lb ea nm c b2 b4 b7 bH bM b8 b9 ab A v tl M H f g nH nM) (k : K) (hk : wk k) (X : World) (eX : X.heap = X0.heap) : Calls Try.prog 13 #[.pointer (some ⟨lb, 0, none⟩), .string ⟨k.toArray⟩] X fun e w' => e = .returned (.int .i64 (has H k)) ∧ w' = X := by
  obtain ⟨S, h1, _⟩ := h.q; exact (h1.kept (Y := X) (by rw [eX]; exact Nat.le_refl _) (fun k _ => by rw [eX])).Has k hk
theorem St.May (h : St w X0 B lb ea nm c b2 b4 b7 bH bM b8 b9 ab A v tl M H f g nH nM) (k : K) (hk : wk k) (X : World) (eX : X.heap = X0.heap) : Calls Try.prog 14 #[.pointer (some ⟨lb, 0, none⟩), .string ⟨k.toArray⟩] X fun e w' => e = .returned (.int .i64 (may ea M k)) ∧ w' = X := by
  obtain ⟨S, h1, _⟩ := h.q; exact (h1.kept (Y := X) (by rw [eX]; exact Nat.le_refl _) (fun k _ => by rw [eX])).May k hk
theorem St.has_bd (h : St w X B lb ea nm c b2 b4 b7 bH bM b8 b9 ab A v tl M H f g nH nM) (k : K) : 0 ≤ has H k ∧ has H k ≤ 128 := by
  obtain ⟨S, h1, _⟩ := h.q; exact ⟨(h1.has_bd k).1, (h1.has_bd k).2.1⟩
theorem St.pos (h : St w X B lb ea nm c b2 b4 b7 bH bM b8 b9 ab A v tl M H f g nH nM) (k : K) : (H k).isSome = decide (0 < has H k) := by
  obtain ⟨S, h1, _⟩ := h.q
  have := h1.has_bd k
  by_cases e : 0 < has H k
  · rw [this.2.2.1 e]; simp [e]
  · rw [this.2.2.2 (by omega)]; simp [e]
theorem St.Take_ok (h : St w X B lb ea nm c b2 b4 b7 bH bM b8 b9 ab A v tl M H f g nH nM) (k : K) (hk : wk k) (hq : has H k < may ea M k) (hc : c ≤ 1000000) : Calls Try.prog 10 #[.pointer (some ⟨lb, 0, none⟩), .string ⟨k.toArray⟩] X fun e w' => e = .returned (.int .i64 0) ∧
    St w w' B lb ea nm (c + 1) b2 b4 b7 bH bM b8 b9 ab A v tl M (Hp.upd H k (has H k + 1)) f g nH nM := by
  obtain ⟨S, h1, h2⟩ := h.led
  exact (Qt.Take_ok h1 k hk hq hc).mono fun e w' ⟨he, t⟩ => ⟨he, h2 t⟩
theorem St.Take_no (h : St w X B lb ea nm c b2 b4 b7 bH bM b8 b9 ab A v tl M H f g nH nM) (k : K) (hk : wk k) (hq : may ea M k ≤ has H k) : Calls Try.prog 10 #[.pointer (some ⟨lb, 0, none⟩), .string ⟨k.toArray⟩] X fun e w' => e = .returned (.int .i64 14) ∧ w' = X := by
  obtain ⟨S, h1, _⟩ := h.q; exact Qt.Take_no h1 k hk hq
theorem St.Give_ok (h : St w X B lb ea nm c b2 b4 b7 bH bM b8 b9 ab A v tl M H f g nH nM) (k : K) (hk : wk k) (hq : has H k ≠ 0) (hc : c ≤ 1000000) : Calls Try.prog 11 #[.pointer (some ⟨lb, 0, none⟩), .string ⟨k.toArray⟩] X fun e w' => e = .returned (.int .i64 0) ∧
    St w w' B lb ea nm c b2 b4 b7 bH bM b8 b9 ab A v tl M (less H k) f g nH nM := by
  obtain ⟨S, h1, h2⟩ := h.led
  exact (Qt.Give_ok h1 k hk hq hc).mono fun e w' ⟨he, t⟩ => ⟨he, h2 t⟩
theorem St.Give_no (h : St w X B lb ea nm c b2 b4 b7 bH bM b8 b9 ab A v tl M H f g nH nM) (k : K) (hk : wk k) (hq : has H k = 0) : Calls Try.prog 11 #[.pointer (some ⟨lb, 0, none⟩), .string ⟨k.toArray⟩] X fun e w' => e = .returned (.int .i64 7) ∧ w' = X := by
  obtain ⟨S, h1, _⟩ := h.q; exact Qt.Give_no h1 k hk hq
theorem St.Set_ok (h : St w X B lb ea nm c b2 b4 b7 bH bM b8 b9 ab A v tl M H f g nH nM) (k : K) (hk : wk k) (n : Int) (hn : 0 ≤ n ∧ n ≤ 128) (hf : (M k).isSome = true ∨ nm < 16) (hnm : nm ≤ 1000000) : Calls Try.prog 9 #[.pointer (some ⟨lb, 0, none⟩), .string ⟨k.toArray⟩, .int .i64 n] X fun e w' => e = .returned (.int .i64 0) ∧
    St w w' B lb ea (if (M k).isSome then nm else nm + 1) c b2 b4 b7 bH bM b8 b9 ab A v tl (Hp.upd M k n) H f g nH nM := by
  obtain ⟨S, h1, h2⟩ := h.led
  exact (Qt.Set_ok h1 k hk n hn hf hnm).mono fun e w' ⟨he, t⟩ => ⟨he, h2 t⟩
theorem St.Set_full (h : St w X B lb ea nm c b2 b4 b7 bH bM b8 b9 ab A v tl M H f g nH nM) (k : K) (hk : wk k) (n : Int) (hn : 0 ≤ n ∧ n ≤ 128) (hm : M k = none) (hf : 16 ≤ nm) : Calls Try.prog 9 #[.pointer (some ⟨lb, 0, none⟩), .string ⟨k.toArray⟩, .int .i64 n] X fun e w' => e = .returned (.int .i64 6) ∧ w' = X := by
  obtain ⟨S, h1, _⟩ := h.q; exact Qt.Set_full h1 k hk n hn hm hf
/-- a ledger beside, of which nothing is said but that it is one -/
def Some (N : Nat) (w : World) (lb : Nat) : Prop := ∃ S ea nm c M H, Lv S w lb ea nm c M H ∧ (∀ k, S k → N ≤ k) ∧ c ≤ 999 ∧ nm ≤ 999
theorem St.Copy (h : St w X B lb ea nm c b2 b4 b7 bH bM b8 b9 ab A v tl M H f g nH nM) (hc : c ≤ 900) (hnm : nm ≤ 900) : Calls Try.prog 12 #[.pointer (some ⟨lb, 0, none⟩)] X fun e w' => ∃ lb', e = .returned (.pointer (some ⟨lb', 0, none⟩)) ∧ Some X.heap.size w' lb' ∧ Below X.heap.size X w' := by
  obtain ⟨S, h1, _⟩ := h.q
  exact (Copy_any h1).mono fun e w' ⟨lb', S', he, h2, h3, h4⟩ => ⟨lb', he, ⟨S', _, _, _, _, _, h2, h3, by omega, by omega⟩, h4⟩
theorem Some.Take {N lb' : Nat} (h : Some N X lb') (hN : N ≤ X.heap.size) (k : K) (hk : wk k) : Calls Try.prog 10 #[.pointer (some ⟨lb', 0, none⟩), .string ⟨k.toArray⟩] X fun e w' => (∃ x, e = .returned (.int .i64 x)) ∧ (∃ S ea nm c M H, Lv S w' lb' ea nm c M H ∧ (∀ k, S k → N ≤ k) ∧ nm ≤ 999) ∧ Below N X w' := by
  obtain ⟨S, ea, nm, c, M, H, h1, h2, h3, h4⟩ := h
  by_cases hq : has H k < may ea M k
  · refine (Qt.Take_ok h1 k hk hq (by omega)).mono ?_
    rintro e w' ⟨rfl, S', t1, t2, t3⟩
    exact ⟨⟨_, rfl⟩, ⟨S', _, _, _, _, _, t1, fun k hk => by rcases t3 k hk with e | e; exact h2 k e; omega, by omega⟩, t2.below hN h2⟩
  · refine (Qt.Take_no h1 k hk (by omega)).mono ?_
    rintro e w' ⟨rfl, rfl⟩
    exact ⟨⟨_, rfl⟩, ⟨S, _, _, _, _, _, h1, h2, by omega⟩, Below.refl _ _⟩
theorem some_Set {N lb' : Nat} (h : ∃ S ea nm c M H, Lv S X lb' ea nm c M H ∧ (∀ k, S k → N ≤ k) ∧ nm ≤ 999) (hN : N ≤ X.heap.size) (k : K) (hk : wk k) : Calls Try.prog 9 #[.pointer (some ⟨lb', 0, none⟩), .string ⟨k.toArray⟩, .int .i64 0] X fun e w' => (∃ x, e = .returned (.int .i64 x)) ∧ Below N X w' := by
  obtain ⟨S, ea, nm, c, M, H, h1, h2, h3⟩ := h
  by_cases hq : (M k).isSome = true ∨ nm < 16
  · refine (Qt.Set_ok h1 k hk 0 (by omega) hq (by omega)).mono ?_
    rintro e w' ⟨rfl, S', t1, t2, t3⟩
    exact ⟨⟨_, rfl⟩, t2.below hN h2⟩
  · have hm : M k = none := by
      cases e : M k with
      | none => rfl
      | some x => exact absurd (.inl (by rw [e]; rfl)) hq
    refine (Qt.Set_full h1 k hk 0 (by omega) hm (by omega)).mono ?_
    rintro e w' ⟨rfl, rfl⟩
    exact ⟨⟨_, rfl⟩, Below.refl _ _⟩
end
end Go.Proofs.Ythbpgdeaaadlbaa.Qt
