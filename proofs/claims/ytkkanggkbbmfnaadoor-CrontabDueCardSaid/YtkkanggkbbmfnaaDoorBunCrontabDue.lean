
/- CrontabDue holds for every spec and all ticks: what Due tells is what the document's expression names, tick for tick, and the rest is counted; the tables of the program and of the library that are read are as the texts lay them; no other condition -/
import Derived.Test.YtkkanggkbbmfnaaDoorCtQ
import Derived.Test.YtkkanggkbbmfnaaDoorSp8
import Derived.Maps.OwnIn
import Derived.Test.YtkkanggkbbmfnaaDoorHs
import Derived.Test.YtkkanggkbbmfnaaDoorHr
import Derived.Test.YtkkanggkbbmfnaaDoorSp3
import Derived.Test.YtkkanggkbbmfnaaDoorCtR
import Derived.Test.YtkkanggkbbmfnaaDoorCa6
import Derived.Test.YtkkanggkbbmfnaaDoorOp
import Derived.OpenShut
import Derived.BigQuiet
import Derived.Test.YtkkanggkbbmfnaaDoorSpPa
import Derived.Test.YtkkanggkbbmfnaaDoorFiLaid
import Derived.Test.YtkkanggkbbmfnaaDoorSh
import Derived.WalkKit
import Derived.ProofKit
import Derived.ShutString
import Derived.ChangeOld
import Derived.Below
/- crontab: which ticks are told (mathematics); whether a spec is a template, a number a tick; what is refused -/
namespace Go.Proofs.YtkkanggkbbmfnaaDoor.Ct
open Go.RowKit Go.Lib Go.Proofs.YtkkanggkbbmfnaaDoor.Cn Go.Proofs.YtkkanggkbbmfnaaDoor.Rg Go.Proofs.YtkkanggkbbmfnaaDoor.Fi
open Sp (Spc Okc chkE)
set_option linter.unusedVariables false
set_option linter.unusedSimpArgs false
set_option maxRecDepth 20000

/-- named ticks, one behind the other -/
def Chn (X : Ex) : Int → List Int → Int → Prop
  | s, [], e => e = s
  | s, t :: r, e => nx X s t ∧ Chn X t r e
theorem Chn.snoc {X : Ex} : ∀ {l : List Int} {s e t : Int}, Chn X s l e → nx X e t → Chn X s (l ++ [t]) t
  | [], s, e, t, h, n => by obtain rfl : e = s := h; exact ⟨n, rfl⟩
  | y :: l, s, e, t, h, n => ⟨h.1, h.2.snoc n⟩
theorem Chn.ge {X : Ex} : ∀ {l : List Int} {s e : Int}, Chn X s l e → s ≤ e
  | [], s, e, h => by obtain rfl : e = s := h; omega
  | y :: l, s, e, h => by have := h.1.1; have := h.2.ge; omega
theorem Chn.count {X : Ex} : ∀ {l : List Int} {s e : Int}, Chn X s l e → cnt X s e = l.length
  | [], s, e, h => by obtain rfl : e = s := h; rw [cnt_self X (Int.le_refl _)]; rfl
  | y :: l, s, e, h => by
    have h1 := cnt_next X h.1 (Int.le_refl s)
    rw [cnt_self X (Int.le_refl _)] at h1
    rw [cnt_add X (Int.le_of_lt h.1.1) h.2.ge, h1, h.2.count, List.length_cons]; omega
theorem Chn.same {X : Ex} : ∀ {l m : List Int} {s e f : Int}, Chn X s l e → Chn X s m f → l.length = m.length → l = m ∧ e = f
  | [], [], s, e, f, h, g, _ => by obtain rfl : e = s := h; obtain rfl : f = e := g; exact ⟨rfl, rfl⟩
  | x :: l, y :: m, s, e, f, h, g, hl => by
    obtain rfl := nx_same h.1 g.1
    obtain ⟨h1, h2⟩ := h.2.same g.2 (by simpa using hl)
    exact ⟨by rw [h1], h2⟩
theorem Chn.app {X : Ex} : ∀ {l m : List Int} {s e f : Int}, Chn X s l e → Chn X e m f → Chn X s (l ++ m) f
  | [], m, s, e, f, h, g => by obtain rfl : e = s := h; exact g
  | x :: l, m, s, e, f, h, g => ⟨h.1, h.2.app g⟩
/-- a beginning -/
theorem Chn.take {X : Ex} : ∀ {l : List Int} {s e : Int} (k : Nat), Chn X s l e → ∃ f, Chn X s (l.take k) f ∧ f ≤ e
  | [], s, e, k, h => ⟨e, by rw [List.take_nil]; exact h, Int.le_refl _⟩
  | x :: l, s, e, 0, h => ⟨s, rfl, Chn.ge h⟩
  | x :: l, s, e, k + 1, h => by obtain ⟨f, h1, h2⟩ := h.2.take k; exact ⟨f, ⟨h.1, h1⟩, h2⟩
/-- what Due tells: the ticks ts above a, up to t, at most N, and how many more -/
def DueIs (X : Ex) (a t : Int) (N : Nat) (ts : List Int) (m : Nat) : Prop :=
  ∃ e, Chn X a ts e ∧ e ≤ t ∧ ((ts.length < N ∧ BS X t e ∧ m = 0) ∨ (ts.length = N ∧ m = min (cnt X e t) 1048576))
abbrev intsI (l : List Int) : List Value := l.map fun n => .int .i64 n
/-- is it a template that may be -/
noncomputable def tplB (x : Spc) : Bool := !x.cr.toList.isEmpty && decide (chkE x = 0)
theorem isTemplate_any (x : Spc) {w : World} (hk : Okc x w) (hg : Gl w) :
    Calls Tryd.prog 13 #[.agg x.cells] w fun e w' => e = .returned (.bool (tplB x)) ∧ Below w.heap.size w w' := by
  obtain ⟨R, hR⟩ : ∃ R, R = tplB x := ⟨_, rfl⟩
  rw [← hR]
  unfold tplB at hR
  have q := fun W (h : Below w.heap.size w W) => Sp.Check_any x (w := W) (hk.old h) (hg.old h)
  obtain ⟨E, hE⟩ : ∃ E, E = chkE x := ⟨_, rfl⟩
  rw [← hE] at hR q
  obtain ⟨nm, tn, pr, dl, a, n, c, ds, bs, cp, at', ls, cr, ct⟩ := x
  unfold Spc.cells at q ⊢
  simp only at q hR ⊢
  obtain ⟨V, hV⟩ : ∃ V, V = w.alloc (.cells #[.string nm, .string tn, .int .i64 pr, .int .i64 dl, .slice a n c, .int .i64 bs, .int .i64 cp, .int .i64 at', .int .i64 ls, .string cr, .int .i64 ct] 24) := ⟨_, rfl⟩
  have hb1 : Below w.heap.size w V := by rw [hV]; exact (Below.refl _ w).alloc (Nat.le_refl _) _
  have hx0 : V.heap[w.heap.size]? = some (.cells #[.string nm, .string tn, .int .i64 pr, .int .i64 dl, .slice a n c, .int .i64 bs, .int .i64 cp, .int .i64 at', .int .i64 ls, .string cr, .int .i64 ct] 24 (0, 0)) := by rw [hV]; exact (MapKept.heap_alloc w _).1
  obtain ⟨⟨l0, l1, l2, l3, l4, l5, l6, l7, l8, l9, l10⟩, _⟩ := Sp.eleven hx0
  have HQ := Lib.hid (And.intro (q V hb1) (And.intro hb1 hV))
  clear q hb1 hV hx0 hk hg hE
  by_cases hcr : cr.toList.isEmpty = true
  · obtain rfl : R = false := by rw [hR, hcr]; rfl
    clear hR
    go_enter Tryd.func13, Tryd.ntmps13
    go_wp2_with fail
    rw [← HQ.out.2.2]
    go_wp2_with fail
    go_ret
    exact ⟨rfl, HQ.out.2.1⟩
  · have hcr' : cr.toList.isEmpty = false := by simpa using hcr
    by_cases hE0 : E = 0
    · obtain rfl : R = true := by rw [hR, hcr', hE0]; rfl
      have i1 : (((E : Nat) : Int) == 0) = true := by rw [hE0]; rfl
      clear hR hcr hE0
      go_enter Tryd.func13, Tryd.ntmps13
      go_wp2_with fail
      rw [← HQ.out.2.2]
      go_wp2_with fail
      refine HQ.out.1.mono ?_
      rintro e w2 ⟨rfl, hb⟩
      have HB := Lib.hid (HQ.out.2.1.trans (hb.mono HQ.out.2.1.size))
      clear hb
      go_wp2_with fail
      go_ret
      exact ⟨rfl, HB.out⟩
    · obtain rfl : R = false := by rw [hR, decide_eq_false hE0, Bool.and_false]
      have i1 : (((E : Nat) : Int) == 0) = false := by simpa using hE0
      clear hR hcr hE0
      go_enter Tryd.func13, Tryd.ntmps13
      go_wp2_with fail
      rw [← HQ.out.2.2]
      go_wp2_with fail
      refine HQ.out.1.mono ?_
      rintro e w2 ⟨rfl, hb⟩
      have HB := Lib.hid (HQ.out.2.1.trans (hb.mono HQ.out.2.1.size))
      clear hb
      go_wp2_with fail
      go_ret
      exact ⟨rfl, HB.out⟩
/-- a tick -/
def tkB (t : Int) : Bool := decide (0 ≤ t) && decide (t ≤ 1099511627776)
theorem isTick_any (n : Int) (w : World) : Calls Tryd.prog 14 #[.int .i64 n] w fun e w' => e = .returned (.bool (tkB n)) ∧ w' = w := by
  unfold tkB
  by_cases h1 : 0 ≤ n
  · by_cases h2 : n ≤ 1099511627776
    · rw [show (decide (0 ≤ n) && decide (n ≤ 1099511627776)) = true by simp [h1, h2]]
      go_enter Tryd.func14, Tryd.ntmps14
      go_wp2
      go_ret
      exact ⟨rfl, rfl⟩
    · rw [show (decide (0 ≤ n) && decide (n ≤ 1099511627776)) = false by simp [h2]]
      go_enter Tryd.func14, Tryd.ntmps14
      go_wp2
      go_ret
      exact ⟨rfl, rfl⟩
  · rw [show (decide (0 ≤ n) && decide (n ≤ 1099511627776)) = false by simp [h1]]
    go_enter Tryd.func14, Tryd.ntmps14
    go_wp2
    go_ret
    exact ⟨rfl, rfl⟩
end Go.Proofs.YtkkanggkbbmfnaaDoor.Ct

/- crontab: Due, refused -/
namespace Go.Proofs.YtkkanggkbbmfnaaDoor.Ct
open Go.RowKit Go.Lib Go.Proofs.YtkkanggkbbmfnaaDoor.Cn Go.Proofs.YtkkanggkbbmfnaaDoor.Rg Go.Proofs.YtkkanggkbbmfnaaDoor.Fi
open Sp (Spc Okc chkE)
set_option linter.unusedVariables false
set_option linter.unusedSimpArgs false
set_option maxRecDepth 20000

theorem results_3 {fn : Func} {tmps : Array Value} {r1 r2 r3 b1 b2 b3 : Nat} {X : World} {v1 v2 v3 : Value}
    (hres : fn.results = #[.cell r1 27, .cell r2 3, .cell r3 28]) (ht1 : tmps.getD r1 undef = .pointer (some ⟨b1, 0, none⟩)) (ht2 : tmps.getD r2 undef = .pointer (some ⟨b2, 0, none⟩)) (ht3 : tmps.getD r3 undef = .pointer (some ⟨b3, 0, none⟩))
    (h1 : X.cell? ⟨b1, 0, none⟩ = some v1) (h2 : X.cell? ⟨b2, 0, none⟩ = some v2) (h3 : X.cell? ⟨b3, 0, none⟩ = some v3) : (results fn tmps).run Tryd.prog X = .ok (.tuple #[v1, v2, v3]) X := by
  have e1 : (loadVar 27 ⟨b1, 0, none⟩).run Tryd.prog X = .ok v1 X := by go_simp
  have e2 : (loadVar 3 ⟨b2, 0, none⟩).run Tryd.prog X = .ok v2 X := by go_simp
  have e3 : (loadVar 28 ⟨b3, 0, none⟩).run Tryd.prog X = .ok v3 X := by go_simp
  have ht1' : tmps[r1]?.getD undef = .pointer (some ⟨b1, 0, none⟩) := by simpa using ht1
  have ht2' : tmps[r2]?.getD undef = .pointer (some ⟨b2, 0, none⟩) := by simpa using ht2
  have ht3' : tmps[r3]?.getD undef = .pointer (some ⟨b3, 0, none⟩) := by simpa using ht3
  simp only [results, hres]
  simp [ht1', ht2', ht3', Result.andThen, asAddr, e1, e2, e3]
/-- a spec's block, its tick's, the results' -/
theorem five_new (w : World) (C0 C1 C2 C3 C4 : Array Value) (t0 t1 t2 t3 t4 : TypeId) {V : World} (hV : V = ((((w.alloc (.cells C0 t0)).alloc (.cells C1 t1)).alloc (.cells C2 t2)).alloc (.cells C3 t3)).alloc (.cells C4 t4)) :
    Below w.heap.size w V ∧ V.heap[w.heap.size]? = some (.cells C0 t0 (0, 0)) ∧ V.heap[w.heap.size + 1]? = some (.cells C1 t1 (0, 0)) ∧ V.heap[w.heap.size + 2]? = some (.cells C2 t2 (0, 0)) ∧ V.heap[w.heap.size + 3]? = some (.cells C3 t3 (0, 0)) ∧
      V.heap[w.heap.size + 4]? = some (.cells C4 t4 (0, 0)) ∧ V.heap.size = w.heap.size + 5 := by
  obtain ⟨b1, b2, b3, b4, b5, b6⟩ := four_new w C0 C1 C2 C3 t0 t1 t2 t3 (V := (((w.alloc (.cells C0 t0)).alloc (.cells C1 t1)).alloc (.cells C2 t2)).alloc (.cells C3 t3)) rfl
  obtain ⟨c1, c2, c3⟩ := cell_new ((((w.alloc (.cells C0 t0)).alloc (.cells C1 t1)).alloc (.cells C2 t2)).alloc (.cells C3 t3)) C4 t4
  rw [b6] at c2 c3
  subst hV
  exact ⟨b1.trans (c1.mono (by omega)), old_blk c1 b2, old_blk c1 b3, old_blk c1 b4, old_blk c1 b5, c2, c3⟩
/-- three results, stored -/
theorem three_st {X : World} {B : Nat} {u1 u2 u3 v1 v2 v3 : Value} {t1 t2 t3 : TypeId} (h1 : X.heap[B + 2]? = some (.cells #[u1] t1 (0, 0))) (h2 : X.heap[B + 3]? = some (.cells #[u2] t2 (0, 0))) (h3 : X.heap[B + 4]? = some (.cells #[u3] t3 (0, 0))) {Z : World}
    (hZ : Z = ((X.setCell ⟨B + 2, 0, none⟩ v1).setCell ⟨B + 3, 0, none⟩ v2).setCell ⟨B + 4, 0, none⟩ v3) :
    Z.heap[B + 2]? = some (.cells #[v1] t1 (0, 0)) ∧ Z.heap[B + 3]? = some (.cells #[v2] t2 (0, 0)) ∧ Z.heap[B + 4]? = some (.cells #[v3] t3 (0, 0)) ∧ BelowO (fun k => k = B + 2 ∨ k = B + 3 ∨ k = B + 4) X Z := by
  have ho : BelowO (fun k => k = B + 2 ∨ k = B + 3 ∨ k = B + 4) X Z := by
    rw [hZ]
    exact (((BelowO.of (own := fun k => k = B + 2 ∨ k = B + 3 ∨ k = B + 4) (Below.refl X.heap.size X)).set (p := ⟨B + 2, 0, none⟩) (.inl rfl) v1).set (p := ⟨B + 3, 0, none⟩) (.inr (.inl rfl)) v2).set (p := ⟨B + 4, 0, none⟩) (.inr (.inr rfl)) v3
  refine ⟨?_, ?_, ?_, ho⟩
  · rw [hZ, heap_setCell_other _ _ _ _ (by simp), heap_setCell_other _ _ _ _ (by simp)]; exact one_set h1 v1
  · rw [hZ, heap_setCell_other _ _ _ _ (by simp)]; exact one_set ((heap_setCell_other _ _ _ _ (by simp)).trans h2) v2
  · rw [hZ]; exact one_set ((heap_setCell_other _ _ _ _ (by simp)).trans ((heap_setCell_other _ _ _ _ (by simp)).trans h3)) v3
set_option maxHeartbeats 8000000 in
theorem Due_no (x : Spc) (a t : Int) {w : World} (hk : Okc x w) (hg : Gl w) (E : Nat) (h : (tplB x = false ∧ E = 1) ∨ (tplB x = true ∧ (tkB a = false ∨ tkB t = false ∨ t < a) ∧ E = 3)) :
    Calls Tryd.prog 7 #[.agg x.cells, .int .i64 a, .int .i64 t] w fun e w' => e = .returned (.tuple #[.slice none 0 0, .int .i64 0, .int .i64 (E : Nat)]) ∧ Below w.heap.size w w' := by
  have q := fun W (h : Below w.heap.size w W) => isTemplate_any x (w := W) (hk.old h) (hg.old h)
  have q1 := fun W => isTick_any a W
  have q2 := fun W => isTick_any t W
  generalize tplB x = B at q h
  generalize tkB a = B1 at q1 h
  generalize tkB t = B2 at q2 h
  obtain ⟨nm, tn, pr, dl, ao, n, c, ds, bs, cp, at', ls, cr, ct⟩ := x
  unfold Spc.cells at q ⊢
  simp only at q ⊢
  obtain ⟨V, hV⟩ : ∃ V, V = ((((w.alloc (.cells #[.string nm, .string tn, .int .i64 pr, .int .i64 dl, .slice ao n c, .int .i64 bs, .int .i64 cp, .int .i64 at', .int .i64 ls, .string cr, .int .i64 ct] 24)).alloc (.cells #[.int .i64 t] 2)).alloc (.cells #[.slice none 0 0] 27)).alloc (.cells #[.int .i64 0] 3)).alloc (.cells #[.int .i64 0] 28) := ⟨_, rfl⟩
  obtain ⟨b1, b2, b3, b4, b5, b6, b7⟩ := five_new w _ _ _ _ _ _ _ _ _ _ hV
  obtain ⟨⟨l0, l1, l2, l3, l4, l5, l6, l7, l8, l9, l10⟩, _⟩ := Sp.eleven b2
  have HQ := Lib.hid (And.intro (q V b1) (And.intro q1 (And.intro q2 (And.intro b1 hV))))
  have HV := Lib.hid (And.intro b3 (And.intro b4 (And.intro b5 b6)))
  clear q q1 q2 hV hk hg b3 b4 b5 b6
  rcases h with ⟨rfl, rfl⟩ | ⟨rfl, h, rfl⟩
  · go_enter Tryd.func7, Tryd.ntmps7
    go_wp2_with fail
    rw [← HQ.out.2.2.2.2]
    go_wp2_with fail
    refine HQ.out.1.mono ?_
    rintro e w1 ⟨rfl, hb⟩
    have c4 := old_blk hb HV.out.2.1
    have c5 := old_blk hb HV.out.2.2.1
    have c6 := old_blk hb HV.out.2.2.2
    obtain ⟨k4, f4⟩ := one_cell c4
    obtain ⟨k5, f5⟩ := one_cell c5
    obtain ⟨k6, f6⟩ := one_cell c6
    have HB := Lib.hid (And.intro (HQ.out.2.2.2.1.trans (hb.mono HQ.out.2.2.2.1.size)) (And.intro c4 (And.intro c5 c6)))
    clear hb c4 c5 c6
    go_wp2_with fail
    obtain ⟨Z, hZ⟩ : ∃ Z, Z = ((w1.setCell ⟨w.heap.size + 2, 0, none⟩ (.slice none 0 0)).setCell ⟨w.heap.size + 3, 0, none⟩ (.int .i64 0)).setCell ⟨w.heap.size + 4, 0, none⟩ (.int .i64 1) := ⟨_, rfl⟩
    obtain ⟨g1, g2, g3, g4⟩ := three_st HB.out.2.1 HB.out.2.2.1 HB.out.2.2.2 hZ
    refine bodyPost_ret (v := .tuple #[.slice none 0 0, .int .i64 0, .int .i64 1]) ?_ rfl ⟨rfl, ?_⟩
    · change (results Tryd.f7 _).run Tryd.prog ((((w1.setCell ⟨w.heap.size + 2, 0, none⟩ (.slice none 0 0)).setCell ⟨w.heap.size + 3, 0, none⟩ (.int .i64 0)).setCell ⟨w.heap.size + 4, 0, none⟩ (.int .i64 1))) = .ok _ ((((w1.setCell ⟨w.heap.size + 2, 0, none⟩ (.slice none 0 0)).setCell ⟨w.heap.size + 3, 0, none⟩ (.int .i64 0)).setCell ⟨w.heap.size + 4, 0, none⟩ (.int .i64 1)))
      rw [← hZ]
      exact results_3 rfl rfl rfl rfl (one_cell g1).1 (one_cell g2).1 (one_cell g3).1
    · have hb := HB.out.1.trans (g4.below HB.out.1.size (fun k hk => by omega))
      rw [hZ] at hb
      exact hb
  · go_enter Tryd.func7, Tryd.ntmps7
    go_wp2_with fail
    rw [← HQ.out.2.2.2.2]
    go_wp2_with fail
    refine HQ.out.1.mono ?_
    rintro e w1 ⟨rfl, hb⟩
    have c3 := old_blk hb HV.out.1
    have c4 := old_blk hb HV.out.2.1
    have c5 := old_blk hb HV.out.2.2.1
    have c6 := old_blk hb HV.out.2.2.2
    obtain ⟨k3, f3⟩ := one_cell c3
    obtain ⟨k4, f4⟩ := one_cell c4
    obtain ⟨k5, f5⟩ := one_cell c5
    obtain ⟨k6, f6⟩ := one_cell c6
    have HB := Lib.hid (And.intro (HQ.out.2.2.2.1.trans (hb.mono HQ.out.2.2.2.1.size)) (And.intro c4 (And.intro c5 c6)))
    clear hb c3 c4 c5 c6
    go_wp2_with fail
    refine (HQ.out.2.1 _).mono ?_
    rintro e w2 ⟨rfl, rfl⟩
    cases B1
    · clear h
      go_wp2_with fail
      obtain ⟨Z, hZ⟩ : ∃ Z, Z = ((w2.setCell ⟨w.heap.size + 2, 0, none⟩ (.slice none 0 0)).setCell ⟨w.heap.size + 3, 0, none⟩ (.int .i64 0)).setCell ⟨w.heap.size + 4, 0, none⟩ (.int .i64 3) := ⟨_, rfl⟩
      obtain ⟨g1, g2, g3, g4⟩ := three_st HB.out.2.1 HB.out.2.2.1 HB.out.2.2.2 hZ
      refine bodyPost_ret (v := .tuple #[.slice none 0 0, .int .i64 0, .int .i64 3]) ?_ rfl ⟨rfl, ?_⟩
      · change (results Tryd.f7 _).run Tryd.prog ((((w2.setCell ⟨w.heap.size + 2, 0, none⟩ (.slice none 0 0)).setCell ⟨w.heap.size + 3, 0, none⟩ (.int .i64 0)).setCell ⟨w.heap.size + 4, 0, none⟩ (.int .i64 3))) = .ok _ ((((w2.setCell ⟨w.heap.size + 2, 0, none⟩ (.slice none 0 0)).setCell ⟨w.heap.size + 3, 0, none⟩ (.int .i64 0)).setCell ⟨w.heap.size + 4, 0, none⟩ (.int .i64 3)))
        rw [← hZ]
        exact results_3 rfl rfl rfl rfl (one_cell g1).1 (one_cell g2).1 (one_cell g3).1
      · have hb := HB.out.1.trans (g4.below HB.out.1.size (fun k hk => by omega))
        rw [hZ] at hb
        exact hb
    go_wp2_with fail
    refine (HQ.out.2.2.1 _).mono ?_
    rintro e w3 ⟨rfl, rfl⟩
    cases B2
    · clear h
      go_wp2_with fail
      obtain ⟨Z, hZ⟩ : ∃ Z, Z = ((w3.setCell ⟨w.heap.size + 2, 0, none⟩ (.slice none 0 0)).setCell ⟨w.heap.size + 3, 0, none⟩ (.int .i64 0)).setCell ⟨w.heap.size + 4, 0, none⟩ (.int .i64 3) := ⟨_, rfl⟩
      obtain ⟨g1, g2, g3, g4⟩ := three_st HB.out.2.1 HB.out.2.2.1 HB.out.2.2.2 hZ
      refine bodyPost_ret (v := .tuple #[.slice none 0 0, .int .i64 0, .int .i64 3]) ?_ rfl ⟨rfl, ?_⟩
      · change (results Tryd.f7 _).run Tryd.prog ((((w3.setCell ⟨w.heap.size + 2, 0, none⟩ (.slice none 0 0)).setCell ⟨w.heap.size + 3, 0, none⟩ (.int .i64 0)).setCell ⟨w.heap.size + 4, 0, none⟩ (.int .i64 3))) = .ok _ ((((w3.setCell ⟨w.heap.size + 2, 0, none⟩ (.slice none 0 0)).setCell ⟨w.heap.size + 3, 0, none⟩ (.int .i64 0)).setCell ⟨w.heap.size + 4, 0, none⟩ (.int .i64 3)))
        rw [← hZ]
        exact results_3 rfl rfl rfl rfl (one_cell g1).1 (one_cell g2).1 (one_cell g3).1
      · have hb := HB.out.1.trans (g4.below HB.out.1.size (fun k hk => by omega))
        rw [hZ] at hb
        exact hb
    have hta : t < a := (h.elim (fun h => by cases h) (fun h => h.elim (fun h => by cases h) id))
    clear h
    go_wp2_with fail
    obtain ⟨Z, hZ⟩ : ∃ Z, Z = ((w3.setCell ⟨w.heap.size + 2, 0, none⟩ (.slice none 0 0)).setCell ⟨w.heap.size + 3, 0, none⟩ (.int .i64 0)).setCell ⟨w.heap.size + 4, 0, none⟩ (.int .i64 3) := ⟨_, rfl⟩
    obtain ⟨g1, g2, g3, g4⟩ := three_st HB.out.2.1 HB.out.2.2.1 HB.out.2.2.2 hZ
    refine bodyPost_ret (v := .tuple #[.slice none 0 0, .int .i64 0, .int .i64 3]) ?_ rfl ⟨rfl, ?_⟩
    · change (results Tryd.f7 _).run Tryd.prog ((((w3.setCell ⟨w.heap.size + 2, 0, none⟩ (.slice none 0 0)).setCell ⟨w.heap.size + 3, 0, none⟩ (.int .i64 0)).setCell ⟨w.heap.size + 4, 0, none⟩ (.int .i64 3))) = .ok _ ((((w3.setCell ⟨w.heap.size + 2, 0, none⟩ (.slice none 0 0)).setCell ⟨w.heap.size + 3, 0, none⟩ (.int .i64 0)).setCell ⟨w.heap.size + 4, 0, none⟩ (.int .i64 3)))
      rw [← hZ]
      exact results_3 rfl rfl rfl rfl (one_cell g1).1 (one_cell g2).1 (one_cell g3).1
    · have hb := HB.out.1.trans (g4.below HB.out.1.size (fun k hk => by omega))
      rw [hZ] at hb
      exact hb
end Go.Proofs.YtkkanggkbbmfnaaDoor.Ct

/- crontab: Due: what its loop keeps -/
namespace Go.Proofs.YtkkanggkbbmfnaaDoor.Ct
open Go.RowKit Go.Lib Go.Proofs.YtkkanggkbbmfnaaDoor.Cn Go.Proofs.YtkkanggkbbmfnaaDoor.Rg Go.Proofs.YtkkanggkbbmfnaaDoor.Fi
open Sp (Spc Okc chkE)
set_option linter.unusedVariables false
set_option linter.unusedSimpArgs false
set_option maxRecDepth 20000

theorem own_shape {w : World} {B n k : Nat} {e : TypeId} {v : Value} {xs : List Value} (h : w.ownsRow B e k v n xs) : ∃ a c, v = .slice a n c := by
  rcases h.2 with ⟨rfl, h0⟩ | ⟨g, cap, cur, rfl, _⟩
  · exact ⟨none, 0, by rw [h0]⟩
  · exact ⟨_, _, rfl⟩
theorem own_lt {w : World} {B n k : Nat} {e : TypeId} {v : Value} {xs : List Value} (h : w.ownsRow B e k v n xs) {g : Nat} (hg : v.ownBlock = some g) : B ≤ g ∧ g < w.heap.size := h.lt g hg
theorem own_keep {w w' : World} {B n k : Nat} {e : TypeId} {v : Value} {xs : List Value} (h : w.ownsRow B e k v n xs) (hb : ∀ g, v.ownBlock = some g → w'.heap[g]? = w.heap[g]?) : w'.ownsRow B e k v n xs := by
  refine ⟨h.1, ?_⟩
  rcases h.2 with h1 | ⟨g, cap, cur, h1, h2, h3, h4⟩
  · exact .inl h1
  · exact .inr ⟨g, cap, cur, h1, h2, (hb g (by rw [h1]; rfl)).trans h3, h4⟩
/-- what a template that may be has -/
theorem tpl_in {x : Spc} (h : tplB x = true) : parseE x.cr.data.toList = 0 ∧ 1 ≤ x.ct ∧ x.ct ≤ 16 := by
  unfold tplB at h
  rw [Bool.and_eq_true, decide_eq_true_eq] at h
  obtain ⟨h1, h2⟩ := h
  have h3 : x.cr.toList.isEmpty = false := by simpa using h1
  unfold chkE at h2
  split at h2
  · cases h2
  · split at h2
    · cases h2
    · rename_i h4
      rw [h3, if_neg (by simp)] at h2
      unfold Sp.chkT at h2
      split at h2
      · rename_i h5; exact absurd h2 h5
      · rename_i h5
        split at h2
        · cases h2
        · rename_i h6
          refine ⟨Decidable.byContradiction h5, ?_⟩
          have h7 : Sp.inbB x = true := by
            cases hi : Sp.inbB x with
            | true => rfl
            | false => rw [hi] at h4; simp at h4
          unfold Sp.inbB at h7
          simp only [Bool.and_eq_true, decide_eq_true_eq] at h7
          have h8 := h7.2
          have h9 := h7.1.2
          omega
/-- the loop's state: the last tick that was told; what is the call's own -/
structure DI (b0 xB N2 N : Nat) (w0 : World) (C0 : Array Value) (X : Ex) (a t x : Int) (D : Nat → Prop) (A : World) : Prop where
  sp : A.heap[b0]? = some (.cells C0 24 (0, 0))
  to : A.heap[b0 + 1]? = some (.cells #[.int .i64 t] 2 (0, 0))
  m : A.heap[b0 + 3]? = some (.cells #[.int .i64 0] 3 (0, 0))
  er : A.heap[b0 + 4]? = some (.cells #[.int .i64 0] 28 (0, 0))
  ex : A.heap[xB]? = some (.cells (exC X) 46 (0, 0))
  row : ∃ v ts, A.heap[b0 + 2]? = some (.cells #[v] 27 (0, 0)) ∧ A.ownsRow N2 2 1 v ts.length (intsI ts) ∧ Chn X a ts x ∧ ts.length < N ∧ ∀ g, v.ownBlock = some g → D g
  le : x ≤ t
  b : Below b0 w0 A
  d : Db A
  z : N2 ≤ A.heap.size
  i1 : b0 + 4 < N2 ∧ xB < N2 ∧ 1 < N2 ∧ xB ≠ b0 + 2 ∧ b0 + 2 ≠ 1 ∧ b0 + 4 < xB
  D1 : ∀ k, D k → k < A.heap.size ∧ (k = b0 + 2 ∨ N2 ≤ k)
  D2 : D (b0 + 2)
theorem DI.keep {b0 xB N2 N : Nat} {w0 : World} {C0 : Array Value} {X : Ex} {a t x : Int} {D : Nat → Prop} {A A' : World} (h : DI b0 xB N2 N w0 C0 X a t x D A) (hk : KeepD N2 D A A') : DI b0 xB N2 N w0 C0 X a t x D A' := by
  have i := h.i1
  have z := h.z
  have e : ∀ k, k < N2 → A'.heap[k]? = A.heap[k]? := fun k hk' => hk.block k (by omega) (.inl hk')
  obtain ⟨v, ts, r1, r2, r3, r4, r5⟩ := h.row
  exact ⟨(e _ (by omega)).trans h.sp, (e _ (by omega)).trans h.to, (e _ (by omega)).trans h.m, (e _ (by omega)).trans h.er, (e _ (by omega)).trans h.ex,
    ⟨v, ts, (e _ (by omega)).trans r1, own_keep r2 (fun g hg => hk.block g (own_lt r2 hg).2 (.inr (r5 g hg))), r3, r4, r5⟩, h.le,
    ⟨hk.os.trans h.b.os, hk.tape.trans h.b.tape, hk.output.trans h.b.output, Nat.le_trans h.b.size hk.size, fun k hk' => (e k (by omega)).trans (h.b.block k hk')⟩, h.d.keep (e _ (by omega)), Nat.le_trans z hk.size, i,
    fun k hk' => ⟨by have := (h.D1 k hk').1; have := hk.size; omega, (h.D1 k hk').2⟩, h.D2⟩
/-- how it is left -/
structure DX (b0 N2 N : Nat) (w0 : World) (X : Ex) (a t : Int) (c : Code) (D : Nat → Prop) (A : World) : Prop where
  c : c = .ret
  row : ∃ v ts m, A.heap[b0 + 2]? = some (.cells #[v] 27 (0, 0)) ∧ A.heap[b0 + 3]? = some (.cells #[.int .i64 (m : Nat)] 3 (0, 0)) ∧ A.ownsRow N2 2 1 v ts.length (intsI ts) ∧ DueIs X a t N ts m ∧ ∀ g, v.ownBlock = some g → D g
  er : A.heap[b0 + 4]? = some (.cells #[.int .i64 0] 28 (0, 0))
  b : Below b0 w0 A
  z : b0 + 4 < N2 ∧ N2 ≤ A.heap.size
theorem DX.keep {b0 N2 N : Nat} {w0 : World} {X : Ex} {a t : Int} {c : Code} {D : Nat → Prop} {A A' : World} (h : DX b0 N2 N w0 X a t c D A) (hk : KeepD N2 D A A') : DX b0 N2 N w0 X a t c D A' := by
  have z := h.z
  have e : ∀ k, k < N2 → A'.heap[k]? = A.heap[k]? := fun k hk' => hk.block k (by omega) (.inl hk')
  obtain ⟨v, ts, m, r1, r2, r3, r4, r5⟩ := h.row
  exact ⟨h.c, ⟨v, ts, m, (e _ (by omega)).trans r1, (e _ (by omega)).trans r2, own_keep r3 (fun g hg => hk.block g (own_lt r3 hg).2 (.inr (r5 g hg))), r4, r5⟩, (e _ (by omega)).trans h.er,
    ⟨hk.os.trans h.b.os, hk.tape.trans h.b.tape, hk.output.trans h.b.output, Nat.le_trans h.b.size hk.size, fun k hk' => (e k (by omega)).trans (h.b.block k hk')⟩, z.1, Nat.le_trans z.2 hk.size⟩
/-- the row, one tick longer -/
structure Longer (b0 N2 : Nat) (v v5 : Value) (ts : List Int) (y : Int) (D : Nat → Prop) (A W : World) : Prop where
  row : W.ownsRow N2 2 1 v5 (ts.length + 1) (intsI ts ++ [.int .i64 y])
  at' : v5.ownBlock = v.ownBlock ∨ v5.ownBlock = some (A.heap.size + 1)
  kept : ∀ k, k < A.heap.size → v.ownBlock ≠ some k → W.heap[k]? = A.heap[k]?
  os : W.os = A.os
  tape : W.tape = A.tape
  output : W.output = A.output
  size : A.heap.size ≤ W.heap.size
theorem Longer.of {b0 N2 : Nat} {v v5 : Value} {ts : List Int} {y : Int} {D : Nat → Prop} {A W : World} {o : Obj} (h1 : W.ownsRow N2 2 1 v5 (ts.length + 1) (intsI ts ++ [.int .i64 y])) (h2 : (A.alloc o).grownBy W v.ownBlock)
    (h3 : v5.ownBlock = v.ownBlock ∨ v5.ownBlock = some (A.alloc o).heap.size) : Longer b0 N2 v v5 ts y D A W :=
  ⟨h1, by rw [World.size_alloc] at h3; exact h3, fun k hk hn => (h2.block k (by simp; omega) hn.symm).trans (Below.heap_alloc A o k hk), h2.os, h2.tape, h2.output, by have := h2.size; simp at this; omega⟩
/-- behind a round -/
theorem DI.next {b0 xB N2 N : Nat} {w0 : World} {C0 : Array Value} {X : Ex} {a t x y : Int} {D : Nat → Prop} {A W Z : World} {v v5 : Value} {ts : List Int} (h : DI b0 xB N2 N w0 C0 X a t x D A)
    (hv : A.heap[b0 + 2]? = some (.cells #[v] 27 (0, 0))) (hown : A.ownsRow N2 2 1 v ts.length (intsI ts)) (hch : Chn X a ts x) (hD : ∀ g, v.ownBlock = some g → D g)
    (hl : Longer b0 N2 v v5 ts y D A W) (hZ : Z = W.setCell ⟨b0 + 2, 0, none⟩ v5) (hG : BG X t x y) (hN : ts.length + 1 < N) :
    ∃ D', Grew D D' A ∧ BelowO D A Z ∧ DI b0 xB N2 N w0 C0 X a t y D' Z := by
  have i := h.i1
  have z := h.z
  have hvN : ∀ k, k < N2 → v.ownBlock ≠ some k := fun k hk e => by have := (own_lt hown e).1; omega
  have hW : ∀ k, k < N2 → W.heap[k]? = A.heap[k]? := fun k hk => hl.kept k (by omega) (hvN k hk)
  have hZo : ∀ k, k ≠ b0 + 2 → Z.heap[k]? = W.heap[k]? := fun k hk => by rw [hZ, heap_setCell_other _ _ _ _ hk]
  have hZz : Z.heap.size = W.heap.size := by rw [hZ]; simp
  have e : ∀ k, k < N2 → k ≠ b0 + 2 → Z.heap[k]? = A.heap[k]? := fun k h1 h2 => (hZo k h2).trans (hW k h1)
  have hv5 : ∀ g, v5.ownBlock = some g → N2 ≤ g := fun g hg => (own_lt hl.row hg).1
  refine ⟨fun k => D k ∨ v5.ownBlock = some k, fun k hk => ?_, ⟨?_, ?_, ?_, ?_, fun k hk hn => ?_⟩, ⟨?_, ?_, ?_, ?_, ?_, ?_, hG.2, ?_, ?_, ?_, i, ?_, .inl h.D2⟩⟩
  · rcases hk with hk | hk
    · exact .inl hk
    · rcases hl.at' with h1 | h1
      · exact .inl (hD k (by rw [← h1]; exact hk))
      · rw [h1] at hk; obtain rfl := Option.some.inj hk; exact .inr (by omega)
  · rw [hZ]; exact hl.os
  · rw [hZ]; exact hl.tape
  · rw [hZ]; exact hl.output
  · rw [hZz]; exact hl.size
  · rw [hZo k (fun x => hn (x ▸ h.D2))]
    exact hl.kept k hk (fun x => hn (hD k x))
  · exact (e _ (by omega) (by omega)).trans h.sp
  · exact (e _ (by omega) (by omega)).trans h.to
  · exact (e _ (by omega) (by omega)).trans h.m
  · exact (e _ (by omega) (by omega)).trans h.er
  · exact (e _ (by omega) (by omega)).trans h.ex
  · refine ⟨v5, ts ++ [y], ?_, ?_, hch.snoc hG.1, by rw [List.length_append]; simpa using hN, fun g hg => .inr hg⟩
    · rw [hZ]; exact one_set ((hW _ (by omega)).trans hv) v5
    · rw [List.length_append, List.length_singleton]
      have e1 : intsI (ts ++ [y]) = intsI ts ++ [.int .i64 y] := by simp [intsI]
      rw [e1]
      exact own_keep hl.row fun g hg => hZo g (fun x => by have := hv5 g hg; omega)
  · refine ⟨?_, ?_, ?_, ?_, fun k hk => (e k (by omega) (by omega)).trans (h.b.block k hk)⟩
    · rw [hZ]; exact hl.os.trans h.b.os
    · rw [hZ]; exact hl.tape.trans h.b.tape
    · rw [hZ]; exact hl.output.trans h.b.output
    · rw [hZz]; exact Nat.le_trans h.b.size hl.size
  · exact h.d.keep (e _ (by omega) (by omega))
  · rw [hZz]; exact Nat.le_trans z hl.size
  · intro k hk
    rw [hZz]
    rcases hk with hk | hk
    · exact ⟨by have := (h.D1 k hk).1; have := hl.size; omega, (h.D1 k hk).2⟩
    · exact ⟨(own_lt hl.row hk).2, .inr (hv5 k hk)⟩
end Go.Proofs.YtkkanggkbbmfnaaDoor.Ct

/- crontab: Due -/
namespace Go.Proofs.YtkkanggkbbmfnaaDoor.Ct
open Go.RowKit Go.Lib Go.Proofs.YtkkanggkbbmfnaaDoor.Cn Go.Proofs.YtkkanggkbbmfnaaDoor.Rg Go.Proofs.YtkkanggkbbmfnaaDoor.Fi Go.Proofs.YtkkanggkbbmfnaaDoor.Ht
open Sp (Spc Okc chkE)
attribute [local go_sem] Oper.semAt_some
set_option linter.unusedVariables false
set_option linter.unusedSimpArgs false
set_option maxRecDepth 20000

theorem infoI64 : (Tryd.prog.info? 2).map (fun i => (i.zero, i.size, i.bytes)) = some (some (.int .i64 0), 1, 8) := by kernel_rfl
theorem cell_one (w : World) (v : Value) (t : TypeId) : ∀ j x, [v][j]? = some x → (w.alloc (.cells #[v] t)).cell? ((⟨w.heap.size, 0, none⟩ : Addr).add j) = some x := by
  intro j x hj
  match j, hj with
  | 0, hj =>
    simp at hj
    subst hj
    have h := MapKept.heap_alloc w (.cells #[v] t)
    have h1 : (w.alloc (.cells #[v] t)).heap[w.heap.size]? = some (.cells #[v] t (0, 0)) := h.1
    have : (⟨w.heap.size, 0, none⟩ : Addr).add 0 = ⟨w.heap.size, 0, none⟩ := by unfold Addr.add; split <;> simp_all
    rw [this]; exact (one_cell h1).1
theorem own_base {w : World} {B B' n k : Nat} {e : TypeId} {v : Value} {xs : List Value} (h : w.ownsRow B e k v n xs) (hb : B' ≤ B) : w.ownsRow B' e k v n xs := by
  refine ⟨h.1, ?_⟩
  rcases h.2 with h1 | ⟨g, cap, cur, h1, h2, h3⟩
  · exact .inl h1
  · exact .inr ⟨g, cap, cur, h1, Nat.le_trans hb h2, h3⟩
theorem own_cells {w : World} {B n k : Nat} {e : TypeId} {v : Value} {xs : List Value} (h : w.ownsRow B e k v n xs) {g : Nat} (hg : v.ownBlock = some g) : ∃ cur t fr, w.heap[g]? = some (.cells cur t fr) := by
  rcases h.2 with ⟨rfl, _⟩ | ⟨g', cap, cur, rfl, _, h3, _⟩
  · cases hg
  · obtain rfl : g' = g := Option.some.inj hg
    exact ⟨_, _, _, h3⟩
/-- .. the last one -/
theorem DI.stop {b0 xB N2 N : Nat} {w0 : World} {C0 : Array Value} {X : Ex} {a t x y : Int} {D : Nat → Prop} {A W Z U Z4 : World} {v v5 : Value} {ts : List Int} {m : Nat} (h : DI b0 xB N2 N w0 C0 X a t x D A)
    (hv : A.heap[b0 + 2]? = some (.cells #[v] 27 (0, 0))) (hown : A.ownsRow N2 2 1 v ts.length (intsI ts)) (hch : Chn X a ts x) (hD : ∀ g, v.ownBlock = some g → D g)
    (hl : Longer b0 N2 v v5 ts y D A W) (hZ : Z = W.setCell ⟨b0 + 2, 0, none⟩ v5) (hG : BG X t x y) (hN : ts.length + 1 = N) (hU : Below Z.heap.size Z U) (hm : m = min (cnt X y t) 1048576)
    (hZ4 : Z4 = ((U.setCell ⟨b0 + 2, 0, none⟩ v5).setCell ⟨b0 + 3, 0, none⟩ (.int .i64 (m : Nat))).setCell ⟨b0 + 4, 0, none⟩ (.int .i64 0)) :
    ∃ D', Grew D D' A ∧ BelowO (fun k => k < N2 ∨ D k) A Z4 ∧ DX b0 N2 N w0 X a t .ret D' Z4 := by
  have i := h.i1
  have z := h.z
  have hvN : ∀ k, k < N2 → v.ownBlock ≠ some k := fun k hk e => by have := (own_lt hown e).1; omega
  have hW : ∀ k, k < N2 → W.heap[k]? = A.heap[k]? := fun k hk => hl.kept k (by omega) (hvN k hk)
  have hZo : ∀ k, k ≠ b0 + 2 → Z.heap[k]? = W.heap[k]? := fun k hk => by rw [hZ, heap_setCell_other _ _ _ _ hk]
  have hZz : Z.heap.size = W.heap.size := by rw [hZ]; simp
  have hUz := hU.size
  have hWz := hl.size
  have hU' : ∀ k, k < W.heap.size → U.heap[k]? = Z.heap[k]? := fun k hk => hU.block k (by omega)
  have hv5 : ∀ g, v5.ownBlock = some g → N2 ≤ g := fun g hg => (own_lt hl.row hg).1
  have u2 : U.heap[b0 + 2]? = some (.cells #[v5] 27 (0, 0)) := by rw [hU' _ (by omega), hZ]; exact one_set ((hW _ (by omega)).trans hv) v5
  have u3 : U.heap[b0 + 3]? = some (.cells #[.int .i64 0] 3 (0, 0)) := by rw [hU' _ (by omega), hZo _ (by omega), hW _ (by omega)]; exact h.m
  have u4 : U.heap[b0 + 4]? = some (.cells #[.int .i64 0] 28 (0, 0)) := by rw [hU' _ (by omega), hZo _ (by omega), hW _ (by omega)]; exact h.er
  obtain ⟨g1, g2, g3, g4⟩ := three_st u2 u3 u4 hZ4
  have hos : Z.os = W.os ∧ Z.tape = W.tape ∧ Z.output = W.output := by rw [hZ]; exact ⟨rfl, rfl, rfl⟩
  have hg5 : ∀ g, v5.ownBlock = some g → Z4.heap[g]? = W.heap[g]? := fun g hg => by
    have h1 := (own_lt hl.row hg).2
    have h2 := hv5 g hg
    rw [g4.block g (by omega) (by omega), hU' g h1, hZo g (by omega)]
  refine ⟨fun k => D k ∨ v5.ownBlock = some k, fun k hk => ?_, ⟨?_, ?_, ?_, ?_, fun k hk hn => ?_⟩, ⟨rfl, ⟨v5, ts ++ [y], m, g1, g2, ?_, ⟨y, hch.snoc hG.1, hG.2, .inr ⟨by rw [List.length_append]; simpa using hN, hm⟩⟩, fun g hg => .inr hg⟩, g3, ?_, by omega, ?_⟩⟩
  · rcases hk with hk | hk
    · exact .inl hk
    · rcases hl.at' with h1 | h1
      · exact .inl (hD k (by rw [← h1]; exact hk))
      · rw [h1] at hk; obtain rfl := Option.some.inj hk; exact .inr (by omega)
  · exact g4.os.trans (hU.os.trans (hos.1.trans hl.os))
  · exact g4.tape.trans (hU.tape.trans (hos.2.1.trans hl.tape))
  · exact g4.output.trans (hU.output.trans (hos.2.2.trans hl.output))
  · exact Nat.le_trans (by omega) g4.size
  · have hk2 : N2 ≤ k := Nat.le_of_not_lt fun hx => hn (.inl hx)
    rw [g4.block k (by omega) (by omega), hU' k (by omega), hZo k (by omega)]
    exact hl.kept k hk (fun x => hn (.inr (hD k x)))
  · rw [List.length_append, List.length_singleton]
    have e1 : intsI (ts ++ [y]) = intsI ts ++ [.int .i64 y] := by simp [intsI]
    rw [e1]
    exact own_keep hl.row hg5
  · refine ⟨g4.os.trans (hU.os.trans (hos.1.trans (hl.os.trans h.b.os))), g4.tape.trans (hU.tape.trans (hos.2.1.trans (hl.tape.trans h.b.tape))), g4.output.trans (hU.output.trans (hos.2.2.trans (hl.output.trans h.b.output))), ?_, fun k hk => ?_⟩
    · have := h.b.size; have := g4.size; omega
    · rw [g4.block k (by omega) (by omega), hU' k (by omega), hZo k (by omega), hW k (by omega)]
      exact h.b.block k hk
  · have := g4.size; omega
set_option maxHeartbeats 8000000 in
theorem Due_ok (x : Spc) (a t : Int) {w : World} (hk : Okc x w) (hg : Gd w) (htp : tplB x = true) (ha : 0 ≤ a ∧ a ≤ 1099511627776) (htt : t ≤ 1099511627776) (hat : a ≤ t) :
    Calls Tryd.prog 7 #[.agg x.cells, .int .i64 a, .int .i64 t] w fun e w' => ∃ v ts m, e = .returned (.tuple #[v, .int .i64 (m : Nat), .int .i64 0]) ∧ w'.ownsRow w.heap.size 2 1 v ts.length (intsI ts) ∧
      DueIs (parseV x.cr.data.toList) a t x.ct.toNat ts m ∧ Below w.heap.size w w' := by
  have hmix : Tryd.prog.follows .mixedOrders = true := by kernel_rfl
  obtain ⟨hpe, hc1, hc16⟩ := tpl_in htp
  have q := fun W (h : Below w.heap.size w W) => isTemplate_any x (w := W) (hk.old h) (hg.gl.old h)
  rw [htp] at q
  have q1 := fun W => isTick_any a W
  have q2 := fun W => isTick_any t W
  rw [show tkB a = true by unfold tkB; simp; omega] at q1
  rw [show tkB t = true by unfold tkB; simp; omega] at q2
  have q3 := fun W (h : Below w.heap.size w W) => parse_any x.cr.data.toList W (hg.gl.old h)
  rw [hpe] at q3
  have hX := exOk_parse x.cr.data.toList
  obtain ⟨nm, tn, pr, dl, ao, n, c, ds, bs, cp, at', ls, cr, ct⟩ := x
  unfold Spc.cells at q ⊢
  simp only at q q3 hX hc1 hc16 ⊢
  rw [← Sp.str_S] at q3
  generalize parseV cr.data.toList = X at q3 hX ⊢
  obtain ⟨N, hN⟩ : ∃ N : Nat, ct = (N : Nat) := ⟨ct.toNat, by omega⟩
  subst hN
  rw [show ((N : Nat) : Int).toNat = N by omega]
  have hN1 : 1 ≤ N ∧ N ≤ 16 := by omega
  have qc : ∀ y, (0 ≤ y ∧ y ≤ t) → ∀ W, Db W → Calls Tryd.prog 17 #[exv X, .int .i64 y, .int .i64 t, .int .i64 1048576] W fun r w' => r = .returned (.int .i64 ((min (cnt X y t) 1048576 : Nat) : Int)) ∧ Below W.heap.size W w' := fun y hy W hW => by
    have h := Count_any X hX y t 1048576 (by unfold Ca.I64; omega) (by unfold Ca.I64; omega) (by unfold Ca.I64; omega) W hW
    have e1 : ctd X y t 1048576 = ((min (cnt X y t) 1048576 : Nat) : Int) := by
      unfold ctd
      rw [lo_id (by omega), up_id (by omega), if_neg (by omega)]
      omega
    rw [e1] at h
    exact h
  have qb := fun W hW => between_any X a t (by unfold Ca.I64; omega) (by unfold Ca.I64; omega) W hW
  rw [lo_id (by omega), up_id htt] at qb
  obtain ⟨C0, hC0⟩ : ∃ C0 : Array Value, C0 = #[.string nm, .string tn, .int .i64 pr, .int .i64 dl, .slice ao n c, .int .i64 bs, .int .i64 cp, .int .i64 at', .int .i64 ls, .string cr, .int .i64 (N : Nat)] := ⟨_, rfl⟩
  obtain ⟨V, hV⟩ : ∃ V, V = ((((w.alloc (.cells #[.string nm, .string tn, .int .i64 pr, .int .i64 dl, .slice ao n c, .int .i64 bs, .int .i64 cp, .int .i64 at', .int .i64 ls, .string cr, .int .i64 (N : Nat)] 24)).alloc (.cells #[.int .i64 t] 2)).alloc (.cells #[.slice none 0 0] 27)).alloc (.cells #[.int .i64 0] 3)).alloc (.cells #[.int .i64 0] 28) := ⟨_, rfl⟩
  obtain ⟨b1, b2, b3, b4, b5, b6, b7⟩ := five_new w _ _ _ _ _ _ _ _ _ _ hV
  obtain ⟨⟨l0, l1, l2, l3, l4, l5, l6, l7, l8, l9, l10⟩, _⟩ := Sp.eleven b2
  have HQ := Lib.hid (And.intro (q V b1) (And.intro q1 (And.intro q2 (And.intro b1 (And.intro hV b7)))))
  have HV := Lib.hid (And.intro b2 (And.intro b3 (And.intro b4 (And.intro b5 b6))))
  have HP := Lib.hid (And.intro q3 (And.intro qc (And.intro qb (And.intro hX (And.intro hN1 (And.intro (show Db w from hg.db) (And.intro ha (And.intro htt (And.intro hat hC0)))))))))
  clear q q1 q2 q3 qc qb hV hk hg b1 b2 b3 b4 b5 b6 b7 hX hN1 hpe htp hc1 hc16 ha htt hC0
  refine (callsIn_wide (n := 9)).1 ?_
  refine callsIn_of_wp_marks Tryd.func7 rfl trivial ?_ rfl
  simp only [Tryd.ntmps7, List.size_toArray, List.length_cons, List.length_nil, Nat.reduceAdd, Nat.reduceSub, Array.replicate_succ, Array.replicate_zero, List.push_toArray, List.append_toArray, List.nil_append, List.cons_append]
  gi_wp2_with fail
  rw [← HQ.out.2.2.2.2.1]
  gi_wp2_with fail
  refine ⟨trivial, (callsIn_wide.2 HQ.out.1).mono ?_⟩
  rintro e w1 ⟨rfl, hb⟩
  have c2 := old_blk hb HV.out.1
  have c3 := old_blk hb HV.out.2.1
  have c4 := old_blk hb HV.out.2.2.1
  have c5 := old_blk hb HV.out.2.2.2.1
  have c6 := old_blk hb HV.out.2.2.2.2
  obtain ⟨k3, f3⟩ := one_cell c3
  clear l0 l1 l2 l3 l4 l5 l6 l7 l8 l9 l10
  obtain ⟨⟨l0, l1, l2, l3, l4, l5, l6, l7, l8, l9, l10⟩, _⟩ := Sp.eleven c2
  have H1 := Lib.hid (And.intro (HQ.out.2.2.2.1.trans (hb.mono HQ.out.2.2.2.1.size)) (And.intro c2 (And.intro c3 (And.intro c4 (And.intro c5 c6)))))
  have hz1 : w.heap.size + 5 ≤ w1.heap.size := by have := hb.size; have := HQ.out.2.2.2.2.2; omega
  have HZ1 := Lib.hid hz1
  clear hb c2 c3 c4 c5 c6 hz1
  gi_wp2_with fail
  refine ⟨trivial, (callsIn_wide.2 (HQ.out.2.1 _)).mono ?_⟩
  rintro e w2 ⟨rfl, rfl⟩
  gi_wp2_with fail
  refine ⟨trivial, (callsIn_wide.2 (HQ.out.2.2.1 _)).mono ?_⟩
  rintro e w3 ⟨rfl, rfl⟩
  gi_wp2_with fail
  refine ⟨trivial, (callsIn_wide.2 (HP.out.1 _ H1.out.1)).mono ?_⟩
  rintro e w4 ⟨rfl, hb⟩
  obtain ⟨U, hU⟩ : ∃ U, U = w4.alloc (.cells (exC X) 46) := ⟨_, rfl⟩
  obtain ⟨a1, a2, a3⟩ := cell_new w4 (exC X) 46
  rw [← hU] at a1 a2 a3
  have hbU := hb.trans (a1.mono hb.size)
  have hz4 := hb.size
  have H4 := Lib.hid (show Below w.heap.size w U ∧ U.heap[w.heap.size]? = some (.cells C0 24 (0, 0)) ∧ U.heap[w.heap.size + 1]? = some (.cells #[.int .i64 t] 2 (0, 0)) ∧ U.heap[w.heap.size + 2]? = some (.cells #[.slice none 0 0] 27 (0, 0)) ∧ U.heap[w.heap.size + 3]? = some (.cells #[.int .i64 0] 3 (0, 0)) ∧ U.heap[w.heap.size + 4]? = some (.cells #[.int .i64 0] 28 (0, 0)) ∧ U.heap[w4.heap.size]? = some (.cells (exC X) 46 (0, 0)) ∧ U = w4.alloc (.cells (exC X) 46) ∧ U.heap.size = w4.heap.size + 1 ∧ w.heap.size + 5 ≤ w4.heap.size from
    ⟨H1.out.1.trans (hbU.mono H1.out.1.size), by rw [HP.out.2.2.2.2.2.2.2.2.2]; exact old_blk hbU H1.out.2.1, old_blk hbU H1.out.2.2.1, old_blk hbU H1.out.2.2.2.1, old_blk hbU H1.out.2.2.2.2.1, old_blk hbU H1.out.2.2.2.2.2, a2, hU, a3, by have := HZ1.out; omega⟩)
  obtain ⟨k3', f3'⟩ := one_cell (old_blk hb H1.out.2.2.1)
  have hl4 : w.heap.size + 1 < w4.heap.size := by have := HZ1.out; omega
  clear k3 f3 l0 l1 l2 l3 l4 l5 l6 l7 l8 l9 l10 hb hU a1 a2 a3 hbU hz4
  gi_wp2_with fail
  rw [← H4.out.2.2.2.2.2.2.2.1]
  refine ⟨trivial, (callsIn_wide.2 (HP.out.2.2.1 U ((HP.out.2.2.2.2.2.1).old H4.out.1))).mono ?_⟩
  rintro q w2 ⟨rfl, hb2, hdb⟩
  clear k3' f3' hl4
  have hlt := hdb.lt
  have hgd := (HP.out.2.2.2.2.2.1).lt
  have hI0 : DI w.heap.size w4.heap.size w2.heap.size N w C0 X a t a (fun k => k = w.heap.size + 2) w2 := by
    obtain ⟨h1, h2, h3, h4, h5, h6, h7, h8, h9, h10⟩ := H4.out
    have h11 := hb2.size
    refine ⟨old_blk hb2 h2, old_blk hb2 h3, old_blk hb2 h5, old_blk hb2 h6, old_blk hb2 h7, ⟨.slice none 0 0, [], old_blk hb2 h4, World.ownsRow_nil _ _ _ _, rfl, HP.out.2.2.2.2.1.1, fun g hg => by cases hg⟩, HP.out.2.2.2.2.2.2.2.2.1, h1.trans (hb2.mono h1.size), hdb.d, Nat.le_refl _, ⟨by omega, by omega, by omega, by omega, by omega, by omega⟩, fun k hk => ⟨by omega, .inl hk⟩, rfl⟩
  have H2 := Lib.hid (And.intro hdb hI0)
  clear hb2 hdb hI0 hlt hgd
  gi_wp2_with fail
  refine range_intD (box := tbox U.heap.size) (x0 := a) (G := BG X t) (S := BS X t) rfl (by omega) (gf := 28) (lb := betB U.heap.size) rfl trivial (enters_of Tryd.func28 (by kernel_rfl) rfl)
    (between_iterD _ U.heap.size X HP.out.2.2.2.1 a t (by have := HP.out.2.2.2.2.2.2.1; omega) (by have := HP.out.2.2.2.2.2.2.1; have := HP.out.2.2.2.2.2.2.2.1; omega) w2 H2.out.1) (fun k => k = w.heap.size + 2) (fun k hk => ⟨fun h => ?hb, ?hlt⟩) rfl
    (DI w.heap.size w4.heap.size w2.heap.size N w C0 X a t) (fun c _ => DX w.heap.size w2.heap.size N w X a t c) (fun x D A A' h hc => h.keep hc) (fun c x D A A' h hc => h.keep hc) (fun x D A h k hk => (h.D1 k hk).1) H2.out.2 ?hround ?hdone ?hstop
  case hb =>
    have h1 := H4.out.2.2.2.2.2.2.2.2
    have h2 := H2.out.2.i1
    rcases h with h | h | h | h <;> omega
  case hlt =>
    have h2 := H2.out.2.i1
    omega
  case hround =>
    rintro l x y D A hlB ⟨rr, hlr⟩ hzA hDl hI hG
    clear hI hlr hDl
    gi_wp2_with fail
    refine ⟨Below.refl _ _, ?_⟩
    intro A2 hbut _ hI
    obtain ⟨v, ts, r1, r2, r3, r4, r5⟩ := hI.row
    obtain ⟨ao1, cp1, rfl⟩ := own_shape r2
    obtain ⟨k2, f2⟩ := one_cell r1
    obtain ⟨L, hL⟩ : ∃ L, L = ts.length := ⟨_, rfl⟩
    have hi1 := hI.i1
    have hiz := hI.z
    have hr2 : A2.ownsRow w2.heap.size 2 1 (.slice ao1 L cp1) L (intsI ts) := by rw [hL]; exact r2
    rw [← hL] at k2 r1 r5
    have hL16 : L < 16 := by have := HP.out.2.2.2.2.1; omega
    have HI := Lib.hid (And.intro hI (And.intro hG (And.intro r1 (And.intro r2 (And.intro r3 (And.intro r4 (And.intro r5 (And.intro hL (And.intro hi1 hiz)))))))))
    have HR := Lib.hid hr2
    have hbl : w.heap.size + 2 < A2.heap.size := by omega
    clear hI hG hbut r1 r2 r3 r4 r5 hL hi1 hiz hr2 hzA
    obtain ⟨i0, hii, hz0, hz1, hz2⟩ := info_parts infoI64
    by_cases hLN : L + 1 = N
    · have hb1 : (((L : Nat) : Int) + 1 == ((N : Nat) : Int)) = true := by simp; omega
      have HN := Lib.hid hLN
      clear hLN
      gi_wp2_with (gi_at_builtin; refine wpListIn_append_own_at _ rfl _ _ 27 rfl w2.heap.size 2 i0 _ 1 8 Tryd.underlying27 hii hz0 hz1 hz2 (by rfl) (by decide) (.slice ao1 L cp1) L (intsI ts) rfl (HR.out.alloc _) ⟨A2.heap.size, 0, none⟩ 1 1 [_] rfl rfl (cell_one _ _ _) (by simp [Value.oneCell']) (by unfold maxLen; omega) (by omega) (by simp; have := HI.out.2.2.2.2.2.2.2.2.2; omega) ?_; intro v5 W6 hown5 hg5 _ hat5; obtain ⟨a5, cp5, rfl⟩ := own_shape hown5; have hlg := Longer.of (b0 := w.heap.size) (D := D) (ts := ts) (v := .slice ao1 L cp1) (v5 := .slice a5 (L + 1) cp5) (by have h9 := HI.out.2.2.2.2.2.2.2.1; rw [← h9]; exact hown5) hg5 hat5; have hW6 : W6.heap[w.heap.size + 2]? = some (.cells #[.slice ao1 L cp1] 27 (0, 0)) := (hlg.kept _ (by have := HI.out.2.2.2.2.2.2.2.2; omega) (fun e => by have := (own_lt HR.out e).1; have := HI.out.2.2.2.2.2.2.2.2; omega)).trans HI.out.2.2.1; obtain ⟨k9, f9⟩ := one_cell hW6; have hS6 := (hlg.kept _ (by have := HI.out.2.2.2.2.2.2.2.2; omega) (fun e => by have := (own_lt HR.out e).1; have := HI.out.2.2.2.2.2.2.2.2; omega)).trans HI.out.1.sp; rw [HP.out.2.2.2.2.2.2.2.2.2] at hS6; obtain ⟨⟨l0, l1, l2, l3, l4, l5, l6, l7, l8, l9, l10⟩, _⟩ := Sp.eleven hS6)
      obtain ⟨Z, hZ⟩ : ∃ Z, Z = W6.setCell ⟨w.heap.size + 2, 0, none⟩ (.slice a5 (L + 1) cp5) := ⟨_, rfl⟩
      change Code.wpIn _ _ _ _ _ _ (W6.setCell ⟨w.heap.size + 2, 0, none⟩ (.slice a5 (L + 1) cp5))
      rw [← hZ]
      have hii1 := HI.out.2.2.2.2.2.2.2.2.1
      have hiz := HI.out.2.2.2.2.2.2.2.2.2
      have hvN : ∀ k, k < w2.heap.size → (Value.slice ao1 L cp1).ownBlock ≠ some k := fun k hk e => by have := (own_lt HR.out e).1; omega
      have hZk : ∀ k, k < w2.heap.size → k ≠ w.heap.size + 2 → Z.heap[k]? = A2.heap[k]? := fun k h1 h2 => by rw [hZ, heap_setCell_other _ _ _ _ h2]; exact hlg.kept k (by omega) (hvN k h1)
      have z2 : Z.heap[w.heap.size + 2]? = some (.cells #[.slice a5 (L + 1) cp5] 27 (0, 0)) := by rw [hZ]; exact one_set hW6 _
      have z1 := (hZk (w.heap.size + 1) (by omega) (by omega)).trans HI.out.1.to
      have z3 := (hZk (w.heap.size + 3) (by omega) (by omega)).trans HI.out.1.m
      have z4 := (hZk (w.heap.size + 4) (by omega) (by omega)).trans HI.out.1.er
      have zx := (hZk w4.heap.size (by omega) (by omega)).trans HI.out.1.ex
      have zd : Db Z := HI.out.1.d.keep (hZk _ (by omega) (by omega))
      have hy0 : 0 ≤ y ∧ y ≤ t := ⟨nm_nonneg HI.out.2.1.1.2.1, HI.out.2.1.2⟩
      have HZ := Lib.hid (And.intro z2 (And.intro z1 (And.intro z3 (And.intro z4 (And.intro zx (And.intro zd (And.intro hy0 (And.intro hZ hlg))))))))
      clear hii1 hiz hvN hZk z2 z1 z3 z4 zx zd hy0 hZ hlg hW6 k9 f9 hS6 l0 l1 l2 l3 l4 l5 l6 l7 l8 l9 l10 k2 f2
      refine begin_round 99 (fun _ => True) hmix (by kernel_rfl) trivial (fun _ => ?_)
      refine later [5, 6, 7] (fun X' => Below Z.heap.size Z X') ((Below.refl Z.heap.size Z).drew) (fun hS0 => ?_)
      refine Ht.takeS 10 (i := 0) ⟨some 48, _, _, _, _, _⟩ (.slice a5 (L + 1) cp5) rfl (by kernel_rfl) (by kernel_rfl) (by kernel_rfl) (by kernel_rfl) (by kernel_rfl) hS0 (Or.inl ⟨by rfl, by (intro X hX; have := (one_cell (old_blk hX HZ.out.1)).1; go_simp)⟩) ?_
      simp only [Act.put, List.setIfInBounds_toArray, List.set_cons_zero, List.set_cons_succ]
      refine Ht.takeS 10 (i := 1) ⟨some 49, _, _, _, _, _⟩ (exv X) rfl (by kernel_rfl) (by kernel_rfl) (by kernel_rfl) (by kernel_rfl) (by kernel_rfl) hS0 (Or.inl ⟨by rfl, by (intro X' hX; obtain ⟨⟨c0, c1, c2, c3, c4, c5, c6⟩, _⟩ := seven (old_blk hX HZ.out.2.2.2.2.1); go_simp)⟩) ?_
      simp only [Act.put, List.setIfInBounds_toArray, List.set_cons_zero, List.set_cons_succ]
      refine Ht.takeS 10 (i := 2) ⟨some 50, _, _, _, _, _⟩ (.int .i64 y) rfl (by kernel_rfl) (by kernel_rfl) (by kernel_rfl) (by kernel_rfl) (by kernel_rfl) hS0 (Or.inl ⟨by rfl, by (intro X hX; go_simp)⟩) ?_
      simp only [Act.put, List.setIfInBounds_toArray, List.set_cons_zero, List.set_cons_succ]
      refine Ht.takeS 10 (i := 3) ⟨some 51, _, _, _, _, _⟩ (.int .i64 t) rfl (by kernel_rfl) (by kernel_rfl) (by kernel_rfl) (by kernel_rfl) (by kernel_rfl) hS0 (Or.inl ⟨by rfl, by (intro X hX; have := (one_cell (old_blk hX HZ.out.2.1)).1; go_simp)⟩) ?_
      simp only [Act.put, List.setIfInBounds_toArray, List.set_cons_zero, List.set_cons_succ]
      refine Ht.stepS (i := 4) ⟨some 52, _, _, _, _, _⟩ rfl (by kernel_rfl) (by rfl) (fun K hK => ?_)
      refine Ht.enter 17 #[exv X, .int .i64 y, .int .i64 t, .int .i64 1048576] (by have hen := fun args w => enters_of (P := Tryd.prog) Tryd.func17 (by kernel_rfl) rfl args w; go_simp) (HP.out.2.1 y HZ.out.2.2.2.2.2.2.1 _ (HZ.out.2.2.2.2.2.1.old hS0)) ?_
      rintro e U5 ⟨rfl, hbl⟩
      have hS1 := hS0.trans (hbl.mono hS0.size)
      clear hbl
      refine ⟨_, rfl, hK _ _ (fun hn => hS1) (fun hnx => ?_)⟩
      clear hK K hnx
      simp only [Act.put, List.setIfInBounds_toArray, List.set_cons_zero, List.set_cons_succ]
      obtain ⟨x2, y2⟩ := one_cell (old_blk hS1 HZ.out.1)
      obtain ⟨x3, y3⟩ := one_cell (old_blk hS1 HZ.out.2.2.1)
      obtain ⟨x4, y4⟩ := one_cell (old_blk hS1 HZ.out.2.2.2.1)
      obtain ⟨m, hm⟩ : ∃ m, m = min (cnt X y t) 1048576 := ⟨_, rfl⟩
      rw [← hm]
      have HS := Lib.hid (And.intro hS1 hm)
      clear hS0 hS1 hm
      refine Ht.stepS (i := 5) ⟨none, _, _, _, _, _⟩ rfl (by kernel_rfl) (by rfl) (fun K hK => ?_)
      go_simp
      refine hK _ _ (fun hn => absurd (by decide) hn) (fun hnx => ?_)
      clear hK K hnx
      try simp only [Act.put, List.setIfInBounds_toArray, List.set_cons_zero, List.set_cons_succ]
      refine Ht.stepS (i := 6) ⟨none, _, _, _, _, _⟩ rfl (by kernel_rfl) (by rfl) (fun K hK => ?_)
      go_simp
      refine hK _ _ (fun hn => absurd (by decide) hn) (fun hnx => ?_)
      clear hK K hnx
      try simp only [Act.put, List.setIfInBounds_toArray, List.set_cons_zero, List.set_cons_succ]
      refine Ht.stepS (i := 7) ⟨none, _, _, _, _, _⟩ rfl (by kernel_rfl) (by rfl) (fun K hK => ?_)
      go_simp
      refine hK _ _ (fun hn => absurd (by decide) hn) (fun hnx => ?_)
      clear hK K hnx
      try simp only [Act.put, List.setIfInBounds_toArray, List.set_cons_zero, List.set_cons_succ]
      refine doneS (by kernel_rfl) ?_
      gi_wp2_with fail
      have hLt := HI.out.2.2.2.2.2.2.2.1
      exact HI.out.1.stop (v := .slice ao1 L cp1) HI.out.2.2.1 (by rw [← hLt]; exact HR.out) HI.out.2.2.2.2.1 HI.out.2.2.2.2.2.2.1 HZ.out.2.2.2.2.2.2.2.2 HZ.out.2.2.2.2.2.2.2.1 HI.out.2.1 (by rw [← hLt]; exact HN.out) HS.out.1 HS.out.2 rfl
    · have hb1 : (((L : Nat) : Int) + 1 == ((N : Nat) : Int)) = false := by simp; omega
      have HN := Lib.hid hLN
      clear hLN
      gi_wp2_with (gi_at_builtin; refine wpListIn_append_own_at _ rfl _ _ 27 rfl w2.heap.size 2 i0 _ 1 8 Tryd.underlying27 hii hz0 hz1 hz2 (by rfl) (by decide) (.slice ao1 L cp1) L (intsI ts) rfl (HR.out.alloc _) ⟨A2.heap.size, 0, none⟩ 1 1 [_] rfl rfl (cell_one _ _ _) (by simp [Value.oneCell']) (by unfold maxLen; omega) (by omega) (by simp; have := HI.out.2.2.2.2.2.2.2.2.2; omega) ?_; intro v5 W6 hown5 hg5 _ hat5; obtain ⟨a5, cp5, rfl⟩ := own_shape hown5; have hlg := Longer.of (b0 := w.heap.size) (D := D) (ts := ts) (v := .slice ao1 L cp1) (v5 := .slice a5 (L + 1) cp5) (by have h9 := HI.out.2.2.2.2.2.2.2.1; rw [← h9]; exact hown5) hg5 hat5; have hW6 : W6.heap[w.heap.size + 2]? = some (.cells #[.slice ao1 L cp1] 27 (0, 0)) := (hlg.kept _ (by have := HI.out.2.2.2.2.2.2.2.2; omega) (fun e => by have := (own_lt HR.out e).1; have := HI.out.2.2.2.2.2.2.2.2; omega)).trans HI.out.2.2.1; obtain ⟨k9, f9⟩ := one_cell hW6; have hS6 := (hlg.kept _ (by have := HI.out.2.2.2.2.2.2.2.2; omega) (fun e => by have := (own_lt HR.out e).1; have := HI.out.2.2.2.2.2.2.2.2; omega)).trans HI.out.1.sp; rw [HP.out.2.2.2.2.2.2.2.2.2] at hS6; obtain ⟨⟨l0, l1, l2, l3, l4, l5, l6, l7, l8, l9, l10⟩, _⟩ := Sp.eleven hS6)
      have hLt := HI.out.2.2.2.2.2.2.2.1
      have hLN2 := HI.out.2.2.2.2.2.1
      exact HI.out.1.next (v := .slice ao1 L cp1) HI.out.2.2.1 (by rw [← hLt]; exact HR.out) HI.out.2.2.2.2.1 HI.out.2.2.2.2.2.2.1 hlg rfl HI.out.2.1 (by have := HN.out; omega)
  case hdone =>
    intro D x E A hD hDE hS hI hK
    dsimp only
    obtain ⟨v, ts, r1, r2, r3, r4, r5⟩ := hI.row
    obtain ⟨ao1, cp1, rfl⟩ := own_shape r2
    obtain ⟨k2, f2⟩ := one_cell r1
    obtain ⟨k3, f3⟩ := one_cell hI.m
    obtain ⟨k4, f4⟩ := one_cell hI.er
    have HX := Lib.hid (And.intro hS (And.intro hI (And.intro hD (And.intro hK (And.intro r1 (And.intro r2 (And.intro r3 (And.intro r4 hDE))))))))
    clear hS hI hK hD r1 r2 r3 r4 r5 hDE
    gi_wp2_with fail
    obtain ⟨Z, hZ⟩ : ∃ Z, Z = ((A.setCell ⟨w.heap.size + 2, 0, none⟩ (.slice ao1 ts.length cp1)).setCell ⟨w.heap.size + 3, 0, none⟩ (.int .i64 0)).setCell ⟨w.heap.size + 4, 0, none⟩ (.int .i64 0) := ⟨_, rfl⟩
    obtain ⟨g1, g2, g3, g4⟩ := three_st HX.out.2.2.2.2.1 HX.out.2.1.m HX.out.2.1.er hZ
    have hi1 := HX.out.2.1.i1
    have hiz := HX.out.2.1.z
    have hDz := HX.out.2.2.1
    have hbut := but_put D Z (.deferred none)
    have hZD : Z.heap[D]? = some (.deferred (some [])) := (g4.block D (Array.getElem?_eq_some_iff.1 HX.out.2.2.2.1).1 (by omega)).trans HX.out.2.2.2.1
    have hfin : ∃ v' ts' m', (Ending.returned (.tuple #[(.slice ao1 ts.length cp1), .int .i64 0, .int .i64 0]) : Ending) = .returned (.tuple #[v', .int .i64 ((m' : Nat) : Int), .int .i64 0]) ∧ (Z.putObj D (.deferred none)).ownsRow w.heap.size 2 1 v' ts'.length (intsI ts') ∧ DueIs X a t N ts' m' ∧ Below w.heap.size w (Z.putObj D (.deferred none)) := by
      refine ⟨(.slice ao1 ts.length cp1), ts, 0, rfl, ?_, ⟨x, HX.out.2.2.2.2.2.2.1, HX.out.2.1.le, .inl ⟨HX.out.2.2.2.2.2.2.2.1, HX.out.1, rfl⟩⟩, ?_⟩
      · refine own_base (own_keep HX.out.2.2.2.2.2.1 fun g hg => ?_) (by omega)
        have h1 := own_lt HX.out.2.2.2.2.2.1 hg
        have h2 : g ≠ D := fun e => by
          subst e
          obtain ⟨cap, cur, fr, hc⟩ := own_cells HX.out.2.2.2.2.2.1 hg
          rw [HX.out.2.2.2.1] at hc; cases hc
        exact (hbut.2.2.2.2 g h2).trans (g4.block g h1.2 (by omega))
      · exact (HX.out.2.1.b.trans (g4.below HX.out.2.1.b.size (fun k hk => by omega))).trans (hbut.below (by have := HX.out.2.1.b.size; omega))
    change LeavesInM Fence.wide 9 Tryd.prog Tryd.f7 _ _ _ _ (((A.setCell ⟨w.heap.size + 2, 0, none⟩ (.slice ao1 ts.length cp1)).setCell ⟨w.heap.size + 3, 0, none⟩ (.int .i64 0)).setCell ⟨w.heap.size + 4, 0, none⟩ (.int .i64 0))
    rw [← hZ]
    exact leaveD hZD (results_3 (b1 := w.heap.size + 2) (b2 := w.heap.size + 3) (b3 := w.heap.size + 4) rfl rfl rfl rfl (one_cell ((hbut.2.2.2.2 _ (by omega)).trans g1)).1 (one_cell ((hbut.2.2.2.2 _ (by omega)).trans g2)).1 (one_cell ((hbut.2.2.2.2 _ (by omega)).trans g3)).1) hfin
  case hstop =>
    rintro D c x E A hD hDE h hK
    obtain rfl := h.c
    obtain ⟨v, ts, m, r1, r2, r3, r4, r5⟩ := h.row
    have HX := Lib.hid (And.intro h (And.intro hD (And.intro hK (And.intro r1 (And.intro r2 (And.intro r3 r4))))))
    clear h hK hD r1 r2 r3 r4 r5 hDE
    gi_wp2_with fail
    have hz := HX.out.1.z
    have hDz := HX.out.2.1
    have hbut := but_put D A (.deferred none)
    refine leaveD HX.out.2.2.1 (results_3 (b1 := w.heap.size + 2) (b2 := w.heap.size + 3) (b3 := w.heap.size + 4) rfl rfl rfl rfl (one_cell ((hbut.2.2.2.2 _ (by omega)).trans HX.out.2.2.2.1)).1 (one_cell ((hbut.2.2.2.2 _ (by omega)).trans HX.out.2.2.2.2.1)).1 (one_cell ((hbut.2.2.2.2 _ (by omega)).trans HX.out.1.er)).1) ⟨v, ts, m, rfl, ?_, HX.out.2.2.2.2.2.2, ?_⟩
    · refine own_base (own_keep HX.out.2.2.2.2.2.1 fun g hg => ?_) (by omega)
      have h2 : g ≠ D := fun e => by
        subst e
        obtain ⟨cap, cur, fr, hc⟩ := own_cells HX.out.2.2.2.2.2.1 hg
        rw [HX.out.2.2.1] at hc; cases hc
      exact hbut.2.2.2.2 g h2
    · exact HX.out.1.b.trans (hbut.below (by omega))
end Go.Proofs.YtkkanggkbbmfnaaDoor.Ct

/- crontab: what Due tells, plainly; the chapter's example -/
namespace Go.Proofs.YtkkanggkbbmfnaaDoor.Ct
open Go.RowKit Go.Lib Go.Proofs.YtkkanggkbbmfnaaDoor.Cn Go.Proofs.YtkkanggkbbmfnaaDoor.Rg Go.Proofs.YtkkanggkbbmfnaaDoor.Fi
open Sp (Spc Okc chkE)
set_option linter.unusedVariables false
set_option linter.unusedSimpArgs false
set_option maxRecDepth 20000

theorem Chn.pre {X : Ex} : ∀ {l m : List Int} {s e f : Int}, Chn X s l e → Chn X s m f → ∀ i (h : i < l.length) (h' : i < m.length), l[i] = m[i]
  | x :: l, y :: m, s, e, f, h, g, i, hi, hi' => by
    obtain rfl := nx_same h.1 g.1
    cases i with
    | zero => rfl
    | succ i => simpa using h.2.pre g.2 i (by simpa using hi) (by simpa using hi')
theorem Chn.more {X : Ex} : ∀ {l m : List Int} {s e f : Int}, Chn X s l e → Chn X s m f → l.length < m.length → ∃ y, nx X e y ∧ y ≤ f
  | [], y :: m, s, e, f, h, g, _ => by obtain rfl : e = s := h; exact ⟨y, g.1, g.2.ge⟩
  | x :: l, y :: m, s, e, f, h, g, hl => by
    obtain rfl := nx_same h.1 g.1
    exact h.2.more g.2 (by simpa using hl)
theorem BS.cnt {X : Ex} {t e : Int} (h : BS X t e) : cnt X e t = 0 := cnt_none X h
theorem DueIs.len {X : Ex} {a t : Int} {N : Nat} {ts : List Int} {m : Nat} (h : DueIs X a t N ts m) : ts.length = min N (cnt X a t) := by
  obtain ⟨e, h1, h2, h3⟩ := h
  have h4 := h1.ge
  have h5 := h1.count
  have h6 := cnt_add X h4 h2
  rcases h3 with ⟨h7, h8, _⟩ | ⟨h7, _⟩
  · have := BS.cnt h8; omega
  · omega
theorem DueIs.total {X : Ex} {a t : Int} {N : Nat} {ts : List Int} {m : Nat} (h : DueIs X a t N ts m) (ht : cnt X a t ≤ 1048576) : ts.length + m = cnt X a t := by
  obtain ⟨e, h1, h2, h3⟩ := h
  have h4 := h1.ge
  have h5 := h1.count
  have h6 := cnt_add X h4 h2
  rcases h3 with ⟨h7, h8, h9⟩ | ⟨h7, h9⟩
  · have := BS.cnt h8; omega
  · omega
theorem DueIs.same {X : Ex} {a t : Int} {N : Nat} {ts us : List Int} {m n : Nat} (h : DueIs X a t N ts m) (g : DueIs X a t N us n) : ts = us ∧ m = n := by
  have hl : ts.length = us.length := by rw [h.len, g.len]
  obtain ⟨e, h1, h2, h3⟩ := h
  obtain ⟨f, g1, g2, g3⟩ := g
  obtain ⟨rfl, rfl⟩ := h1.same g1 hl
  refine ⟨rfl, ?_⟩
  rcases h3 with ⟨a1, a2, a3⟩ | ⟨a1, a2⟩ <;> rcases g3 with ⟨b1, b2, b3⟩ | ⟨b1, b2⟩ <;> omega
/-! ### each minute -/
def X0 : Ex := ⟨1152921504606846975, 16777215, 4294967294, 8190, 127, true, true⟩
theorem x0_parse : parseE [42, 32, 42, 32, 42, 32, 42, 32, 42] = 0 ∧ parseV [42, 32, 42, 32, 42, 32, 42, 32, 42] = X0 := by
  constructor
  · decide +kernel
  · kernel_rfl
theorem x0_nm {t : Int} (h : t = 11 ∨ t = 12 ∨ t = 13 ∨ t = 14 ∨ t = 15) : nm X0 t := by
  refine ⟨2000, 1, 1, 6, 0, t, ⟨by decide, by decide, by decide, by decide, by decide, ?_, ?_, ?_, ?_⟩, ?_⟩
  all_goals rcases h with rfl | rfl | rfl | rfl | rfl
  all_goals first | decide | decide +kernel
theorem x0_nx {s : Int} (h : s = 10 ∨ s = 11 ∨ s = 12 ∨ s = 13 ∨ s = 14) : nx X0 s (s + 1) := ⟨by omega, x0_nm (by omega), fun u h1 h2 => by omega⟩
theorem x0_due : DueIs X0 10 15 2 [11, 12] 3 := by
  refine ⟨12, ⟨x0_nx (.inl rfl), x0_nx (.inr (.inl rfl)), rfl⟩, by decide, .inr ⟨rfl, ?_⟩⟩
  have h1 := cnt_next X0 (a := 12) (x0_nx (s := 12) (by omega)) (by omega)
  have h2 := cnt_next X0 (a := 12) (x0_nx (s := 13) (by omega)) (by omega)
  have h3 := cnt_next X0 (a := 12) (x0_nx (s := 14) (by omega)) (by omega)
  rw [cnt_self X0 (Int.le_refl _)] at h1
  have e1 : cnt X0 12 15 = 3 := by
    rw [show (15 : Int) = 14 + 1 by rfl, h3, show (14 : Int) = 13 + 1 by rfl, h2, show (13 : Int) = 12 + 1 by rfl, h1]
  rw [e1]; rfl
/-- the example's spec -/
def sp0 : Spc := ⟨⟨#[97]⟩, ⟨#[116]⟩, 0, 0, none, 0, 0, [], 0, 0, 1, 1, ⟨#[42, 32, 42, 32, 42, 32, 42, 32, 42]⟩, 2⟩
theorem sp0_ok (w : World) : Okc sp0 w := ⟨⟨rfl, fun _ => rfl, .inl rfl⟩, by decide, fun d hd => by simp [sp0] at hd, by decide, by decide⟩
theorem sp0_tpl : tplB sp0 = true := by
  have e1 : sp0.cr.toList.isEmpty = false := by rw [ByteArray.toList_eq]; rfl
  have e2 : chkE sp0 = 0 := by
    unfold chkE
    rw [if_neg (by decide), e1, if_neg (by
      have : Sp.riseB sp0.ds = true := Sp.rise_yes fun j hj => by simp [sp0] at hj
      rw [this]; decide), if_neg (by simp)]
    unfold Sp.chkT
    rw [show sp0.cr.data.toList = [42, 32, 42, 32, 42, 32, 42, 32, 42] by rfl, x0_parse.1]
    decide
  unfold tplB
  rw [e1, e2]; rfl
theorem every_any (w : World) : Calls Tryd.prog 12 #[] w fun e w' => e = .returned (.agg sp0.cells) ∧ Below w.heap.size w w' := by
  go_enter Tryd.func12, Tryd.ntmps12
  go_wp2_with fail
  obtain ⟨V, hV⟩ : ∃ V, V = w.alloc (.cells #[.string ⟨#[97]⟩, .string ⟨#[116]⟩, .int .i64 0, .int .i64 0, .slice none 0 0, .int .i64 0, .int .i64 0, .int .i64 1, .int .i64 1, .string ⟨#[42, 32, 42, 32, 42, 32, 42, 32, 42]⟩, .int .i64 2] 24) := ⟨_, rfl⟩
  rw [← hV]
  have hb : Below w.heap.size w V := by rw [hV]; exact (Below.refl _ w).alloc (Nat.le_refl _) _
  have hx : V.heap[w.heap.size]? = some (.cells #[.string ⟨#[97]⟩, .string ⟨#[116]⟩, .int .i64 0, .int .i64 0, .slice none 0 0, .int .i64 0, .int .i64 0, .int .i64 1, .int .i64 1, .string ⟨#[42, 32, 42, 32, 42, 32, 42, 32, 42]⟩, .int .i64 2] 24 (0, 0)) := by rw [hV]; exact (MapKept.heap_alloc w _).1
  obtain ⟨⟨l0, l1, l2, l3, l4, l5, l6, l7, l8, l9, l10⟩, _⟩ := Sp.eleven hx
  refine bodyPost_ret (v := .agg #[.string ⟨#[97]⟩, .string ⟨#[116]⟩, .int .i64 0, .int .i64 0, .slice none 0 0, .int .i64 0, .int .i64 0, .int .i64 1, .int .i64 1, .string ⟨#[42, 32, 42, 32, 42, 32, 42, 32, 42]⟩, .int .i64 2]) ?_ rfl ⟨rfl, hb⟩
  rw [Sp.results_c1 rfl]
  go_simp
/-- a row of one's own, read -/
theorem row_cell {w : World} {B : Nat} {v : Value} {xs : List Int} {n : Nat} (h : w.ownsRow B 2 1 v n (intsI xs)) {k : Nat} (hk : k < xs.length) : ∃ g c, v = .slice (some ⟨g, 0, none⟩) n c ∧ w.cell? ⟨g, k, none⟩ = some (.int .i64 xs[k]) := by
  rcases h.2 with ⟨rfl, h0⟩ | ⟨g, cap, cur, rfl, h2, h3, h4, h5, h6, h7⟩
  · have := h.1; simp at this; omega
  · refine ⟨g, cap, rfl, ?_⟩
    have := h.cells rfl k (.int .i64 xs[k]) (by simp [hk])
    rwa [Sp.addl, Nat.zero_add] at this
set_option maxHeartbeats 4000000 in
theorem lives16_any (w : World) (hg : Gd w) : Calls Tryd.prog 5 #[] w fun e w' => e = .returned (.bool true) ∧ Below w.heap.size w w' := by
  have HE := Lib.hid (every_any w)
  have HD := Lib.hid (fun W (h : Below w.heap.size w W) => Due_ok sp0 10 15 (w := W) (sp0_ok W) (hg.old h) sp0_tpl (by omega) (by omega) (by omega))
  clear hg
  obtain ⟨s0, hs0⟩ : ∃ s0 : Value, s0 = .agg sp0.cells := ⟨_, rfl⟩
  rw [← hs0] at HE HD
  clear hs0
  go_enter Tryd.func5, Tryd.ntmps5
  go_wp2_with fail
  refine HE.out.mono ?_
  rintro e w1 ⟨rfl, hb1⟩
  have H1 := Lib.hid hb1
  clear hb1
  go_wp2_with fail
  refine (HD.out _ H1.out).mono ?_
  rintro e w2 ⟨v, ts, m, rfl, hown, hdue, hb2⟩
  rw [show parseV sp0.cr.data.toList = X0 from x0_parse.2, show sp0.ct.toNat = 2 by rfl] at hdue
  obtain ⟨rfl, rfl⟩ := hdue.same x0_due
  obtain ⟨g, c, rfl, k0⟩ := row_cell hown (k := 0) (by decide)
  obtain ⟨g', c', e, k1⟩ := row_cell hown (k := 1) (by decide)
  cases e
  have k0' : w2.cell? ⟨g, 0, none⟩ = some (.int .i64 11) := k0
  have k1' : w2.cell? ⟨g, 1, none⟩ = some (.int .i64 12) := k1
  have H2 := Lib.hid (H1.out.trans (hb2.mono H1.out.size))
  clear hb2 hown hdue k0 k1
  go_wp2_with fail
  go_ret
  exact ⟨rfl, H2.out⟩
end Go.Proofs.YtkkanggkbbmfnaaDoor.Ct

/- specs: whether one is little -/
namespace Go.Proofs.YtkkanggkbbmfnaaDoor.Sp
open Go.RowKit Go.Lib Rf By
set_option linter.unusedVariables false
set_option maxRecDepth 20000
set_option maxHeartbeats 4000000 in
theorem Few_any (x : Spc) {w : World} (hd : Dp w x.a x.n x.ds) (hm : x.n ≤ maxLen) :
    Calls Tryd.prog 6 #[.agg x.cells] w fun e w' => ∃ r : Bool, e = .returned (.bool r) ∧ (r = true → x.few) ∧ Below w.heap.size w w' := by
  obtain ⟨nm, tn, pr, dl, a, n, c, ds, bs, cp, at', ls, cr, ct⟩ := x
  simp only at hd hm
  unfold Spc.cells Spc.few
  simp only
  obtain ⟨V, hV⟩ : ∃ V, V = w.alloc (.cells #[.string nm, .string tn, .int .i64 pr, .int .i64 dl, .slice a n c, .int .i64 bs, .int .i64 cp, .int .i64 at', .int .i64 ls, .string cr, .int .i64 ct] 24) := ⟨_, rfl⟩
  have hb1 : Below w.heap.size w V := by rw [hV]; exact (Below.refl _ w).alloc (Nat.le_refl _) _
  have hx0 : V.heap[w.heap.size]? = some (.cells #[.string nm, .string tn, .int .i64 pr, .int .i64 dl, .slice a n c, .int .i64 bs, .int .i64 cp, .int .i64 at', .int .i64 ls, .string cr, .int .i64 ct] 24 (0, 0)) := by rw [hV]; exact (MapKept.heap_alloc w _).1
  obtain ⟨⟨l0, l1, l2, l3, l4, l5, l6, l7, l8, l9, l10⟩, _⟩ := eleven hx0
  have hdV := hd.old hb1
  unfold maxLen at hm
  have HB := Lib.hid (And.intro hb1 (And.intro hdV hd.1))
  clear hb1 hx0 hdV hd
  go_enter Tryd.func6, Tryd.ntmps6
  go_wp2_with fail
  rw [← hV]
  have HV := Lib.hid hV
  clear hV
  go_loopw [8] (fun s8 wr => ∃ k : Nat, s8 = .int .i64 k ∧ wr = V ∧ k ≤ n ∧ ∀ j (h : j < ds.length), j < k → ds[j].size ≤ 60) (fun s8 _ => n - (RowKit.intOf s8).toNat)
  case atStart => exact ⟨0, rfl, rfl, Nat.zero_le _, fun j _ h => absurd h (Nat.not_lt_zero _)⟩
  case round =>
    obtain ⟨k, rfl, rfl, hk, hall⟩ := hrel
    by_cases hlt : k < n
    · have hkl : k < ds.length := by rw [HB.out.2.2]; exact hlt
      rcases HB.out.2.1.2.2 with h0 | ⟨b, o, rfl, hat⟩
      · omega
      have hc := hat k hkl
      have hall' := Lib.hid hall
      clear hall hat
      obtain ⟨d, hd⟩ : ∃ d, d = ds[k] := ⟨_, rfl⟩
      rw [← hd] at hc
      by_cases h60 : 60 < d.size
      · clear hd
        go_wp2_with fail
        go_ret
        first | exact ⟨false, rfl, (fun h => by cases h), HB.out.1⟩ | exact ⟨rfl, HB.out.1⟩
      · have hd' : ds[k].size ≤ 60 := by rw [← hd]; omega
        have HD := Lib.hid hd'
        clear hd' hd
        go_wp2_with fail
        go_roundw
        case rel => exact ⟨k + 1, rfl, trivial, hlt, fun j hj h => by
          rcases Nat.lt_or_ge j k with h' | h'
          · exact hall'.out j hj h'
          · obtain rfl : j = k := by omega
            exact HD.out⟩
        case measure => simp only [RowKit.intOf]; omega
    · have hall' := Lib.hid (fun d (hd : d ∈ ds) => by
        obtain ⟨i, hi, rfl⟩ := List.getElem_of_mem hd
        exact hall i hi (by rw [HB.out.2.2] at hi; omega) : ∀ d ∈ ds, d.size ≤ 60)
      clear hall
      by_cases h1 : nm.size ≤ 60
      · by_cases h2 : tn.size ≤ 60
        · by_cases h3 : n ≤ 20
          · go_wp2_with fail
            go_ret
            exact ⟨_, rfl, (fun h => ⟨hall'.out, h1, h2, h3, by have := of_decide_eq_true h; omega⟩), HB.out.1⟩
          · go_wp2_with fail
            go_ret
            first | exact ⟨false, rfl, (fun h => by cases h), HB.out.1⟩ | exact ⟨rfl, HB.out.1⟩
        · go_wp2_with fail
          go_ret
          first | exact ⟨false, rfl, (fun h => by cases h), HB.out.1⟩ | exact ⟨rfl, HB.out.1⟩
      · go_wp2_with fail
        go_ret
        first | exact ⟨false, rfl, (fun h => by cases h), HB.out.1⟩ | exact ⟨rfl, HB.out.1⟩
end Go.Proofs.YtkkanggkbbmfnaaDoor.Sp

/- specs: which may be, as the document answers: names -/
namespace Go.Proofs.YtkkanggkbbmfnaaDoor.Sp
open Go.RowKit Go.Lib Go.Sort Rf By
set_option linter.unusedVariables false
set_option linter.unusedSimpArgs false
set_option maxRecDepth 20000
theorem nm_all {l : List UInt8} (h0 : 0 < l.length) (h1 : l.length ≤ 24) (h : ∀ j (hj : j < l.length), laB l[j].toNat = true ∧ (j = 0 → fiB l[j].toNat = true)) : nmB l = true :=
  nm_yes h0 h1 (List.all_eq_true.2 fun x hx => by obtain ⟨i, hi, rfl⟩ := List.getElem_of_mem hx; exact (h i hi).1) ((h 0 h0).2 rfl)
theorem nm_ways (m : Nat) : (fiB m = true ∧ 97 ≤ m ∧ m ≤ 122) ∨ (fiB m = false ∧ laB m = true ∧ ((48 ≤ m ∧ m ≤ 57 ∧ m < 97) ∨ m = 45 ∨ m = 46)) ∨
    (fiB m = false ∧ laB m = false ∧ m ≠ 45 ∧ m ≠ 46 ∧ (m < 48 ∨ (48 ≤ m ∧ 57 < m ∧ m < 97) ∨ (48 ≤ m ∧ 57 < m ∧ 97 ≤ m ∧ 122 < m))) := by
  unfold laB fiB
  by_cases h : 97 ≤ m ∧ m ≤ 122
  · exact .inl ⟨by simp [h.1, h.2], h⟩
  · have hf : (decide (97 ≤ m) && decide (m ≤ 122)) = false := by simp; omega
    rw [hf]
    by_cases h2 : (48 ≤ m ∧ m ≤ 57) ∨ m = 45 ∨ m = 46
    · refine .inr (.inl ⟨rfl, ?_, by omega⟩)
      rcases h2 with h2 | h2 | h2 <;> simp [h2]
    · refine .inr (.inr ⟨rfl, ?_, by omega, by omega, by omega⟩)
      simp; omega
set_option maxHeartbeats 4000000 in
theorem rname_any (s : ByteArray) (hs : s.size ≤ 4611686018427387904) (w : World) : Calls Tryd.prog 18 #[.string s] w fun e w' => e = .returned (.bool (nmB s.data.toList)) ∧ w' = w := by
  have hl : s.data.toList.length = s.size := Array.length_toList
  go_enter Tryd.func18, Tryd.ntmps18
  go_wp2_with fail
  go_loopw [3] (fun x wr => ∃ k : Nat, x = .int .i64 (k : Nat) ∧ k ≤ s.size ∧ wr = w ∧ ∀ j (h : j < s.data.toList.length), j < k → laB (s.data.toList[j]).toNat = true ∧ (j = 0 → fiB (s.data.toList[j]).toNat = true)) (fun x _ => s.size - (RowKit.intOf x).toNat)
  case atStart => exact ⟨0, rfl, Nat.zero_le _, rfl, fun j _ h => absurd h (Nat.not_lt_zero j)⟩
  case round =>
    obtain ⟨k, rfl, hk, rfl, hall⟩ := hrel
    by_cases hlt : k < s.size
    · have hkl : k < s.data.toList.length := by omega
      obtain ⟨m, hm⟩ : ∃ m, (s.data.toList[k]).toNat = m := ⟨_, rfl⟩
      have hno := fun h => nm_no (l := s.data.toList) hkl h
      rw [hm] at hno
      have hbm : (s[k]'hlt).toNat = m := by rw [byte_at]; exact hm
      have hkb : (0 : Int) ≤ (k : Nat) ∧ ((k : Nat) : Int) < (s.size : Nat) := by omega
      have HA := Lib.hid (And.intro hall (And.intro hm hno))
      have hm8 : m < 256 := by rw [← hm]; exact UInt8.toNat_lt _
      clear hall hm hno
      have hnext : laB m = true → (k = 0 → fiB m = true) → ∀ j (h : j < s.data.toList.length), j < k + 1 → laB (s.data.toList[j]).toNat = true ∧ (j = 0 → fiB (s.data.toList[j]).toNat = true) := fun h1 h2 j hj h => by
        by_cases hjk : j = k
        · subst hjk; rw [HA.out.2.1]; exact ⟨h1, h2⟩
        · exact HA.out.1 j hj (by omega)
      rcases nm_ways m with ⟨h1, h2, h3⟩ | ⟨h1, h2, h3⟩ | ⟨h1, h2, h3, h4, h5⟩
      · have HN := Lib.hid (hnext (fi_la h1) (fun _ => h1))
        clear hnext h1
        go_wp2_with fail
        go_roundw
        case rel => exact ⟨k + 1, by simp, hlt, trivial, HN.out⟩
        case measure => simp [RowKit.intOf]; omega
      · by_cases h0 : k = 0
        · have hR := Lib.hid (HA.out.2.2 (.inr ⟨h0, h1⟩))
          have i0 : ((k : Int) == 0) = true := by simpa using h0
          clear hnext h1 h2 HA h0
          rcases h3 with ⟨h3, h4, h5⟩ | rfl | rfl
          all_goals
            go_wp2_with fail
            go_ret
            exact ⟨by rw [hR.out]; rfl, rfl⟩
        · have HN := Lib.hid (hnext h2 (fun e => absurd e h0))
          have i0 : ((k : Int) == 0) = false := by simpa using h0
          have i0' : ¬ (k : Int) = 0 := by omega
          clear hnext h1 h2 HA
          rcases h3 with ⟨h3, h4, h5⟩ | rfl | rfl
          all_goals
            go_wp2_with fail
            go_roundw
            case rel => exact ⟨k + 1, by simp, hlt, trivial, HN.out⟩
            case measure => simp [RowKit.intOf]; omega
      · have hR := Lib.hid (HA.out.2.2 (.inl h2))
        have i4 : ((m : Int) == 45) = false := by simp; omega
        have i4' : ¬ (m : Int) = 45 := by omega
        have i5 : ((m : Int) == 46) = false := by simp; omega
        have i5' : ¬ (m : Int) = 46 := by omega
        have i4n : ((m : Int) != 45) = true := by simp; omega
        have i5n : ((m : Int) != 46) = true := by simp; omega
        clear hnext h1 h2 h3 h4 HA
        by_cases h0 : k = 0
        · have i0 : ((k : Int) == 0) = true := by simpa using h0
          clear h0
          rcases h5 with h5 | ⟨h5, h6, h7⟩ | ⟨h5, h6, h7, h8⟩
          case' inr.inr => have i8 : decide ((m : Int) ≤ 122) = false := decide_eq_false (by omega)
          case' inr.inr => have i9 : decide ((m : Int) ≤ 57) = false := decide_eq_false (by omega)
          case' inr.inl => have i9 : decide ((m : Int) ≤ 57) = false := decide_eq_false (by omega)
          all_goals
            go_wp2_with fail
            go_ret
            exact ⟨by rw [hR.out]; rfl, rfl⟩
        · have i0 : ((k : Int) == 0) = false := by simpa using h0
          have i0' : ¬ (k : Int) = 0 := by omega
          clear h0
          rcases h5 with h5 | ⟨h5, h6, h7⟩ | ⟨h5, h6, h7, h8⟩
          case' inr.inr => have i8 : decide ((m : Int) ≤ 122) = false := decide_eq_false (by omega)
          case' inr.inr => have i9 : decide ((m : Int) ≤ 57) = false := decide_eq_false (by omega)
          case' inr.inl => have i9 : decide ((m : Int) ≤ 57) = false := decide_eq_false (by omega)
          all_goals
            go_wp2_with fail
            go_ret
            exact ⟨by rw [hR.out]; rfl, rfl⟩
    · have hkI : ¬ ((k : Nat) : Int) < (s.size : Nat) := by omega
      by_cases h0 : s.size = 0
      · have e : nmB s.data.toList = false := by
          have : s.data.toList = [] := List.length_eq_zero_iff.1 (by omega)
          rw [this]; rfl
        have i0 : ¬ (1 : Int) ≤ (s.size : Nat) := by omega
        have HE := Lib.hid e
        clear hall e h0
        go_wp2_with fail
        go_ret
        exact ⟨by rw [HE.out]; rfl, rfl⟩
      · have i0 : (1 : Int) ≤ (s.size : Nat) := by omega
        by_cases h1 : 24 < s.size
        · have HE := Lib.hid (nm_long (l := s.data.toList) (by omega))
          have i1 : ¬ ((s.size : Nat) : Int) ≤ 24 := by omega
          clear hall
          go_wp2_with fail
          go_ret
          exact ⟨by rw [HE.out]; rfl, rfl⟩
        · have HE := Lib.hid (nm_all (l := s.data.toList) (by omega) (by omega) fun j hj => hall j hj (by omega))
          have i1 : ((s.size : Nat) : Int) ≤ 24 := by omega
          clear hall
          go_wp2_with fail
          go_ret
          exact ⟨by rw [HE.out]; rfl, rfl⟩
end Go.Proofs.YtkkanggkbbmfnaaDoor.Sp

/- specs: which may be, as the document answers -/
namespace Go.Proofs.YtkkanggkbbmfnaaDoor.Sp
open Go.RowKit Go.Lib Go.Sort Rf By
set_option linter.unusedVariables false
set_option linter.unusedSimpArgs false
set_option maxRecDepth 20000
theorem chk_name {x : Spc} (h : (nmB x.nm.data.toList && nmB x.tn.data.toList && nmsB x.ds) = false) : chkE x = 16 := by unfold chkE; rw [if_pos h]
theorem chk_in {x : Spc} (h : (nmB x.nm.data.toList && nmB x.tn.data.toList && nmsB x.ds) = true) (h2 : inbB x = false ∨ ¬ x.n ≤ 8 ∨ riseB x.ds = false) : chkE x = 3 := by
  unfold chkE
  rw [if_neg (by rw [h]; simp), if_pos (by rcases h2 with h2 | h2 | h2 <;> simp [h2])]
theorem chk_ok {x : Spc} (h : (nmB x.nm.data.toList && nmB x.tn.data.toList && nmsB x.ds) = true) (h2 : inbB x = true) (h3 : x.n ≤ 8) (h4 : riseB x.ds = true) :
    chkE x = if x.cr.toList.isEmpty = true then (if x.ct ≠ 0 then 1 else 0) else chkT x := by
  unfold chkE
  rw [if_neg (by rw [h]; simp), if_neg (by simp [h2, h3, h4])]
theorem span_iff {n : Int} : spanB n = true ↔ 0 ≤ n ∧ n ≤ 1048576 := by unfold spanB; simp
theorem inb_iff {x : Spc} : inbB x = true ↔ (0 ≤ x.pr ∧ x.pr < 4) ∧ (spanB x.dl = true ∧ spanB x.bs = true ∧ spanB x.cp = true ∧ spanB x.ls = true) ∧ 1 ≤ x.ls ∧ (1 ≤ x.at' ∧ x.at' ≤ 16) ∧ 0 ≤ x.ct ∧ x.ct ≤ 16 := by
  unfold inbB
  simp only [Bool.and_eq_true, decide_eq_true_eq]
  constructor
  · rintro ⟨⟨⟨⟨⟨⟨⟨⟨⟨⟨h1, h2⟩, h3⟩, h4⟩, h5⟩, h6⟩, h7⟩, h8⟩, h9⟩, h10⟩, h11⟩; exact ⟨⟨h1, h2⟩, ⟨h3, h4, h5, h7⟩, h6, ⟨h8, h9⟩, h10, h11⟩
  · rintro ⟨⟨h1, h2⟩, ⟨h3, h4, h5, h7⟩, h6, ⟨h8, h9⟩, h10, h11⟩; exact ⟨⟨⟨⟨⟨⟨⟨⟨⟨⟨h1, h2⟩, h3⟩, h4⟩, h5⟩, h6⟩, h7⟩, h8⟩, h9⟩, h10⟩, h11⟩
theorem inb_no {x : Spc} (h : ¬ ((0 ≤ x.pr ∧ x.pr < 4) ∧ (spanB x.dl = true ∧ spanB x.bs = true ∧ spanB x.cp = true ∧ spanB x.ls = true) ∧ 1 ≤ x.ls ∧ (1 ≤ x.at' ∧ x.at' ≤ 16) ∧ 0 ≤ x.ct ∧ x.ct ≤ 16)) : inbB x = false := by
  cases e : inbB x with
  | false => rfl
  | true => exact absurd (inb_iff.1 e) h
/-- four numbers in a row -/
def four (dl bs cp ls : Int) (j : Nat) : Int := match j with | 0 => dl | 1 => bs | 2 => cp | _ => ls
theorem four_cells {w : World} {b : Nat} {v0 v1 v2 v3 : Int} {t : TypeId} (h : w.heap[b]? = some (.cells #[.int .i64 v0, .int .i64 v1, .int .i64 v2, .int .i64 v3] t (0, 0))) :
    ∀ j, j < 4 → w.cell? ⟨b, j, none⟩ = some (.int .i64 (four v0 v1 v2 v3 j)) := by
  intro j hj
  have : j = 0 ∨ j = 1 ∨ j = 2 ∨ j = 3 := by omega
  rcases this with rfl | rfl | rfl | rfl <;> simp [World.cell?, h, four]
set_option maxHeartbeats 8000000 in
theorem RCheck_any (x : Spc) {w : World} (hk : Okc x w) (hl : x.cr.data.toList.length ≤ 1000) :
    Calls Tryd.prog 8 #[.agg x.cells] w fun e w' => e = .returned (.int .i64 (chkE x : Nat)) ∧ Below w.heap.size w w' := by
  have q1 := fun W => rname_any x.nm hk.nm W
  have q2 := fun W => rname_any x.tn hk.tn W
  have q3 := fun d (hd : d ∈ x.ds) W => rname_any d (hk.t d hd) W
  have q4 := fun W => Cn.rparse_err x.cr.data.toList hl W
  obtain ⟨E, hE⟩ : ∃ E, E = Cn.parseE x.cr.data.toList := ⟨_, rfl⟩
  have c0 : chkT x = if E ≠ 0 then E else if x.ct = 0 then 3 else if 0 < x.n ∨ x.dl ≠ 0 ∨ 16 < x.nm.size then 1 else 0 := by rw [hE]; rfl
  rw [← str_S, ← hE] at q4
  have c1 := chk_name (x := x)
  have c2 := chk_in (x := x)
  have c3 := chk_ok (x := x)
  have c4 := inb_no (x := x)
  have c5 := inb_iff (x := x)
  rw [c0] at c3
  obtain ⟨R, hR⟩ : ∃ R, R = chkE x := ⟨_, rfl⟩
  rw [← hR] at c1 c2 c3 ⊢
  generalize nmB x.nm.data.toList = B1 at q1 c1 c2 c3
  generalize nmB x.tn.data.toList = B2 at q2 c1 c2 c3
  generalize inbB x = B4 at c2 c3 c4 c5
  have hd := hk.d
  have hm := hk.m
  clear hk hR hE c0 hl
  obtain ⟨nm, tn, pr, dl, a, n, c, ds, bs, cp, at', ls, cr, ct⟩ := x
  simp only at hd hm
  obtain ⟨V, hV⟩ : ∃ V, V = w.alloc (.cells #[.string nm, .string tn, .int .i64 pr, .int .i64 dl, .slice a n c, .int .i64 bs, .int .i64 cp, .int .i64 at', .int .i64 ls, .string cr, .int .i64 ct] 24) := ⟨_, rfl⟩
  have hb1 : Below w.heap.size w V := by rw [hV]; exact (Below.refl _ w).alloc (Nat.le_refl _) _
  have hx0 : V.heap[w.heap.size]? = some (.cells #[.string nm, .string tn, .int .i64 pr, .int .i64 dl, .slice a n c, .int .i64 bs, .int .i64 cp, .int .i64 at', .int .i64 ls, .string cr, .int .i64 ct] 24 (0, 0)) := by rw [hV]; exact (MapKept.heap_alloc w _).1
  unfold Spc.cells
  simp only at q1 q2 q3 q4 c1 c2 c3 c4 c5 ⊢
  have HC := Lib.hid (And.intro c1 (And.intro c2 (And.intro c3 (And.intro c4 c5))))
  have HQ := Lib.hid (And.intro q1 (And.intro q2 (And.intro q3 q4)))
  have HB := Lib.hid (And.intro hb1 (And.intro hV (And.intro hx0 (And.intro (hd.old hb1) hd.1))))
  obtain ⟨⟨l0, l1, l2, l3, l4, l5, l6, l7, l8, l9, l10⟩, _⟩ := eleven hx0
  have hle := le_bytes
  have HL := Lib.hid hle
  clear c1 c2 c3 c4 c5 q1 q2 q3 q4 hb1 hV hx0 hd hle
  go_enter Tryd.func8, Tryd.ntmps8
  go_wp2_with fail
  rw [← HB.out.2.1]
  refine (HQ.out.1 _).mono ?_
  rintro e w1 ⟨rfl, rfl⟩
  cases B1
  · obtain rfl : R = 16 := HC.out.1 (by simp)
    go_wp2_with fail
    go_ret
    exact ⟨rfl, HB.out.1⟩
  go_wp2_with fail
  refine (HQ.out.2.1 _).mono ?_
  rintro e w2 ⟨rfl, rfl⟩
  cases B2
  · obtain rfl : R = 16 := HC.out.1 (by simp)
    go_wp2_with fail
    go_ret
    exact ⟨rfl, HB.out.1⟩
  go_wp2_with fail
  obtain ⟨V, hV⟩ : ∃ V, V = w2 := ⟨_, rfl⟩
  rw [← hV] at HB
  go_loopw [24] (fun s wr => ∃ k : Nat, s = .int .i64 (k : Nat) ∧ k ≤ n ∧ wr = w2 ∧ ∀ j (h : j < ds.length), j < k → nmB ds[j].data.toList = true) (fun s _ => n - (RowKit.intOf s).toNat)
  case atStart => exact ⟨0, rfl, Nat.zero_le _, rfl, fun j _ h => absurd h (Nat.not_lt_zero j)⟩
  case round =>
    obtain ⟨k, rfl, hk, rfl, hall⟩ := hrel
    have HV := Lib.hid hV
    clear hV
    by_cases hlt : k < n
    · have hkl : k < ds.length := by rw [HB.out.2.2.2.2]; exact hlt
      rcases HB.out.2.2.2.1.2.2 with h0 | ⟨b, o, rfl, hat⟩
      · omega
      have hc2 := hat k hkl
      rw [HV.out] at hc2
      have HA := Lib.hid hall
      have hn := HQ.out.2.2.1 ds[k] (List.getElem_mem hkl) wr
      obtain ⟨r, hr⟩ : ∃ r, nmB ds[k].data.toList = r := ⟨_, rfl⟩
      rw [hr] at hn
      have HN := Lib.hid (And.intro hn hr)
      clear hall hat hn hr
      obtain ⟨d, hd⟩ : ∃ d, d = ds[k] := ⟨_, rfl⟩
      rw [← hd] at hc2 HN
      have HD := Lib.hid hd
      clear hd
      cases r with
      | false =>
        obtain rfl : R = 16 := HC.out.1 (by rw [nms_no hkl (by rw [← HD.out]; exact HN.out.2)]; rfl)
        go_wp2_with fail
        refine HN.out.1.mono ?_
        rintro e w' ⟨rfl, rfl⟩
        go_wp2_with fail
        go_ret
        exact ⟨rfl, by rw [← HV.out]; exact HB.out.1⟩
      | true =>
        go_wp2_with fail
        refine HN.out.1.mono ?_
        rintro e w' ⟨rfl, rfl⟩
        go_wp2_with fail
        go_roundw
        case rel => exact ⟨k + 1, rfl, hlt, trivial, fun j hj h => by
          rcases Nat.lt_or_ge j k with h' | h'
          · exact HA.out j hj h'
          · obtain rfl : j = k := by omega
            rw [← HD.out]; exact HN.out.2⟩
        case measure => simp only [RowKit.intOf]; omega
    · have e : nmsB ds = true := nms_yes fun j hj => hall j hj (by rw [HB.out.2.2.2.2] at hj; omega)
      have HC2 := Lib.hid (And.intro (HC.out.2.1 (by rw [e]; rfl)) (And.intro (HC.out.2.2.1 (by rw [e]; rfl)) HC.out.2.2.2))
      clear hall e HC
      obtain ⟨U, hU⟩ : ∃ U, U = wr.alloc (.cells #[.int .i64 dl, .int .i64 bs, .int .i64 cp, .int .i64 ls] 2) := ⟨_, rfl⟩
      have hbU : Below wr.heap.size wr U := by rw [hU]; exact (Below.refl _ _).alloc (Nat.le_refl _) _
      have hu : U.heap[wr.heap.size]? = some (.cells #[.int .i64 dl, .int .i64 bs, .int .i64 cp, .int .i64 ls] 2 (0, 0)) := by rw [hU]; exact (MapKept.heap_alloc wr _).1
      have HB0 := HB.out
      rw [HV.out] at HB0
      have hxU := old2 hbU HB0.2.2.1
      have HU := Lib.hid (And.intro (HB0.1.trans (hbU.mono HB0.1.size)) (And.intro hU (And.intro hxU (And.intro (HB0.2.2.2.1.old hbU) (four_cells hu)))))
      have hlen := HB0.2.2.2.2
      clear HB0 HB hbU hu hU hxU
      go_wp2_with fail
      rw [← HU.out.2.1]
      clear l0 l1 l2 l3 l4 l5 l6 l7 l8 l9 l10
      go_loopw [42] (fun s wq => ∃ m : Nat, s = .int .i64 (m : Nat) ∧ m ≤ 4 ∧ wq = U ∧ ∀ j, j < m → spanB (four dl bs cp ls j) = true) (fun s _ => 4 - (RowKit.intOf s).toNat)
      case atStart => exact ⟨0, rfl, Nat.zero_le _, rfl, fun j h => absurd h (Nat.not_lt_zero j)⟩
      case round =>
        obtain ⟨m, rfl, hm4, rfl, hall⟩ := hrel
        by_cases hlt2 : m < 4
        · have hc4 := HU.out.2.2.2.2 m hlt2
          have hlt2I : ((m : Nat) : Int) < 4 := by omega
          obtain ⟨y, hy⟩ : ∃ y, four dl bs cp ls m = y := ⟨_, rfl⟩
          rw [hy] at hc4
          have hbad : spanB y = false → R = 3 := fun h => by
            refine HC2.out.1 (.inl (HC2.out.2.2.1 fun hh => ?_))
            have : m = 0 ∨ m = 1 ∨ m = 2 ∨ m = 3 := by omega
            rcases this with rfl | rfl | rfl | rfl
            · rw [show dl = y from hy, h] at hh; cases hh.2.1.1
            · rw [show bs = y from hy, h] at hh; cases hh.2.1.2.1
            · rw [show cp = y from hy, h] at hh; cases hh.2.1.2.2.1
            · rw [show ls = y from hy, h] at hh; cases hh.2.1.2.2.2
          have HA := Lib.hid (And.intro hall hy)
          have HBd := Lib.hid hbad
          clear hall hy hbad
          by_cases y0 : y < 0
          · obtain rfl : R = 3 := HBd.out (by unfold spanB; simp; omega)
            go_wp2_with fail
            go_ret
            exact ⟨rfl, HU.out.1⟩
          · by_cases y1 : 1048576 < y
            · obtain rfl : R = 3 := HBd.out (by unfold spanB; simp; omega)
              go_wp2_with fail
              go_ret
              exact ⟨rfl, HU.out.1⟩
            · go_wp2_with fail
              go_roundw
              case rel => exact ⟨m + 1, by simp, hlt2, trivial, fun j hj => by
                by_cases hjm : j = m
                · subst hjm; rw [HA.out.2]; unfold spanB; simp; omega
                · exact HA.out.1 j (by omega)⟩
              case measure => simp [RowKit.intOf]; omega
        · have hlt2I : ¬ ((m : Nat) : Int) < 4 := by omega
          have hsp : spanB dl = true ∧ spanB bs = true ∧ spanB cp = true ∧ spanB ls = true := ⟨hall 0 (by omega), hall 1 (by omega), hall 2 (by omega), hall 3 (by omega)⟩
          have hls := span_iff.1 hsp.2.2.2
          have hdl := span_iff.1 hsp.1
          have hbad : ∀ h : ¬ ((0 ≤ pr ∧ pr < 4) ∧ 1 ≤ ls ∧ (1 ≤ at' ∧ at' ≤ 16) ∧ 0 ≤ ct ∧ ct ≤ 16), R = 3 := fun h => HC2.out.1 (.inl (HC2.out.2.2.1 fun hh => h ⟨hh.1, hh.2.2⟩))
          have HS := Lib.hid (And.intro hsp (And.intro hls (And.intro hdl hbad)))
          obtain ⟨⟨l0, l1, l2, l3, l4, l5, l6, l7, l8, l9, l10⟩, _⟩ := eleven HU.out.2.2.1
          clear hsp hls hdl hbad hall
          by_cases p1 : pr < 0
          · obtain rfl : R = 3 := HS.out.2.2.2 (by omega)
            go_wp2_with fail
            go_ret
            exact ⟨rfl, HU.out.1⟩
          by_cases p2 : 3 < pr
          · obtain rfl : R = 3 := HS.out.2.2.2 (by omega)
            go_wp2_with fail
            go_ret
            exact ⟨rfl, HU.out.1⟩
          by_cases p3 : ls = 0
          · obtain rfl : R = 3 := HS.out.2.2.2 (by omega)
            have p3' : (ls == 0) = true := by simpa using p3
            subst p3
            go_wp2_with fail
            go_ret
            exact ⟨rfl, HU.out.1⟩
          have p3' : (ls == 0) = false := by simpa using p3
          by_cases p4 : at' < 1
          · obtain rfl : R = 3 := HS.out.2.2.2 (by omega)
            go_wp2_with fail
            go_ret
            exact ⟨rfl, HU.out.1⟩
          by_cases p5 : 16 < at'
          · obtain rfl : R = 3 := HS.out.2.2.2 (by omega)
            go_wp2_with fail
            go_ret
            exact ⟨rfl, HU.out.1⟩
          by_cases p6 : ct < 0
          · obtain rfl : R = 3 := HS.out.2.2.2 (by omega)
            go_wp2_with fail
            go_ret
            exact ⟨rfl, HU.out.1⟩
          by_cases p7 : 16 < ct
          · obtain rfl : R = 3 := HS.out.2.2.2 (by omega)
            go_wp2_with fail
            go_ret
            exact ⟨rfl, HU.out.1⟩
          by_cases p8 : 8 < n
          · obtain rfl : R = 3 := HC2.out.1 (.inr (.inl (by omega)))
            have p8I : (8 : Int) < ((n : Nat) : Int) := by omega
            go_wp2_with fail
            go_ret
            exact ⟨rfl, HU.out.1⟩
          have p8I : ¬ (8 : Int) < ((n : Nat) : Int) := by omega
          have hB4 : B4 = true := HC2.out.2.2.2.2 ⟨⟨by omega, by omega⟩, HS.out.1, by have := HS.out.2.1; omega, ⟨by omega, by omega⟩, by omega, by omega⟩
          have HC3 := Lib.hid (And.intro (fun h => HC2.out.1 (.inr (.inr h))) (HC2.out.2.1 hB4 (by omega)))
          clear hB4 HC2
          go_wp2_with fail
          clear p1 p2 p3 p3' p4 p5 p8I l0 l1 l2 l3 l4 l5 l6 l7 l8 l9 l10
          go_loopw [7] (fun s wz => ∃ m : Nat, s = .int .i64 (m : Nat) ∧ 1 ≤ m ∧ (m = 1 ∨ m ≤ n) ∧ Below wr.heap.size wr wz ∧ ∀ j (h : j + 1 < ds.length), j + 1 < m → ds[j].data.toList < ds[j + 1].data.toList) (fun s _ => n - (RowKit.intOf s).toNat)
          case atStart => exact ⟨1, rfl, Nat.le_refl _, .inl rfl, Below.refl _ _, fun j _ h => absurd h (by omega)⟩
          case round =>
            obtain ⟨m, rfl, hm1, hmn, hbw, hall⟩ := hrel
            obtain ⟨j, hj⟩ : ∃ j, m = j + 1 := ⟨m - 1, by omega⟩
            have hxz := old2 hbw HU.out.2.2.1
            have hbz := HU.out.1.trans (hbw.mono HU.out.1.size)
            have hdz := HU.out.2.2.2.1.old hbw
            obtain ⟨⟨l0, l1, l2, l3, l4, l5, l6, l7, l8, l9, l10⟩, _⟩ := eleven hxz
            have HZ := Lib.hid (And.intro hbz (And.intro hxz hbw))
            clear hbz hxz
            by_cases hlt3 : m < n
            · have hkl : m < ds.length := by rw [hlen]; exact hlt3
              have hjn : j < n := by omega
              have hjl : j < ds.length := by omega
              rcases hdz.2.2 with h0 | ⟨b, o, rfl, hat⟩
              · omega
              have hc0 := hat j hjl
              have hc1 := hat m hkl
              have HA := Lib.hid (And.intro hall (And.intro hmn (And.intro hj hm1)))
              have hltI : (m : Int) < (n : Nat) := by omega
              have hw1 : IntKind.i64.wrap ((m : Int) - 1) = (j : Nat) := by rw [show (m : Int) - 1 = (j : Nat) by omega]; exact IntWalk.i64_in _ (by omega)
              obtain ⟨r, hr⟩ : ∃ r, decide (ds[j].data.toList < ds[m].data.toList) = r := ⟨_, rfl⟩
              have hll : Op.bytesLess ds[j].toList ds[m].toList = r := by rw [bytesLess_eq, Lib.toList_data, Lib.toList_data]; exact hr
              obtain ⟨x, hx⟩ : ∃ x, x = ds[j] := ⟨_, rfl⟩
              obtain ⟨y, hy⟩ : ∃ x, x = ds[m] := ⟨_, rfl⟩
              rw [← hx] at hc0 hll; rw [← hy] at hc1 hll
              have HR := Lib.hid (show (r = false → riseB ds = false) ∧ (r = true → ∀ i (h : i + 1 < ds.length), i + 1 < m + 1 → ds[i].data.toList < ds[i + 1].data.toList) from by
                subst hj
                refine ⟨fun e => rise_no hkl (by rw [e] at hr; exact of_decide_eq_false hr), fun e i hi h => ?_⟩
                by_cases hij : i = j
                · subst hij; rw [e] at hr; exact of_decide_eq_true hr
                · exact HA.out.1 i hi (by omega))
              clear hall hat hdz hbw hr hx hy hj hm1 hmn
              cases r with
              | false =>
                have HE := Lib.hid (HR.out.1 rfl)
                obtain rfl : R = 3 := HC3.out.1 HE.out
                clear HR
                have hcmp : ∀ W, (binOp .geq 9 (.string x) (.string y)).run Tryd.prog W = .ok (.bool true) W := fun W => by simp only [binOp, Op.stringOp, hll]; rfl
                clear hll
                go_wp2_with fail
                go_quiet (fail)
                go_wp2_with fail
                go_ret
                exact ⟨rfl, bdN HZ.out.1 _⟩
              | true =>
                have HE := Lib.hid (HR.out.2 rfl)
                clear HR
                have hcmp : ∀ W, (binOp .geq 9 (.string x) (.string y)).run Tryd.prog W = .ok (.bool false) W := fun W => by simp only [binOp, Op.stringOp, hll]; rfl
                clear hll
                go_wp2_with fail
                go_quiet (fail)
                go_wp2_with fail
                go_roundw
                case rel => exact ⟨m + 1, by simp, by omega, .inr hlt3, bdN HZ.out.2.2 _, HE.out⟩
                case measure => simp [RowKit.intOf]; omega
            · have e : riseB ds = true := rise_yes fun i hi => hall i hi (by omega)
              have hltI : ¬ (m : Int) < (n : Nat) := by omega
              have hR := HC3.out.2 e
              have HR := Lib.hid hR
              clear hall e hbw hmn hj hdz hR HC3
              by_cases hcr : cr.toList.isEmpty = true
              · have HR2 := Lib.hid (show R = if ct ≠ 0 then 1 else 0 by rw [HR.out, if_pos hcr])
                by_cases hct : 0 < ct
                · obtain rfl : R = 1 := by rw [HR2.out, if_pos (by omega)]
                  go_wp2_with fail
                  go_ret
                  exact ⟨rfl, HZ.out.1⟩
                · obtain rfl : R = 0 := by rw [HR2.out, if_neg (by omega)]
                  go_wp2_with fail
                  go_ret
                  exact ⟨rfl, HZ.out.1⟩
              · have hcr' : cr.toList.isEmpty = false := by simpa using hcr
                have HR2 := Lib.hid (show R = if E ≠ 0 then E else if ct = 0 then 3 else if 0 < n ∨ dl ≠ 0 ∨ 16 < nm.size then 1 else 0 by rw [HR.out, if_neg hcr])
                clear hcr HR
                go_wp2_with fail
                refine (HQ.out.2.2.2 _).mono ?_
                rintro e w9 ⟨⟨v6, v5, rfl⟩, hb9⟩
                have hx9 := old2 hb9 HZ.out.2.1
                have H9 := Lib.hid (HZ.out.1.trans (hb9.mono HZ.out.1.size))
                clear l0 l1 l2 l3 l4 l5 l6 l7 l8 l9 l10
                obtain ⟨⟨l0, l1, l2, l3, l4, l5, l6, l7, l8, l9, l10⟩, _⟩ := eleven hx9
                clear hx9 hb9
                by_cases hE0 : E = 0
                · subst hE0
                  have HR3 := Lib.hid (show R = if ct = 0 then 3 else if 0 < n ∨ dl ≠ 0 ∨ 16 < nm.size then 1 else 0 by rw [HR2.out, if_neg (by simp)])
                  clear HR2
                  by_cases hct : ct = 0
                  · obtain rfl : R = 3 := by rw [HR3.out, if_pos hct]
                    subst hct
                    go_wp2_with fail
                    go_ret
                    exact ⟨rfl, H9.out⟩
                  have i1 : (ct == 0) = false := beq_eq_false_iff_ne.2 hct
                  have HR4 := Lib.hid (show R = if 0 < n ∨ dl ≠ 0 ∨ 16 < nm.size then 1 else 0 by rw [HR3.out, if_neg hct])
                  clear HR3
                  by_cases h1 : 0 < n
                  · obtain rfl : R = 1 := by rw [HR4.out, if_pos (.inl h1)]
                    have h1I : (0 : Int) < (n : Nat) := by omega
                    go_wp2_with fail
                    go_ret
                    exact ⟨rfl, H9.out⟩
                  have h1I : ¬ (0 : Int) < (n : Nat) := by omega
                  by_cases h2 : 0 < dl
                  · obtain rfl : R = 1 := by rw [HR4.out, if_pos (.inr (.inl (by omega)))]
                    go_wp2_with fail
                    go_ret
                    exact ⟨rfl, H9.out⟩
                  by_cases h3 : 16 < nm.size
                  · obtain rfl : R = 1 := by rw [HR4.out, if_pos (.inr (.inr h3))]
                    have h3I : (16 : Int) < (nm.size : Nat) := by omega
                    go_wp2_with fail
                    go_ret
                    exact ⟨rfl, H9.out⟩
                  have h3I : ¬ (16 : Int) < (nm.size : Nat) := by omega
                  obtain rfl : R = 0 := by rw [HR4.out, if_neg (by have := HS.out.2.2.1; omega)]
                  go_wp2_with fail
                  go_ret
                  exact ⟨rfl, H9.out⟩
                · have i1 : (((E : Nat) : Int) != 0) = true := by simpa using hE0
                  obtain rfl : R = E := by rw [HR2.out, if_pos hE0]
                  have hEI : ¬ ((R : Nat) : Int) = 0 := by omega
                  clear hE0 HR2
                  go_wp2_with fail
                  go_ret
                  exact ⟨rfl, H9.out⟩
end Go.Proofs.YtkkanggkbbmfnaaDoor.Sp

/- expressions: CronNames' walk -/
namespace Go.Proofs.YtkkanggkbbmfnaaDoor.Cn
open Go.RowKit Go.Lib
set_option linter.unusedVariables false

theorem hb_mk {p : Nat → Bool} {x : Nat} (h : x < 64) : hb (mk p) ((x : Nat) : Int) = p x := by
  unfold hb
  rw [Int.toNat_natCast, mk_bit]
  simp [h]
theorem fp_day {d : Nat} (h1 : 1 ≤ d) (h2 : d ≤ 31) : fp 2 (sp 44 [42]) d = true := by
  have e : sp 44 [42] = [[42]] := by decide
  unfold fp
  rw [if_neg (by decide), e]
  unfold setF
  rw [List.any_cons, List.any_nil, Bool.or_false, read_star _ (fds_ok 2)]
  have : (fds 2).lo = 1 ∧ (fds 2).hi = 31 := ⟨rfl, rfl⟩
  unfold inP
  simp [this.1, this.2, Nat.mod_one]; omega
theorem fp_wd {d : Nat} (h2 : d ≤ 6) : fp 4 (sp 44 [42]) d = true := by
  have e : sp 44 [42] = [[42]] := by decide
  have hs : ∀ y, y ≤ 7 → setF (fds 4) (sp 44 [42]) y = true := fun y hy => by
    rw [e]
    unfold setF
    rw [List.any_cons, List.any_nil, Bool.or_false, read_star _ (fds_ok 4)]
    have : (fds 4).lo = 0 ∧ (fds 4).hi = 7 := ⟨rfl, rfl⟩
    unfold inP
    simp [this.1, this.2, Nat.mod_one]; omega
  unfold fp
  rw [if_pos rfl]
  unfold fold
  rw [hs d (by omega)]
  have : ¬ d = 7 := by omega
  simp [this]
/-- a moment's numbers -/
theorem moment_nat {t y mo d wd h mi : Int} (i : Ca.IsM t y mo d wd h mi) : ∃ mo' d' wd' h' mi' : Nat, mo = (mo' : Nat) ∧ d = (d' : Nat) ∧ wd = (wd' : Nat) ∧ h = (h' : Nat) ∧ mi = (mi' : Nat) ∧ mo' ≤ 12 ∧ 1 ≤ d' ∧ d' ≤ 31 ∧ wd' ≤ 6 ∧ h' ≤ 23 ∧ mi' ≤ 59 := by
  have h1 := i.m1; have h2 := i.m2; have h3 := i.d1; have h4 := i.d2; have h5 := Ca.dm_le y mo; have h6 := i.wd; have h7 := i.h; have h8 := i.mi
  exact ⟨mo.toNat, d.toNat, wd.toNat, h.toNat, mi.toNat, by omega, by omega, by omega, by omega, by omega, by omega, by omega, by omega, by omega, by omega, by omega⟩
theorem names_same {s : L} (hs : parseE s = 0) {mo d wd h mi : Nat} (hmo : mo ≤ 12) (hd1 : 1 ≤ d) (hd : d ≤ 31) (hwd : wd ≤ 6) (hh : h ≤ 23) (hmi : mi ≤ 59) :
    namesB (parseV s) (mo : Nat) (d : Nat) (wd : Nat) (h : Nat) (mi : Nat) = namedR (fun j => fp j (sp 44 ((sp 32 s).getD j []))) ((sp 32 s).getD 2 []) ((sp 32 s).getD 4 []) mo d wd h mi := by
  have hV : parseV s = exOf (sp 32 s) := by unfold parseV; rw [if_pos hs]
  rw [hV]
  generalize sp 32 s = ts
  unfold namesB exOf fv
  dsimp only
  rw [hb_mk (by omega), hb_mk (by omega), hb_mk (by omega), hb_mk (by omega), hb_mk (by omega)]
  unfold namedR
  dsimp only
  have e0 : ∀ z, fp 0 (sp 44 (ts.getD 0 [])) z = setF (fds 0) (sp 44 (ts.getD 0 [])) z := fun z => by unfold fp; rw [if_neg (by decide)]
  have e1 : ∀ z, fp 1 (sp 44 (ts.getD 1 [])) z = setF (fds 1) (sp 44 (ts.getD 1 [])) z := fun z => by unfold fp; rw [if_neg (by decide)]
  have e2 : ∀ z, fp 2 (sp 44 (ts.getD 2 [])) z = setF (fds 2) (sp 44 (ts.getD 2 [])) z := fun z => by unfold fp; rw [if_neg (by decide)]
  have e3 : ∀ z, fp 3 (sp 44 (ts.getD 3 [])) z = setF (fds 3) (sp 44 (ts.getD 3 [])) z := fun z => by unfold fp; rw [if_neg (by decide)]
  have e4 : ∀ z, fp 4 (sp 44 (ts.getD 4 [])) z = fold (setF (fds 4) (sp 44 (ts.getD 4 []))) z := fun z => by unfold fp; rw [if_pos rfl]
  rw [← e0, ← e1, ← e2, ← e3, ← e4]
  congr 3
  have d2 : ts.getD 2 [] = [42] → fp 2 (sp 44 (ts.getD 2 [])) d = true := fun h => by rw [h]; exact fp_day hd1 hd
  have d4 : ts.getD 4 [] = [42] → fp 4 (sp 44 (ts.getD 4 [])) wd = true := fun h => by rw [h]; exact fp_wd hwd
  generalize fp 2 (sp 44 (ts.getD 2 [])) d = D at d2 ⊢
  generalize fp 4 (sp 44 (ts.getD 4 [])) wd = W at d4 ⊢
  by_cases h2 : ts.getD 2 [] = [42]
  · rw [d2 h2, if_pos h2, decide_eq_true h2]; simp
  · rw [if_neg h2, decide_eq_false h2]
    by_cases h4 : ts.getD 4 [] = [42]
    · rw [d4 h4, if_pos h4, decide_eq_true h4]; simp
    · rw [if_neg h4, decide_eq_false h4]; simp
end Go.Proofs.YtkkanggkbbmfnaaDoor.Cn

/- a slice of numbers of 32 bits that came in, opened -/
namespace Go.Proofs.YtkkanggkbbmfnaaDoor.Fi
set_option maxRecDepth 20000
open Go.ChangeShapes Go.WideShapes Go.ChangeAt Go.RowKit

/-- numbers that lie in a row -/
def InU (W : World) (a : Option Addr) (n c : Nat) : Prop :=
  n ≤ c ∧ c ≤ 9223372036854775807 ∧ (n = 0 ∨ ∃ b o, a = some ⟨b, o, none⟩ ∧ ∀ i, i < n → ∃ m : Nat, m ≤ 4294967295 ∧ W.cell? ⟨b, o + i, none⟩ = some (.int .u32 (m : Nat)))
section
variable {H : Type} {enc : TypeId × Value → H} {W : World}
end
end Go.Proofs.YtkkanggkbbmfnaaDoor.Fi

/- fires: FiresNext's walk: the document's answers -/
namespace Go.Proofs.YtkkanggkbbmfnaaDoor.Fi
open Go.RowKit Go.Lib Go.Proofs.YtkkanggkbbmfnaaDoor.Cn Go.Proofs.YtkkanggkbbmfnaaDoor.Rg Go.Proofs.YtkkanggkbbmfnaaDoor.Ht
set_option linter.unusedVariables false

/-- the maps and texts that the document's Parse told, in a later world -/
structure Doc (s : L) (w0 : World) (g5 c5 : Nat) (v6 : Value) (ms : List Nat) (W : World) : Prop where
  ok : parseE s = 0
  len : ms.length = 5
  pm : Pm w0 (sp 32 s) g5 c5 v6 ms W
theorem Doc.old {s : L} {w0 : World} {g5 c5 : Nat} {v6 : Value} {ms : List Nat} {W W' : World} (h : Doc s w0 g5 c5 v6 ms W) (hb : Below W.heap.size W W') : Doc s w0 g5 c5 v6 ms W' := ⟨h.ok, h.len, h.pm.old hb⟩
theorem Doc.five {s : L} {w0 : World} {g5 c5 : Nat} {v6 : Value} {ms : List Nat} {W : World} (h : Doc s w0 g5 c5 v6 ms W) : (sp 32 s).length = 5 := by
  have h9 := h.ok
  unfold parseE at h9
  split at h9
  · cases h9
  · split at h9
    · assumption
    · cases h9
/-- the document's answer is whether the tick is named -/
theorem Doc.named {s : L} {w0 : World} {g5 c5 : Nat} {v6 : Value} {ms : List Nat} {W : World} (h : Doc s w0 g5 c5 v6 ms W) {x y mo d wd hh mi : Int} (i : Ca.IsM x y mo d wd hh mi) :
    Calls Tryd.prog 10 #[v6, .slice (some ⟨g5, 0, none⟩) 5 c5, Ca.mom y mo d wd hh mi] W fun r w' => (∃ b, r = .returned (.bool b) ∧ (b = true ↔ nm (parseV s) x)) ∧ Below W.heap.size W w' := by
  obtain ⟨mo, d, wd, hh, mi, rfl, rfl, rfl, rfl, rfl, n1, n2, n3, n4, n5, n6⟩ := moment_nat i
  refine (named_any (sp 32 s) h.five _ _ g5 c5 v6 ms h.len h.pm y mo d wd hh mi n1 n3 n4 n5 n6).mono ?_
  rintro r w' ⟨rfl, hb⟩
  exact ⟨⟨_, rfl, by rw [nm_of i, names_same h.ok n1 n2 n3 n4 n5 n6]⟩, hb⟩
/-- .. of a tick that isn't named -/
theorem Doc.no {s : L} {w0 : World} {g5 c5 : Nat} {v6 : Value} {ms : List Nat} {W : World} (h : Doc s w0 g5 c5 v6 ms W) {x y mo d wd hh mi : Int} (i : Ca.IsM x y mo d wd hh mi) (hn : ¬ nm (parseV s) x) :
    Calls Tryd.prog 10 #[v6, .slice (some ⟨g5, 0, none⟩) 5 c5, Ca.mom y mo d wd hh mi] W fun r w' => r = .returned (.bool false) ∧ Below W.heap.size W w' := by
  refine (h.named i).mono ?_
  rintro r w' ⟨⟨b, rfl, hb⟩, hbl⟩
  refine ⟨?_, hbl⟩
  cases b
  · rfl
  · exact absurd (hb.1 rfl) hn
theorem Doc.yes {s : L} {w0 : World} {g5 c5 : Nat} {v6 : Value} {ms : List Nat} {W : World} (h : Doc s w0 g5 c5 v6 ms W) {x y mo d wd hh mi : Int} (i : Ca.IsM x y mo d wd hh mi) (hn : nm (parseV s) x) :
    Calls Tryd.prog 10 #[v6, .slice (some ⟨g5, 0, none⟩) 5 c5, Ca.mom y mo d wd hh mi] W fun r w' => r = .returned (.bool true) ∧ Below W.heap.size W w' := by
  refine (h.named i).mono ?_
  rintro r w' ⟨⟨b, rfl, hb⟩, hbl⟩
  obtain rfl := hb.2 hn
  exact ⟨rfl, hbl⟩
end Go.Proofs.YtkkanggkbbmfnaaDoor.Fi

/- crontab: CrontabDue's walk -/
namespace Go.Proofs.YtkkanggkbbmfnaaDoor.Ct
open Go.RowKit Go.Lib Go.Proofs.YtkkanggkbbmfnaaDoor.Cn Go.Proofs.YtkkanggkbbmfnaaDoor.Rg Go.Proofs.YtkkanggkbbmfnaaDoor.Fi
open Sp (Spc Okc chkE)
set_option linter.unusedVariables false
set_option linter.unusedSimpArgs false
set_option maxRecDepth 20000

theorem few_ok8 {x : Spc} {w : World} (hd : Sp.Dp w x.a x.n x.ds) (h : x.few) : Okc x w :=
  ⟨hd, by have := h.2.2.2.1; omega, fun d hd' => by have := h.1 d hd'; omega, by have := h.2.1; omega, by have := h.2.2.1; omega⟩
theorem few_len {x : Spc} (h : x.few) : x.cr.data.toList.length ≤ 1000 := by
  have h1 : x.cr.data.size ≤ 200 := h.2.2.2.2
  rw [Array.length_toList]; omega
theorem rng_no {a t : Int} (h : a < 0 ∨ 1099511627776 < a ∨ t < a ∨ 1099511627776 < t) : tkB a = false ∨ tkB t = false ∨ t < a := by
  unfold tkB
  rcases h with h | h | h | h
  · exact .inl (by simp; omega)
  · exact .inl (by simp; omega)
  · exact .inr (.inr h)
  · exact .inr (.inl (by simp; omega))
/-- the tick with k named ones before it -/
theorem Chn.at {X : Ex} : ∀ {l : List Int} {s e u : Int} {k : Nat}, Chn X s l e → nm X u → s < u → cnt X s (u - 1) = k → ∀ hk : k < l.length, l[k] = u
  | y :: l, s, e, u, k, h, hn, hs, hc, hk => by
    have hyu : y ≤ u := Int.not_lt.1 fun hx => h.1.2.2 u hs hx hn
    have h1 := cnt_next X h.1 (Int.le_refl s)
    rw [cnt_self X (Int.le_refl _)] at h1
    by_cases hy : y = u
    · subst hy
      have : cnt X s (y - 1) = 0 := cnt_none X fun v h1 h2 => h.1.2.2 v h1 (by omega)
      obtain rfl : k = 0 := by omega
      rfl
    · have h2 := cnt_add X (b := y) (c := u - 1) (Int.le_of_lt h.1.1) (by omega)
      obtain ⟨j, rfl⟩ : ∃ j, k = j + 1 := ⟨k - 1, by omega⟩
      have := h.2.at (k := j) hn (by omega) (by omega) (by simpa using hk)
      simpa using this
theorem cnt_yes {X : Ex} {a u : Int} (ha : a ≤ u - 1) (hn : nm X u) : cnt X a u = cnt X a (u - 1) + 1 := cnt_next X (s := u - 1) ⟨by omega, hn, fun v h1 h2 => by omega⟩ ha
theorem cnt_not {X : Ex} {a u : Int} (ha : a ≤ u - 1) (hn : ¬ nm X u) : cnt X a u = cnt X a (u - 1) := by
  have h1 : cnt X (u - 1) u = 0 := cnt_none X fun v h1 h2 => by obtain rfl : v = u := by omega
                                                                exact hn
  have h2 := cnt_add X ha (show u - 1 ≤ u by omega)
  omega
/-- the row's tick -/
theorem DueIs.tick {X : Ex} {a t u : Int} {N : Nat} {ts : List Int} {m k : Nat} (h : DueIs X a t N ts m) (h1 : a < u) (h2 : u ≤ t) (hn : nm X u) (hk : k = min N (cnt X a (u - 1))) (hN : k < N) : ∃ hl : k < ts.length, ts[k] = u := by
  have h3 := cnt_yes (X := X) (a := a) (by omega) hn
  have h4 := cnt_mono X (a := a) h2
  have hl : k < ts.length := by rw [h.len]; omega
  obtain ⟨e, hc, _⟩ := h
  exact ⟨hl, hc.at hn h1 (by omega) hl⟩
theorem w64d {x : Int} (h : 0 ≤ x) (h2 : x ≤ 1000000000000000000) : wrap64 x = x := by unfold wrap64; omega
set_option maxHeartbeats 32000000 in
theorem due16 (x : Spc) (a t : Int) (hia : Ca.I64 a) (hit : Ca.I64 t) {w : World} (hd : Sp.Dp w x.a x.n x.ds) (hm : x.n ≤ maxLen) (hg : Gd w) :
    Calls Tryd.prog 3 #[.agg x.cells, .int .i64 a, .int .i64 t] w fun e w' => e = .returned (.bool true) ∧ Below w.heap.size w w' := by
  obtain ⟨s0, hs0⟩ : ∃ s0 : Value, s0 = .agg x.cells := ⟨_, rfl⟩
  have HL := Lib.hid (fun W (h : Below w.heap.size w W) => lives16_any W (hg.old h))
  have HF := Lib.hid (fun W (h : Below w.heap.size w W) => Sp.Few_any x (hd.old h) hm)
  have HC := Lib.hid (fun (W : World) (h : Below w.heap.size w W) (hf : x.few) => Sp.RCheck_any x (few_ok8 (hd.old h) hf) (few_len hf))
  have HD0 := Lib.hid (fun (W : World) (h : Below w.heap.size w W) (hf : x.few) (htp : tplB x = false) => Due_no x a t (few_ok8 (hd.old h) hf) (hg.gl.old h) 1 (.inl ⟨htp, rfl⟩))
  have HD3 := Lib.hid (fun (W : World) (h : Below w.heap.size w W) (hf : x.few) (htp : tplB x = true) (hr : a < 0 ∨ 1099511627776 < a ∨ t < a ∨ 1099511627776 < t) => Due_no x a t (few_ok8 (hd.old h) hf) (hg.gl.old h) 3 (.inr ⟨htp, rng_no hr, rfl⟩))
  have HD1 := Lib.hid (fun (W : World) (h : Below w.heap.size w W) (hf : x.few) (htp : tplB x = true) (hp : 0 ≤ a ∧ a ≤ 1099511627776) (hq : t ≤ 1099511627776) (hpq : a ≤ t) => Due_ok x a t (few_ok8 (hd.old h) hf) (hg.old h) htp hp hq hpq)
  have HT := Lib.hid (fun (h : tplB x = true) => (tpl_in h))
  have HP := Lib.hid (fun (W : World) (h : parseE x.cr.data.toList = 0) => by have q := rparse_any x.cr.data.toList h W; rw [← Sp.str_S] at q; exact q)
  obtain ⟨B, hB⟩ : ∃ B, B = tplB x := ⟨_, rfl⟩
  rw [← hB] at HD0 HD1 HD3 HT
  unfold tplB at hB
  obtain ⟨E, hE⟩ : ∃ E, E = chkE x := ⟨_, rfl⟩
  rw [← hE] at HC hB
  obtain ⟨few, hfew⟩ : ∃ p : Prop, p = x.few := ⟨_, rfl⟩
  rw [← hfew] at HF HD0 HD1 HD3 HC
  clear hfew hd hm hg hE
  obtain ⟨nm, tn, pr, dl, ao, n, c, ds, bs, cp, at', ls, cr, ct⟩ := x
  unfold Spc.cells at HF HD0 HD1 HD3 HC hs0 ⊢
  simp only at HF HD0 HD1 HD3 HC HT HP hB hs0 ⊢
  obtain ⟨V, hV⟩ : ∃ V, V = w.alloc (.cells #[.string nm, .string tn, .int .i64 pr, .int .i64 dl, .slice ao n c, .int .i64 bs, .int .i64 cp, .int .i64 at', .int .i64 ls, .string cr, .int .i64 ct] 24) := ⟨_, rfl⟩
  have hb1 : Below w.heap.size w V := by rw [hV]; exact (Below.refl _ w).alloc (Nat.le_refl _) _
  have hx0 : V.heap[w.heap.size]? = some (.cells #[.string nm, .string tn, .int .i64 pr, .int .i64 dl, .slice ao n c, .int .i64 bs, .int .i64 cp, .int .i64 at', .int .i64 ls, .string cr, .int .i64 ct] 24 (0, 0)) := by rw [hV]; exact (MapKept.heap_alloc w _).1
  have HV := Lib.hid (And.intro hb1 (And.intro hV hx0))
  clear hb1 hV hx0 hs0
  unfold Ca.I64 at hia hit
  go_enter Tryd.func3, Tryd.ntmps3
  go_wp2_with fail
  rw [← HV.out.2.1]
  refine (HL.out _ HV.out.1).mono ?_
  rintro e w1 ⟨rfl, hb⟩
  have H1 := Lib.hid (And.intro (HV.out.1.trans (hb.mono HV.out.1.size)) (Sp.old2 hb HV.out.2.2))
  clear hb
  obtain ⟨⟨l0, l1, l2, l3, l4, l5, l6, l7, l8, l9, l10⟩, _⟩ := Sp.eleven H1.out.2
  go_wp2_with fail
  refine (HF.out _ H1.out.1).mono ?_
  rintro e w2 ⟨r, rfl, hr, hb⟩
  have H2 := Lib.hid (And.intro (H1.out.1.trans (hb.mono H1.out.1.size)) (Sp.old2 hb H1.out.2))
  clear hb l0 l1 l2 l3 l4 l5 l6 l7 l8 l9 l10
  obtain ⟨⟨l0, l1, l2, l3, l4, l5, l6, l7, l8, l9, l10⟩, _⟩ := Sp.eleven H2.out.2
  cases r with
  | false =>
    clear hr
    go_wp2_with fail
    refine (HL.out _ H2.out.1).mono ?_
    rintro e w3 ⟨rfl, hb⟩
    have H3 := Lib.hid (H2.out.1.trans (hb.mono H2.out.1.size))
    clear hb
    go_wp2_with fail
    go_ret
    exact ⟨rfl, H3.out⟩
  | true =>
    have hf := hr rfl
    clear hr
    replace HC := Lib.hid (fun (W : World) (h : Below w.heap.size w W) => HC.out W h hf)
    replace HD0 := Lib.hid (fun (W : World) (h : Below w.heap.size w W) => HD0.out W h hf)
    replace HD1 := Lib.hid (fun (W : World) (h : Below w.heap.size w W) => HD1.out W h hf)
    replace HD3 := Lib.hid (fun (W : World) (h : Below w.heap.size w W) => HD3.out W h hf)
    have HB := Lib.hid hB
    clear hf hB HF HL
    by_cases h1 : 0 ≤ a
    · by_cases h2 : t ≤ 1099511627776
      · by_cases h3 : a < t
        · by_cases h4 : 4000 < t - a
          · clear HD0 HD1 HD3 HP HT HB
            go_wp2_with fail
            go_ret
            exact ⟨rfl, H2.out.1⟩

          · have h5 : t ≤ a + 4000 := by omega
            have h6 : a ≤ 1099511627776 := by omega
            have h4' : t - a ≤ 4000 := by omega
            clear h4
            by_cases hE0 : E = 0
            · have i1 : (((E : Nat) : Int) != 0) = false := by rw [hE0]; rfl
              by_cases hcr : cr.toList.isEmpty = true
              · obtain rfl : B = false := by rw [HB.out, hcr]; rfl
                clear HB hE0
                have HR := Lib.hid (HD0.out _ H2.out.1 rfl)
                clear HD0 HD1 HD3 HP HT
                go_wp2_with fail
                refine HR.out.mono ?_
                rintro e w3 ⟨rfl, hb⟩
                have H3 := Lib.hid (And.intro (H2.out.1.trans (hb.mono H2.out.1.size)) (Sp.old2 hb H2.out.2))
                clear hb l0 l1 l2 l3 l4 l5 l6 l7 l8 l9 l10
                obtain ⟨⟨l0, l1, l2, l3, l4, l5, l6, l7, l8, l9, l10⟩, _⟩ := Sp.eleven H3.out.2
                clear HR
                go_wp2_with fail
                refine (HC.out _ H3.out.1).mono ?_
                rintro e w4 ⟨rfl, hb⟩
                have H4 := Lib.hid (And.intro (H3.out.1.trans (hb.mono H3.out.1.size)) (Sp.old2 hb H3.out.2))
                clear hb l0 l1 l2 l3 l4 l5 l6 l7 l8 l9 l10
                obtain ⟨⟨l0, l1, l2, l3, l4, l5, l6, l7, l8, l9, l10⟩, _⟩ := Sp.eleven H4.out.2
                go_wp2_with fail
                go_ret
                exact ⟨rfl, H4.out.1⟩
              · have hcr' : cr.toList.isEmpty = false := by simpa using hcr
                obtain rfl : B = true := by rw [HB.out, hcr', hE0]; rfl
                clear hcr HB hE0
                have HR := Lib.hid (HD1.out _ H2.out.1 rfl (by omega) (by omega) (by omega))
                have hct := (HT.out rfl).2
                have HPE := Lib.hid (HT.out rfl).1
                obtain ⟨N, hN⟩ : ∃ N : Nat, ct = (N : Nat) := ⟨ct.toNat, by omega⟩
                subst hN
                rw [show ((N : Nat) : Int).toNat = N by omega] at HR
                obtain ⟨X, hX⟩ : ∃ X, X = parseV cr.data.toList := ⟨_, rfl⟩
                rw [← hX] at HR
                have HX := Lib.hid hX
                have hN16 : N ≤ 16 := by omega
                clear HD0 HD1 HD3 HT hct hX
                go_wp2_with fail
                refine HR.out.mono ?_
                rintro e w3 ⟨v1, ts, m1, rfl, o1, p1, hb⟩
                obtain ⟨a1, c1, rfl⟩ := own_shape o1
                obtain ⟨L1, hL1⟩ : ∃ L, L = ts.length := ⟨_, rfl⟩
                rw [← hL1] at o1 ⊢
                have HO := Lib.hid (And.intro o1 (And.intro p1 hL1))
                clear o1 p1 hL1
                have H3 := Lib.hid (And.intro (H2.out.1.trans (hb.mono H2.out.1.size)) (Sp.old2 hb H2.out.2))
                clear hb l0 l1 l2 l3 l4 l5 l6 l7 l8 l9 l10
                obtain ⟨⟨l0, l1, l2, l3, l4, l5, l6, l7, l8, l9, l10⟩, _⟩ := Sp.eleven H3.out.2
                clear HR
                go_wp2_with fail
                refine (HC.out _ H3.out.1).mono ?_
                rintro e w4 ⟨rfl, hb⟩
                have HO4 := Lib.hid (own_keep HO.out.1 fun g hg => hb.block g (own_lt HO.out.1 hg).2)
                have H4 := Lib.hid (And.intro (H3.out.1.trans (hb.mono H3.out.1.size)) (Sp.old2 hb H3.out.2))
                clear hb l0 l1 l2 l3 l4 l5 l6 l7 l8 l9 l10
                obtain ⟨⟨l0, l1, l2, l3, l4, l5, l6, l7, l8, l9, l10⟩, _⟩ := Sp.eleven H4.out.2
                go_wp2_with fail
                refine (HP.out _ HPE.out).mono ?_
                rintro e w5 ⟨v6, g5, c5, ms, rfl, hms, hpm⟩
                have hb := hpm.bel
                have HO5 := Lib.hid (own_keep HO4.out fun g hg => hb.block g (own_lt HO4.out hg).2)
                have HDoc := Lib.hid (show Doc cr.data.toList w4 g5 c5 v6 ms w5 from ⟨HPE.out, hms, hpm⟩)
                clear hms hpm
                have H5 := Lib.hid (And.intro (H4.out.1.trans (hb.mono H4.out.1.size)) (Sp.old2 hb H4.out.2))
                clear hb l0 l1 l2 l3 l4 l5 l6 l7 l8 l9 l10
                obtain ⟨⟨l0, l1, l2, l3, l4, l5, l6, l7, l8, l9, l10⟩, _⟩ := Sp.eleven H5.out.2
                clear l0 l1 l2 l3 l4 l5 l6 l7 l8 l9 l10
                have hlen := HO.out.2.1.len
                have htot := HO.out.2.1.total (by have := cnt_le X a t; omega)
                rw [← HO.out.2.2] at hlen htot
                have HE := Lib.hid (And.intro hlen htot)
                have hcl := cnt_le X a t
                have hL16 : L1 ≤ 16 ∧ m1 ≤ 4000 := by omega
                clear hlen htot hcl
                go_wp2_with fail
                go_loopw [13, 14, 15] (fun i j u wr => ∃ (k mis : Nat) (x : Int), i = .int .i64 (k : Nat) ∧ j = .int .i64 (mis : Nat) ∧ u = .int .i64 x ∧ a + 1 ≤ x ∧ x ≤ t + 1 ∧ k = min N (cnt X a (x - 1)) ∧ k + mis = cnt X a (x - 1) ∧ Doc cr.data.toList w4 g5 c5 v6 ms wr ∧ Below w5.heap.size w5 wr) (fun _ _ u _ => (t + 1 - RowKit.intOf u).toNat)
                case atStart =>
                  have h0 : cnt X a (a + 1 - 1) = 0 := cnt_self X (by omega)
                  exact ⟨0, 0, a + 1, rfl, rfl, rfl, by omega, by omega, by rw [h0]; omega, by rw [h0], HDoc.out, Below.refl _ _⟩
                case round =>
                  obtain ⟨k, mis, x, rfl, rfl, rfl, hx1, hx2, hk, hkm, hdoc, hbw⟩ := hrel
                  have hc0 := cnt_le X a (x - 1)
                  have hb1 : k ≤ 4000 ∧ mis ≤ 4000 := by omega
                  have HK := Lib.hid (And.intro hk hkm)
                  have HW := Lib.hid (And.intro hdoc hbw)
                  clear hk hkm hdoc hbw hc0
                  by_cases hxt : x ≤ t
                  · by_cases hn : Fi.nm X x
                    · have hcn := cnt_yes (X := X) (a := a) (show a ≤ x - 1 by omega) hn
                      have HN := Lib.hid (And.intro (show Fi.nm (parseV cr.data.toList) x by rw [← HX.out]; exact hn) (And.intro hn hcn))
                      clear hn hcn
                      by_cases hkN : k < N
                      · obtain ⟨hl, htk⟩ := HO.out.2.1.tick (by omega) hxt HN.out.2.1 HK.out.1 hkN
                        obtain ⟨g1, c1', e1', r1⟩ := row_cell HO5.out hl
                        rw [htk] at r1
                        cases e1'
                        have hkL : k < L1 := by rw [HO.out.2.2]; exact hl
                        have hkI : ((k : Nat) : Int) < ((L1 : Nat) : Int) := by omega
                        have hkNI : ((k : Nat) : Int) < ((N : Nat) : Int) := by omega
                        have HRR := Lib.hid r1
                        clear hl htk r1
                        go_wp2_with fail
                        refine (Ca.Moment_in x wr (by omega) (by omega)).mono ?_
                        rintro q w8 ⟨y, mo, d, wd, hh, mi, rfl, him, hb⟩
                        have hK := (HW.out.1.old hb).yes him HN.out.1
                        have H8 := Lib.hid (And.intro hK (And.intro (HW.out.1.old hb) (HW.out.2.trans (hb.mono HW.out.2.size))))
                        clear hK him hb
                        go_wp2_with fail
                        refine H8.out.1.mono ?_
                        rintro q w9 ⟨rfl, hb⟩
                        have H9 := Lib.hid (And.intro (H8.out.2.1.old hb) (H8.out.2.2.trans (hb.mono H8.out.2.2.size)))
                        clear hb
                        have r2 := (H9.out.2.cell (p := ⟨g1, k, none⟩) (World.block_lt_of_cell? _ _ HRR.out)).trans HRR.out
                        obtain ⟨⟨l0, l1, l2, l3, l4, l5, l6, l7, l8, l9, l10⟩, _⟩ := Sp.eleven (Sp.old2 H9.out.2 H5.out.2)
                        go_wp2_with fail
                        have hk2 := HK.out
                        have hc2 := HN.out.2.2
                        exact ⟨⟨k + 1, mis, x + 1, rfl, rfl, rfl, by omega, by omega, by rw [show x + 1 - 1 = x by omega]; omega, by rw [show x + 1 - 1 = x by omega]; omega, H9.out.1, H9.out.2⟩, by simp [RowKit.intOf]; omega⟩
                      · have hkNI : ((N : Nat) : Int) ≤ ((k : Nat) : Int) := by omega
                        go_wp2_with fail
                        refine (Ca.Moment_in x wr (by omega) (by omega)).mono ?_
                        rintro q w8 ⟨y, mo, d, wd, hh, mi, rfl, him, hb⟩
                        have hK := (HW.out.1.old hb).yes him HN.out.1
                        have H8 := Lib.hid (And.intro hK (And.intro (HW.out.1.old hb) (HW.out.2.trans (hb.mono HW.out.2.size))))
                        clear hK him hb
                        go_wp2_with fail
                        refine H8.out.1.mono ?_
                        rintro q w9 ⟨rfl, hb⟩
                        have H9 := Lib.hid (And.intro (H8.out.2.1.old hb) (H8.out.2.2.trans (hb.mono H8.out.2.2.size)))
                        clear hb
                        obtain ⟨⟨l0, l1, l2, l3, l4, l5, l6, l7, l8, l9, l10⟩, _⟩ := Sp.eleven (Sp.old2 H9.out.2 H5.out.2)
                        go_wp2_with fail
                        have hk2 := HK.out
                        have hc2 := HN.out.2.2
                        exact ⟨⟨k, mis + 1, x + 1, rfl, rfl, rfl, by omega, by omega, by rw [show x + 1 - 1 = x by omega]; omega, by rw [show x + 1 - 1 = x by omega]; omega, H9.out.1, H9.out.2⟩, by simp [RowKit.intOf]; omega⟩
                    · have hcn := cnt_not (X := X) (a := a) (show a ≤ x - 1 by omega) hn
                      have HN := Lib.hid (And.intro (show ¬ Fi.nm (parseV cr.data.toList) x by rw [← HX.out]; exact hn) hcn)
                      clear hn hcn
                      go_wp2_with fail
                      refine (Ca.Moment_in x wr (by omega) (by omega)).mono ?_
                      rintro q w8 ⟨y, mo, d, wd, hh, mi, rfl, him, hb⟩
                      have hK := (HW.out.1.old hb).no him HN.out.1
                      have H8 := Lib.hid (And.intro hK (And.intro (HW.out.1.old hb) (HW.out.2.trans (hb.mono HW.out.2.size))))
                      clear hK him hb
                      go_wp2_with fail
                      refine H8.out.1.mono ?_
                      rintro q w9 ⟨rfl, hb⟩
                      have H9 := Lib.hid (And.intro (H8.out.2.1.old hb) (H8.out.2.2.trans (hb.mono H8.out.2.2.size)))
                      clear hb
                      go_wp2_with fail
                      have hk2 := HK.out
                      have hc2 := HN.out.2
                      exact ⟨⟨k, mis, x + 1, rfl, rfl, rfl, by omega, by omega, by rw [show x + 1 - 1 = x by omega]; omega, by rw [show x + 1 - 1 = x by omega]; omega, H9.out.1, H9.out.2⟩, by simp [RowKit.intOf]; omega⟩
                  · obtain rfl : x = t + 1 := by omega
                    have hk2 := HK.out
                    rw [show t + 1 - 1 = t by omega] at hk2
                    have he := HE.out
                    obtain rfl : k = L1 := by omega
                    obtain rfl : mis = m1 := by omega
                    clear hk2 he
                    go_wp2_with fail
                    go_ret
                    exact ⟨rfl, H5.out.1.trans (HW.out.2.mono H5.out.1.size)⟩
            · obtain rfl : B = false := by rw [HB.out, decide_eq_false hE0, Bool.and_false]
              have i1 : (((E : Nat) : Int) != 0) = true := by simpa using hE0
              clear HB hE0
              have HR := Lib.hid (HD0.out _ H2.out.1 rfl)
              clear HD0 HD1 HD3 HP HT
              go_wp2_with fail
              refine HR.out.mono ?_
              rintro e w3 ⟨rfl, hb⟩
              have H3 := Lib.hid (And.intro (H2.out.1.trans (hb.mono H2.out.1.size)) (Sp.old2 hb H2.out.2))
              clear hb l0 l1 l2 l3 l4 l5 l6 l7 l8 l9 l10
              obtain ⟨⟨l0, l1, l2, l3, l4, l5, l6, l7, l8, l9, l10⟩, _⟩ := Sp.eleven H3.out.2
              clear HR
              go_wp2_with fail
              refine (HC.out _ H3.out.1).mono ?_
              rintro e w4 ⟨rfl, hb⟩
              have H4 := Lib.hid (And.intro (H3.out.1.trans (hb.mono H3.out.1.size)) (Sp.old2 hb H3.out.2))
              clear hb l0 l1 l2 l3 l4 l5 l6 l7 l8 l9 l10
              obtain ⟨⟨l0, l1, l2, l3, l4, l5, l6, l7, l8, l9, l10⟩, _⟩ := Sp.eleven H4.out.2
              go_wp2_with fail
              go_ret
              exact ⟨rfl, H4.out.1⟩

        · have h3' : t ≤ a := by omega
          by_cases hE0 : E = 0
          · have i1 : (((E : Nat) : Int) != 0) = false := by rw [hE0]; rfl
            by_cases hcr : cr.toList.isEmpty = true
            · obtain rfl : B = false := by rw [HB.out, hcr]; rfl
              clear HB hE0
              have HR := Lib.hid (HD0.out _ H2.out.1 rfl)
              clear HD0 HD1 HD3 HP HT
              go_wp2_with fail
              refine HR.out.mono ?_
              rintro e w3 ⟨rfl, hb⟩
              have H3 := Lib.hid (And.intro (H2.out.1.trans (hb.mono H2.out.1.size)) (Sp.old2 hb H2.out.2))
              clear hb l0 l1 l2 l3 l4 l5 l6 l7 l8 l9 l10
              obtain ⟨⟨l0, l1, l2, l3, l4, l5, l6, l7, l8, l9, l10⟩, _⟩ := Sp.eleven H3.out.2
              clear HR
              go_wp2_with fail
              refine (HC.out _ H3.out.1).mono ?_
              rintro e w4 ⟨rfl, hb⟩
              have H4 := Lib.hid (And.intro (H3.out.1.trans (hb.mono H3.out.1.size)) (Sp.old2 hb H3.out.2))
              clear hb l0 l1 l2 l3 l4 l5 l6 l7 l8 l9 l10
              obtain ⟨⟨l0, l1, l2, l3, l4, l5, l6, l7, l8, l9, l10⟩, _⟩ := Sp.eleven H4.out.2
              go_wp2_with fail
              go_ret
              exact ⟨rfl, H4.out.1⟩
            · have hcr' : cr.toList.isEmpty = false := by simpa using hcr
              obtain rfl : B = true := by rw [HB.out, hcr', hE0]; rfl
              clear hcr HB hE0
              by_cases h7 : t < a
              · by_cases h8 : 1099511627776 < a
                · have HR := Lib.hid (HD3.out _ H2.out.1 rfl (by omega))
                  clear HD0 HD1 HD3 HP HT
                  go_wp2_with fail
                  refine HR.out.mono ?_
                  rintro e w3 ⟨rfl, hb⟩
                  have H3 := Lib.hid (And.intro (H2.out.1.trans (hb.mono H2.out.1.size)) (Sp.old2 hb H2.out.2))
                  clear hb l0 l1 l2 l3 l4 l5 l6 l7 l8 l9 l10
                  obtain ⟨⟨l0, l1, l2, l3, l4, l5, l6, l7, l8, l9, l10⟩, _⟩ := Sp.eleven H3.out.2
                  clear HR
                  go_wp2_with fail
                  refine (HC.out _ H3.out.1).mono ?_
                  rintro e w4 ⟨rfl, hb⟩
                  have H4 := Lib.hid (And.intro (H3.out.1.trans (hb.mono H3.out.1.size)) (Sp.old2 hb H3.out.2))
                  clear hb l0 l1 l2 l3 l4 l5 l6 l7 l8 l9 l10
                  obtain ⟨⟨l0, l1, l2, l3, l4, l5, l6, l7, l8, l9, l10⟩, _⟩ := Sp.eleven H4.out.2
                  go_wp2_with fail
                  go_ret
                  exact ⟨rfl, H4.out.1⟩
                · have h8' : a ≤ 1099511627776 := by omega
                  clear h8
                  have HR := Lib.hid (HD3.out _ H2.out.1 rfl (by omega))
                  clear HD0 HD1 HD3 HP HT
                  go_wp2_with fail
                  refine HR.out.mono ?_
                  rintro e w3 ⟨rfl, hb⟩
                  have H3 := Lib.hid (And.intro (H2.out.1.trans (hb.mono H2.out.1.size)) (Sp.old2 hb H2.out.2))
                  clear hb l0 l1 l2 l3 l4 l5 l6 l7 l8 l9 l10
                  obtain ⟨⟨l0, l1, l2, l3, l4, l5, l6, l7, l8, l9, l10⟩, _⟩ := Sp.eleven H3.out.2
                  clear HR
                  go_wp2_with fail
                  refine (HC.out _ H3.out.1).mono ?_
                  rintro e w4 ⟨rfl, hb⟩
                  have H4 := Lib.hid (And.intro (H3.out.1.trans (hb.mono H3.out.1.size)) (Sp.old2 hb H3.out.2))
                  clear hb l0 l1 l2 l3 l4 l5 l6 l7 l8 l9 l10
                  obtain ⟨⟨l0, l1, l2, l3, l4, l5, l6, l7, l8, l9, l10⟩, _⟩ := Sp.eleven H4.out.2
                  go_wp2_with fail
                  go_ret
                  exact ⟨rfl, H4.out.1⟩
              · have h6 : a ≤ 1099511627776 := by omega
                have h5 : t ≤ a + 4000 := by omega
                have HR := Lib.hid (HD1.out _ H2.out.1 rfl (by omega) (by omega) (by omega))
                have hct := (HT.out rfl).2
                have HPE := Lib.hid (HT.out rfl).1
                obtain ⟨N, hN⟩ : ∃ N : Nat, ct = (N : Nat) := ⟨ct.toNat, by omega⟩
                subst hN
                rw [show ((N : Nat) : Int).toNat = N by omega] at HR
                obtain ⟨X, hX⟩ : ∃ X, X = parseV cr.data.toList := ⟨_, rfl⟩
                rw [← hX] at HR
                have HX := Lib.hid hX
                have hN16 : N ≤ 16 := by omega
                clear HD0 HD1 HD3 HT hct hX
                go_wp2_with fail
                refine HR.out.mono ?_
                rintro e w3 ⟨v1, ts, m1, rfl, o1, p1, hb⟩
                obtain ⟨a1, c1, rfl⟩ := own_shape o1
                obtain ⟨L1, hL1⟩ : ∃ L, L = ts.length := ⟨_, rfl⟩
                rw [← hL1] at o1 ⊢
                have HO := Lib.hid (And.intro o1 (And.intro p1 hL1))
                clear o1 p1 hL1
                have H3 := Lib.hid (And.intro (H2.out.1.trans (hb.mono H2.out.1.size)) (Sp.old2 hb H2.out.2))
                clear hb l0 l1 l2 l3 l4 l5 l6 l7 l8 l9 l10
                obtain ⟨⟨l0, l1, l2, l3, l4, l5, l6, l7, l8, l9, l10⟩, _⟩ := Sp.eleven H3.out.2
                clear HR
                go_wp2_with fail
                refine (HC.out _ H3.out.1).mono ?_
                rintro e w4 ⟨rfl, hb⟩
                have HO4 := Lib.hid (own_keep HO.out.1 fun g hg => hb.block g (own_lt HO.out.1 hg).2)
                have H4 := Lib.hid (And.intro (H3.out.1.trans (hb.mono H3.out.1.size)) (Sp.old2 hb H3.out.2))
                clear hb l0 l1 l2 l3 l4 l5 l6 l7 l8 l9 l10
                obtain ⟨⟨l0, l1, l2, l3, l4, l5, l6, l7, l8, l9, l10⟩, _⟩ := Sp.eleven H4.out.2
                go_wp2_with fail
                refine (HP.out _ HPE.out).mono ?_
                rintro e w5 ⟨v6, g5, c5, ms, rfl, hms, hpm⟩
                have hb := hpm.bel
                have HO5 := Lib.hid (own_keep HO4.out fun g hg => hb.block g (own_lt HO4.out hg).2)
                have HDoc := Lib.hid (show Doc cr.data.toList w4 g5 c5 v6 ms w5 from ⟨HPE.out, hms, hpm⟩)
                clear hms hpm
                have H5 := Lib.hid (And.intro (H4.out.1.trans (hb.mono H4.out.1.size)) (Sp.old2 hb H4.out.2))
                clear hb l0 l1 l2 l3 l4 l5 l6 l7 l8 l9 l10
                obtain ⟨⟨l0, l1, l2, l3, l4, l5, l6, l7, l8, l9, l10⟩, _⟩ := Sp.eleven H5.out.2
                clear l0 l1 l2 l3 l4 l5 l6 l7 l8 l9 l10
                have hlen := HO.out.2.1.len
                have htot := HO.out.2.1.total (by have := cnt_le X a t; omega)
                rw [← HO.out.2.2] at hlen htot
                have HE := Lib.hid (And.intro hlen htot)
                have hcl := cnt_le X a t
                have hL16 : L1 ≤ 16 ∧ m1 ≤ 4000 := by omega
                clear hlen htot hcl
                go_wp2_with fail
                go_loopw [13, 14, 15] (fun i j u wr => ∃ (k mis : Nat) (x : Int), i = .int .i64 (k : Nat) ∧ j = .int .i64 (mis : Nat) ∧ u = .int .i64 x ∧ a + 1 ≤ x ∧ x ≤ t + 1 ∧ k = min N (cnt X a (x - 1)) ∧ k + mis = cnt X a (x - 1) ∧ Doc cr.data.toList w4 g5 c5 v6 ms wr ∧ Below w5.heap.size w5 wr) (fun _ _ u _ => (t + 1 - RowKit.intOf u).toNat)
                case atStart =>
                  have h0 : cnt X a (a + 1 - 1) = 0 := cnt_self X (by omega)
                  exact ⟨0, 0, a + 1, rfl, rfl, rfl, by omega, by omega, by rw [h0]; omega, by rw [h0], HDoc.out, Below.refl _ _⟩
                case round =>
                  obtain ⟨k, mis, x, rfl, rfl, rfl, hx1, hx2, hk, hkm, hdoc, hbw⟩ := hrel
                  have hc0 := cnt_le X a (x - 1)
                  have hb1 : k ≤ 4000 ∧ mis ≤ 4000 := by omega
                  have HK := Lib.hid (And.intro hk hkm)
                  have HW := Lib.hid (And.intro hdoc hbw)
                  clear hk hkm hdoc hbw hc0
                  by_cases hxt : x ≤ t
                  · exfalso; omega
                  · obtain rfl : x = t + 1 := by omega
                    have hk2 := HK.out
                    rw [show t + 1 - 1 = t by omega] at hk2
                    have he := HE.out
                    obtain rfl : k = L1 := by omega
                    obtain rfl : mis = m1 := by omega
                    clear hk2 he
                    go_wp2_with fail
                    go_ret
                    exact ⟨rfl, H5.out.1.trans (HW.out.2.mono H5.out.1.size)⟩
          · obtain rfl : B = false := by rw [HB.out, decide_eq_false hE0, Bool.and_false]
            have i1 : (((E : Nat) : Int) != 0) = true := by simpa using hE0
            clear HB hE0
            have HR := Lib.hid (HD0.out _ H2.out.1 rfl)
            clear HD0 HD1 HD3 HP HT
            go_wp2_with fail
            refine HR.out.mono ?_
            rintro e w3 ⟨rfl, hb⟩
            have H3 := Lib.hid (And.intro (H2.out.1.trans (hb.mono H2.out.1.size)) (Sp.old2 hb H2.out.2))
            clear hb l0 l1 l2 l3 l4 l5 l6 l7 l8 l9 l10
            obtain ⟨⟨l0, l1, l2, l3, l4, l5, l6, l7, l8, l9, l10⟩, _⟩ := Sp.eleven H3.out.2
            clear HR
            go_wp2_with fail
            refine (HC.out _ H3.out.1).mono ?_
            rintro e w4 ⟨rfl, hb⟩
            have H4 := Lib.hid (And.intro (H3.out.1.trans (hb.mono H3.out.1.size)) (Sp.old2 hb H3.out.2))
            clear hb l0 l1 l2 l3 l4 l5 l6 l7 l8 l9 l10
            obtain ⟨⟨l0, l1, l2, l3, l4, l5, l6, l7, l8, l9, l10⟩, _⟩ := Sp.eleven H4.out.2
            go_wp2_with fail
            go_ret
            exact ⟨rfl, H4.out.1⟩

      · have h2' : 1099511627776 < t := by omega
        by_cases hE0 : E = 0
        · have i1 : (((E : Nat) : Int) != 0) = false := by rw [hE0]; rfl
          by_cases hcr : cr.toList.isEmpty = true
          · obtain rfl : B = false := by rw [HB.out, hcr]; rfl
            clear HB hE0
            have HR := Lib.hid (HD0.out _ H2.out.1 rfl)
            clear HD0 HD1 HD3 HP HT
            go_wp2_with fail
            refine HR.out.mono ?_
            rintro e w3 ⟨rfl, hb⟩
            have H3 := Lib.hid (And.intro (H2.out.1.trans (hb.mono H2.out.1.size)) (Sp.old2 hb H2.out.2))
            clear hb l0 l1 l2 l3 l4 l5 l6 l7 l8 l9 l10
            obtain ⟨⟨l0, l1, l2, l3, l4, l5, l6, l7, l8, l9, l10⟩, _⟩ := Sp.eleven H3.out.2
            clear HR
            go_wp2_with fail
            refine (HC.out _ H3.out.1).mono ?_
            rintro e w4 ⟨rfl, hb⟩
            have H4 := Lib.hid (And.intro (H3.out.1.trans (hb.mono H3.out.1.size)) (Sp.old2 hb H3.out.2))
            clear hb l0 l1 l2 l3 l4 l5 l6 l7 l8 l9 l10
            obtain ⟨⟨l0, l1, l2, l3, l4, l5, l6, l7, l8, l9, l10⟩, _⟩ := Sp.eleven H4.out.2
            go_wp2_with fail
            go_ret
            exact ⟨rfl, H4.out.1⟩
          · have hcr' : cr.toList.isEmpty = false := by simpa using hcr
            obtain rfl : B = true := by rw [HB.out, hcr', hE0]; rfl
            clear hcr HB hE0
            by_cases h8 : 1099511627776 < a
            · have HR := Lib.hid (HD3.out _ H2.out.1 rfl (by omega))
              clear HD0 HD1 HD3 HP HT
              go_wp2_with fail
              refine HR.out.mono ?_
              rintro e w3 ⟨rfl, hb⟩
              have H3 := Lib.hid (And.intro (H2.out.1.trans (hb.mono H2.out.1.size)) (Sp.old2 hb H2.out.2))
              clear hb l0 l1 l2 l3 l4 l5 l6 l7 l8 l9 l10
              obtain ⟨⟨l0, l1, l2, l3, l4, l5, l6, l7, l8, l9, l10⟩, _⟩ := Sp.eleven H3.out.2
              clear HR
              go_wp2_with fail
              refine (HC.out _ H3.out.1).mono ?_
              rintro e w4 ⟨rfl, hb⟩
              have H4 := Lib.hid (And.intro (H3.out.1.trans (hb.mono H3.out.1.size)) (Sp.old2 hb H3.out.2))
              clear hb l0 l1 l2 l3 l4 l5 l6 l7 l8 l9 l10
              obtain ⟨⟨l0, l1, l2, l3, l4, l5, l6, l7, l8, l9, l10⟩, _⟩ := Sp.eleven H4.out.2
              go_wp2_with fail
              go_ret
              exact ⟨rfl, H4.out.1⟩
            · have h8' : a ≤ 1099511627776 := by omega
              have h7 : a ≤ t := by omega
              clear h8
              have HR := Lib.hid (HD3.out _ H2.out.1 rfl (by omega))
              clear HD0 HD1 HD3 HP HT
              go_wp2_with fail
              refine HR.out.mono ?_
              rintro e w3 ⟨rfl, hb⟩
              have H3 := Lib.hid (And.intro (H2.out.1.trans (hb.mono H2.out.1.size)) (Sp.old2 hb H2.out.2))
              clear hb l0 l1 l2 l3 l4 l5 l6 l7 l8 l9 l10
              obtain ⟨⟨l0, l1, l2, l3, l4, l5, l6, l7, l8, l9, l10⟩, _⟩ := Sp.eleven H3.out.2
              clear HR
              go_wp2_with fail
              refine (HC.out _ H3.out.1).mono ?_
              rintro e w4 ⟨rfl, hb⟩
              have H4 := Lib.hid (And.intro (H3.out.1.trans (hb.mono H3.out.1.size)) (Sp.old2 hb H3.out.2))
              clear hb l0 l1 l2 l3 l4 l5 l6 l7 l8 l9 l10
              obtain ⟨⟨l0, l1, l2, l3, l4, l5, l6, l7, l8, l9, l10⟩, _⟩ := Sp.eleven H4.out.2
              go_wp2_with fail
              go_ret
              exact ⟨rfl, H4.out.1⟩
        · obtain rfl : B = false := by rw [HB.out, decide_eq_false hE0, Bool.and_false]
          have i1 : (((E : Nat) : Int) != 0) = true := by simpa using hE0
          clear HB hE0
          have HR := Lib.hid (HD0.out _ H2.out.1 rfl)
          clear HD0 HD1 HD3 HP HT
          go_wp2_with fail
          refine HR.out.mono ?_
          rintro e w3 ⟨rfl, hb⟩
          have H3 := Lib.hid (And.intro (H2.out.1.trans (hb.mono H2.out.1.size)) (Sp.old2 hb H2.out.2))
          clear hb l0 l1 l2 l3 l4 l5 l6 l7 l8 l9 l10
          obtain ⟨⟨l0, l1, l2, l3, l4, l5, l6, l7, l8, l9, l10⟩, _⟩ := Sp.eleven H3.out.2
          clear HR
          go_wp2_with fail
          refine (HC.out _ H3.out.1).mono ?_
          rintro e w4 ⟨rfl, hb⟩
          have H4 := Lib.hid (And.intro (H3.out.1.trans (hb.mono H3.out.1.size)) (Sp.old2 hb H3.out.2))
          clear hb l0 l1 l2 l3 l4 l5 l6 l7 l8 l9 l10
          obtain ⟨⟨l0, l1, l2, l3, l4, l5, l6, l7, l8, l9, l10⟩, _⟩ := Sp.eleven H4.out.2
          go_wp2_with fail
          go_ret
          exact ⟨rfl, H4.out.1⟩

    · have h1' : a < 0 := by omega
      by_cases hE0 : E = 0
      · have i1 : (((E : Nat) : Int) != 0) = false := by rw [hE0]; rfl
        by_cases hcr : cr.toList.isEmpty = true
        · obtain rfl : B = false := by rw [HB.out, hcr]; rfl
          clear HB hE0
          have HR := Lib.hid (HD0.out _ H2.out.1 rfl)
          clear HD0 HD1 HD3 HP HT
          go_wp2_with fail
          refine HR.out.mono ?_
          rintro e w3 ⟨rfl, hb⟩
          have H3 := Lib.hid (And.intro (H2.out.1.trans (hb.mono H2.out.1.size)) (Sp.old2 hb H2.out.2))
          clear hb l0 l1 l2 l3 l4 l5 l6 l7 l8 l9 l10
          obtain ⟨⟨l0, l1, l2, l3, l4, l5, l6, l7, l8, l9, l10⟩, _⟩ := Sp.eleven H3.out.2
          clear HR
          go_wp2_with fail
          refine (HC.out _ H3.out.1).mono ?_
          rintro e w4 ⟨rfl, hb⟩
          have H4 := Lib.hid (And.intro (H3.out.1.trans (hb.mono H3.out.1.size)) (Sp.old2 hb H3.out.2))
          clear hb l0 l1 l2 l3 l4 l5 l6 l7 l8 l9 l10
          obtain ⟨⟨l0, l1, l2, l3, l4, l5, l6, l7, l8, l9, l10⟩, _⟩ := Sp.eleven H4.out.2
          go_wp2_with fail
          go_ret
          exact ⟨rfl, H4.out.1⟩
        · have hcr' : cr.toList.isEmpty = false := by simpa using hcr
          obtain rfl : B = true := by rw [HB.out, hcr', hE0]; rfl
          clear hcr HB hE0
          have HR := Lib.hid (HD3.out _ H2.out.1 rfl (by omega))
          clear HD0 HD1 HD3 HP HT
          go_wp2_with fail
          refine HR.out.mono ?_
          rintro e w3 ⟨rfl, hb⟩
          have H3 := Lib.hid (And.intro (H2.out.1.trans (hb.mono H2.out.1.size)) (Sp.old2 hb H2.out.2))
          clear hb l0 l1 l2 l3 l4 l5 l6 l7 l8 l9 l10
          obtain ⟨⟨l0, l1, l2, l3, l4, l5, l6, l7, l8, l9, l10⟩, _⟩ := Sp.eleven H3.out.2
          clear HR
          go_wp2_with fail
          refine (HC.out _ H3.out.1).mono ?_
          rintro e w4 ⟨rfl, hb⟩
          have H4 := Lib.hid (And.intro (H3.out.1.trans (hb.mono H3.out.1.size)) (Sp.old2 hb H3.out.2))
          clear hb l0 l1 l2 l3 l4 l5 l6 l7 l8 l9 l10
          obtain ⟨⟨l0, l1, l2, l3, l4, l5, l6, l7, l8, l9, l10⟩, _⟩ := Sp.eleven H4.out.2
          go_wp2_with fail
          go_ret
          exact ⟨rfl, H4.out.1⟩
      · obtain rfl : B = false := by rw [HB.out, decide_eq_false hE0, Bool.and_false]
        have i1 : (((E : Nat) : Int) != 0) = true := by simpa using hE0
        clear HB hE0
        have HR := Lib.hid (HD0.out _ H2.out.1 rfl)
        clear HD0 HD1 HD3 HP HT
        go_wp2_with fail
        refine HR.out.mono ?_
        rintro e w3 ⟨rfl, hb⟩
        have H3 := Lib.hid (And.intro (H2.out.1.trans (hb.mono H2.out.1.size)) (Sp.old2 hb H2.out.2))
        clear hb l0 l1 l2 l3 l4 l5 l6 l7 l8 l9 l10
        obtain ⟨⟨l0, l1, l2, l3, l4, l5, l6, l7, l8, l9, l10⟩, _⟩ := Sp.eleven H3.out.2
        clear HR
        go_wp2_with fail
        refine (HC.out _ H3.out.1).mono ?_
        rintro e w4 ⟨rfl, hb⟩
        have H4 := Lib.hid (And.intro (H3.out.1.trans (hb.mono H3.out.1.size)) (Sp.old2 hb H3.out.2))
        clear hb l0 l1 l2 l3 l4 l5 l6 l7 l8 l9 l10
        obtain ⟨⟨l0, l1, l2, l3, l4, l5, l6, l7, l8, l9, l10⟩, _⟩ := Sp.eleven H4.out.2
        go_wp2_with fail
        go_ret
        exact ⟨rfl, H4.out.1⟩

theorem due_law (x : Spc) (a t : Int) (ha : (Lit.int .i64 a).wf = true) (ht : (Lit.int .i64 t).wf = true) {w : World} (hd : Sp.Dp w x.a x.n x.ds) (hm : x.n ≤ maxLen) (hg : Gd w) :
    Calls Tryd.prog 3 #[.agg x.cells, .int .i64 a, .int .i64 t] w fun e w' => e = .returned (.bool true) ∧ Below w.heap.size w w' := by
  have ha2 : Ca.I64 a := by unfold Ca.I64; simpa [Lit.wf, IntKind.min, IntKind.max, IntKind.signed, IntKind.bits] using ha
  have ht2 : Ca.I64 t := by unfold Ca.I64; simpa [Lit.wf, IntKind.min, IntKind.max, IntKind.signed, IntKind.bits] using ht
  exact due16 x a t ha2 ht2 hd hm hg
end Go.Proofs.YtkkanggkbbmfnaaDoor.Ct

/- CrontabDue holds for every spec and all ticks: what Due tells is what the document's expression names, tick for tick, and the rest is counted; the tables of the program and of the library that are read are as the texts lay them; no other condition -/
namespace Go.Proofs.YtkkanggkbbmfnaaDoor.crontabDue
open Go.ChangeShapes Go.WideShapes Go.ChangeAt Go.RowKit
open Go.ChangeMaps (open_string shut_string)
set_option linter.unusedVariables false

theorem own : ownKnob Tryd.prog.godebug = none := by kernel_rfl
theorem laidOut : laidOutB Tryd.prog = true := by kernel_rfl

set_option maxRecDepth 100000 in
theorem lifted (os : Os) (started : os.Started) (H : Type) (enc : TypeId × Value → H) :
    ReturnsInHanded {} Tryd.checked os 3 .any (fun w args => (Rows.crontabDueSpec.pre enc Tryd.prog Tryd.f3 [] false w args ∧ laidMetH Tryd.prog FiL.laidL w) ∧ sizedMet enc Tryd.prog Tryd.f3 (OpenSpec.ofChange Rows.crontabDueSpec) false w args) (Rows.crontabDueSpec.post enc Tryd.prog Tryd.f3 false true false false) := by
  refine Sh.handed (C := Tryd.checked) (X := fun w _ => laidMetH Tryd.prog FiL.laidL w) (fun _ _ _ hh h => h.of_heap hh) own started (by kernel_rfl) Tryd.func3
    (ChangeSpec.witness_shaped (enc := enc) (C := Tryd.checked) (os := os) (X := fun w _ => laidMetH Tryd.prog FiL.laidL w) false (World.laidAll Tryd.prog os FiL.laidL) #[.agg #[.string ⟨#[]⟩, .string ⟨#[]⟩, .int .i64 0, .int .i64 0, .slice none 0 0, .int .i64 0, .int .i64 0, .int .i64 0, .int .i64 0, .string ⟨#[]⟩, .int .i64 0], .int .i64 0, .int .i64 0] 8 (World.laidAll_os _ _ _) (World.shaped_of_ZipB (by kernel_rfl) (by kernel_rfl)) (by kernel_rfl) (by kernel_rfl) (by kernel_rfl) (FiL.met_laid _ _)) ?_
  intro W base args ds gs before hval0 hW hcnd hL hsh
  have hval : ∀ (j : Nat) t v, Tryd.f3.params[j]? = some t → args[j]? = some v → Value.okWide Tryd.prog W .any base t v := hval0
  have hW' := hW
  obtain ⟨p, q, hA0, hV, rfl, hfz, hnd⟩ := hW
  have hA : DataW.TrodAll enc Tryd.prog W 0 (fun _ => true) true Tryd.f3.params.toList args.toList ds p := hA0
  rw [Tryd.params3] at hA hval
  obtain ⟨v0, vs0, d0, ds0, p0, q0, hargs, rfl, rfl, h0, r0⟩ := trodAll_cons hA
  obtain ⟨v1, vs1, d1, ds1, p1, q1, rfl, rfl, rfl, h1, r1⟩ := trodAll_cons r0
  obtain ⟨v2, vs2, d2, ds2, p2, q2, rfl, rfl, rfl, h2, r2⟩ := trodAll_cons r1
  obtain ⟨rfl, rfl, rfl⟩ := trodAll_nil r2
  obtain rfl : args = #[v0, v1, v2] := by cases args; simp_all
  obtain ⟨rfl, rfl⟩ := trodVars_none hV
  have k0 := h0
  have lt0 : ∀ x ∈ p0, x.block < W.heap.size := by obtain ⟨m, hm⟩ := k0; exact DataW.trod_lt m _ _ _ hm
  obtain ⟨m0, rfl, e0⟩ := SpPa.open_spec (hval 0 24 v0 rfl rfl) h0
  obtain ⟨m1, rfl, rfl, rfl, w1⟩ := open_int Tryd.underlying2 (hval 1 2 v1 rfl rfl) h1
  obtain ⟨m2, rfl, rfl, rfl, w2⟩ := open_int Tryd.underlying2 (hval 2 2 v2 rfl rfl) h2
  clear hA0 hval0
  have hn := FiL.gl_of hL hsh
  refine (Ct.due_law m0 m1 m2 w1 w2 e0.2.1 e0.2.2 hn).mono fun e W' ⟨he, bel⟩ => ?_
  subst he
  exact ⟨_, rfl, _, _, _, [], _, [], hW', trodAll_mk1 (shut_bool Tryd.underlying4 _), (trodAll_cons_mk (Below.trod laidOut (by kernel_rfl) (of_decide_eq_true (by kernel_rfl)) k0 bel lt0) (trodAll_cons_mk (shut_int Tryd.underlying2 w1) (trodAll_cons_mk (shut_int Tryd.underlying2 w2) trodAll_mk0))), rfl, bel.frame _, fun h => by cases h⟩

theorem over : Rows.crontabDueRow.holds Tryd.pinned (OpenSpec.ofChange Rows.crontabDueSpec) :=
  OpenClaim.holds_of_wide 3 Tryd.f3 rfl rfl rfl rfl rfl rfl rfl ⟨rfl, rfl, rfl, rfl, rfl⟩ rfl rfl rfl rfl rfl (by kernel_rfl) Tryd.func3 (by kernel_rfl)
    (of_decide_eq_true (by kernel_rfl)) (by unfold Func.isWrapper; first | (rw [if_pos (by decide +kernel)]; kernel_rfl) | (rw [if_neg (by decide +kernel)]; exact ⟨rfl, rfl⟩))
    (fun os started H enc _ => lifted os started H enc)

theorem proved : Rows.CrontabDueCardSaid :=
  Claim7.holds_tied_plain_at .later [] [.data, .data, .wider, .pinned] true _ false over (fun _ h => by cases h) (by kernel_rfl) (fun _ h => by cases h) crontabDue_row_tie rfl ⟨rfl, rfl⟩ (by kernel_rfl) rfl
    (fun f fn hf hfn => by
      obtain rfl : f = 3 := Option.some.inj ((show Tryd.prog.funcNamed "compline/complinelaw16.CrontabDue" = some 3 by kernel_rfl).symm.trans hf) |>.symm
      obtain rfl : fn = Tryd.f3 := (Option.some.inj (Tryd.func3.symm.trans hfn)).symm
      exact ⟨by kernel_rfl, fun j t ht => by
        rw [Tryd.params3] at ht
        have hm : t ∈ [24, 2] := by simpa using Array.mem_of_getElem? ht
        have hall : ([24, 2].all fun u => !Tryd.prog.wantsStandIn u) = true := by kernel_rfl
        exact (show Tryd.prog.wantsStandIn t = false by simpa using List.all_eq_true.1 hall t hm)⟩)
    (by kernel_rfl)
#print axioms proved
end Go.Proofs.YtkkanggkbbmfnaaDoor.crontabDue
