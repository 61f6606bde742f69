
/- fires: the days that are named, one by one, plainly -/
import Derived.Test.YtkkanggkbbmfnaaGreatDoorFi4
namespace Go.Proofs.YtkkanggkbbmfnaaGreatDoor.Fi
open Go.RowKit Go.Lib Go.Proofs.YtkkanggkbbmfnaaGreatDoor.Cn Go.Proofs.YtkkanggkbbmfnaaGreatDoor.Rg
set_option linter.unusedVariables false

/-- the boxes that the iterator reads: the expression's, the first tick's, the last one's -/
abbrev dayBx (b : Nat) : Array Value := #[.pointer (some ⟨b + 1, 0, none⟩), .pointer (some ⟨b, 0, none⟩), .pointer (some ⟨b + 2, 0, none⟩)]
/-- which day comes next -/
def DG (e : Ex) (tO x F : Int) : Prop := x < F ∧ dl e F ∧ F ≤ tO ∧ ∀ u, x < u → u < F → ¬ dl e u
def DS (e : Ex) (tO x : Int) : Prop := ∀ u, x < u → u ≤ tO → ¬ dl e u
/-- days up to F are through, x is the last one that was told; b days behind each other aren't named -/
structure Dp (e : Ex) (x F b : Int) : Prop where
  lt : x < F
  no : ∀ u, x < u → u < F → ¬ dl e u
  b0 : 0 ≤ b
  win : ∀ u, F - 1440 * b ≤ u → u < F → ¬ dl e u
  pos : 0 ≤ F - 1440 * b
theorem Dp.start {e : Ex} {F : Int} (h0 : 0 ≤ F) : Dp e (F - 1) F 0 := ⟨by omega, fun u h1 h2 => by omega, Int.le_refl _, fun u h1 h2 => by omega, by omega⟩
theorem Dp.end1 {e : Ex} {x F b tO : Int} (h : Dp e x F b) (hb : 146097 ≤ b) : DS e tO x := fun u h1 h2 => by
  by_cases hlt : u < F
  · exact h.no u h1 hlt
  · have := h.pos
    exact never (p := dl e) (a := F - 1440 * b) (fun t ht => dl_era ht) h.pos (fun v v1 v2 => by
      by_cases hv : v < F
      · exact h.win v v1 hv
      · omega) u (by have := h.b0; omega)
theorem Dp.end2 {e : Ex} {x F b tO : Int} (h : Dp e x F b) (ht : tO < F) : DS e tO x := fun u h1 h2 => h.no u h1 (by omega)
theorem Dp.tell {e : Ex} {x F b tO : Int} (h : Dp e x F b) (hd : dl e F) (ht : F ≤ tO) : DG e tO x F := ⟨h.lt, hd, ht, h.no⟩
/-- behind a day that was told -/
theorem Dp.told {e : Ex} {x F b : Int} (h : Dp e x F b) (hF : F % 1440 = 0) : Dp e F (F + 1440 * 1) 0 := by
  have := h.pos; have := h.b0
  refine ⟨by omega, fun u h1 h2 hu => ?_, Int.le_refl _, fun u h1 h2 => by omega, by omega⟩
  have := dn_day hu.2
  omega
/-- behind days that aren't named -/
theorem Dp.skip {e : Ex} {x F b n : Int} (h : Dp e x F b) (hn : 1 ≤ n) (hno : ∀ u, F ≤ u → u < F + 1440 * n → ¬ dl e u) : Dp e x (F + 1440 * n) (b + n) := by
  have := h.pos; have := h.b0
  refine ⟨by have := h.lt; omega, fun u h1 h2 => ?_, by omega, fun u h1 h2 => ?_, by omega⟩
  · by_cases hu : u < F
    · exact h.no u h1 hu
    · exact hno u (by omega) h2
  · by_cases hu : u < F
    · exact h.win u (by omega) hu
    · exact hno u (by omega) h2
theorem stp_in {e : Ex} {F y mo d wd : Int} (i : Ca.IsM F y mo d wd 0 0) : 1 ≤ stp e y mo d ∧ stp e y mo d ≤ 31 ∧ d + stp e y mo d ≤ Ca.dm y mo + 1 := by
  have h1 := i.d1; have h2 := i.d2; have h3 := Ca.dm_le y mo
  unfold stp
  split <;> omega
theorem stp_no {e : Ex} {F y mo d wd : Int} (i : Ca.IsM F y mo d wd 0 0) (h : ¬ (live e ∧ dayB e mo d wd = true)) : ∀ u, F ≤ u → u < F + 1440 * stp e y mo d → ¬ dl e u := by
  intro u h1 h2 hu
  have hF : F % 1440 = 0 := by have := i.h; have := i.mi; omega
  unfold stp at h2
  by_cases hm : hb e.d mo = true
  · rw [if_pos hm] at h2
    have := dn_day hu.2
    obtain rfl : u = F := by omega
    exact h ⟨hu.1, (dn_of i).1 hu.2⟩
  · rw [if_neg hm] at h2
    exact dn_month i (by simpa using hm) (n := Ca.dm y mo - d + 1) (by omega) h1 h2 hu.2
theorem stp_one {e : Ex} {y mo d wd : Int} (h : dayB e mo d wd = true) : stp e y mo d = 1 := by
  unfold dayB at h
  rw [Bool.and_eq_true] at h
  unfold stp
  rw [if_pos h.1]
theorem year_le {t y mo d wd h mi : Int} (i : Ca.IsM t y mo d wd h mi) (ht : t ≤ 1099511627776) : y ≤ 2900000 := by
  have h1 := i.year; have h2 := Ca.ah_ge i.y0; have h3 := i.y0
  omega
/-- what the iterator keeps: its boxes, the table, and the moment's cell -/
structure DB (b : Nat) (e : Ex) (fr tO : Int) (w : World) : Prop where
  e : w.heap[b]? = some (.cells (exC e) 57 (0, 0))
  f : w.heap[b + 1]? = some (.cells #[.int .i64 fr] 2 (0, 0))
  t : w.heap[b + 2]? = some (.cells #[.int .i64 tO] 2 (0, 0))
  d : Db w
theorem DB.lt {b : Nat} {e : Ex} {F a : Int} {w : World} (h : DB b e F a w) : b + 2 < w.heap.size := (Array.getElem?_eq_some_iff.1 h.t).1
theorem DB.keep {b : Nat} {e : Ex} {F a : Int} {w w' : World} (h : DB b e F a w) {own : Nat → Prop} (hb : BelowO own w w') (ho : ∀ k, own k → ¬ tbox b k) : DB b e F a w' := by
  have hl := h.lt
  exact ⟨(hb.block b (by omega) (fun k => ho _ k (.inl rfl))).trans h.e, (hb.block _ (by omega) (fun k => ho _ k (.inr (.inl rfl)))).trans h.f, (hb.block _ (by omega) (fun k => ho _ k (.inr (.inr (.inl rfl))))).trans h.t,
    h.d.keep (hb.block _ h.d.lt (fun k => ho _ k (.inr (.inr (.inr rfl)))))⟩
theorem DB.old {b : Nat} {e : Ex} {F a : Int} {w w' : World} (h : DB b e F a w) (hb : Below w.heap.size w w') : DB b e F a w' := h.keep (own := fun _ => False) (.of hb) (fun _ h => h.elim)
/-- the loop's state -/
structure DL (W : World) (mB b : Nat) (e : Ex) (fr tO : Int) (J : Int → World → Prop) (F bb x : Int) (A : World) : Prop where
  m : ∃ y mo d wd, Ca.IsM F y mo d wd 0 0 ∧ A.heap[mB]? = some (.cells (Ca.momC y mo d wd (lst (hM e) : Nat) (lst (mM e) : Nat)) 111 (0, 0))
  j : J x A
  db : DB b e fr tO A
  z : W.heap.size ≤ A.heap.size
  p : Dp e x F bb
  hF : F ≤ tO + 44640
  hb : bb ≤ 146128
theorem mom_store {A : World} {mB : Nat} {y mo d wd h mi y' mo' d' wd' h' mi' : Int} (e : A.heap[mB]? = some (.cells (Ca.momC y mo d wd h mi) 111 (0, 0))) :
    ((((((A.setCell ⟨mB, 0, none⟩ (.int .i64 y')).setCell ⟨mB, 1, none⟩ (.int .i64 mo')).setCell ⟨mB, 2, none⟩ (.int .i64 d')).setCell ⟨mB, 3, none⟩ (.int .i64 wd')).setCell ⟨mB, 4, none⟩ (.int .i64 h')).setCell ⟨mB, 5, none⟩ (.int .i64 mi')).heap[mB]? = some (.cells (Ca.momC y' mo' d' wd' h' mi') 111 (0, 0)) :=
  heap_setCell_same _ _ 5 _ _ _ (heap_setCell_same _ _ 4 _ _ _ (heap_setCell_same _ _ 3 _ _ _ (heap_setCell_same _ _ 2 _ _ _ (heap_setCell_same _ _ 1 _ _ _ (heap_setCell_same _ _ 0 _ _ _ e)))))
theorem mom_only {A : World} {mB : Nat} (v0 v1 v2 v3 v4 v5 : Value) : BelowO (fun k => k = mB) A ((((((A.setCell ⟨mB, 0, none⟩ v0).setCell ⟨mB, 1, none⟩ v1).setCell ⟨mB, 2, none⟩ v2).setCell ⟨mB, 3, none⟩ v3).setCell ⟨mB, 4, none⟩ v4).setCell ⟨mB, 5, none⟩ v5) :=
  ((((((BelowO.of (own := fun k => k = mB) (Below.refl A.heap.size A)).set (p := ⟨mB, 0, none⟩) rfl v0).set (p := ⟨mB, 1, none⟩) rfl v1).set (p := ⟨mB, 2, none⟩) rfl v2).set (p := ⟨mB, 3, none⟩) rfl v3).set (p := ⟨mB, 4, none⟩) rfl v4).set (p := ⟨mB, 5, none⟩) rfl v5
/-- behind a round -/
theorem DL.next {W A A' : World} {mB b : Nat} {e : Ex} {fr tO F' bb x : Int} {J : Int → World → Prop} (hJ : ∀ x A A', J x A → Below W.heap.size A A' → J x A') (hmB : W.heap.size ≤ mB) (hbx : b + 2 < mB) (hgx : 5 < mB)
    (hj : J x A) (hdb : DB b e fr tO A) (hz : W.heap.size ≤ A.heap.size) {y mo d wd y0 mo0 d0 wd0 h0 mi0 : Int} (hm0 : A.heap[mB]? = some (.cells (Ca.momC y0 mo0 d0 wd0 h0 mi0) 111 (0, 0)))
    (im : Ca.IsM F' y mo d wd 0 0) (hp : Dp e x F' bb) (hF : F' ≤ tO + 44640) (hb : bb ≤ 146128)
    (hA' : A' = ((((((A.setCell ⟨mB, 0, none⟩ (.int .i64 y)).setCell ⟨mB, 1, none⟩ (.int .i64 mo)).setCell ⟨mB, 2, none⟩ (.int .i64 d)).setCell ⟨mB, 3, none⟩ (.int .i64 wd)).setCell ⟨mB, 4, none⟩ (.int .i64 (lst (hM e) : Nat))).setCell ⟨mB, 5, none⟩ (.int .i64 (lst (mM e) : Nat)))) :
    DL W mB b e fr tO J F' bb x A' := by
  subst hA'
  have ho := mom_only (A := A) (mB := mB) (.int .i64 y) (.int .i64 mo) (.int .i64 d) (.int .i64 wd) (.int .i64 (lst (hM e) : Nat)) (.int .i64 (lst (mM e) : Nat))
  refine ⟨⟨y, mo, d, wd, im, mom_store hm0⟩, hJ _ _ _ hj (ho.below hz (fun k hk => by omega)), hdb.keep ho (fun k hk ht => ?_), Nat.le_trans hz ho.size, hp, hF, hb⟩
  subst hk
  rcases ht with h | h | h | h <;> omega
theorem days_any (e : Ex) (fr tO : Int) (w : World) :
    Calls Tryz.prog 44 #[exv e, .int .i64 fr, .int .i64 tO] w fun r w' => r = .returned (.func (.func 66) #[] (dayBx w.heap.size)) ∧
      w' = ((w.alloc (.cells (exC e) 57)).alloc (.cells #[.int .i64 fr] 2)).alloc (.cells #[.int .i64 tO] 2) := by
  have hmf : ∀ (fn : Fn) (first cap : Array Value) (w : World), (Instr.makeFunc fn first cap).run Tryz.prog w = .ok (.func fn first cap) w := fun _ _ _ _ => rfl
  go_enter Tryz.func44, Tryz.ntmps44
  go_wp2_with go_in
  go_ret
  exact ⟨rfl, rfl⟩
end Go.Proofs.YtkkanggkbbmfnaaGreatDoor.Fi
