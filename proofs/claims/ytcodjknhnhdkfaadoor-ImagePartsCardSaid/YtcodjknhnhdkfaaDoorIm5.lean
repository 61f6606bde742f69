
/- all jobs of a scheduler, gathered -/
import Derived.Test.YtcodjknhnhdkfaaDoorIm4
import Derived.Test.YtcodjknhnhdkfaaDoorHpF
import Derived.Test.YtcodjknhnhdkfaaDoorHd
import Derived.Test.YtcodjknhnhdkfaaDoorAo
import Derived.OwnWalk
import Derived.Great.BuildSlice
import Derived.Shelf.RegionOpen
import Derived.Deep.RegionWith
namespace Go.Proofs.YtcodjknhnhdkfaaDoor.Im
open Go.RowKit Go.Lib Go.Sort Ht Hp
set_option linter.unusedVariables false
set_option linter.unusedSectionVars false
set_option maxRecDepth 20000
attribute [local go_sem] Oper.semAt_some
/-- the cells of a row of jobs -/
def jcs (l : List Jb) : List Value := l.flatMap Jb.cs
theorem jcs_app (l m : List Jb) : jcs (l ++ m) = jcs l ++ jcs m := by simp [jcs]
theorem jcs_one (j : Jb) : jcs [j] = j.cs := by simp [jcs]
theorem jcs_cell (l : List Jb) : ∀ u ∈ jcs l, u.oneCell' = true := by
  intro u hu
  obtain ⟨j, _, hj⟩ := List.mem_flatMap.1 hu
  exact j.one u hj
theorem jcs_len : ∀ l : List Jb, (jcs l).length = l.length * 21
  | [] => rfl
  | j :: l => by
    have := jcs_len l
    simp only [jcs, List.flatMap_cons, List.length_append, List.length_cons, Jb.len] at this ⊢
    omega
theorem jcs_get : ∀ (l : List Jb) (i : Nat) (h : i < l.length) (k : Nat) (v : Value), l[i].cs[k]? = some v → (jcs l)[i * 21 + k]? = some v
  | j :: l, 0, h, k, v, e => by
    have hk : k < j.cs.length := (List.getElem?_eq_some_iff.1 e).1
    simp only [jcs, List.flatMap_cons, Nat.zero_mul, Nat.zero_add]
    rw [List.getElem?_append_left hk]
    exact e
  | j :: l, i + 1, h, k, v, e => by
    have ih := jcs_get l i (by simpa using h) k v (by simpa using e)
    simp only [jcs, List.flatMap_cons] at ih ⊢
    rw [List.getElem?_append_right (by rw [Jb.len]; omega), Jb.len, show (i + 1) * 21 + k - 21 = i * 21 + k by omega]
    exact ih
theorem info_parts {P : Program} {t : TypeId} {z : Option Value} {a b : Nat} (h : (P.info? t).map (fun i => (i.zero, i.size, i.bytes)) = some (z, a, b)) : ∃ i, P.info? t = some i ∧ i.zero = z ∧ i.size = a ∧ i.bytes = b := by
  cases e : P.info? t with
  | none => rw [e] at h; cases h
  | some i => rw [e] at h; simp only [Option.map_some, Option.some.injEq, Prod.mk.injEq] at h; exact ⟨i, rfl, h.1, h.2.1, h.2.2⟩
theorem infoJ : (Tryd.prog.info? 52).map (fun i => (i.zero, i.size, i.bytes)) = some (some (.agg jobZ.toArray), 21, 216) := by kernel_rfl
/-- a job is put behind a row of one's own -/
theorem push_job {Z : World} {B n : Nat} {v : Value} {l : List Jb} (y : Jb) (hown : Z.ownsRow B 52 21 v n (jcs l)) (hn : n ≤ 1000000) (ad : Addr) (hc : ∀ k u, y.cs[k]? = some u → Z.cell? (ad.add k) = some u) (hB : B ≤ Z.heap.size) (ty : TypeId) :
    ∃ v' w', (Builtin.append_ #[53, 53] ty #[v, .slice (some ad) 1 1]).run Tryd.prog Z = .ok v' w' ∧ w'.ownsRow B 52 21 v' (n + 1) (jcs (l ++ [y])) ∧ Z.grownBy w' v.ownBlock ∧ (v'.ownBlock = v.ownBlock ∨ ∃ g, v'.ownBlock = some g ∧ Z.heap.size ≤ g) := by
  obtain ⟨i0, hi, hz0, hz1, hz2⟩ := info_parts infoJ
  obtain ⟨v', w', hr, h1, h2, h3⟩ := Ao.run_append_own_new (P := Tryd.prog) Z B 53 ty 52 i0 (.agg jobZ.toArray) 21 216 Tryd.underlying53 hi hz0 hz1 hz2 rfl (by decide) v n (jcs l) hown ad 1 1 (jcs [y]) (by rw [jcs_len]; rfl)
    (fun k u hu => hc k u (by rw [← jcs_one]; exact hu)) (jcs_cell _) (by unfold maxLen; omega) (by omega) hB
  exact ⟨v', w', hr, by rw [jcs_app]; exact h1, h2, h3⟩
theorem wp_app {o : Oper} {a : Act} {w w' : World} {K : Act → World → Prop} {Q : Exit → Act → World → Prop} {t : TypeId} {v1 v2 v' : Value} (s x : Operand) (ho : o.op = .call { callee := .builtin .append, args := #[s, x], argTypes := #[t, t] }) (h1 : a.eval s = v1) (h2 : a.eval x = v2)
    (hr : (Builtin.append_ #[t, t] o.type #[v1, v2]).run Tryd.prog w = .ok v' w') (h : K (a.put o.dst v') w') : o.wp Tryd.prog a w K Q := by
  unfold Oper.wp execOp
  simp only [ho, resolve, invoke, builtin, Sem.run_bind, Sem.run_pure, Result.andThen_ok, List.map_toArray, List.map_cons, List.map_nil, h1, h2, hr]
  exact h
/-- what was gathered: of the first jobs one each, alike -/
structure Ga (B : Nat) (w : World) (v : Value) (k : Nat) (js ls : List Jb) : Prop where
  own : w.ownsRow B 52 21 v k (jcs ls)
  len : ls.length = k
  like : ∀ (i : Nat) (x y : Jb), js[i]? = some x → ls[i]? = some y → Like x y
  d : ∀ y ∈ ls, Jd w y ∧ Own1 w B y
theorem own_kept {w Y : World} {B : Nat} {t : TypeId} {k n : Nat} {v : Value} {xs : List Value} (h : w.ownsRow B t k v n xs) (e : ∀ b, v.ownBlock = some b → Y.heap[b]? = w.heap[b]?) : Y.ownsRow B t k v n xs := by
  rcases h with ⟨h0, h | ⟨g, cap, cur, rfl, h1, h2, h3⟩⟩
  · exact ⟨h0, .inl h⟩
  · refine ⟨h0, .inr ⟨g, cap, cur, rfl, h1, (e g ?_).trans h2, h3⟩⟩
    rfl
theorem Jd.kept {w Y : World} {B : Nat} {y : Jb} (h : Jd w y) (ho : Own1 w B y) (e : ∀ g cur, B ≤ g → w.heap[g]? = some (.cells cur 9 (0, 0)) → Y.heap[g]? = w.heap[g]?) : Jd Y y ∧ Own1 Y B y := by
  rcases ho with h0 | ⟨g, cur, h1, h2, h3⟩
  · exact ⟨⟨h.1, h.2.1, .inl h0⟩, .inl h0⟩
  · have e1 := e g cur h2 h3
    refine ⟨⟨h.1, h.2.1, ?_⟩, .inr ⟨g, cur, h1, h2, e1.trans h3⟩⟩
    rcases h.2.2 with h0 | ⟨b, o, k1, k2⟩
    · exact .inl h0
    · rw [h1] at k1
      obtain ⟨rfl, rfl⟩ : g = b ∧ 0 = o := by simpa using k1
      exact .inr ⟨g, 0, h1, fun i hi => (World.cell?_of_block (w := w) (a := ⟨g, 0 + i, none⟩) e1).trans (k2 i hi)⟩
theorem own_block {w : World} {B n : Nat} {v : Value} {xs : List Value} (h : w.ownsRow B 52 21 v n xs) {b : Nat} (hb : v.ownBlock = some b) : B ≤ b ∧ b < w.heap.size ∧ ∃ cur, w.heap[b]? = some (.cells cur 52 (0, 0)) := by
  rcases h with ⟨h0, h | ⟨g, cap, cur, rfl, h1, h2, h3⟩⟩
  · rw [h.1] at hb; cases hb
  · cases hb; exact ⟨h1, lt_of_block h2, cur, h2⟩
theorem Ga.kept {B k : Nat} {w Y : World} {v : Value} {js ls : List Jb} (h : Ga B w v k js ls) (e : ∀ g, B ≤ g → g < w.heap.size → Y.heap[g]? = w.heap[g]?) : Ga B Y v k js ls where
  own := own_kept h.own fun b hb => e b (own_block h.own hb).1 (own_block h.own hb).2.1
  len := h.len
  like := h.like
  d y hy := (h.d y hy).1.kept (h.d y hy).2 fun g cur hg hc => e g hg (lt_of_block hc)
theorem Ga.nil (B : Nat) (w : World) (js : List Jb) : Ga B w (.slice .none 0 0) 0 js [] := ⟨World.ownsRow_nil _ _ _ _, rfl, fun i x y _ h => by simp at h, fun y hy => by simp at hy⟩
theorem Ga.shape {B k : Nat} {w : World} {v : Value} {js ls : List Jb} (h : Ga B w v k js ls) : ∃ a c, v = .slice a k c := by
  rcases h.own with ⟨h0, h1 | ⟨g, cap, cur, rfl, _⟩⟩
  · refine ⟨.none, 0, ?_⟩
    have e : k = 0 := by have := h1.2; omega
    rw [h1.1, e]
  · exact ⟨_, _, rfl⟩
/-- one more: made in a block of its own, put behind the row -/
theorem Ga.push {B k : Nat} {wr Z : World} {v : Value} {js ls : List Jb} (h : Ga B wr v k js ls) (hB : B ≤ wr.heap.size) (hZ : Below wr.heap.size wr Z) {x y : Jb} (hx : js[k]? = some x) (hl : Like x y) (hd : Jd Z y) (ho : Own1 Z B y) (hk : k ≤ 900000) (ty : TypeId) :
    ∃ v' w', (Builtin.append_ #[53, 53] ty #[v, .slice (some ⟨Z.heap.size, 0, .none⟩) 1 1]).run Tryd.prog (Z.alloc (.cells y.cs.toArray 52)) = .ok v' w' ∧ Ga B w' v' (k + 1) js (ls ++ [y]) ∧
      Fr (fun b => v.ownBlock = some b) wr w' := by
  obtain ⟨U, hU⟩ : ∃ U, U = Z.alloc (.cells y.cs.toArray 52) := ⟨_, rfl⟩
  have hbU : Below Z.heap.size Z U := by rw [hU]; exact (Below.refl _ _).alloc (Nat.le_refl _) _
  have hU1 : U.heap[Z.heap.size]? = some (.cells y.cs.toArray 52 (0, 0)) := by rw [hU]; exact heap_alloc_new Z _
  have hzU : U.heap.size = Z.heap.size + 1 := by rw [hU]; simp
  have hzz := hZ.size
  have gU : Ga B U v k js ls := h.kept fun g _ hg => (hbU.block g (by omega)).trans (hZ.block g hg)
  obtain ⟨v', w', hr, h1, h2, h3⟩ := push_job (B := B) (l := ls) y gU.own (by omega) ⟨Z.heap.size, 0, .none⟩ (fun i u hu => by
    rw [Addr.add_mid, Nat.zero_add, cell_of_row U _ _ _ _ _ hU1]
    simpa using hu) (by omega) ty
  rw [← hU]
  have hgs := h2.size
  have keep : ∀ g cur, U.heap[g]? = some (Obj.cells cur 9 (0, 0)) → w'.heap[g]? = U.heap[g]? := fun g cur hc => h2.block g (lt_of_block hc) (fun e => by
    obtain ⟨_, _, cur2, h5⟩ := own_block gU.own e.symm
    rw [hc] at h5
    simp at h5)
  refine ⟨v', w', hr, ⟨h1, by rw [List.length_append, h.len]; rfl, fun i a b ha hb => ?_, fun z hz => ?_⟩, ?_⟩
  · by_cases e : i < ls.length
    · rw [List.getElem?_append_left e] at hb
      exact h.like i a b ha hb
    · have e2 : i = ls.length := by
        have := (List.getElem?_eq_some_iff.1 hb).1
        simp at this; omega
      subst e2
      rw [List.getElem?_append_right (Nat.le_refl _), Nat.sub_self] at hb
      simp at hb
      rw [h.len, hx] at ha
      simp at ha
      rw [← ha, ← hb]
      exact hl
  · rcases List.mem_append.1 hz with hz | hz
    · exact (gU.d z hz).1.kept (gU.d z hz).2 fun g cur _ hc => keep g cur hc
    · obtain rfl := List.mem_singleton.1 hz
      have ho2 : Own1 U B z := by
        rcases ho.old hbU with h0 | ⟨g, cur, e1, e2, e3⟩
        · exact .inl h0
        · exact .inr ⟨g, cur, e1, e2, e3⟩
      exact Jd.kept (hd.old hbU) ho2 fun g cur _ hc => keep g cur hc
  · refine ⟨h2.os.trans (hbU.os.trans hZ.os), h2.tape.trans (hbU.tape.trans hZ.tape), h2.output.trans (hbU.output.trans hZ.output), by omega, fun g hg hn => ?_⟩
    exact (h2.block g (by omega) (fun e => hn e.symm)).trans ((hbU.block g (by omega)).trans (hZ.block g hg))
theorem run_buildJ (y : Jb) (W : World) : (Instr.buildSlice 53 1 #[(0, .agg y.cs.toArray)]).run Tryd.prog W = .ok (.slice (some ⟨W.heap.size, 0, .none⟩) 1 1) (W.alloc (.cells y.cs.toArray 52)) := by
  obtain ⟨i0, hi, hz0, hz1, hz2⟩ := info_parts infoJ
  refine run_buildSlice (P := Tryd.prog) W 53 52 1 _ y.cs.toArray i0 (.agg jobZ.toArray) Tryd.underlying53 hi hz0 (by rw [hz1]; decide) (by rw [hz1]; decide) ?_
  rw [hz1]
  kernel_rfl
theorem wp_buildJ {o : Oper} {a : Act} {w : World} {K : Act → World → Prop} {Q : Exit → Act → World → Prop} (x : Operand) (ho : o.op = .buildSlice 53 1 #[(0, x)]) (y : Jb) (hx : a.eval x = .agg y.cs.toArray)
    (h : K (a.put o.dst (.slice (some ⟨w.heap.size, 0, .none⟩) 1 1)) (w.alloc (.cells y.cs.toArray 52))) : o.wp Tryd.prog a w K Q := by
  have e := run_buildJ y w
  unfold Oper.wp execOp
  simp only [ho, Sem.run_bind, List.map_toArray, List.map_cons, List.map_nil, hx, e, Result.andThen_ok]
  exact h
end Go.Proofs.YtcodjknhnhdkfaaDoor.Im
