/- all jobs of a scheduler, gathered -/
import Derived.Test.YtcodjknhnhdkfaaGreatDoorBrIm4
import Derived.Test.YtcodjknhnhdkfaaGreatDoorBr07
import Derived.Test.YtcodjknhnhdkfaaGreatDoorBr02
import Derived.Test.YtcodjknhnhdkfaaGreatDoorAo
import Derived.OwnWalk
import Derived.Great.BuildSlice
import Derived.Shelf.RegionOpen
import Derived.Deep.RegionWith
namespace Go.Proofs.YtcodjknhnhdkfaaGreatDoor.Im
open Go.RowKit Go.Lib Go.Sort Ht Hp
set_option linter.unusedVariables false
set_option linter.unusedSectionVars false
set_option maxRecDepth 20000
attribute [local go_sem] Oper.semAt_some
/-- the cells of a row of jobs -/
def jcs (l : List Jb) : List Value := l.flatMap Jb.cs
theorem jcs_app (l m : List Jb) : jcs (l ++ m) = jcs l ++ jcs m := by simp [jcs]
theorem jcs_one (j : Jb) : jcs [j] = j.cs := by simp [jcs]
theorem jcs_cell (l : List Jb) : ∀ u ∈ jcs l, u.oneCell' = true := by
  intro u hu
  obtain ⟨j, _, hj⟩ := List.mem_flatMap.1 hu
  exact j.one u hj
theorem jcs_len : ∀ l : List Jb, (jcs l).length = l.length * 21
  | [] => rfl
  | j :: l => by
    have := jcs_len l
    simp only [jcs, List.flatMap_cons, List.length_append, List.length_cons, Jb.len] at this ⊢
    omega
theorem jcs_get : ∀ (l : List Jb) (i : Nat) (h : i < l.length) (k : Nat) (v : Value), l[i].cs[k]? = some v → (jcs l)[i * 21 + k]? = some v
  | j :: l, 0, h, k, v, e => by
    have hk : k < j.cs.length := (List.getElem?_eq_some_iff.1 e).1
    simp only [jcs, List.flatMap_cons, Nat.zero_mul, Nat.zero_add]
    rw [List.getElem?_append_left hk]
    exact e
  | j :: l, i + 1, h, k, v, e => by
    have ih := jcs_get l i (by simpa using h) k v (by simpa using e)
    simp only [jcs, List.flatMap_cons] at ih ⊢
    rw [List.getElem?_append_right (by rw [Jb.len]; omega), Jb.len, show (i + 1) * 21 + k - 21 = i * 21 + k by omega]
    exact ih
theorem info_parts {P : Program} {t : TypeId} {z : Option Value} {a b : Nat} (h : (P.info? t).map (fun i => (i.zero, i.size, i.bytes)) = some (z, a, b)) : ∃ i, P.info? t = some i ∧ i.zero = z ∧ i.size = a ∧ i.bytes = b := by
  cases e : P.info? t with
  | none => rw [e] at h; cases h
  | some i => rw [e] at h; simp only [Option.map_some, Option.some.injEq, Prod.mk.injEq] at h; exact ⟨i, rfl, h.1, h.2.1, h.2.2⟩
theorem infoJ : (Tryz.prog.info? 42).map (fun i => (i.zero, i.size, i.bytes)) = some (some (.agg jobZ.toArray), 21, 216) := by kernel_rfl
/-- a job is put behind a row of one's own -/
theorem push_job {Z : World} {B n : Nat} {v : Value} {l : List Jb} (y : Jb) (hown : Z.ownsRow B 42 21 v n (jcs l)) (hn : n ≤ 1000000) (ad : Addr) (hc : ∀ k u, y.cs[k]? = some u → Z.cell? (ad.add k) = some u) (hB : B ≤ Z.heap.size) (ty : TypeId) :
    ∃ v' w', (Builtin.append_ #[36, 36] ty #[v, .slice (some ad) 1 1]).run Tryz.prog Z = .ok v' w' ∧ w'.ownsRow B 42 21 v' (n + 1) (jcs (l ++ [y])) ∧ Z.grownBy w' v.ownBlock ∧ (v'.ownBlock = v.ownBlock ∨ ∃ g, v'.ownBlock = some g ∧ Z.heap.size ≤ g) := by
  obtain ⟨i0, hi, hz0, hz1, hz2⟩ := info_parts infoJ
  obtain ⟨v', w', hr, h1, h2, h3⟩ := Ao.run_append_own_new (P := Tryz.prog) Z B 36 ty 42 i0 (.agg jobZ.toArray) 21 216 Tryz.underlying36 hi hz0 hz1 hz2 rfl (by decide) v n (jcs l) hown ad 1 1 (jcs [y]) (by rw [jcs_len]; rfl)
    (fun k u hu => hc k u (by rw [← jcs_one]; exact hu)) (jcs_cell _) (by unfold maxLen; omega) (by omega) hB
  exact ⟨v', w', hr, by rw [jcs_app]; exact h1, h2, h3⟩
theorem wp_app {o : Oper} {a : Act} {w w' : World} {K : Act → World → Prop} {Q : Exit → Act → World → Prop} {t : TypeId} {v1 v2 v' : Value} (s x : Operand) (ho : o.op = .call { callee := .builtin .append, args := #[s, x], argTypes := #[t, t] }) (h1 : a.eval s = v1) (h2 : a.eval x = v2)
    (hr : (Builtin.append_ #[t, t] o.type #[v1, v2]).run Tryz.prog w = .ok v' w') (h : K (a.put o.dst v') w') : o.wp Tryz.prog a w K Q := by
  unfold Oper.wp execOp
  simp only [ho, resolve, invoke, builtin, Sem.run_bind, Sem.run_pure, Result.andThen_ok, List.map_toArray, List.map_cons, List.map_nil, h1, h2, hr]
  exact h
/-- what was gathered: of the first jobs one each, alike -/
structure Ga (B : Nat) (w : World) (v : Value) (k : Nat) (js ls : List Jb) : Prop where
  own : w.ownsRow B 42 21 v k (jcs ls)
  len : ls.length = k
  like : ∀ (i : Nat) (x y : Jb), js[i]? = some x → ls[i]? = some y → Like x y
  d : ∀ y ∈ ls, Jd w y ∧ Own1 w B y
theorem own_kept {w Y : World} {B : Nat} {t : TypeId} {k n : Nat} {v : Value} {xs : List Value} (h : w.ownsRow B t k v n xs) (e : ∀ b, v.ownBlock = some b → Y.heap[b]? = w.heap[b]?) : Y.ownsRow B t k v n xs := by
  rcases h with ⟨h0, h | ⟨g, cap, cur, rfl, h1, h2, h3⟩⟩
  · exact ⟨h0, .inl h⟩
  · refine ⟨h0, .inr ⟨g, cap, cur, rfl, h1, (e g ?_).trans h2, h3⟩⟩
    rfl
theorem Jd.kept {w Y : World} {B : Nat} {y : Jb} (h : Jd w y) (ho : Own1 w B y) (e : ∀ g cur, B ≤ g → w.heap[g]? = some (.cells cur 9 (0, 0)) → Y.heap[g]? = w.heap[g]?) : Jd Y y ∧ Own1 Y B y := by
  rcases ho with h0 | ⟨g, cur, h1, h2, h3⟩
  · exact ⟨⟨h.1, h.2.1, .inl h0⟩, .inl h0⟩
  · have e1 := e g cur h2 h3
    refine ⟨⟨h.1, h.2.1, ?_⟩, .inr ⟨g, cur, h1, h2, e1.trans h3⟩⟩
    rcases h.2.2 with h0 | ⟨b, o, k1, k2⟩
    · exact .inl h0
    · rw [h1] at k1
      obtain ⟨rfl, rfl⟩ : g = b ∧ 0 = o := by simpa using k1
      exact .inr ⟨g, 0, h1, fun i hi => (World.cell?_of_block (w := w) (a := ⟨g, 0 + i, none⟩) e1).trans (k2 i hi)⟩
theorem own_block {w : World} {B n : Nat} {v : Value} {xs : List Value} (h : w.ownsRow B 42 21 v n xs) {b : Nat} (hb : v.ownBlock = some b) : B ≤ b ∧ b < w.heap.size ∧ ∃ cur, w.heap[b]? = some (.cells cur 42 (0, 0)) := by
  rcases h with ⟨h0, h | ⟨g, cap, cur, rfl, h1, h2, h3⟩⟩
  · rw [h.1] at hb; cases hb
  · cases hb; exact ⟨h1, lt_of_block h2, cur, h2⟩
theorem Ga.kept {B k : Nat} {w Y : World} {v : Value} {js ls : List Jb} (h : Ga B w v k js ls) (e : ∀ g, B ≤ g → g < w.heap.size → Y.heap[g]? = w.heap[g]?) : Ga B Y v k js ls where
  own := own_kept h.own fun b hb => e b (own_block h.own hb).1 (own_block h.own hb).2.1
  len := h.len
  like := h.like
  d y hy := (h.d y hy).1.kept (h.d y hy).2 fun g cur hg hc => e g hg (lt_of_block hc)
theorem Ga.nil (B : Nat) (w : World) (js : List Jb) : Ga B w (.slice .none 0 0) 0 js [] := ⟨World.ownsRow_nil _ _ _ _, rfl, fun i x y _ h => by simp at h, fun y hy => by simp at hy⟩
theorem Ga.shape {B k : Nat} {w : World} {v : Value} {js ls : List Jb} (h : Ga B w v k js ls) : ∃ a c, v = .slice a k c := by
  rcases h.own with ⟨h0, h1 | ⟨g, cap, cur, rfl, _⟩⟩
  · refine ⟨.none, 0, ?_⟩
    have e : k = 0 := by have := h1.2; omega
    rw [h1.1, e]
  · exact ⟨_, _, rfl⟩
/-- one more: made in a block of its own, put behind the row -/
theorem Ga.push {B k : Nat} {wr Z : World} {v : Value} {js ls : List Jb} (h : Ga B wr v k js ls) (hB : B ≤ wr.heap.size) (hZ : Below wr.heap.size wr Z) {x y : Jb} (hx : js[k]? = some x) (hl : Like x y) (hd : Jd Z y) (ho : Own1 Z B y) (hk : k ≤ 900000) (ty : TypeId) :
    ∃ v' w', (Builtin.append_ #[36, 36] ty #[v, .slice (some ⟨Z.heap.size, 0, .none⟩) 1 1]).run Tryz.prog (Z.alloc (.cells y.cs.toArray 42)) = .ok v' w' ∧ Ga B w' v' (k + 1) js (ls ++ [y]) ∧
      Fr (fun b => v.ownBlock = some b) wr w' := by
  obtain ⟨U, hU⟩ : ∃ U, U = Z.alloc (.cells y.cs.toArray 42) := ⟨_, rfl⟩
  have hbU : Below Z.heap.size Z U := by rw [hU]; exact (Below.refl _ _).alloc (Nat.le_refl _) _
  have hU1 : U.heap[Z.heap.size]? = some (.cells y.cs.toArray 42 (0, 0)) := by rw [hU]; exact heap_alloc_new Z _
  have hzU : U.heap.size = Z.heap.size + 1 := by rw [hU]; simp
  have hzz := hZ.size
  have gU : Ga B U v k js ls := h.kept fun g _ hg => (hbU.block g (by omega)).trans (hZ.block g hg)
  obtain ⟨v', w', hr, h1, h2, h3⟩ := push_job (B := B) (l := ls) y gU.own (by omega) ⟨Z.heap.size, 0, .none⟩ (fun i u hu => by
    rw [Addr.add_mid, Nat.zero_add, cell_of_row U _ _ _ _ _ hU1]
    simpa using hu) (by omega) ty
  rw [← hU]
  have hgs := h2.size
  have keep : ∀ g cur, U.heap[g]? = some (Obj.cells cur 9 (0, 0)) → w'.heap[g]? = U.heap[g]? := fun g cur hc => h2.block g (lt_of_block hc) (fun e => by
    obtain ⟨_, _, cur2, h5⟩ := own_block gU.own e.symm
    rw [hc] at h5
    simp at h5)
  refine ⟨v', w', hr, ⟨h1, by rw [List.length_append, h.len]; rfl, fun i a b ha hb => ?_, fun z hz => ?_⟩, ?_⟩
  · by_cases e : i < ls.length
    · rw [List.getElem?_append_left e] at hb
      exact h.like i a b ha hb
    · have e2 : i = ls.length := by
        have := (List.getElem?_eq_some_iff.1 hb).1
        simp at this; omega
      subst e2
      rw [List.getElem?_append_right (Nat.le_refl _), Nat.sub_self] at hb
      simp at hb
      rw [h.len, hx] at ha
      simp at ha
      rw [← ha, ← hb]
      exact hl
  · rcases List.mem_append.1 hz with hz | hz
    · exact (gU.d z hz).1.kept (gU.d z hz).2 fun g cur _ hc => keep g cur hc
    · obtain rfl := List.mem_singleton.1 hz
      have ho2 : Own1 U B z := by
        rcases ho.old hbU with h0 | ⟨g, cur, e1, e2, e3⟩
        · exact .inl h0
        · exact .inr ⟨g, cur, e1, e2, e3⟩
      exact Jd.kept (hd.old hbU) ho2 fun g cur _ hc => keep g cur hc
  · refine ⟨h2.os.trans (hbU.os.trans hZ.os), h2.tape.trans (hbU.tape.trans hZ.tape), h2.output.trans (hbU.output.trans hZ.output), by omega, fun g hg hn => ?_⟩
    exact (h2.block g (by omega) (fun e => hn e.symm)).trans ((hbU.block g (by omega)).trans (hZ.block g hg))
theorem run_buildJ (y : Jb) (W : World) : (Instr.buildSlice 36 1 #[(0, .agg y.cs.toArray)]).run Tryz.prog W = .ok (.slice (some ⟨W.heap.size, 0, .none⟩) 1 1) (W.alloc (.cells y.cs.toArray 42)) := by
  obtain ⟨i0, hi, hz0, hz1, hz2⟩ := info_parts infoJ
  refine run_buildSlice (P := Tryz.prog) W 36 42 1 _ y.cs.toArray i0 (.agg jobZ.toArray) Tryz.underlying36 hi hz0 (by rw [hz1]; decide) (by rw [hz1]; decide) ?_
  rw [hz1]
  kernel_rfl
theorem wp_buildJ {o : Oper} {a : Act} {w : World} {K : Act → World → Prop} {Q : Exit → Act → World → Prop} (x : Operand) (ho : o.op = .buildSlice 36 1 #[(0, x)]) (y : Jb) (hx : a.eval x = .agg y.cs.toArray)
    (h : K (a.put o.dst (.slice (some ⟨w.heap.size, 0, .none⟩) 1 1)) (w.alloc (.cells y.cs.toArray 42))) : o.wp Tryz.prog a w K Q := by
  have e := run_buildJ y w
  unfold Oper.wp execOp
  simp only [ho, Sem.run_bind, List.map_toArray, List.map_cons, List.map_nil, hx, e, Result.andThen_ok]
  exact h
end Go.Proofs.YtcodjknhnhdkfaaGreatDoor.Im
namespace Go.Proofs.YtcodjknhnhdkfaaGreatDoor.Im
open Go.RowKit Go.Lib Go.Sort Ht Hp
set_option linter.unusedVariables false
set_option linter.unusedSectionVars false
set_option maxRecDepth 20000
attribute [local go_sem] Oper.semAt_some
section
variable {w : World} {sb mb wb : Nat} {jb : K → Nat} {now each : Int} {order : Nat} {js : List Jb}
theorem jf_at {j : Jb} (hj : j ∈ js) : jf js jb (nmK j) = some (.pointer (some ⟨jb (nmK j), 0, none⟩)) := by
  unfold jf
  rw [if_pos (List.mem_map.2 ⟨j, hj, rfl⟩)]
theorem wrap_up {m : Nat} (h : m ≤ 1000000) : wrap64 (((m : Nat) : Int) + 1) = ((m + 1 : Nat) : Int) := by unfold wrap64; omega
theorem meas_up {n k : Nat} (h : k < n) : n - (RowKit.intOf (.int .i64 ((k + 1 : Nat) : Int))).toNat < n - (RowKit.intOf (.int .i64 ((k : Nat) : Int))).toNat := by simp only [RowKit.intOf]; omega
/-- all jobs lie in a row of one's own, whose slice lies in a block of its own -/
def Kept (w w' : World) (js : List Jb) : Prop := ∃ v ls, w'.heap[w.heap.size]? = some (.cells #[v] 36 (0, 0)) ∧ Ga (w.heap.size + 1) w' v js.length js ls ∧ Below w.heap.size w w'
set_option maxHeartbeats 4000000 in
theorem Jobs_any (h : Sq w sb mb wb jb now each order js) : Calls Tryz.prog 23 #[.pointer (some ⟨sb, 0, none⟩)] w fun e w' =>
    e = .returned (.func (.func 47) #[] #[.pointer (some ⟨w.heap.size, 0, none⟩)]) ∧ Kept w w' js := by
  have hmix : Tryz.prog.follows .mixedOrders = true := by kernel_rfl
  have hmf : ∀ (fn : Fn) (first cap : Array Value) (w : World), (Instr.makeFunc fn first cap).run Tryz.prog w = .ok (.func fn first cap) w := fun _ _ _ _ => rfl
  obtain ⟨V, hV⟩ : ∃ V, V = w.alloc (.cells #[.slice none 0 0] 36) := ⟨_, rfl⟩
  have hbV : Below w.heap.size w V := by rw [hV]; exact (Below.refl _ _).alloc (Nat.le_refl _) _
  have hzV : V.heap.size = w.heap.size + 1 := by rw [hV]; simp
  have h0V : V.heap[w.heap.size]? = some (.cells #[.slice none 0 0] 36 (0, 0)) := by rw [hV]; exact (MapKept.heap_alloc w _).1
  have hn := names_any (h.old hbV)
  have H := Lib.hid (And.intro h (And.intro hbV (And.intro hzV (And.intro h0V h.few))))
  have hsb := World.block_lt_of_cell? w _ h.cell.1
  clear h hbV hzV h0V
  go_enter Tryz.func23, Tryz.ntmps23
  go_wp2_with fail
  rw [← hV]
  have HV := Lib.hid hV
  clear hV
  refine hn.mono ?_
  rintro e W1 ⟨vn, rfl, hrn, hb1⟩
  obtain ⟨an, cn, rfl, hnn⟩ := hrn
  obtain ⟨n, hnl⟩ : ∃ n, n = js.length := ⟨_, rfl⟩
  rw [List.length_map, ← hnl]
  have hz1 := hb1.size
  have h01 : W1.heap[w.heap.size]? = some (.cells #[.slice none 0 0] 36 (0, 0)) := (hb1.block _ (by have := H.out.2.2.1; omega)).trans H.out.2.2.2.1
  have hw1 : Below w.heap.size w W1 := H.out.2.1.trans (hb1.mono (by have := H.out.2.2.1; omega))
  have hwz : w.heap.size < W1.heap.size := lt_of_block h01
  have H1 := Lib.hid (And.intro hnn (And.intro hnl (And.intro h01 (And.intro hw1 hwz))))
  clear hnn hnl h01 hw1 hwz hz1 hb1 hn
  go_wp2_with fail
  go_loopw [11] (fun s wr => ∃ (k : Nat) (v : Value) (ls : List Jb), s = .int .i64 ((k : Nat) : Int) ∧ k ≤ n ∧ wr.heap[w.heap.size]? = some (.cells #[v] 36 (0, 0)) ∧ Ga W1.heap.size wr v k js ls ∧ Below w.heap.size w wr ∧ W1.heap.size ≤ wr.heap.size ∧ ∀ x, w.heap.size < x → x < W1.heap.size → wr.heap[x]? = W1.heap[x]?) (fun s _ => n - (RowKit.intOf s).toNat)
  case atStart => exact ⟨0, _, [], rfl, Nat.zero_le _, H1.out.2.2.1, Ga.nil _ _ _, H1.out.2.2.2.1, Nat.le_refl _, fun _ _ _ => rfl⟩
  case round =>
    obtain ⟨k, v, ls, rfl, hk, hbx, hga, hbw, hsz, hst⟩ := hrel
    by_cases hlt : k < n
    · have hkl : k < js.length := by rw [← H1.out.2.1]; exact hlt
      obtain ⟨x, hx⟩ : ∃ x, x = js[k] := ⟨_, rfl⟩
      have hxm : x ∈ js := by rw [hx]; exact List.getElem_mem _
      obtain ⟨g, rfl, hg1, hg2, hg3⟩ : ∃ g, an = some ⟨g, 0, none⟩ ∧ V.heap.size + 1 ≤ g ∧ g < W1.heap.size ∧ ∀ i (h : i < (js.map nmK).length), W1.cell? ⟨g, i, none⟩ = some (ek (js.map nmK)[i]) := by
        rcases H1.out.1 with h0 | h0
        · have : js = [] := List.map_eq_nil_iff.1 h0
          rw [this] at hkl; simp at hkl
        · exact h0
      have hcn : wr.cell? ⟨g, k, none⟩ = some (ek (nmK x)) := by
        have e := hst g (by have := H.out.2.2.1; omega) hg2
        rw [World.cell?_of_block (w := W1) (a := ⟨g, k, none⟩) e, hg3 k (by simpa using hkl)]
        simp [hx]
      have q := H.out.1.old hbw
      obtain ⟨hjb, hjd, hwk, hjn⟩ := q.job x hxm
      have c2 := q.cell.2.2.1
      have hml := q.map.lt
      have hmp := q.map
      obtain ⟨a, c, rfl⟩ := hga.shape
      have hbox : wr.cell? ⟨w.heap.size, 0, none⟩ = some (.slice a k c) := cell_of_one hbx
      have hfz : wr.frozen? ⟨w.heap.size, 0, none⟩ = false := by simp [World.frozen?, hbx]
      have hnob : ∀ b, b < W1.heap.size → ¬ (Value.slice a k c).ownBlock = some b := fun b hb e => by have := (own_block hga.own e).1; omega
      obtain ⟨JB, hJB⟩ : ∃ b, b = jb (nmK x) := ⟨_, rfl⟩
      rw [← hJB] at hjb
      have hnjb : ¬ (Value.slice a k c).ownBlock = some JB := fun e => by
        have h1 := (own_block hga.own e).1
        have h2 := lt_of_block ((H.out.1.job x hxm).1)
        have := H1.out.2.2.2.2
        rw [hJB] at h1
        omega
      have hnmb : ¬ (Value.slice a k c).ownBlock = some mb := fun e => by
        have h1 := (own_block hga.own e).1
        have h2 := H.out.1.map.lt
        have := H1.out.2.2.2.2
        omega
      have hlook : ∀ X : World, Fr (fun b => (Value.slice a k c).ownBlock = some b) wr X → (Instr.lookup 66 (.map (some mb)) (.string x.sp.nm) false).run Tryz.prog X = .ok (.pointer (some ⟨JB, 0, none⟩)) X := fun X hX => by
        have := hmp.look1 kind (Y := X) (hX.block mb hml hnmb) hwk
        rw [jf_at hxm, ek_nm, ← hJB] at this
        exact this
      obtain ⟨C, hC⟩ : ∃ C, C = x.cs.toArray := ⟨_, rfl⟩
      rw [← hC] at hjb
      have hCl : C.toList = x.cs := by rw [hC]
      have hrg : ∀ X : World, Fr (fun b => (Value.slice a k c).ownBlock = some b) wr X → X.rangeAt JB 0 C.toList := fun X hX => Cm.range_of ((hX.block JB (lt_of_block hjb) hnjb).trans hjb)
      have hinf : (Tryz.prog.info? 42).map (·.size) = some C.toList.length := by rw [hCl]; exact info_job
      have hsb1 : ∀ X : World, Fr (fun b => (Value.slice a k c).ownBlock = some b) wr X → X.cell? ⟨sb, 2, none⟩ = some (.map (some mb)) := fun X hX => hX.cell c2 (hnob sb (by have := H1.out.2.2.2.2; omega))
      have hbox1 : ∀ X : World, Fr (fun b => (Value.slice a k c).ownBlock = some b) wr X → X.cell? ⟨w.heap.size, 0, none⟩ = some (.slice a k c) := fun X hX => hX.cell hbox (hnob _ H1.out.2.2.2.2)
      have hsbl : sb < wr.heap.size := by have := H1.out.2.2.2.2; omega
      rw [ek_nm] at hcn
      have HK := Lib.hid (And.intro hx (And.intro hga (And.intro hbw (And.intro hsz (And.intro hst (And.intro hjd (And.intro hjn (And.intro hC hbx))))))))
      have HQ := Lib.hid (And.intro q hxm)
      clear hx hga hbw hsz hst hjd hjn hC hbx q hjb hmp hml hwk hxm hJB
      generalize hnm : x.sp.nm = nm at *
      have HNM := Lib.hid hnm
      clear hnm
      have hltx : ((k : Nat) : Int) < ((n : Nat) : Int) := by omega
      go_wp2_with fail
      refine begin' 12 (fun ZZ => Fr (fun b => (Value.slice a k c).ownBlock = some b) wr ZZ) hmix (Fr.refl _ wr).drew (fun hS0 => ?_)
      refine Ht.takeD 8 (i := 0) ⟨some 15, _, _, _, _, _⟩ (.slice a k c) rfl (by kernel_rfl) (by kernel_rfl) (by decide) (by kernel_rfl) (by kernel_rfl) (by kernel_rfl) hS0 (Or.inl ⟨by rfl, by (intro X hX; have := hbox1 X hX; go_simp)⟩) ?_
      simp only [Act.put, List.setIfInBounds_toArray, List.set_cons_zero, List.set_cons_succ]
      refine Ht.takeD 8 (i := 1) ⟨some 16, _, _, _, _, _⟩ (.pointer (some ⟨sb, 0, none⟩)) rfl (by kernel_rfl) (by kernel_rfl) (by decide) (by kernel_rfl) (by kernel_rfl) (by kernel_rfl) hS0 (Or.inl ⟨by rfl, by (intro X hX; go_simp)⟩) ?_
      simp only [Act.put, List.setIfInBounds_toArray, List.set_cons_zero, List.set_cons_succ]
      refine Ht.takeD 8 (i := 2) ⟨some 17, _, _, _, _, _⟩ (.pointer (some ⟨sb, 0, none⟩)) rfl (by kernel_rfl) (by kernel_rfl) (by decide) (by kernel_rfl) (by kernel_rfl) (by kernel_rfl) hS0 (Or.inl ⟨by rfl, by (intro X hX; go_simp)⟩) ?_
      simp only [Act.put, List.setIfInBounds_toArray, List.set_cons_zero, List.set_cons_succ]
      refine Ht.takeD 8 (i := 3) ⟨some 18, _, _, _, _, _⟩ (.pointer (some ⟨sb, 2, none⟩)) rfl (by kernel_rfl) (by kernel_rfl) (by decide) (by kernel_rfl) (by kernel_rfl) (by kernel_rfl) hS0 (Or.inl ⟨by rfl, by (intro X hX; go_simp)⟩) ?_
      simp only [Act.put, List.setIfInBounds_toArray, List.set_cons_zero, List.set_cons_succ]
      refine Ht.takeD 8 (i := 4) ⟨some 19, _, _, _, _, _⟩ (.map (some mb)) rfl (by kernel_rfl) (by kernel_rfl) (by decide) (by kernel_rfl) (by kernel_rfl) (by kernel_rfl) hS0 (Or.inl ⟨by rfl, by (intro X hX; have := hsb1 X hX; go_simp)⟩) ?_
      simp only [Act.put, List.setIfInBounds_toArray, List.set_cons_zero, List.set_cons_succ]
      refine Ht.takeD 8 (i := 5) ⟨some 20, _, _, _, _, _⟩ (.string nm) rfl (by kernel_rfl) (by kernel_rfl) (by decide) (by kernel_rfl) (by kernel_rfl) (by kernel_rfl) hS0 (Or.inl ⟨by rfl, by (intro X hX; go_simp)⟩) ?_
      simp only [Act.put, List.setIfInBounds_toArray, List.set_cons_zero, List.set_cons_succ]
      refine Ht.takeD 8 (i := 6) ⟨some 21, _, _, _, _, _⟩ (.pointer (some ⟨JB, 0, none⟩)) rfl (by kernel_rfl) (by kernel_rfl) (by decide) (by kernel_rfl) (by kernel_rfl) (by kernel_rfl) hS0 (Or.inl ⟨by rfl, by (intro X hX; have := hlook X hX; go_simp)⟩) ?_
      simp only [Act.put, List.setIfInBounds_toArray, List.set_cons_zero, List.set_cons_succ]
      refine Ht.takeD 8 (i := 7) ⟨some 22, _, _, _, _, _⟩ (.pointer (some ⟨JB, 0, none⟩)) rfl (by kernel_rfl) (by kernel_rfl) (by decide) (by kernel_rfl) (by kernel_rfl) (by kernel_rfl) hS0 (Or.inl ⟨by rfl, by (intro X hX; go_simp)⟩) ?_
      simp only [Act.put, List.setIfInBounds_toArray, List.set_cons_zero, List.set_cons_succ]
      refine Ht.takeD 8 (i := 8) ⟨some 23, _, _, _, _, _⟩ (.agg C.toList.toArray) rfl (by kernel_rfl) (by kernel_rfl) (by decide) (by kernel_rfl) (by kernel_rfl) (by kernel_rfl) hS0 (yieldsIf_load_mid (by rfl) 42 _ rfl JB 0 rfl C.toList _ hrg Tryz.underlying42 rfl hinf) ?_
      simp only [Act.put, List.setIfInBounds_toArray, List.set_cons_zero, List.set_cons_succ, Array.toArray_toList]
      have hjd0 : Jd wr.drew x := HK.out.2.2.2.2.2.1
      have hcl := clone_any x hjd0 (by have := HK.out.2.2.2.2.2.2.1; omega)
      rw [← HK.out.2.2.2.2.2.2.2.1] at hcl
      refine Ht.step (i := 9) ⟨some 24, _, _, _, _, _⟩ rfl (by kernel_rfl) (by rfl) (fun K hK => ?_)
      refine Ht.enter 46 #[.agg C] (by have hen := fun args w => enters_of (P := Tryz.prog) Tryz.func46 (by kernel_rfl) rfl args w; go_simp) (hcl) ?_
      rintro e Z ⟨y, rfl, hly, hbZ, hdy, hoy⟩
      obtain ⟨Cy, hCy⟩ : ∃ Cy, Cy = y.cs.toArray := ⟨_, rfl⟩
      rw [← hCy]
      have hfZ : Fr (fun b => (Value.slice a k c).ownBlock = some b) wr Z := hS0.trans (Fr.of_below hbZ) (fun x hx => .inl hx)
      refine ⟨_, rfl, hK _ _ (fun hn => hfZ) (fun hnx => ?_)⟩
      clear hK K hnx
      try simp only [Act.put, List.setIfInBounds_toArray, List.set_cons_zero, List.set_cons_succ]
      obtain ⟨v', w', hra, gw, fw⟩ := HK.out.2.1.push (by have := HK.out.2.2.2.1; omega) (⟨hbZ.os, hbZ.tape, hbZ.output, hbZ.size, hbZ.block⟩ : Below wr.heap.size wr Z) (x := x) (y := y) (by rw [HK.out.1]; exact List.getElem?_eq_getElem hkl) hly hdy (hoy.imp_right fun ⟨g, cur, e1, e2, e3⟩ => ⟨g, cur, e1, Nat.le_trans HK.out.2.2.2.1 e2, e3⟩) (by have := H.out.2.2.2.2; omega) 36
      rw [← hCy] at hra
      have hCs : Cy.size = 21 := by rw [hCy]; rfl
      have hfU : Fr (fun b => (Value.slice a k c).ownBlock = some b) wr (Z.alloc (.cells Cy 42)) := hfZ.trans (Fr.alloc (fun b => (Value.slice a k c).ownBlock = some b) Z _) (fun x hx => .inl hx)
      refine Ht.step (i := 10) ⟨some 25, _, _, _, _, _⟩ rfl (by kernel_rfl) (by rfl) (fun K hK => ?_)
      refine wp_buildJ _ rfl y (by rw [← hCy]; rfl) ?_
      rw [← hCy]
      refine hK _ _ (fun hn => hfU) (fun hnx => ?_)
      clear hK K hnx
      try simp only [Act.put, List.setIfInBounds_toArray, List.set_cons_zero, List.set_cons_succ]
      refine Ht.step (i := 11) ⟨some 26, _, _, _, _, _⟩ rfl (by kernel_rfl) (by rfl) (fun K hK => ?_)
      refine wp_app _ _ rfl rfl rfl hra ?_
      refine hK _ _ (fun hn => fw) (fun hnx => ?_)
      clear hK K hnx
      try simp only [Act.put, List.setIfInBounds_toArray, List.set_cons_zero, List.set_cons_succ]
      refine Ht.step (i := 12) ⟨none, _, _, _, _, _⟩ rfl (by kernel_rfl) (by rfl) (fun K hK => ?_)
      have hbx' : w'.heap[w.heap.size]? = some (.cells #[.slice a k c] 36 (0, 0)) := (fw.block _ (by have := HK.out.2.2.1.size; have := HK.out.2.2.2.1; have := H1.out.2.2.2.2; omega) (hnob _ H1.out.2.2.2.2)).trans HK.out.2.2.2.2.2.2.2.2
      have cb' := cell_of_one hbx'
      have fb' : w'.frozen? ⟨w.heap.size, 0, none⟩ = false := by simp [World.frozen?, hbx']
      obtain ⟨a', c', rfl⟩ := gw.shape
      go_simp
      refine hK _ _ (fun hn => absurd rfl hn) (fun hnx => ?_)
      clear hK K hnx
      try simp only [Act.put, List.setIfInBounds_toArray, List.set_cons_zero, List.set_cons_succ]
      refine done (by kernel_rfl) ?_
      obtain ⟨X, hX⟩ : ∃ X, X = w'.setCell ⟨w.heap.size, 0, none⟩ (.slice a' (k + 1) c') := ⟨_, rfl⟩
      rw [← hX]
      have oX : ∀ b, b ≠ w.heap.size → X.heap[b]? = w'.heap[b]? := fun b hb => by rw [hX]; exact heap_setCell_other _ _ _ _ hb
      have zX : X.heap.size = w'.heap.size := by rw [hX]; simp [World.setCell]
      have bX : X.heap[w.heap.size]? = some (.cells #[.slice a' (k + 1) c'] 36 (0, 0)) := by rw [hX]; exact Lib.heap_setCell_same hbx' _
      have hrel : ∃ (k2 : Nat) (v2 : Value) (ls2 : List Jb), Value.int .i64 (((k + 1 : Nat) : Nat) : Int) = .int .i64 ((k2 : Nat) : Int) ∧ k2 ≤ n ∧ X.heap[w.heap.size]? = some (.cells #[v2] 36 (0, 0)) ∧ Ga W1.heap.size X v2 k2 js ls2 ∧ Below w.heap.size w X ∧ W1.heap.size ≤ X.heap.size ∧ ∀ x, w.heap.size < x → x < W1.heap.size → X.heap[x]? = W1.heap[x]? := by
        obtain ⟨hx, hga, hbw, hsz, hst, _⟩ := HK.out
        have hfs := fw.size
        have h12 := H1.out.2.2.2.2
        refine ⟨k + 1, _, _, rfl, by omega, bX, gw.kept fun b hb _ => oX b (by omega), ⟨?_, ?_, ?_, by have := hbw.size; omega, fun b hb => ?_⟩, by omega, fun b h1 h2 => ?_⟩
        · rw [hX]; exact fw.os.trans hbw.os
        · rw [hX]; exact fw.tape.trans hbw.tape
        · rw [hX]; exact fw.output.trans hbw.output
        · exact (oX b (by omega)).trans ((fw.block b (by omega) (hnob b (by omega))).trans (hbw.block b hb))
        · exact (oX b (by omega)).trans ((fw.block b (by omega) (hnob b h2)).trans (hst b h1 h2))
      have HR := Lib.hid hrel
      clear hrel oX zX bX hX hra gw fw hbx' cb' fb' hfU hfZ hoy hdy hbZ hly hCy hcl hjd0 hS0 hlook hrg hsb1 hbox1 hbox hnob hnjb hnmb hcn c2 hinf hCl hfz
      have hwk : wrap64 (((k : Nat) : Int) + 1) = ((k + 1 : Nat) : Int) := wrap_up (Nat.le_trans hk (by rw [H1.out.2.1]; exact Nat.le_trans H.out.2.2.2.2 (by decide)))
      go_wp2_with fail
      go_roundw
      case rel => rw [hwk]; exact HR.out
      case measure => rw [hwk]; exact meas_up hlt
    · have hkn : k = n := by omega
      have HZ := Lib.hid (And.intro hbx (And.intro hga (And.intro hbw hsz)))
      have hcl : ¬ ((k : Nat) : Int) < ((n : Nat) : Int) := by omega
      clear hbx hga hbw hsz hst
      go_wp2_with fail
      go_ret
      obtain ⟨hbx, hga, hbw, hsz⟩ := HZ.out
      subst hkn
      unfold Kept
      rw [← H1.out.2.1]
      refine ⟨by simp, v, ls, hbx, ⟨?_, hga.len, hga.like, fun y hy => ⟨(hga.d y hy).1, ?_⟩⟩, hbw⟩
      · refine ⟨hga.own.1, ?_⟩
        rcases hga.own.2 with h1 | ⟨g, cap, cur, h1, h2, h3⟩
        · exact .inl h1
        · exact .inr ⟨g, cap, cur, h1, by have := H1.out.2.2.2.2; omega, h3⟩
      · exact (hga.d y hy).2.imp_right fun ⟨g, cur, h1, h2, h3⟩ => ⟨g, cur, h1, by have := H1.out.2.2.2.2; omega, h3⟩
end
end Go.Proofs.YtcodjknhnhdkfaaGreatDoor.Im
