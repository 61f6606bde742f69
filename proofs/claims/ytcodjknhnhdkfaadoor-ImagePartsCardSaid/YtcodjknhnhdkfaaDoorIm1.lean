
/- jobs: as they lie, their bytes; a job in new memory -/
import Derived.Test.YtcodjknhnhdkfaaDoorCm8
import Derived.Test.YtcodjknhnhdkfaaDoorCmS
import Derived.Deep.DeepCutAuto
import Derived.Deep.CutBlock
namespace Go.Proofs.YtcodjknhnhdkfaaDoor.Im
open Go.RowKit Go.Lib Wn Rf By Cm
set_option linter.unusedVariables false
set_option maxRecDepth 20000
/-- a job as it came -/
structure Jb where
  sp : Sp.Spc
  st : Int
  du : Int
  tk : Nat
  fl : Int
  rs : Int
  wk : ByteArray
  od : Nat
  cr : Int
  rn : Int
  ms : Int
def Jb.rest (j : Jb) : List Value := [.int .i64 j.st, .int .i64 j.du, .int .u64 j.tk, .int .i64 j.fl, .int .i64 j.rs, .string j.wk, .int .u64 j.od, .int .i64 j.cr, .int .i64 j.rn, .int .i64 j.ms]
/-- its 21 cells -/
def Jb.cs (j : Jb) : List Value := j.sp.cells.toList ++ j.rest
def Jb.wf (j : Jb) : Prop := j.sp.wf ∧ Sp.W64 j.st ∧ Sp.W64 j.du ∧ U64 j.tk ∧ Sp.W64 j.fl ∧ Sp.W64 j.rs ∧ U64 j.od ∧ Sp.W64 j.cr ∧ Sp.W64 j.rn ∧ Sp.W64 j.ms
def Jb.med (j : Jb) : Prop := j.sp.med ∧ j.wk.size ≤ 1000
def restB (j : Jb) : List UInt8 := Sp.zz j.st ++ (Sp.zz j.du ++ (uvarint j.tk ++ (Sp.zz j.fl ++ (Sp.zz j.rs ++ (textB j.wk ++ (uvarint j.od ++ (Sp.zz j.cr ++ (Sp.zz j.rn ++ Sp.zz j.ms))))))))
/-- its bytes -/
def jobB (j : Jb) : List UInt8 := Sp.specB j.sp ++ restB j
theorem Jb.len (j : Jb) : j.cs.length = 21 := rfl
theorem Jb.one (j : Jb) : ∀ v ∈ j.cs, v.oneCell' = true := by
  intro v hv
  simp only [Jb.cs, Jb.rest, Sp.Spc.cells, List.cons_append, List.nil_append, List.mem_cons, List.not_mem_nil, or_false] at hv
  rcases hv with rfl | rfl | rfl | rfl | rfl | rfl | rfl | rfl | rfl | rfl | rfl | rfl | rfl | rfl | rfl | rfl | rfl | rfl | rfl | rfl | rfl <;> rfl
/-- two that are alike, but for where the row of the Deps lies -/
structure Like (x y : Jb) : Prop where
  sp : y.sp = { x.sp with a := y.sp.a, c := y.sp.c }
  rest : y = { x with sp := y.sp }
theorem Like.refl (x : Jb) : Like x x := ⟨rfl, rfl⟩
theorem Like.bytes {x y : Jb} (h : Like x y) : jobB y = jobB x := by
  obtain ⟨h1, h2⟩ := h
  have e1 : Sp.specB y.sp = Sp.specB x.sp := by rw [h1]; rfl
  unfold jobB
  rw [e1, h2]
  rfl
theorem Like.trans {x y z : Jb} (h : Like x y) (k : Like y z) : Like x z := by
  obtain ⟨h1, h2⟩ := h
  obtain ⟨k1, k2⟩ := k
  refine ⟨?_, ?_⟩
  · rw [k1, h1]
  · rw [k2, h2]
theorem Like.wf {x y : Jb} (h : Like x y) (k : x.wf) : y.wf := by
  obtain ⟨h1, h2⟩ := h
  rw [h2]
  unfold Jb.wf at k ⊢
  refine ⟨?_, k.2⟩
  show y.sp.wf
  rw [h1]
  exact k.1
theorem Like.med {x y : Jb} (h : Like x y) (k : x.med) : y.med := by
  obtain ⟨h1, h2⟩ := h
  rw [h2]
  unfold Jb.med at k ⊢
  refine ⟨?_, k.2⟩
  show y.sp.med
  rw [h1]
  exact k.1
theorem Like.n {x y : Jb} (h : Like x y) : y.sp.n = x.sp.n := by rw [h.sp]
theorem Like.nm {x y : Jb} (h : Like x y) : y.sp.nm = x.sp.nm := by rw [h.sp]
/-- the row of a job's Deps may be read -/
def Jd (w : World) (j : Jb) : Prop := Sp.Dp w j.sp.a j.sp.n j.sp.ds
theorem info_job : (Tryd.prog.info? 52).map (·.size) = some 21 := by kernel_rfl
theorem info_spec21 : (Tryd.prog.info? 50).map (·.size) = some 11 := by kernel_rfl
def jobZ : List Value := [.string ⟨#[]⟩, .string ⟨#[]⟩, .int .i64 0, .int .i64 0, .slice none 0 0, .int .i64 0, .int .i64 0, .int .i64 0, .int .i64 0, .string ⟨#[]⟩, .int .i64 0, .int .i64 0, .int .i64 0, .int .u64 0, .int .i64 0, .int .i64 0, .string ⟨#[]⟩, .int .u64 0, .int .i64 0, .int .i64 0, .int .i64 0]
theorem run_box (C : Array Value) (w : World) : (Instr.box 52 (.agg C)).run Tryd.prog w = .ok (.pointer (some ⟨w.heap.size, 0, none⟩)) (w.alloc (.cells C 52)) := by kernel_rfl
theorem cellj {W : World} {b : Nat} {cs : Array Value} {t : TypeId} (h : W.heap[b]? = some (.cells cs t (0, 0))) {i : Nat} {v : Value} (hi : cs[i]? = some v) : W.cell? ⟨b, i, none⟩ = some v ∧ W.frozen? ⟨b, i, none⟩ = false := by
  simp [World.cell?, World.frozen?, h, hi]
/-- the row of a job's Deps is one's own, from block B on -/
def Own1 (w : World) (B : Nat) (j : Jb) : Prop := j.sp.n = 0 ∨ ∃ g cur, j.sp.a = some ⟨g, 0, none⟩ ∧ B ≤ g ∧ w.heap[g]? = some (.cells cur 9 (0, 0))
theorem Own1.old {w w' : World} {B : Nat} {j : Jb} (h : Own1 w B j) (hb : Below w.heap.size w w') : Own1 w' B j :=
  h.imp_right fun ⟨g, cur, h1, h2, h3⟩ => ⟨g, cur, h1, h2, Sp.old2 hb h3⟩
/-- the row of a job's Deps lies in a block of texts -/
def Typed (w : World) (j : Jb) : Prop := 0 < j.sp.n → ∀ b o, j.sp.a = some ⟨b, o, none⟩ → ∃ cur, w.heap[b]? = some (.cells cur 9 (0, 0))
theorem Typed.old {w w' : World} {j : Jb} (h : Typed w j) (hb : Below w.heap.size w w') : Typed w' j := fun h0 b o e => by
  obtain ⟨cur, hc⟩ := h h0 b o e
  exact ⟨cur, Sp.old2 hb hc⟩
theorem Own1.typed {w : World} {B : Nat} {j : Jb} (h : Own1 w B j) : Typed w j := fun h0 b o e => by
  rcases h with h1 | ⟨g, cur, e1, _, e3⟩
  · omega
  · rw [e1] at e
    obtain ⟨rfl, rfl⟩ : g = b ∧ 0 = o := by simpa using e
    exact ⟨cur, e3⟩
/-- what a job in new memory is -/
def Cloned (w : World) (j : Jb) (e : Ending) (w' : World) : Prop :=
  ∃ y : Jb, e = .returned (.agg y.cs.toArray) ∧ Like j y ∧ Below w.heap.size w w' ∧ Jd w' y ∧ Own1 w' w.heap.size y
theorem results_c1 {fn : Func} {p : Tmp} {ty : TypeId} (h : fn.results = #[.cell p ty]) (tmps : Array Value) (P : Program) (w : World) :
    (results fn tmps).run P w = ((asAddr (tmps.getD p undef)).run P w).andThen fun x w₁ => (loadVar ty x).run P w₁ := by
  simp only [results, h]
  simp [Sem.run_bind, Result.andThen]
set_option maxHeartbeats 2000000 in
theorem clone_any (j : Jb) {w : World} (hd : Jd w j) (hn : j.sp.n ≤ 1000000000) : Calls Tryd.prog 32 #[.agg j.cs.toArray] w (Cloned w j) := by
  obtain ⟨C, hC⟩ : ∃ C, C = j.cs.toArray := ⟨_, rfl⟩
  rw [← hC]
  obtain ⟨V, hV⟩ : ∃ V, V = (w.alloc (.cells C 52)).alloc (.cells jobZ.toArray 52) := ⟨_, rfl⟩
  have hb1 : Below w.heap.size w V := by rw [hV]; exact ((Below.refl _ w).alloc (Nat.le_refl _) _).alloc (by simp) _
  have hsz : V.heap.size = w.heap.size + 2 := by rw [hV]; simp
  have hx0 : V.heap[w.heap.size]? = some (.cells C 52 (0, 0)) := by rw [hV]; exact ((Below.refl _ _).alloc (Nat.le_refl _) _ |>.block _ (by simp)).trans (MapKept.heap_alloc w _).1
  have hx1 : V.heap[w.heap.size + 1]? = some (.cells jobZ.toArray 52 (0, 0)) := by
    rw [hV]
    have h := (MapKept.heap_alloc (w.alloc (.cells C 52)) (.cells jobZ.toArray 52)).1
    rwa [World.size_alloc] at h
  have HC := Lib.hid (Sp.Clone_any j.sp (w := V) (hd.old hb1) hn)
  have hr0 : V.rangeAt w.heap.size 0 j.sp.cells.toList := fun i v hv => by
    have hi : i < j.sp.cells.toList.length := (List.getElem?_eq_some_iff.1 hv).1
    rw [cell_of_row V _ _ _ _ _ hx0, Nat.zero_add, hC]
    simp only [Jb.cs, List.getElem?_toArray]
    rw [List.getElem?_append_left hi]
    exact hv
  have hi0 : (Tryd.prog.info? 50).map (·.size) = some j.sp.cells.toList.length := info_spec21
  have HB := Lib.hid (And.intro hb1 (And.intro hsz (And.intro hx0 (And.intro hx1 hC))))
  have hbo := run_box
  clear hb1 hsz hx0 hx1 hd hC
  unfold jobZ at hV
  go_enter Tryd.func32, Tryd.ntmps32
  go_upto_region 1 with fail
  rw [← hV]
  have HV := Lib.hid hV
  clear hV
  go_wp2_with (refine wpList_load_mid rfl 50 _ rfl w.heap.size 0 rfl j.sp.cells.toList _ hr0 Tryd.underlying50 rfl hi0 ?_)
  refine HC.out.mono ?_
  rintro e w1 ⟨y, rfl, hy, hb2, hdy, hgy⟩
  obtain ⟨hb1, hsz, hx0, hx1, hC⟩ := HB.out
  have hx2 := (hb2.block w.heap.size (by omega)).trans hx0
  have hx3 := (hb2.block (w.heap.size + 1) (by omega)).trans hx1
  have hth0 : w1.there w.heap.size 0 y.cells.size := there_of hx2 (by rw [hC]; show 11 ≤ 21; omega)
  have hone : y.cells.all (·.oneCell') = true := by unfold Sp.Spc.cells; rw [List.all_toArray]; rfl
  have hin : (Tryd.prog.info? 50).map (·.size) = some y.cells.size := info_spec21
  obtain ⟨U, hU⟩ : ∃ U, U = setAll w.heap.size 0 w1 y.cells.toList := ⟨_, rfl⟩
  obtain ⟨z, hz⟩ : ∃ z : Jb, z = { j with sp := y } := ⟨_, rfl⟩
  have hU0 : U.heap[w.heap.size]? = some (.cells z.cs.toArray 52 (0, 0)) := by
    rw [hU, setAll_part _ _ _ _ hx2 (by rw [hC]; show 0 + 11 ≤ 21; omega), hC, hz]
    rfl
  obtain ⟨u1, u2, u3, u4, u5⟩ := setAll_other (b := w.heap.size) y.cells.toList 0 w1
  rw [← hU] at u1 u2 u3 u4 u5
  have hU1 := (u1 (w.heap.size + 1) (by omega)).trans hx3
  obtain ⟨X, hX⟩ : ∃ X, X = setAll (w.heap.size + 1) 0 U z.cs := ⟨_, rfl⟩
  have hX1 : X.heap[w.heap.size + 1]? = some (.cells z.cs.toArray 52 (0, 0)) := by rw [hX]; exact setAll_all hU1 rfl
  obtain ⟨x1, x2, x3, x4, x5⟩ := setAll_other (b := w.heap.size + 1) z.cs 0 U
  rw [← hX] at x1 x2 x3 x4 x5
  have hth1 : U.there (w.heap.size + 1) 0 z.cs.toArray.size := there_of hU1 (by show 21 ≤ 21; omega)
  have hr1 : U.rangeAt w.heap.size 0 z.cs := range_of hU0
  have hone1 : z.cs.toArray.all (·.oneCell') = true := all_oneCell_toArray z.one
  have hfin : Below w.heap.size w X ∧ Jd X z ∧ Own1 X w.heap.size z := by
    have hs2 := hb2.size
    refine ⟨⟨?_, ?_, ?_, by rw [x2, u2]; omega, fun k hk => ?_⟩, ?_, ?_⟩
    · exact (x3.trans u3).trans (hb2.os.trans hb1.os)
    · exact (x4.trans u4).trans (hb2.tape.trans hb1.tape)
    · exact (x5.trans u5).trans (hb2.output.trans hb1.output)
    · exact (x1 k (by omega)).trans ((u1 k (by omega)).trans ((hb2.block k (by omega)).trans (hb1.block k hk)))
    · rw [hz]
      refine ⟨hdy.1, hdy.2.1, ?_⟩
      rcases hdy.2.2 with h0 | ⟨b, o, h1, h2⟩
      · exact .inl h0
      · rcases hgy with h0 | ⟨g, cur, e1, e2, e3, e4⟩
        · exact .inl h0
        · rw [e1] at h1
          obtain ⟨rfl, rfl⟩ : g = b ∧ 0 = o := by simpa using h1
          refine .inr ⟨g, 0, e1, fun i hi => ?_⟩
          exact (World.cell?_of_block (w := w1) (a := ⟨g, 0 + i, none⟩) ((x1 g (by omega)).trans (u1 g (by omega)))).trans (h2 i hi)
    · rw [hz]
      rcases hgy with h0 | ⟨g, cur, e1, e2, e3, e4⟩
      · exact .inl h0
      · exact .inr ⟨g, cur, e1, by omega, ((x1 g (by omega)).trans (u1 g (by omega))).trans e3⟩
  have HF := Lib.hid (And.intro hfin (And.intro hX1 (And.intro hz hy)))
  have HUX := Lib.hid (And.intro hU hX)
  clear hfin hX1 hz hy u1 u2 u3 u4 u5 x1 x2 x3 x4 x5 hU0 hU1 hx0 hx1 hx2 hx3 hgy hdy hb1 hb2 hC hU hX
  go_upto_region 2 with (refine wpList_store_mid rfl 50 _ _ rfl w.heap.size 0 y.cells rfl rfl hth0 hin hone ?_)
  rw [setCells_all, ← HUX.out.1]
  clear hth0 hin hone hr0 hi0
  go_wp2_with (first | (refine wpList_load_mid rfl 52 _ rfl w.heap.size 0 rfl z.cs _ hr1 Tryd.underlying52 rfl info_job ?_) | (refine wpList_store_mid rfl 52 _ _ rfl (w.heap.size + 1) 0 z.cs.toArray rfl rfl hth1 info_job hone1 ?_))
  rw [setCells_all, ← HUX.out.2]
  obtain ⟨⟨f1, f2, f3⟩, hX1, hz, hy⟩ := HF.out
  refine bodyPost_ret (v := .agg z.cs.toArray) ?_ rfl ?_
  · rw [results_c1 rfl]
    exact run_loadVar_mid X (w.heap.size + 1) 0 52 z.cs _ (range_of hX1) Tryd.underlying52 rfl info_job
  · exact ⟨z, rfl, ⟨by rw [hz]; exact hy, by rw [hz]⟩, f1, f2, f3⟩
end Go.Proofs.YtcodjknhnhdkfaaDoor.Im
