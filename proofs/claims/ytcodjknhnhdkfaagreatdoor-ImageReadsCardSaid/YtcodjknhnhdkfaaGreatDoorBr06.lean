/- jobs: as they lie, their bytes; a job in new memory -/
import Derived.Test.YtcodjknhnhdkfaaGreatDoorBr04
import Derived.Test.YtcodjknhnhdkfaaGreatDoorBr05
import Derived.Deep.DeepCutAuto
import Derived.Deep.CutBlock
import Derived.Deep.WholeRow
namespace Go.Proofs.YtcodjknhnhdkfaaGreatDoor.Im
open Go.RowKit Go.Lib Wn Rf By Cm
set_option linter.unusedVariables false
set_option maxRecDepth 20000
/-- a job as it came -/
structure Jb where
  sp : Sp.Spc
  st : Int
  du : Int
  tk : Nat
  fl : Int
  rs : Int
  wk : ByteArray
  od : Nat
  cr : Int
  rn : Int
  ms : Int
def Jb.rest (j : Jb) : List Value := [.int .i64 j.st, .int .i64 j.du, .int .u64 j.tk, .int .i64 j.fl, .int .i64 j.rs, .string j.wk, .int .u64 j.od, .int .i64 j.cr, .int .i64 j.rn, .int .i64 j.ms]
/-- its 21 cells -/
def Jb.cs (j : Jb) : List Value := j.sp.cells.toList ++ j.rest
def Jb.wf (j : Jb) : Prop := j.sp.wf ∧ Sp.W64 j.st ∧ Sp.W64 j.du ∧ U64 j.tk ∧ Sp.W64 j.fl ∧ Sp.W64 j.rs ∧ U64 j.od ∧ Sp.W64 j.cr ∧ Sp.W64 j.rn ∧ Sp.W64 j.ms
def Jb.med (j : Jb) : Prop := j.sp.med ∧ j.wk.size ≤ 1000
def restB (j : Jb) : List UInt8 := Sp.zz j.st ++ (Sp.zz j.du ++ (uvarint j.tk ++ (Sp.zz j.fl ++ (Sp.zz j.rs ++ (textB j.wk ++ (uvarint j.od ++ (Sp.zz j.cr ++ (Sp.zz j.rn ++ Sp.zz j.ms))))))))
/-- its bytes -/
def jobB (j : Jb) : List UInt8 := Sp.specB j.sp ++ restB j
theorem Jb.len (j : Jb) : j.cs.length = 21 := rfl
theorem Jb.one (j : Jb) : ∀ v ∈ j.cs, v.oneCell' = true := by
  intro v hv
  simp only [Jb.cs, Jb.rest, Sp.Spc.cells, List.cons_append, List.nil_append, List.mem_cons, List.not_mem_nil, or_false] at hv
  rcases hv with rfl | rfl | rfl | rfl | rfl | rfl | rfl | rfl | rfl | rfl | rfl | rfl | rfl | rfl | rfl | rfl | rfl | rfl | rfl | rfl | rfl <;> rfl
/-- two that are alike, but for where the row of the Deps lies -/
structure Like (x y : Jb) : Prop where
  sp : y.sp = { x.sp with a := y.sp.a, c := y.sp.c }
  rest : y = { x with sp := y.sp }
theorem Like.refl (x : Jb) : Like x x := ⟨rfl, rfl⟩
theorem Like.bytes {x y : Jb} (h : Like x y) : jobB y = jobB x := by
  obtain ⟨h1, h2⟩ := h
  have e1 : Sp.specB y.sp = Sp.specB x.sp := by rw [h1]; rfl
  unfold jobB
  rw [e1, h2]
  rfl
theorem Like.trans {x y z : Jb} (h : Like x y) (k : Like y z) : Like x z := by
  obtain ⟨h1, h2⟩ := h
  obtain ⟨k1, k2⟩ := k
  refine ⟨?_, ?_⟩
  · rw [k1, h1]
  · rw [k2, h2]
theorem Like.wf {x y : Jb} (h : Like x y) (k : x.wf) : y.wf := by
  obtain ⟨h1, h2⟩ := h
  rw [h2]
  unfold Jb.wf at k ⊢
  refine ⟨?_, k.2⟩
  show y.sp.wf
  rw [h1]
  exact k.1
theorem Like.med {x y : Jb} (h : Like x y) (k : x.med) : y.med := by
  obtain ⟨h1, h2⟩ := h
  rw [h2]
  unfold Jb.med at k ⊢
  refine ⟨?_, k.2⟩
  show y.sp.med
  rw [h1]
  exact k.1
theorem Like.n {x y : Jb} (h : Like x y) : y.sp.n = x.sp.n := by rw [h.sp]
theorem Like.nm {x y : Jb} (h : Like x y) : y.sp.nm = x.sp.nm := by rw [h.sp]
/-- the row of a job's Deps may be read -/
def Jd (w : World) (j : Jb) : Prop := Sp.Dp w j.sp.a j.sp.n j.sp.ds
theorem info_job : (Tryz.prog.info? 42).map (·.size) = some 21 := by kernel_rfl
theorem info_spec21 : (Tryz.prog.info? 40).map (·.size) = some 11 := by kernel_rfl
def jobZ : List Value := [.string ⟨#[]⟩, .string ⟨#[]⟩, .int .i64 0, .int .i64 0, .slice none 0 0, .int .i64 0, .int .i64 0, .int .i64 0, .int .i64 0, .string ⟨#[]⟩, .int .i64 0, .int .i64 0, .int .i64 0, .int .u64 0, .int .i64 0, .int .i64 0, .string ⟨#[]⟩, .int .u64 0, .int .i64 0, .int .i64 0, .int .i64 0]
theorem run_box (C : Array Value) (w : World) : (Instr.box 42 (.agg C)).run Tryz.prog w = .ok (.pointer (some ⟨w.heap.size, 0, none⟩)) (w.alloc (.cells C 42)) := by kernel_rfl
theorem cellj {W : World} {b : Nat} {cs : Array Value} {t : TypeId} (h : W.heap[b]? = some (.cells cs t (0, 0))) {i : Nat} {v : Value} (hi : cs[i]? = some v) : W.cell? ⟨b, i, none⟩ = some v ∧ W.frozen? ⟨b, i, none⟩ = false := by
  simp [World.cell?, World.frozen?, h, hi]
/-- the row of a job's Deps is one's own, from block B on -/
def Own1 (w : World) (B : Nat) (j : Jb) : Prop := j.sp.n = 0 ∨ ∃ g cur, j.sp.a = some ⟨g, 0, none⟩ ∧ B ≤ g ∧ w.heap[g]? = some (.cells cur 9 (0, 0))
theorem Own1.old {w w' : World} {B : Nat} {j : Jb} (h : Own1 w B j) (hb : Below w.heap.size w w') : Own1 w' B j :=
  h.imp_right fun ⟨g, cur, h1, h2, h3⟩ => ⟨g, cur, h1, h2, Sp.old2 hb h3⟩
/-- the row of a job's Deps lies in a block of texts -/
def Typed (w : World) (j : Jb) : Prop := 0 < j.sp.n → ∀ b o, j.sp.a = some ⟨b, o, none⟩ → ∃ cur, w.heap[b]? = some (.cells cur 9 (0, 0))
theorem Typed.old {w w' : World} {j : Jb} (h : Typed w j) (hb : Below w.heap.size w w') : Typed w' j := fun h0 b o e => by
  obtain ⟨cur, hc⟩ := h h0 b o e
  exact ⟨cur, Sp.old2 hb hc⟩
theorem Own1.typed {w : World} {B : Nat} {j : Jb} (h : Own1 w B j) : Typed w j := fun h0 b o e => by
  rcases h with h1 | ⟨g, cur, e1, _, e3⟩
  · omega
  · rw [e1] at e
    obtain ⟨rfl, rfl⟩ : g = b ∧ 0 = o := by simpa using e
    exact ⟨cur, e3⟩
/-- what a job in new memory is -/
def Cloned (w : World) (j : Jb) (e : Ending) (w' : World) : Prop :=
  ∃ y : Jb, e = .returned (.agg y.cs.toArray) ∧ Like j y ∧ Below w.heap.size w w' ∧ Jd w' y ∧ Own1 w' w.heap.size y
theorem results_c1 {fn : Func} {p : Tmp} {ty : TypeId} (h : fn.results = #[.cell p ty]) (tmps : Array Value) (P : Program) (w : World) :
    (results fn tmps).run P w = ((asAddr (tmps.getD p undef)).run P w).andThen fun x w₁ => (loadVar ty x).run P w₁ := by
  simp only [results, h]
  simp [Sem.run_bind, Result.andThen]
set_option maxHeartbeats 2000000 in
theorem clone_any (j : Jb) {w : World} (hd : Jd w j) (hn : j.sp.n ≤ 1000000000) : Calls Tryz.prog 46 #[.agg j.cs.toArray] w (Cloned w j) := by
  obtain ⟨C, hC⟩ : ∃ C, C = j.cs.toArray := ⟨_, rfl⟩
  rw [← hC]
  obtain ⟨V, hV⟩ : ∃ V, V = (w.alloc (.cells C 42)).alloc (.cells jobZ.toArray 42) := ⟨_, rfl⟩
  have hb1 : Below w.heap.size w V := by rw [hV]; exact ((Below.refl _ w).alloc (Nat.le_refl _) _).alloc (by simp) _
  have hsz : V.heap.size = w.heap.size + 2 := by rw [hV]; simp
  have hx0 : V.heap[w.heap.size]? = some (.cells C 42 (0, 0)) := by rw [hV]; exact ((Below.refl _ _).alloc (Nat.le_refl _) _ |>.block _ (by simp)).trans (MapKept.heap_alloc w _).1
  have hx1 : V.heap[w.heap.size + 1]? = some (.cells jobZ.toArray 42 (0, 0)) := by
    rw [hV]
    have h := (MapKept.heap_alloc (w.alloc (.cells C 42)) (.cells jobZ.toArray 42)).1
    rwa [World.size_alloc] at h
  have HC := Lib.hid (Sp.Clone_any j.sp (w := V) (hd.old hb1) hn)
  have hr0 : V.rangeAt w.heap.size 0 j.sp.cells.toList := fun i v hv => by
    have hi : i < j.sp.cells.toList.length := (List.getElem?_eq_some_iff.1 hv).1
    rw [cell_of_row V _ _ _ _ _ hx0, Nat.zero_add, hC]
    simp only [Jb.cs, List.getElem?_toArray]
    rw [List.getElem?_append_left hi]
    exact hv
  have hi0 : (Tryz.prog.info? 40).map (·.size) = some j.sp.cells.toList.length := info_spec21
  have HB := Lib.hid (And.intro hb1 (And.intro hsz (And.intro hx0 (And.intro hx1 hC))))
  have hbo := run_box
  clear hb1 hsz hx0 hx1 hd hC
  unfold jobZ at hV
  go_enter Tryz.func46, Tryz.ntmps46
  go_upto_region 1 with fail
  rw [← hV]
  have HV := Lib.hid hV
  clear hV
  go_wp2_with (refine wpList_load_mid rfl 40 _ rfl w.heap.size 0 rfl j.sp.cells.toList _ hr0 Tryz.underlying40 rfl hi0 ?_)
  refine HC.out.mono ?_
  rintro e w1 ⟨y, rfl, hy, hb2, hdy, hgy⟩
  obtain ⟨hb1, hsz, hx0, hx1, hC⟩ := HB.out
  have hx2 := (hb2.block w.heap.size (by omega)).trans hx0
  have hx3 := (hb2.block (w.heap.size + 1) (by omega)).trans hx1
  have hth0 : w1.there w.heap.size 0 y.cells.size := there_of hx2 (by rw [hC]; show 11 ≤ 21; omega)
  have hone : y.cells.all (·.oneCell') = true := by unfold Sp.Spc.cells; rw [List.all_toArray]; rfl
  have hin : (Tryz.prog.info? 40).map (·.size) = some y.cells.size := info_spec21
  obtain ⟨U, hU⟩ : ∃ U, U = setAll w.heap.size 0 w1 y.cells.toList := ⟨_, rfl⟩
  obtain ⟨z, hz⟩ : ∃ z : Jb, z = { j with sp := y } := ⟨_, rfl⟩
  have hU0 : U.heap[w.heap.size]? = some (.cells z.cs.toArray 42 (0, 0)) := by
    rw [hU, setAll_part _ _ _ _ hx2 (by rw [hC]; show 0 + 11 ≤ 21; omega), hC, hz]
    rfl
  obtain ⟨u1, u2, u3, u4, u5⟩ := setAll_other (b := w.heap.size) y.cells.toList 0 w1
  rw [← hU] at u1 u2 u3 u4 u5
  have hU1 := (u1 (w.heap.size + 1) (by omega)).trans hx3
  obtain ⟨X, hX⟩ : ∃ X, X = setAll (w.heap.size + 1) 0 U z.cs := ⟨_, rfl⟩
  have hX1 : X.heap[w.heap.size + 1]? = some (.cells z.cs.toArray 42 (0, 0)) := by rw [hX]; exact setAll_all hU1 rfl
  obtain ⟨x1, x2, x3, x4, x5⟩ := setAll_other (b := w.heap.size + 1) z.cs 0 U
  rw [← hX] at x1 x2 x3 x4 x5
  have hth1 : U.there (w.heap.size + 1) 0 z.cs.toArray.size := there_of hU1 (by show 21 ≤ 21; omega)
  have hr1 : U.rangeAt w.heap.size 0 z.cs := range_of hU0
  have hone1 : z.cs.toArray.all (·.oneCell') = true := all_oneCell_toArray z.one
  have hfin : Below w.heap.size w X ∧ Jd X z ∧ Own1 X w.heap.size z := by
    have hs2 := hb2.size
    refine ⟨⟨?_, ?_, ?_, by rw [x2, u2]; omega, fun k hk => ?_⟩, ?_, ?_⟩
    · exact (x3.trans u3).trans (hb2.os.trans hb1.os)
    · exact (x4.trans u4).trans (hb2.tape.trans hb1.tape)
    · exact (x5.trans u5).trans (hb2.output.trans hb1.output)
    · exact (x1 k (by omega)).trans ((u1 k (by omega)).trans ((hb2.block k (by omega)).trans (hb1.block k hk)))
    · rw [hz]
      refine ⟨hdy.1, hdy.2.1, ?_⟩
      rcases hdy.2.2 with h0 | ⟨b, o, h1, h2⟩
      · exact .inl h0
      · rcases hgy with h0 | ⟨g, cur, e1, e2, e3, e4⟩
        · exact .inl h0
        · rw [e1] at h1
          obtain ⟨rfl, rfl⟩ : g = b ∧ 0 = o := by simpa using h1
          refine .inr ⟨g, 0, e1, fun i hi => ?_⟩
          exact (World.cell?_of_block (w := w1) (a := ⟨g, 0 + i, none⟩) ((x1 g (by omega)).trans (u1 g (by omega)))).trans (h2 i hi)
    · rw [hz]
      rcases hgy with h0 | ⟨g, cur, e1, e2, e3, e4⟩
      · exact .inl h0
      · exact .inr ⟨g, cur, e1, by omega, ((x1 g (by omega)).trans (u1 g (by omega))).trans e3⟩
  have HF := Lib.hid (And.intro hfin (And.intro hX1 (And.intro hz hy)))
  have HUX := Lib.hid (And.intro hU hX)
  clear hfin hX1 hz hy u1 u2 u3 u4 u5 x1 x2 x3 x4 x5 hU0 hU1 hx0 hx1 hx2 hx3 hgy hdy hb1 hb2 hC hU hX
  go_upto_region 2 with (refine wpList_store_mid rfl 40 _ _ rfl w.heap.size 0 y.cells rfl rfl hth0 hin hone ?_)
  rw [setCells_all, ← HUX.out.1]
  clear hth0 hin hone hr0 hi0
  go_wp2_with (first | (refine wpList_load_mid rfl 42 _ rfl w.heap.size 0 rfl z.cs _ hr1 Tryz.underlying42 rfl info_job ?_) | (refine wpList_store_mid rfl 42 _ _ rfl (w.heap.size + 1) 0 z.cs.toArray rfl rfl hth1 info_job hone1 ?_))
  rw [setCells_all, ← HUX.out.2]
  obtain ⟨⟨f1, f2, f3⟩, hX1, hz, hy⟩ := HF.out
  refine bodyPost_ret (v := .agg z.cs.toArray) ?_ rfl ?_
  · rw [results_c1 rfl]
    exact run_loadVar_mid X (w.heap.size + 1) 0 42 z.cs _ (range_of hX1) Tryz.underlying42 rfl info_job
  · exact ⟨z, rfl, ⟨by rw [hz]; exact hy, by rw [hz]⟩, f1, f2, f3⟩
end Go.Proofs.YtcodjknhnhdkfaaGreatDoor.Im
namespace Go.Proofs.YtcodjknhnhdkfaaGreatDoor.Im
open Go.RowKit Go.Lib Wn Rf By Cm
set_option linter.unusedVariables false
set_option maxRecDepth 20000
set_option maxHeartbeats 2000000 in
theorem put_sT (B pb : Nat) (a : Option Addr) (n c : Nat) (xs : List ByteArray) (bs : List UInt8) (w : World) (hd : Da Value.string w a n xs) (ha : 0 < n → ∀ b o, a = some ⟨b, o, none⟩ → ∃ cur, w.heap[b]? = some (.cells cur 9 (0, 0))) (hx : ∀ x ∈ xs, x.size ≤ 1000000000) (hpb : pb < B) (hB : B ≤ w.heap.size) (hw : Wr B w pb bs)
    (hlen : bs.length + (xs.flatMap textB).length ≤ 1000000000) (hn : n ≤ 1000000000) :
    Calls Tryz.prog 63 #[.pointer (some ⟨pb, 0, none⟩), .slice a n c, .func (.func 49) #[] #[]] w (Put1 B pb (bs ++ (uvarint n ++ xs.flatMap textB)) w) := by
  have hmf : ∀ (fn : Fn) (first cap : Array Value) (w : World), (Instr.makeFunc fn first cap).run Tryz.prog w = .ok (.func fn first cap) w := fun _ _ _ _ => rfl
  have hu : U64 n := by unfold U64; omega
  have hul := uvarint_length64 hu
  obtain ⟨v0, hp0, hown0⟩ := id hw
  obtain ⟨ao, cp, hao⟩ := own_shape hown0
  subst hao
  have hc0 := cell_of_one hp0
  have hsz := lt_of_block hp0
  obtain ⟨V, hV⟩ : ∃ V, V = (w.alloc (.cells #[.pointer (some ⟨pb, 0, none⟩)] 47)).alloc (.cells #[.int .i64 bs.length] 3) := ⟨_, rfl⟩
  have hb : Below w.heap.size w V := by rw [hV]; exact ((Below.refl _ _).alloc (Nat.le_refl _) _).alloc (by simp) _
  have h3 : V.heap[w.heap.size]? = some (.cells #[.pointer (some ⟨pb, 0, none⟩)] 47 (0, 0)) := by rw [hV]; exact ((Below.refl (w.heap.size + 1) _).alloc (by simp) _ |>.block _ (by omega)).trans (heap_alloc_new w _)
  have hsV : V.heap.size = w.heap.size + 2 := by rw [hV]; simp
  have hwV : Wr B V pb bs := hw.below hb hsz (fun k hk => hk)
  have hat : n = 0 ∨ ∃ b o, a = some ⟨b, o, none⟩ ∧ b < V.heap.size ∧ b ≠ pb ∧ (∃ cur, V.heap[b]? = some (.cells cur 9 (0, 0))) ∧ ∀ i (h : i < xs.length), V.cell? ⟨b, o + i, none⟩ = some (Value.string xs[i]) := by
    rcases hd.2.2 with h0 | ⟨b, o, h1, h2⟩
    · exact .inl h0
    · by_cases h0 : n = 0
      · exact .inl h0
      · obtain ⟨cur, hcur⟩ := ha (by omega) b o h1
        have hcV := (hb.block b (lt_of_block hcur)).trans hcur
        refine .inr ⟨b, o, h1, lt_of_block hcV, ?_, ⟨cur, hcV⟩, fun i hi => (hb.cell (World.block_lt_of_cell? w _ (h2 i hi))).trans (h2 i hi)⟩
        rintro rfl
        rw [hp0] at hcur
        simp at hcur
  have H0 := Lib.hid (num_w B pb n bs V hu hpb (by omega) hwV (by omega))
  have HF0 : Fr B pb w V := Fr.ofBelow hb hB
  have HX := Lib.hid (And.intro hat (And.intro hx (And.intro hd.1 (And.intro HF0 (And.intro hb (And.intro h3 hsV))))))
  clear hat hd hwV hp0 hown0 hw hb HF0 h3
  have hwr : IntKind.u64.wrap (n : Int) = n := by rw [IntKind.wrap_u64]; omega
  go_enter_defers Tryz.func63, Tryz.ntmps63
  go_wp2_with fail
  rw [← hV]
  have HV := Lib.hid hV
  clear hV
  refine H0.out.mono ?_
  rintro e w1 ⟨rfl, hw1, hf1⟩
  have hlt1 := hf1.size
  have b3 : w1.heap[w.heap.size]? = some (.cells #[.pointer (some ⟨pb, 0, none⟩)] 47 (0, 0)) := by
    rw [hf1.more w.heap.size (by omega) (by omega) (fun cur q => by rw [HX.out.2.2.2.2.2.1] at q; simp at q)]
    exact HX.out.2.2.2.2.2.1
  have H1 := Lib.hid (And.intro hw1 hf1)
  clear hw1 hf1 hlt1 b3 H0
  go_wp2_with fail
  go_loopw [24] (fun s24 wr => ∃ k : Nat, s24 = .int .i64 k ∧ k ≤ n ∧ Wr B wr pb (bs ++ (uvarint n ++ (xs.take k).flatMap textB)) ∧ Fr B pb V wr) (fun s24 _ => n - (RowKit.intOf s24).toNat)
  case atStart => exact ⟨0, rfl, Nat.zero_le _, by simpa using H1.out.1, H1.out.2⟩
  case round =>
    obtain ⟨k, rfl, hk, hwk, hfk⟩ := hrel
    have hB' : B ≤ wr.heap.size := by have := hfk.size; omega
    have b3 : wr.heap[w.heap.size]? = some (.cells #[.pointer (some ⟨pb, 0, none⟩)] 47 (0, 0)) := by
      rw [hfk.more w.heap.size (by omega) (by omega) (fun cur q => by rw [HX.out.2.2.2.2.2.1] at q; simp at q)]
      exact HX.out.2.2.2.2.2.1
    have c3 := cell_of_one b3
    clear b3
    by_cases hlt : k < n
    · have hkl : k < xs.length := by rw [HX.out.2.2.1]; exact hlt
      rcases HX.out.1 with h0 | ⟨b, o, rfl, hbB, hbp, ⟨curb, hcurb⟩, hcell⟩
      · omega
      obtain ⟨x, hx'⟩ : ∃ x, x = xs[k] := ⟨_, rfl⟩
      have hc : wr.cell? ⟨b, o + k, none⟩ = some (.string x) := by rw [World.cell?_of_block (w := V) (a := ⟨b, o + k, none⟩) (hfk.more b hbB hbp (by rw [hcurb]; intro cur q; simp at q)), hcell k hkl, hx']
      have hxk := HX.out.2.1 x (by rw [hx']; exact List.getElem_mem _)
      have hlk : (bs ++ (uvarint n ++ (xs.take k).flatMap textB)).length ≤ 10000000000 := by
        have := flat_take textB xs k
        simp only [List.length_append]
        omega
      have HE := Lib.hid (text_w B pb x _ wr hxk hpb hB' hwk hlk)
      have HK := Lib.hid (And.intro hfk (And.intro hx' hcell))
      clear hwk hlk hfk hxk hx' hcell hB'
      go_wp2_with fail
      refine HE.out.mono ?_
      rintro e w2 ⟨rfl, hw2, hf2⟩
      have H2 := Lib.hid (And.intro hw2 hf2)
      clear hw2 hf2 HE
      go_wp2_with fail
      go_roundw
      case rel =>
        refine ⟨k + 1, rfl, hlt, ?_, HK.out.1.trans H2.out.2⟩
        rw [flat_succ textB hkl, ← List.append_assoc (uvarint n), ← List.append_assoc bs, ← HK.out.2.1]
        exact H2.out.1
      case measure => simp only [RowKit.intOf]; omega
    · have hkn : k = n := by omega
      subst hkn
      have hto : xs.take k = xs := by rw [List.take_of_length_le]; have := HX.out.2.2.1; omega
      rw [hto] at hwk
      have HZ := Lib.hid (And.intro hwk (HX.out.2.2.2.1.trans hfk))
      clear hwk hfk
      go_wp2_with fail
      refine leaves_cons (f := 80) (args := #[.pointer (some ⟨w.heap.size, 0, none⟩), .pointer (some ⟨w.heap.size + 1, 0, none⟩)]) (by simp) (by simp [go_sem]) ?_
      refine (putSF_idle ⟨w.heap.size, 0, none⟩ ⟨w.heap.size + 1, 0, none⟩ _).mono ?_
      rintro e u' w'' ⟨rfl, rfl, rfl⟩
      simp [Leaves, settle, results, Tryz.results63, go_sem]
      exact ⟨rfl, HZ.out⟩
set_option maxHeartbeats 4000000 in
theorem spPutT (B pb : Nat) (x : Sp.Spc) (M0 : List UInt8) (w : World) (hd : Sp.Dp w x.a x.n x.ds) (ha : 0 < x.n → ∀ b o, x.a = some ⟨b, o, none⟩ → ∃ cur, w.heap[b]? = some (.cells cur 9 (0, 0))) (hwf : x.wf) (hm : x.med) (hpb : pb < B) (hB : B ≤ w.heap.size) (hw : Wr B w pb M0) (hlen : M0.length ≤ 1000000) :
    Calls Tryz.prog 48 #[.pointer (some ⟨pb, 0, none⟩), .agg x.cells] w (Put1 B pb (M0 ++ Sp.specB x) w) := by
  have hres : M0 ++ Sp.specB x = M0 ++ textB x.nm ++ textB x.tn ++ Sp.zz x.pr ++ Sp.zz x.dl ++ (uvarint x.n ++ x.ds.flatMap textB) ++ Sp.zz x.bs ++ Sp.zz x.cp ++ Sp.zz x.at' ++ Sp.zz x.ls ++ textB x.cr ++ Sp.zz x.ct := by
    unfold Sp.specB Sp.headB Sp.tailB Sp.rowB
    simp only [List.append_assoc]
  rw [hres]
  clear hres
  obtain ⟨nm, tn, pr, dl, a, n, c, ds, bs, cp, at', ls, cr, ct⟩ := x
  obtain ⟨w2, w3, w5, w6, w7, w8, w10⟩ := hwf
  obtain ⟨fd, f0, f1, fn, f9, fr⟩ := hm
  simp only at hd ha w2 w3 w5 w6 w7 w8 w10 fd f0 f1 fn f9 fr ⊢
  obtain ⟨V, hV⟩ : ∃ V, V = w.alloc (.cells #[.string nm, .string tn, .int .i64 pr, .int .i64 dl, .slice a n c, .int .i64 bs, .int .i64 cp, .int .i64 at', .int .i64 ls, .string cr, .int .i64 ct] 40) := ⟨_, rfl⟩
  have hb : Below w.heap.size w V := by rw [hV]; exact (Below.refl _ w).alloc (Nat.le_refl _) _
  have hs : V.heap.size = w.heap.size + 1 := by rw [hV]; simp
  have hx0 : V.heap[w.heap.size]? = some (.cells #[.string nm, .string tn, .int .i64 pr, .int .i64 dl, .slice a n c, .int .i64 bs, .int .i64 cp, .int .i64 at', .int .i64 ls, .string cr, .int .i64 ct] 40 (0, 0)) := by rw [hV]; exact heap_alloc_new w _
  have hpw : pb < w.heap.size := by omega
  have hw0 : Wr B V pb M0 := hw.below hb hpw (fun k hk => hk)
  have hF0 : Fr B pb w V := Fr.ofBelow hb hB
  have hu : U64 n := by unfold U64; omega
  have hul := uvarint_length64 hu
  have hul2 : (uvarint n).length ≤ 10 := hul
  have hrow : (ds.flatMap textB).length ≤ 20000 := fr
  have hdV : Da Value.string V a n ds := Sp.Dp.old hd hb
  have haV : 0 < n → ∀ b o, a = some ⟨b, o, none⟩ → ∃ cur, V.heap[b]? = some (.cells cur 9 (0, 0)) := fun h0 b o e => by
    obtain ⟨cur, hc⟩ := ha h0 b o e
    exact ⟨cur, (hb.block b (lt_of_block hc)).trans hc⟩
  have HD := Lib.hid (And.intro hdV (And.intro haV fd))
  clear hd hb ha haV fd hdV hw fr hul hu
  unfold Sp.Spc.cells
  simp only
  have q0 := Lib.hid (show ∀ d ∈ ds, d.size ≤ 1000000000 from fun d hd => by have := HD.out.2.2 d hd; omega)
  have p0 := Lib.hid hw0
  have r0 := Lib.hid hF0
  have S0 := Lib.hid (show B ≤ V.heap.size by omega)
  clear hw0 hF0
  go_enter Tryz.func48, Tryz.ntmps48
  have HC0 := Lib.hid (text_w B pb nm M0 V (by omega) hpb S0.out p0.out (by omega))
  obtain ⟨⟨l0, l1, l2, l3, l4, l5, l6, l7, l8, l9, l10⟩, _⟩ := Sp.eleven hx0
  go_wp2_with fail
  rw [← hV]
  have HV := Lib.hid hV
  clear hV
  refine HC0.out.mono ?_
  rintro e W1 ⟨rfl, hw1, hf1⟩
  obtain ⟨M1, hM1⟩ : ∃ M, M = M0 ++ textB nm := ⟨_, rfl⟩
  rw [← hM1] at hw1
  have g1 : M1.length ≤ 1001010 := by
    rw [hM1, List.length_append]
    have := Sp.text_lenm (s := nm) (by omega)
    omega
  have hx1 := old_fr hf1 hx0 (by decide) (by omega)
  have r1 := Lib.hid (r0.out.trans hf1)
  have r0V_0 := Lib.hid (hf1)
  have S1 := Lib.hid (show B ≤ W1.heap.size from Nat.le_trans S0.out hf1.size)
  have p1 := Lib.hid hw1
  have E1 := Lib.hid hM1
  clear hw1 hf1 hM1 hx0 HC0 l0 l1 l2 l3 l4 l5 l6 l7 l8 l9 l10
  have HC1 := Lib.hid (text_w B pb tn M1 W1 (by omega) hpb S1.out p1.out (by omega))
  obtain ⟨⟨l0, l1, l2, l3, l4, l5, l6, l7, l8, l9, l10⟩, _⟩ := Sp.eleven hx1
  go_wp2_with fail
  refine HC1.out.mono ?_
  rintro e W2 ⟨rfl, hw2, hf2⟩
  obtain ⟨M2, hM2⟩ : ∃ M, M = M1 ++ textB tn := ⟨_, rfl⟩
  rw [← hM2] at hw2
  have g2 : M2.length ≤ 1002020 := by
    rw [hM2, List.length_append]
    have := Sp.text_lenm (s := tn) (by omega)
    omega
  have hx2 := old_fr hf2 hx1 (by decide) (by omega)
  have r2 := Lib.hid (r1.out.trans hf2)
  have r0V_1 := Lib.hid (r0V_0.out.trans hf2)
  have S2 := Lib.hid (show B ≤ W2.heap.size from Nat.le_trans S1.out hf2.size)
  have p2 := Lib.hid hw2
  have E2 := Lib.hid hM2
  clear hw2 hf2 hM2 hx1 HC1 l0 l1 l2 l3 l4 l5 l6 l7 l8 l9 l10
  have HC2 := Lib.hid (int_w B pb pr M2 W2 w2 hpb S2.out p2.out (by omega))
  obtain ⟨⟨l0, l1, l2, l3, l4, l5, l6, l7, l8, l9, l10⟩, _⟩ := Sp.eleven hx2
  go_wp2_with fail
  refine HC2.out.mono ?_
  rintro e W3 ⟨rfl, hw3, hf3⟩
  obtain ⟨M3, hM3⟩ : ∃ M, M = M2 ++ Sp.zz pr := ⟨_, rfl⟩
  rw [← hM3] at hw3
  have g3 : M3.length ≤ 1002030 := by
    rw [hM3, List.length_append]
    have := Sp.zz_len w2
    omega
  have hx3 := old_fr hf3 hx2 (by decide) (by omega)
  have r3 := Lib.hid (r2.out.trans hf3)
  have r0V_2 := Lib.hid (r0V_1.out.trans hf3)
  have S3 := Lib.hid (show B ≤ W3.heap.size from Nat.le_trans S2.out hf3.size)
  have p3 := Lib.hid hw3
  have E3 := Lib.hid hM3
  clear hw3 hf3 hM3 hx2 HC2 l0 l1 l2 l3 l4 l5 l6 l7 l8 l9 l10
  have HC3 := Lib.hid (int_w B pb dl M3 W3 w3 hpb S3.out p3.out (by omega))
  obtain ⟨⟨l0, l1, l2, l3, l4, l5, l6, l7, l8, l9, l10⟩, _⟩ := Sp.eleven hx3
  go_wp2_with fail
  refine HC3.out.mono ?_
  rintro e W4 ⟨rfl, hw4, hf4⟩
  obtain ⟨M4, hM4⟩ : ∃ M, M = M3 ++ Sp.zz dl := ⟨_, rfl⟩
  rw [← hM4] at hw4
  have g4 : M4.length ≤ 1002040 := by
    rw [hM4, List.length_append]
    have := Sp.zz_len w3
    omega
  have hx4 := old_fr hf4 hx3 (by decide) (by omega)
  have r4 := Lib.hid (r3.out.trans hf4)
  have r0V := Lib.hid (r0V_2.out.trans hf4)
  have S4 := Lib.hid (show B ≤ W4.heap.size from Nat.le_trans S3.out hf4.size)
  have p4 := Lib.hid hw4
  have E4 := Lib.hid hM4
  clear hw4 hf4 hM4 hx3 HC3 l0 l1 l2 l3 l4 l5 l6 l7 l8 l9 l10
  have N4 : ∀ b cur, V.heap[b]? = some (Obj.cells cur 9 (0, 0)) → W4.heap[b]? = V.heap[b]? := fun b cur hc => r0V.out.more b (lt_of_block hc) (by
    rintro rfl
    obtain ⟨v, hp, _⟩ := p0.out
    rw [hp] at hc
    simp at hc) (by rw [hc]; intro cur q; simp at q)
  have T4 : 0 < n → ∀ b o, a = some ⟨b, o, none⟩ → ∃ cur, W4.heap[b]? = some (.cells cur 9 (0, 0)) := fun h0 b o e => by
    obtain ⟨cur, hc⟩ := HD.out.2.1 h0 b o e
    exact ⟨cur, (N4 b cur hc).trans hc⟩
  have D4 : Da Value.string W4 a n ds := by
    refine ⟨HD.out.1.1, HD.out.1.2.1, ?_⟩
    rcases HD.out.1.2.2 with h0 | ⟨b, o, h1, h2⟩
    · exact .inl h0
    · by_cases h0 : n = 0
      · exact .inl h0
      · refine .inr ⟨b, o, h1, fun i hi => ?_⟩
        obtain ⟨cur, hc⟩ := HD.out.2.1 (by omega) b o h1
        rw [World.cell?_of_block (w := V) (a := ⟨b, o + i, none⟩) (N4 b cur hc)]
        exact h2 i hi
  have HC4 := Lib.hid (put_sT B pb a n c ds M4 W4 D4 T4 q0.out hpb S4.out p4.out (by omega) (by omega))
  obtain ⟨⟨l0, l1, l2, l3, l4, l5, l6, l7, l8, l9, l10⟩, _⟩ := Sp.eleven hx4
  go_wp2_with fail
  refine HC4.out.mono ?_
  rintro e W5 ⟨rfl, hw5, hf5⟩
  obtain ⟨M5, hM5⟩ : ∃ M, M = M4 ++ (uvarint n ++ ds.flatMap textB) := ⟨_, rfl⟩
  rw [← hM5] at hw5
  have g5 : M5.length ≤ 1022050 := by
    rw [hM5, List.length_append]
    have : (uvarint n ++ ds.flatMap textB).length ≤ 20010 := by rw [List.length_append]; omega
    omega
  have hx5 := old_fr hf5 hx4 (by decide) (by omega)
  have r5 := Lib.hid (r4.out.trans hf5)
  have S5 := Lib.hid (show B ≤ W5.heap.size from Nat.le_trans S4.out hf5.size)
  have p5 := Lib.hid hw5
  have E5 := Lib.hid hM5
  clear hw5 hf5 hM5 hx4 HC4 l0 l1 l2 l3 l4 l5 l6 l7 l8 l9 l10
  have HC5 := Lib.hid (int_w B pb bs M5 W5 w5 hpb S5.out p5.out (by omega))
  obtain ⟨⟨l0, l1, l2, l3, l4, l5, l6, l7, l8, l9, l10⟩, _⟩ := Sp.eleven hx5
  go_wp2_with fail
  refine HC5.out.mono ?_
  rintro e W6 ⟨rfl, hw6, hf6⟩
  obtain ⟨M6, hM6⟩ : ∃ M, M = M5 ++ Sp.zz bs := ⟨_, rfl⟩
  rw [← hM6] at hw6
  have g6 : M6.length ≤ 1022060 := by
    rw [hM6, List.length_append]
    have := Sp.zz_len w5
    omega
  have hx6 := old_fr hf6 hx5 (by decide) (by omega)
  have r6 := Lib.hid (r5.out.trans hf6)
  have S6 := Lib.hid (show B ≤ W6.heap.size from Nat.le_trans S5.out hf6.size)
  have p6 := Lib.hid hw6
  have E6 := Lib.hid hM6
  clear hw6 hf6 hM6 hx5 HC5 l0 l1 l2 l3 l4 l5 l6 l7 l8 l9 l10
  have HC6 := Lib.hid (int_w B pb cp M6 W6 w6 hpb S6.out p6.out (by omega))
  obtain ⟨⟨l0, l1, l2, l3, l4, l5, l6, l7, l8, l9, l10⟩, _⟩ := Sp.eleven hx6
  go_wp2_with fail
  refine HC6.out.mono ?_
  rintro e W7 ⟨rfl, hw7, hf7⟩
  obtain ⟨M7, hM7⟩ : ∃ M, M = M6 ++ Sp.zz cp := ⟨_, rfl⟩
  rw [← hM7] at hw7
  have g7 : M7.length ≤ 1022070 := by
    rw [hM7, List.length_append]
    have := Sp.zz_len w6
    omega
  have hx7 := old_fr hf7 hx6 (by decide) (by omega)
  have r7 := Lib.hid (r6.out.trans hf7)
  have S7 := Lib.hid (show B ≤ W7.heap.size from Nat.le_trans S6.out hf7.size)
  have p7 := Lib.hid hw7
  have E7 := Lib.hid hM7
  clear hw7 hf7 hM7 hx6 HC6 l0 l1 l2 l3 l4 l5 l6 l7 l8 l9 l10
  have HC7 := Lib.hid (int_w B pb at' M7 W7 w7 hpb S7.out p7.out (by omega))
  obtain ⟨⟨l0, l1, l2, l3, l4, l5, l6, l7, l8, l9, l10⟩, _⟩ := Sp.eleven hx7
  go_wp2_with fail
  refine HC7.out.mono ?_
  rintro e W8 ⟨rfl, hw8, hf8⟩
  obtain ⟨M8, hM8⟩ : ∃ M, M = M7 ++ Sp.zz at' := ⟨_, rfl⟩
  rw [← hM8] at hw8
  have g8 : M8.length ≤ 1022080 := by
    rw [hM8, List.length_append]
    have := Sp.zz_len w7
    omega
  have hx8 := old_fr hf8 hx7 (by decide) (by omega)
  have r8 := Lib.hid (r7.out.trans hf8)
  have S8 := Lib.hid (show B ≤ W8.heap.size from Nat.le_trans S7.out hf8.size)
  have p8 := Lib.hid hw8
  have E8 := Lib.hid hM8
  clear hw8 hf8 hM8 hx7 HC7 l0 l1 l2 l3 l4 l5 l6 l7 l8 l9 l10
  have HC8 := Lib.hid (int_w B pb ls M8 W8 w8 hpb S8.out p8.out (by omega))
  obtain ⟨⟨l0, l1, l2, l3, l4, l5, l6, l7, l8, l9, l10⟩, _⟩ := Sp.eleven hx8
  go_wp2_with fail
  refine HC8.out.mono ?_
  rintro e W9 ⟨rfl, hw9, hf9⟩
  obtain ⟨M9, hM9⟩ : ∃ M, M = M8 ++ Sp.zz ls := ⟨_, rfl⟩
  rw [← hM9] at hw9
  have g9 : M9.length ≤ 1022090 := by
    rw [hM9, List.length_append]
    have := Sp.zz_len w8
    omega
  have hx9 := old_fr hf9 hx8 (by decide) (by omega)
  have r9 := Lib.hid (r8.out.trans hf9)
  have S9 := Lib.hid (show B ≤ W9.heap.size from Nat.le_trans S8.out hf9.size)
  have p9 := Lib.hid hw9
  have E9 := Lib.hid hM9
  clear hw9 hf9 hM9 hx8 HC8 l0 l1 l2 l3 l4 l5 l6 l7 l8 l9 l10
  have HC9 := Lib.hid (text_w B pb cr M9 W9 (by omega) hpb S9.out p9.out (by omega))
  obtain ⟨⟨l0, l1, l2, l3, l4, l5, l6, l7, l8, l9, l10⟩, _⟩ := Sp.eleven hx9
  go_wp2_with fail
  refine HC9.out.mono ?_
  rintro e W10 ⟨rfl, hw10, hf10⟩
  obtain ⟨M10, hM10⟩ : ∃ M, M = M9 ++ textB cr := ⟨_, rfl⟩
  rw [← hM10] at hw10
  have g10 : M10.length ≤ 1023100 := by
    rw [hM10, List.length_append]
    have := Sp.text_lenm (s := cr) (by omega)
    omega
  have hx10 := old_fr hf10 hx9 (by decide) (by omega)
  have r10 := Lib.hid (r9.out.trans hf10)
  have S10 := Lib.hid (show B ≤ W10.heap.size from Nat.le_trans S9.out hf10.size)
  have p10 := Lib.hid hw10
  have E10 := Lib.hid hM10
  clear hw10 hf10 hM10 hx9 HC9 l0 l1 l2 l3 l4 l5 l6 l7 l8 l9 l10
  have HC10 := Lib.hid (int_w B pb ct M10 W10 w10 hpb S10.out p10.out (by omega))
  obtain ⟨⟨l0, l1, l2, l3, l4, l5, l6, l7, l8, l9, l10⟩, _⟩ := Sp.eleven hx10
  go_wp2_with fail
  refine HC10.out.mono ?_
  rintro e W11 ⟨rfl, hw11, hf11⟩
  obtain ⟨M11, hM11⟩ : ∃ M, M = M10 ++ Sp.zz ct := ⟨_, rfl⟩
  rw [← hM11] at hw11
  have g11 : M11.length ≤ 1023110 := by
    rw [hM11, List.length_append]
    have := Sp.zz_len w10
    omega
  have hx11 := old_fr hf11 hx10 (by decide) (by omega)
  have r11 := Lib.hid (r10.out.trans hf11)
  have S11 := Lib.hid (show B ≤ W11.heap.size from Nat.le_trans S10.out hf11.size)
  have p11 := Lib.hid hw11
  have E11 := Lib.hid hM11
  clear hw11 hf11 hM11 hx10 HC10 l0 l1 l2 l3 l4 l5 l6 l7 l8 l9 l10
  go_wp2_with fail
  go_end0
  refine ⟨rfl, ?_, r11.out⟩
  rw [← E1.out, ← E2.out, ← E3.out, ← E4.out, ← E5.out, ← E6.out, ← E7.out, ← E8.out, ← E9.out, ← E10.out, ← E11.out]
  exact p11.out
end Go.Proofs.YtcodjknhnhdkfaaGreatDoor.Im
namespace Go.Proofs.YtcodjknhnhdkfaaGreatDoor.Im
open Go.RowKit Go.Lib Wn Rf By Cm
set_option linter.unusedVariables false
set_option maxRecDepth 20000
theorem spec_len (x : Sp.Spc) (hwf : x.wf) (hm : x.med) : (Sp.specB x).length ≤ 25000 := by
  obtain ⟨nm, tn, pr, dl, a, n, c, ds, bs, cp, at', ls, cr, ct⟩ := x
  obtain ⟨w2, w3, w5, w6, w7, w8, w10⟩ := hwf
  obtain ⟨fd, f0, f1, fn, f9, fr⟩ := hm
  simp only at w2 w3 w5 w6 w7 w8 w10 fd f0 f1 fn f9 fr
  have hu : U64 n := by unfold U64; omega
  have hul : (uvarint n).length ≤ 10 := uvarint_length64 hu
  unfold Sp.specB Sp.headB Sp.tailB
  simp only [List.length_append]
  have a0 := Sp.text_lenm (s := nm) (by omega)
  have a1 := Sp.text_lenm (s := tn) (by omega)
  have a9 := Sp.text_lenm (s := cr) (by omega)
  have b2 := Sp.zz_len w2
  have b3 := Sp.zz_len w3
  have b5 := Sp.zz_len w5
  have b6 := Sp.zz_len w6
  have b7 := Sp.zz_len w7
  have b8 := Sp.zz_len w8
  have b10 := Sp.zz_len w10
  omega
theorem job_len (j : Jb) (hwf : j.wf) (hm : j.med) : (jobB j).length ≤ 27000 := by
  have h1 := spec_len j.sp hwf.1 hm.1
  obtain ⟨_, w1, w2, w3, w4, w5, w6, w7, w8, w9⟩ := hwf
  unfold jobB restB
  simp only [List.length_append]
  have a5 := Sp.text_lenm (s := j.wk) hm.2
  have b1 := Sp.zz_len w1
  have b2 := Sp.zz_len w2
  have b3 : (uvarint j.tk).length ≤ 10 := uvarint_length64 w3
  have b4 := Sp.zz_len w4
  have b5 := Sp.zz_len w5
  have b6 : (uvarint j.od).length ≤ 10 := uvarint_length64 w6
  have b7 := Sp.zz_len w7
  have b8 := Sp.zz_len w8
  have b9 := Sp.zz_len w9
  omega
set_option maxHeartbeats 4000000 in
theorem putJob_any (B pb : Nat) (j : Jb) (M0 : List UInt8) (w : World) (hd : Jd w j) (ha : Typed w j) (hwf : j.wf) (hm : j.med) (hpb : pb < B) (hB : B ≤ w.heap.size) (hw : Wr B w pb M0) (hlen : M0.length ≤ 500000) :
    Calls Tryz.prog 24 #[.pointer (some ⟨pb, 0, none⟩), .agg j.cs.toArray] w (Put1 B pb (M0 ++ jobB j) w) := by
  have hres : M0 ++ jobB j = M0 ++ Sp.specB j.sp ++ Sp.zz j.st ++ Sp.zz j.du ++ uvarint j.tk ++ Sp.zz j.fl ++ Sp.zz j.rs ++ textB j.wk ++ uvarint j.od ++ Sp.zz j.cr ++ Sp.zz j.rn ++ Sp.zz j.ms := by
    unfold jobB restB
    simp only [List.append_assoc]
  rw [hres]
  clear hres
  obtain ⟨C, hC⟩ : ∃ C, C = j.cs.toArray := ⟨_, rfl⟩
  rw [← hC]
  obtain ⟨V, hV⟩ : ∃ V, V = w.alloc (.cells C 42) := ⟨_, rfl⟩
  have hb : Below w.heap.size w V := by rw [hV]; exact (Below.refl _ w).alloc (Nat.le_refl _) _
  have hs : V.heap.size = w.heap.size + 1 := by rw [hV]; simp
  have hx0 : V.heap[w.heap.size]? = some (.cells C 42 (0, 0)) := by rw [hV]; exact heap_alloc_new w _
  have hpw : pb < w.heap.size := by omega
  have hw0 : Wr B V pb M0 := hw.below hb hpw (fun k hk => hk)
  have hF0 : Fr B pb w V := Fr.ofBelow hb hB
  have hdV : Sp.Dp V j.sp.a j.sp.n j.sp.ds := hd.old hb
  have HC := Lib.hid (spPutT B pb j.sp M0 V hdV (ha.old hb) hwf.1 hm.1 hpb (by omega) hw0 (by omega))
  have hr0 : V.rangeAt w.heap.size 0 j.sp.cells.toList := fun i v hv => by
    have hi : i < j.sp.cells.toList.length := (List.getElem?_eq_some_iff.1 hv).1
    rw [cell_of_row V _ _ _ _ _ hx0, Nat.zero_add, hC]
    simp only [Jb.cs, List.getElem?_toArray]
    rw [List.getElem?_append_left hi]
    exact hv
  have hi0 : (Tryz.prog.info? 40).map (·.size) = some j.sp.cells.toList.length := info_spec21
  have hbo := run_box
  have hsl := spec_len j.sp hwf.1 hm.1
  obtain ⟨_, w1, w2, w3, w4, w5, w6, w7, w8, w9⟩ := hwf
  have hwk := hm.2
  have K := Lib.hid (And.intro hC (And.intro hF0 (And.intro hx0 (And.intro hs (And.intro hpb hB)))))
  clear hb hs hx0 hw0 hF0 hdV hd ha hm hw hC hB hpb
  go_enter Tryz.func24, Tryz.ntmps24
  go_upto_region 1 with fail
  rw [← hV]
  have HV := Lib.hid hV
  clear hV
  go_wp2_with (refine wpList_load_mid rfl 40 _ rfl w.heap.size 0 rfl j.sp.cells.toList _ hr0 Tryz.underlying40 rfl hi0 ?_)
  refine HC.out.mono ?_
  rintro e W0 ⟨rfl, hw1, hf1⟩
  clear HC hr0 hi0
  obtain ⟨hC, hF0, hx0, hs, hpb, hB⟩ := K.out
  obtain ⟨M1, hM1⟩ : ∃ M, M = M0 ++ Sp.specB j.sp := ⟨_, rfl⟩
  rw [← hM1] at hw1
  have g0 : M1.length ≤ 525000 := by rw [hM1, List.length_append]; omega
  have hx := old_fr hf1 hx0 (by decide) (by omega)
  have R0 := Lib.hid (And.intro (hF0.trans hf1) (And.intro hx (And.intro hw1 (And.intro hM1 (show B ≤ W0.heap.size by have := hf1.size; omega)))))
  clear hC hF0 hx0 hw1 hf1 hM1 hx hs hpb hB
  have HC0 := Lib.hid (int_w B pb j.st M1 W0 w1 K.out.2.2.2.2.1 R0.out.2.2.2.2 R0.out.2.2.1 (by omega))
  have c0 := (cellj R0.out.2.1 (i := 11) (v := .int .i64 j.st) (by rw [K.out.1]; rfl)).1
  go_wp2_with fail
  refine HC0.out.mono ?_
  rintro e W1 ⟨rfl, hw1, hf1⟩
  clear HC0 c0
  obtain ⟨M2, hM1⟩ : ∃ M, M = M1 ++ Sp.zz j.st := ⟨_, rfl⟩
  rw [← hM1] at hw1
  have g1 : M2.length ≤ 525010 := by
    rw [hM1, List.length_append]
    have := Sp.zz_len w1
    omega
  have hx := old_fr hf1 R0.out.2.1 (by decide) (by have := K.out.2.2.2.2.1; have := K.out.2.2.2.2.2; omega)
  have R1 := Lib.hid (And.intro (R0.out.1.trans hf1) (And.intro hx (And.intro hw1 (And.intro hM1 (show B ≤ W1.heap.size by have := hf1.size; have := R0.out.2.2.2.2; omega)))))
  clear hw1 hf1 hM1 hx
  have HC1 := Lib.hid (int_w B pb j.du M2 W1 w2 K.out.2.2.2.2.1 R1.out.2.2.2.2 R1.out.2.2.1 (by omega))
  have c1 := (cellj R1.out.2.1 (i := 12) (v := .int .i64 j.du) (by rw [K.out.1]; rfl)).1
  go_wp2_with fail
  refine HC1.out.mono ?_
  rintro e W2 ⟨rfl, hw1, hf1⟩
  clear HC1 c1
  obtain ⟨M3, hM1⟩ : ∃ M, M = M2 ++ Sp.zz j.du := ⟨_, rfl⟩
  rw [← hM1] at hw1
  have g2 : M3.length ≤ 525020 := by
    rw [hM1, List.length_append]
    have := Sp.zz_len w2
    omega
  have hx := old_fr hf1 R1.out.2.1 (by decide) (by have := K.out.2.2.2.2.1; have := K.out.2.2.2.2.2; omega)
  have R2 := Lib.hid (And.intro (R1.out.1.trans hf1) (And.intro hx (And.intro hw1 (And.intro hM1 (show B ≤ W2.heap.size by have := hf1.size; have := R1.out.2.2.2.2; omega)))))
  clear hw1 hf1 hM1 hx
  have HC2 := Lib.hid (num_w B pb j.tk M3 W2 w3 K.out.2.2.2.2.1 R2.out.2.2.2.2 R2.out.2.2.1 (by omega))
  have c2 := (cellj R2.out.2.1 (i := 13) (v := .int .u64 j.tk) (by rw [K.out.1]; rfl)).1
  go_wp2_with fail
  refine HC2.out.mono ?_
  rintro e W3 ⟨rfl, hw1, hf1⟩
  clear HC2 c2
  obtain ⟨M4, hM1⟩ : ∃ M, M = M3 ++ uvarint j.tk := ⟨_, rfl⟩
  rw [← hM1] at hw1
  have g3 : M4.length ≤ 525030 := by
    rw [hM1, List.length_append]
    have : (uvarint j.tk).length ≤ 10 := uvarint_length64 w3
    omega
  have hx := old_fr hf1 R2.out.2.1 (by decide) (by have := K.out.2.2.2.2.1; have := K.out.2.2.2.2.2; omega)
  have R3 := Lib.hid (And.intro (R2.out.1.trans hf1) (And.intro hx (And.intro hw1 (And.intro hM1 (show B ≤ W3.heap.size by have := hf1.size; have := R2.out.2.2.2.2; omega)))))
  clear hw1 hf1 hM1 hx
  have HC3 := Lib.hid (int_w B pb j.fl M4 W3 w4 K.out.2.2.2.2.1 R3.out.2.2.2.2 R3.out.2.2.1 (by omega))
  have c3 := (cellj R3.out.2.1 (i := 14) (v := .int .i64 j.fl) (by rw [K.out.1]; rfl)).1
  go_wp2_with fail
  refine HC3.out.mono ?_
  rintro e W4 ⟨rfl, hw1, hf1⟩
  clear HC3 c3
  obtain ⟨M5, hM1⟩ : ∃ M, M = M4 ++ Sp.zz j.fl := ⟨_, rfl⟩
  rw [← hM1] at hw1
  have g4 : M5.length ≤ 525040 := by
    rw [hM1, List.length_append]
    have := Sp.zz_len w4
    omega
  have hx := old_fr hf1 R3.out.2.1 (by decide) (by have := K.out.2.2.2.2.1; have := K.out.2.2.2.2.2; omega)
  have R4 := Lib.hid (And.intro (R3.out.1.trans hf1) (And.intro hx (And.intro hw1 (And.intro hM1 (show B ≤ W4.heap.size by have := hf1.size; have := R3.out.2.2.2.2; omega)))))
  clear hw1 hf1 hM1 hx
  have HC4 := Lib.hid (int_w B pb j.rs M5 W4 w5 K.out.2.2.2.2.1 R4.out.2.2.2.2 R4.out.2.2.1 (by omega))
  have c4 := (cellj R4.out.2.1 (i := 15) (v := .int .i64 j.rs) (by rw [K.out.1]; rfl)).1
  go_wp2_with fail
  refine HC4.out.mono ?_
  rintro e W5 ⟨rfl, hw1, hf1⟩
  clear HC4 c4
  obtain ⟨M6, hM1⟩ : ∃ M, M = M5 ++ Sp.zz j.rs := ⟨_, rfl⟩
  rw [← hM1] at hw1
  have g5 : M6.length ≤ 525050 := by
    rw [hM1, List.length_append]
    have := Sp.zz_len w5
    omega
  have hx := old_fr hf1 R4.out.2.1 (by decide) (by have := K.out.2.2.2.2.1; have := K.out.2.2.2.2.2; omega)
  have R5 := Lib.hid (And.intro (R4.out.1.trans hf1) (And.intro hx (And.intro hw1 (And.intro hM1 (show B ≤ W5.heap.size by have := hf1.size; have := R4.out.2.2.2.2; omega)))))
  clear hw1 hf1 hM1 hx
  have HC5 := Lib.hid (text_w B pb j.wk M6 W5 (by omega) K.out.2.2.2.2.1 R5.out.2.2.2.2 R5.out.2.2.1 (by omega))
  have c5 := (cellj R5.out.2.1 (i := 16) (v := .string j.wk) (by rw [K.out.1]; rfl)).1
  go_wp2_with fail
  refine HC5.out.mono ?_
  rintro e W6 ⟨rfl, hw1, hf1⟩
  clear HC5 c5
  obtain ⟨M7, hM1⟩ : ∃ M, M = M6 ++ textB j.wk := ⟨_, rfl⟩
  rw [← hM1] at hw1
  have g6 : M7.length ≤ 526060 := by
    rw [hM1, List.length_append]
    have := Sp.text_lenm (s := j.wk) hwk
    omega
  have hx := old_fr hf1 R5.out.2.1 (by decide) (by have := K.out.2.2.2.2.1; have := K.out.2.2.2.2.2; omega)
  have R6 := Lib.hid (And.intro (R5.out.1.trans hf1) (And.intro hx (And.intro hw1 (And.intro hM1 (show B ≤ W6.heap.size by have := hf1.size; have := R5.out.2.2.2.2; omega)))))
  clear hw1 hf1 hM1 hx
  have HC6 := Lib.hid (num_w B pb j.od M7 W6 w6 K.out.2.2.2.2.1 R6.out.2.2.2.2 R6.out.2.2.1 (by omega))
  have c6 := (cellj R6.out.2.1 (i := 17) (v := .int .u64 j.od) (by rw [K.out.1]; rfl)).1
  go_wp2_with fail
  refine HC6.out.mono ?_
  rintro e W7 ⟨rfl, hw1, hf1⟩
  clear HC6 c6
  obtain ⟨M8, hM1⟩ : ∃ M, M = M7 ++ uvarint j.od := ⟨_, rfl⟩
  rw [← hM1] at hw1
  have g7 : M8.length ≤ 526070 := by
    rw [hM1, List.length_append]
    have : (uvarint j.od).length ≤ 10 := uvarint_length64 w6
    omega
  have hx := old_fr hf1 R6.out.2.1 (by decide) (by have := K.out.2.2.2.2.1; have := K.out.2.2.2.2.2; omega)
  have R7 := Lib.hid (And.intro (R6.out.1.trans hf1) (And.intro hx (And.intro hw1 (And.intro hM1 (show B ≤ W7.heap.size by have := hf1.size; have := R6.out.2.2.2.2; omega)))))
  clear hw1 hf1 hM1 hx
  have HC7 := Lib.hid (int_w B pb j.cr M8 W7 w7 K.out.2.2.2.2.1 R7.out.2.2.2.2 R7.out.2.2.1 (by omega))
  have c7 := (cellj R7.out.2.1 (i := 18) (v := .int .i64 j.cr) (by rw [K.out.1]; rfl)).1
  go_wp2_with fail
  refine HC7.out.mono ?_
  rintro e W8 ⟨rfl, hw1, hf1⟩
  clear HC7 c7
  obtain ⟨M9, hM1⟩ : ∃ M, M = M8 ++ Sp.zz j.cr := ⟨_, rfl⟩
  rw [← hM1] at hw1
  have g8 : M9.length ≤ 526080 := by
    rw [hM1, List.length_append]
    have := Sp.zz_len w7
    omega
  have hx := old_fr hf1 R7.out.2.1 (by decide) (by have := K.out.2.2.2.2.1; have := K.out.2.2.2.2.2; omega)
  have R8 := Lib.hid (And.intro (R7.out.1.trans hf1) (And.intro hx (And.intro hw1 (And.intro hM1 (show B ≤ W8.heap.size by have := hf1.size; have := R7.out.2.2.2.2; omega)))))
  clear hw1 hf1 hM1 hx
  have HC8 := Lib.hid (int_w B pb j.rn M9 W8 w8 K.out.2.2.2.2.1 R8.out.2.2.2.2 R8.out.2.2.1 (by omega))
  have c8 := (cellj R8.out.2.1 (i := 19) (v := .int .i64 j.rn) (by rw [K.out.1]; rfl)).1
  go_wp2_with fail
  refine HC8.out.mono ?_
  rintro e W9 ⟨rfl, hw1, hf1⟩
  clear HC8 c8
  obtain ⟨M10, hM1⟩ : ∃ M, M = M9 ++ Sp.zz j.rn := ⟨_, rfl⟩
  rw [← hM1] at hw1
  have g9 : M10.length ≤ 526090 := by
    rw [hM1, List.length_append]
    have := Sp.zz_len w8
    omega
  have hx := old_fr hf1 R8.out.2.1 (by decide) (by have := K.out.2.2.2.2.1; have := K.out.2.2.2.2.2; omega)
  have R9 := Lib.hid (And.intro (R8.out.1.trans hf1) (And.intro hx (And.intro hw1 (And.intro hM1 (show B ≤ W9.heap.size by have := hf1.size; have := R8.out.2.2.2.2; omega)))))
  clear hw1 hf1 hM1 hx
  have HC9 := Lib.hid (int_w B pb j.ms M10 W9 w9 K.out.2.2.2.2.1 R9.out.2.2.2.2 R9.out.2.2.1 (by omega))
  have c9 := (cellj R9.out.2.1 (i := 20) (v := .int .i64 j.ms) (by rw [K.out.1]; rfl)).1
  go_wp2_with fail
  refine HC9.out.mono ?_
  rintro e W10 ⟨rfl, hw1, hf1⟩
  clear HC9 c9
  obtain ⟨M11, hM1⟩ : ∃ M, M = M10 ++ Sp.zz j.ms := ⟨_, rfl⟩
  rw [← hM1] at hw1
  have g10 : M11.length ≤ 526100 := by
    rw [hM1, List.length_append]
    have := Sp.zz_len w9
    omega
  have hx := old_fr hf1 R9.out.2.1 (by decide) (by have := K.out.2.2.2.2.1; have := K.out.2.2.2.2.2; omega)
  have R10 := Lib.hid (And.intro (R9.out.1.trans hf1) (And.intro hx (And.intro hw1 (And.intro hM1 (show B ≤ W10.heap.size by have := hf1.size; have := R9.out.2.2.2.2; omega)))))
  clear hw1 hf1 hM1 hx
  go_wp2_with fail
  go_end0
  refine ⟨rfl, ?_, R10.out.1⟩
  rw [← R0.out.2.2.2.1, ← R1.out.2.2.2.1, ← R2.out.2.2.2.1, ← R3.out.2.2.2.1, ← R4.out.2.2.2.1, ← R5.out.2.2.2.1, ← R6.out.2.2.2.1, ← R7.out.2.2.2.1, ← R8.out.2.2.2.1, ← R9.out.2.2.2.1, ← R10.out.2.2.2.1]
  exact R10.out.2.2.1
end Go.Proofs.YtcodjknhnhdkfaaGreatDoor.Im
namespace Go.Proofs.YtcodjknhnhdkfaaGreatDoor.Im
open Go.RowKit Go.Lib Wn Rf By Cm
set_option linter.unusedVariables false
set_option maxRecDepth 20000
/-- a row of jobs that may be read -/
structure Js (w : World) (a : Option Addr) (n : Nat) (ls : List Jb) : Prop where
  len : ls.length = n
  none : a = .none → n = 0
  at' : n = 0 ∨ ∃ b, a = some ⟨b, 0, .none⟩ ∧ ∀ i (h : i < ls.length), w.rangeAt b (i * 21) ls[i].cs
  ds : ∀ j ∈ ls, Jd w j
theorem range_old {w w' : World} {b o : Nat} {vs : List Value} {N : Nat} (h : w.rangeAt b o vs) (hb : Below N w w') (hN : b < N) : w'.rangeAt b o vs := fun j v hj => (hb.cell (p := ⟨b, o + j, none⟩) hN).trans (h j v hj)
theorem range_lt {w : World} {b o : Nat} {vs : List Value} (h : w.rangeAt b o vs) (hl : 0 < vs.length) : b < w.heap.size :=
  World.block_lt_of_cell? w _ (h 0 vs[0] (List.getElem?_eq_getElem hl))
theorem Js.old {w w' : World} {a : Option Addr} {n : Nat} {ls : List Jb} (h : Js w a n ls) (hb : Below w.heap.size w w') : Js w' a n ls where
  len := h.len
  none := h.none
  at' := h.at'.imp_right fun ⟨b, h1, h2⟩ => ⟨b, h1, fun i hi => range_old (h2 i hi) hb (range_lt (h2 i hi) (by rw [Jb.len]; omega))⟩
  ds j hj := (h.ds j hj).old hb
theorem sc_job (W : World) (C : Array Value) (hl : C.size = 21) (h1 : ∀ v ∈ C.toList, v.oneCell' = true) : (storeCells ⟨W.heap.size, 0, none⟩ C.toList).run Tryz.prog (W.alloc (.cells jobZ.toArray 42)) = .ok () (W.alloc (.cells C 42)) := by
  have := run_storeCells_from (P := Tryz.prog) W.heap.size 42 C.toList 0 jobZ.toArray (W.alloc (.cells jobZ.toArray 42)) (heap_alloc_new W _) (by rw [Nat.zero_add, Array.length_toList, hl]; rfl) h1
  rw [this]
  simp only [List.take_zero, List.nil_append, Array.toArray_toList, World.setRow_alloc_new]
theorem putJF_idle (p q : Addr) (w : World) :
    CallsD Tryz.prog 43 #[.pointer (some p), .pointer (some q)] .returning w fun e u' w' => e = .returned (.tuple #[]) ∧ u' = .returning ∧ w' = w := by
  refine callsD_of_wpS Tryz.func43 rfl fun c₀ cs hu => ?_
  apply wpS_seq
  apply wpS_region
  simp [wpOpsS, go_sem, recoverD, hu, Tryz.ntmps43, Exit.thenS]
  refine wpS_cond (t := false) (by simp [Act.eval, Array.replicate]) ?_
  simp only [Bool.false_eq_true, if_false]
  refine wpS_of_wp (wp_skip ?_)
  cases c₀
  simp_all [bodyPostS, results, Tryz.results43]
/-- a row of jobs lies in a block of jobs, their Deps in blocks of texts -/
def Ahd (w : World) (a : Option Addr) (ls : List Jb) : Prop := (∀ b o, a = some ⟨b, o, none⟩ → ∃ cur, w.heap[b]? = some (.cells cur 42 (0, 0))) ∧ ∀ j ∈ ls, Typed w j
theorem fr_str {B pb : Nat} {w w' : World} {bs : List UInt8} (hf : Fr B pb w w') (hw : Wr B w pb bs) {b : Nat} {cur : Array Value} {t : TypeId} (hc : w.heap[b]? = some (.cells cur t (0, 0))) (h1 : t ≠ 5) (h2 : t ≠ 49) : w'.heap[b]? = w.heap[b]? := hf.more b (lt_of_block hc) (by
  rintro rfl
  obtain ⟨v, hp, _⟩ := hw
  rw [hp] at hc
  simp only [Option.some.injEq, Obj.cells.injEq] at hc
  exact h2 hc.2.1.symm) (by rw [hc]; intro cur q; simp only [Option.some.injEq, Obj.cells.injEq] at q; exact h1 q.2.1)
theorem dp_fr {B pb : Nat} {w w' : World} {bs : List UInt8} {j : Jb} (h : Jd w j) (hf : Fr B pb w w') (hw : Wr B w pb bs) (ha : Typed w j) : Jd w' j ∧ Typed w' j := by
  have hk : ∀ b cur, w.heap[b]? = some (Obj.cells cur 9 (0, 0)) → w'.heap[b]? = w.heap[b]? := fun b cur hc => fr_str hf hw hc (by decide) (by decide)
  refine ⟨⟨h.1, h.2.1, ?_⟩, fun h0 b o e => by obtain ⟨cur, hc⟩ := ha h0 b o e; exact ⟨cur, (hk b cur hc).trans hc⟩⟩
  rcases h.2.2 with h0 | ⟨b, o, h1, h2⟩
  · exact .inl h0
  · by_cases h0 : j.sp.n = 0
    · exact .inl h0
    · obtain ⟨cur, hc⟩ := ha (by omega) b o h1
      exact .inr ⟨b, o, h1, fun i hi => (World.cell?_of_block (w := w) (a := ⟨b, o + i, none⟩) (hk b cur hc)).trans (h2 i hi)⟩
set_option maxHeartbeats 2000000 in
theorem put_j (B pb : Nat) (a : Option Addr) (n c : Nat) (ls : List Jb) (bs : List UInt8) (w : World) (hd : Js w a n ls) (ha : Ahd w a ls) (hx : ∀ j ∈ ls, j.wf ∧ j.med) (hpb : pb < B) (hB : B ≤ w.heap.size) (hw : Wr B w pb bs)
    (hlen : bs.length + (ls.flatMap jobB).length ≤ 400000) (hn : n ≤ 1000000) :
    Calls Tryz.prog 21 #[.pointer (some ⟨pb, 0, none⟩), .slice a n c, .func (.func 24) #[] #[]] w (Put1 B pb (bs ++ (uvarint n ++ ls.flatMap jobB)) w) := by
  have hmf : ∀ (fn : Fn) (first cap : Array Value) (w : World), (Instr.makeFunc fn first cap).run Tryz.prog w = .ok (.func fn first cap) w := fun _ _ _ _ => rfl
  have hu : U64 n := by unfold U64; omega
  have hul := uvarint_length64 hu
  obtain ⟨v0, hp0, hown0⟩ := id hw
  obtain ⟨ao, cp, hao⟩ := own_shape hown0
  subst hao
  have hc0 := cell_of_one hp0
  have hsz := lt_of_block hp0
  obtain ⟨V, hV⟩ : ∃ V, V = (w.alloc (.cells #[.pointer (some ⟨pb, 0, none⟩)] 47)).alloc (.cells #[.int .i64 bs.length] 3) := ⟨_, rfl⟩
  have hb : Below w.heap.size w V := by rw [hV]; exact ((Below.refl _ _).alloc (Nat.le_refl _) _).alloc (by simp) _
  have h3 : V.heap[w.heap.size]? = some (.cells #[.pointer (some ⟨pb, 0, none⟩)] 47 (0, 0)) := by rw [hV]; exact ((Below.refl (w.heap.size + 1) _).alloc (by simp) _ |>.block _ (by omega)).trans (heap_alloc_new w _)
  have hsV : V.heap.size = w.heap.size + 2 := by rw [hV]; simp
  have hwV : Wr B V pb bs := hw.below hb hsz (fun k hk => hk)
  have hdV := hd.old hb
  have haV : Ahd V a ls := ⟨fun b o e => by obtain ⟨cur, hc⟩ := ha.1 b o e; exact ⟨cur, Sp.old2 hb hc⟩, fun j hj => (ha.2 j hj).old hb⟩
  have H0 := Lib.hid (num_w B pb n bs V hu hpb (by omega) hwV (by omega))
  have HF0 : Fr B pb w V := Fr.ofBelow hb hB
  have HX := Lib.hid (And.intro hdV (And.intro haV (And.intro hx (And.intro HF0 (And.intro hb (And.intro h3 (And.intro hsV hwV)))))))
  clear hd hdV ha haV hwV hp0 hown0 hw hb HF0 h3
  have hwr : IntKind.u64.wrap (n : Int) = n := by rw [IntKind.wrap_u64]; omega
  go_enter_defers Tryz.func21, Tryz.ntmps21
  go_wp2_with fail
  rw [← hV]
  have HV := Lib.hid hV
  clear hV
  refine H0.out.mono ?_
  rintro e w1 ⟨rfl, hw1, hf1⟩
  have hlt1 := hf1.size
  have b3 : w1.heap[w.heap.size]? = some (.cells #[.pointer (some ⟨pb, 0, none⟩)] 47 (0, 0)) := by
    rw [hf1.more w.heap.size (by omega) (by omega) (fun cur q => by rw [HX.out.2.2.2.2.2.1] at q; simp at q)]
    exact HX.out.2.2.2.2.2.1
  have H1 := Lib.hid (And.intro hw1 hf1)
  clear hw1 hf1 hlt1 b3 H0
  go_wp2_with fail
  go_loopw [24] (fun s24 wr => ∃ k : Nat, s24 = .int .i64 k ∧ k ≤ n ∧ Wr B wr pb (bs ++ (uvarint n ++ (ls.take k).flatMap jobB)) ∧ Fr B pb V wr) (fun s24 _ => n - (RowKit.intOf s24).toNat)
  case atStart => exact ⟨0, rfl, Nat.zero_le _, by simpa using H1.out.1, H1.out.2⟩
  case round =>
    obtain ⟨k, rfl, hk, hwk, hfk⟩ := hrel
    have hB' : B ≤ wr.heap.size := by have := hfk.size; omega
    have b3 : wr.heap[w.heap.size]? = some (.cells #[.pointer (some ⟨pb, 0, none⟩)] 47 (0, 0)) := by
      rw [hfk.more w.heap.size (by omega) (by omega) (fun cur q => by rw [HX.out.2.2.2.2.2.1] at q; simp at q)]
      exact HX.out.2.2.2.2.2.1
    have hw24 : w.heap.size < wr.heap.size := lt_of_block b3
    by_cases hlt : k < n
    · have hkl : k < ls.length := by rw [HX.out.1.len]; exact hlt
      rcases HX.out.1.at' with h0 | ⟨b, rfl, hcell⟩
      · omega
      obtain ⟨curb, hcurb⟩ := HX.out.2.1.1 b 0 rfl
      have hbk := fr_str hfk HX.out.2.2.2.2.2.2.2 hcurb (by decide) (by decide)
      obtain ⟨x, hx'⟩ : ∃ x, x = ls[k] := ⟨_, rfl⟩
      have hxm : x ∈ ls := by rw [hx']; exact List.getElem_mem _
      obtain ⟨C, hC⟩ : ∃ C, C = x.cs.toArray := ⟨_, rfl⟩
      have hCl : C.toList = x.cs := by rw [hC]
      have hrg : wr.rangeAt b (k * 21) C.toList := fun i v hv => by
        rw [World.cell?_of_block (w := V) (a := ⟨b, k * 21 + i, none⟩) hbk]
        exact hcell k hkl i v (by rw [← hx', ← hCl]; exact hv)
      obtain ⟨Y, hY⟩ : ∃ Y, Y = wr.alloc (.cells C 42) := ⟨_, rfl⟩
      have hbY : Below wr.heap.size wr Y := by rw [hY]; exact (Below.refl _ _).alloc (Nat.le_refl _) _
      have hYx : Y.heap[wr.heap.size]? = some (.cells C 42 (0, 0)) := by rw [hY]; exact heap_alloc_new wr _
      have hsc := sc_job wr C (by rw [hC]; rfl) (by rw [hCl]; exact x.one)
      rw [← hY] at hsc
      unfold jobZ at hsc
      have hrY : (wr.alloc (.cells C 42)).rangeAt wr.heap.size 0 C.toList := by rw [← hY]; exact range_of (by rw [hYx])
      have hinf : (Tryz.prog.info? 42).map (·.size) = some C.toList.length := by rw [hCl]; exact info_job
      have hpw : pb < wr.heap.size := by omega
      have hwY : Wr B Y pb (bs ++ (uvarint n ++ (ls.take k).flatMap jobB)) := hwk.below hbY hpw (fun i hi => hi)
      have hfY : Fr B pb wr Y := Fr.ofBelow hbY hB'
      have hlk : (bs ++ (uvarint n ++ (ls.take k).flatMap jobB)).length ≤ 500000 := by
        have := flat_take jobB ls k
        simp only [List.length_append]
        omega
      have c3 := cell_of_one b3
      have hCs : C.size = 21 := by rw [hC]; rfl
      have hJd := dp_fr (HX.out.1.ds x hxm) (hfk.trans hfY) HX.out.2.2.2.2.2.2.2 (HX.out.2.1.2 x hxm)
      have HE := Lib.hid (putJob_any B pb x _ Y hJd.1 hJd.2 (HX.out.2.2.1 x hxm).1 (HX.out.2.2.1 x hxm).2 hpb (by have := hbY.size; omega) hwY hlk)
      have HK := Lib.hid (And.intro (hfk.trans hfY) hx')
      have HCC := Lib.hid hC
      rw [← hC] at HE
      clear hwk hlk hfk hx' hcell hcurb hbk hB' hwY hfY hJd hC hCl hxm hbY hYx b3
      go_wp2_with (first | (refine wpList_load_mid rfl 42 _ rfl b (k * 21) rfl C.toList _ hrg Tryz.underlying42 rfl hinf ?_) | (refine wpList_load_mid rfl 42 _ rfl wr.heap.size 0 rfl C.toList _ hrY Tryz.underlying42 rfl hinf ?_))
      rw [← hY]
      have HYY := Lib.hid hY
      clear hY hsc hrY hrg
      refine HE.out.mono ?_
      rintro e w2 ⟨rfl, hw2, hf2⟩
      have H2 := Lib.hid (And.intro hw2 hf2)
      clear hw2 hf2 HE
      go_wp2_with fail
      go_roundw
      case rel =>
        refine ⟨k + 1, rfl, hlt, ?_, HK.out.1.trans H2.out.2⟩
        rw [flat_succ jobB hkl, ← List.append_assoc (uvarint n), ← List.append_assoc bs, ← HK.out.2]
        exact H2.out.1
      case measure => simp only [RowKit.intOf]; omega
    · have hkn : k = n := by omega
      subst hkn
      have hto : ls.take k = ls := by rw [List.take_of_length_le]; have := HX.out.1.len; omega
      rw [hto] at hwk
      have HZ := Lib.hid (And.intro hwk (HX.out.2.2.2.1.trans hfk))
      clear hwk hfk b3
      go_wp2_with fail
      refine leaves_cons (f := 43) (args := #[.pointer (some ⟨w.heap.size, 0, none⟩), .pointer (some ⟨w.heap.size + 1, 0, none⟩)]) (by simp) (by simp [go_sem]) ?_
      refine (putJF_idle ⟨w.heap.size, 0, none⟩ ⟨w.heap.size + 1, 0, none⟩ _).mono ?_
      rintro e u' w'' ⟨rfl, rfl, rfl⟩
      simp [Leaves, settle, results, Tryz.results21, go_sem]
      exact ⟨rfl, HZ.out⟩
end Go.Proofs.YtcodjknhnhdkfaaGreatDoor.Im
