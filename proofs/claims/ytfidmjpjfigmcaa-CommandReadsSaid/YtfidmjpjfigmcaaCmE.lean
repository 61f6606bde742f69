
/- commands: Only -/
import Derived.Test.YtfidmjpjfigmcaaCmA
import Derived.Test.YtfidmjpjfigmcaaCmS
import Derived.Test.YtfidmjpjfigmcaaSp3
import Derived.Deep.DeepCutAuto
import Derived.Deep.CutBlock
namespace Go.Proofs.Ytfidmjpjfigmcaa.Cm
open Go.RowKit Go.Lib Wn Rf By
set_option linter.unusedVariables false
set_option maxRecDepth 20000
/-- in the midst of Only: what came, the result's block, the fields', the new one's -/
structure Gn (w : World) (fb : Nat) (cc bs cs : Array Value) (W : World) : Prop where
  cb : W.heap[w.heap.size]? = some (.cells cc 29 (0, 0))
  rs : W.heap[w.heap.size + 1]? = some (.cells #[.int .i64 0, .string ⟨#[]⟩, .string ⟨#[]⟩, .int .u64 0, .int .i64 0, .string ⟨#[]⟩, .string ⟨#[]⟩, .int .i64 0, .int .i64 0, .slice none 0 0, .int .i64 0, .int .i64 0, .int .i64 0, .int .i64 0, .string ⟨#[]⟩, .int .i64 0] 29 (0, 0))
  fl : W.heap[fb]? = some (.cells bs 60 (0, 0))
  ob : W.heap[fb + 1]? = some (.cells cs 29 (0, 0))
  bel : Below w.heap.size w W
theorem Gn.call {w : World} {fb : Nat} {cc bs cs : Array Value} {W W' : World} (h : Gn w fb cc bs cs W) (hb : Below W.heap.size W W') : Gn w fb cc bs cs W' :=
  ⟨(hb.block _ (lt_of_block h.cb)).trans h.cb, (hb.block _ (lt_of_block h.rs)).trans h.rs, (hb.block _ (lt_of_block h.fl)).trans h.fl, (hb.block _ (lt_of_block h.ob)).trans h.ob, h.bel.trans (hb.mono h.bel.size)⟩
theorem Gn.sets {w : World} {fb : Nat} {cc bs cs : Array Value} {W : World} (h : Gn w fb cc bs cs W) (hfb : w.heap.size + 1 < fb) (i : Nat) (vs : List Value) (hl : i + vs.length ≤ cs.size) :
    Gn w fb cc bs (cs.toList.take i ++ vs ++ cs.toList.drop (i + vs.length)).toArray (setAll (fb + 1) i W vs) ∧ ∀ k, k ≠ fb + 1 → (setAll (fb + 1) i W vs).heap[k]? = W.heap[k]? := by
  obtain ⟨h1, h2, h3, h4, h5⟩ := setAll_other (b := fb + 1) vs i W
  exact ⟨⟨(h1 _ (by omega)).trans h.cb, (h1 _ (by omega)).trans h.rs, (h1 _ (by omega)).trans h.fl, setAll_part vs i W cs h.ob hl, setAll_below h.bel (by omega)⟩, h1⟩
theorem Gn.fin {w : World} {fb : Nat} {cc bs cs : Array Value} {W : World} (h : Gn w fb cc bs cs W) (vs : List Value) (hl : vs.length = 16) :
    (setAll (w.heap.size + 1) 0 W vs).heap[w.heap.size + 1]? = some (.cells vs.toArray 29 (0, 0)) ∧ Below w.heap.size w (setAll (w.heap.size + 1) 0 W vs) ∧ ∀ k, k ≠ w.heap.size + 1 → (setAll (w.heap.size + 1) 0 W vs).heap[k]? = W.heap[k]? :=
  ⟨setAll_all h.rs (by rw [hl]; rfl), setAll_below h.bel (by omega), (setAll_other (b := w.heap.size + 1) vs 0 W).1⟩
def OnlyGot (c : Cmd) (w : World) (e : Ending) (w' : World) : Prop := ∃ o : Cmd, e = .returned (.agg o.cells) ∧ Only c o ∧ Sp.Dp w' o.sp.a o.sp.n o.sp.ds ∧ Below w.heap.size w w'
theorem info_cmd' : (Try.prog.info? 29).map (·.size) = some 16 := by kernel_rfl
theorem info_spec' : (Try.prog.info? 27).map (·.size) = some 11 := by kernel_rfl
set_option maxHeartbeats 8000000 in
theorem Only_any (c : Cmd) (w : World) (hd : Sp.Dp w c.sp.a c.sp.n c.sp.ds) (hn : c.sp.n ≤ 1000000000) :
    Calls Try.prog 10 #[.agg c.cells] w (OnlyGot c w) := by
  obtain ⟨kd, nm, wk, tk, vl, ⟨snm, stn, spr, sdl, sa, sn, sc, sds, sbs, scp, sat, sls, scr, sct⟩⟩ := c
  simp only at hd hn
  obtain ⟨V, hV⟩ : ∃ V, V = (w.alloc (.cells #[.int .i64 kd, .string nm, .string wk, .int .u64 tk, .int .i64 vl, .string snm, .string stn, .int .i64 spr, .int .i64 sdl, .slice sa sn sc, .int .i64 sbs, .int .i64 scp, .int .i64 sat, .int .i64 sls, .string scr, .int .i64 sct] 29)).alloc (.cells #[.int .i64 0, .string ⟨#[]⟩, .string ⟨#[]⟩, .int .u64 0, .int .i64 0, .string ⟨#[]⟩, .string ⟨#[]⟩, .int .i64 0, .int .i64 0, .slice none 0 0, .int .i64 0, .int .i64 0, .int .i64 0, .int .i64 0, .string ⟨#[]⟩, .int .i64 0] 29) := ⟨_, rfl⟩
  have hb : Below w.heap.size w V := by rw [hV]; exact ((Below.refl _ _).alloc (Nat.le_refl _) _).alloc (by simp) _
  have hs : V.heap.size = w.heap.size + 2 := by rw [hV]; simp
  have hx0 : V.heap[w.heap.size]? = some (.cells #[.int .i64 kd, .string nm, .string wk, .int .u64 tk, .int .i64 vl, .string snm, .string stn, .int .i64 spr, .int .i64 sdl, .slice sa sn sc, .int .i64 sbs, .int .i64 scp, .int .i64 sat, .int .i64 sls, .string scr, .int .i64 sct] 29 (0, 0)) := by rw [hV]; exact ((Below.refl (w.heap.size + 1) _).alloc (by simp) _ |>.block _ (by omega)).trans (heap_alloc_new w _)
  have hx1 : V.heap[w.heap.size + 1]? = some (.cells #[.int .i64 0, .string ⟨#[]⟩, .string ⟨#[]⟩, .int .u64 0, .int .i64 0, .string ⟨#[]⟩, .string ⟨#[]⟩, .int .i64 0, .int .i64 0, .slice none 0 0, .int .i64 0, .int .i64 0, .int .i64 0, .int .i64 0, .string ⟨#[]⟩, .int .i64 0] 29 (0, 0)) := by
    rw [hV]
    have := heap_alloc_new (w.alloc (.cells #[.int .i64 kd, .string nm, .string wk, .int .u64 tk, .int .i64 vl, .string snm, .string stn, .int .i64 spr, .int .i64 sdl, .slice sa sn sc, .int .i64 sbs, .int .i64 scp, .int .i64 sat, .int .i64 sls, .string scr, .int .i64 sct] 29)) (.cells #[.int .i64 0, .string ⟨#[]⟩, .string ⟨#[]⟩, .int .u64 0, .int .i64 0, .string ⟨#[]⟩, .string ⟨#[]⟩, .int .i64 0, .int .i64 0, .slice none 0 0, .int .i64 0, .int .i64 0, .int .i64 0, .int .i64 0, .string ⟨#[]⟩, .int .i64 0] 29)
    rwa [World.size_alloc] at this
  have l0 := (cell_at hx0 (i := 0) rfl).1
  have HF := Lib.hid (fields_any kd V)
  have HB := Lib.hid (And.intro hb (hd.old hb))
  clear hb hd
  unfold Cmd.cells
  simp only
  go_enter Try.func10, Try.ntmps10
  go_wp2_with fail
  rw [← hV]
  have HV := Lib.hid hV
  clear hV l0
  refine HF.out.mono ?_
  rintro e W1 ⟨rfl, hb1⟩
  clear HF
  have hy0 := (hb1.block w.heap.size (by omega)).trans hx0
  have hy1 := (hb1.block (w.heap.size + 1) (by omega)).trans hx1
  have hs1 := hb1.size
  have hlt : w.heap.size < W1.heap.size := by omega
  have hfb : w.heap.size + 1 < W1.heap.size := by omega
  have l0 := (cell_at hy0 (i := 0) rfl).1
  have HB1 := Lib.hid (And.intro (HB.out.1.trans (hb1.mono HB.out.1.size)) (Sp.Dp.old HB.out.2 hb1))
  clear hx0 hx1 hb1 hs1 hs
  unfold flds
  rcases cls kd with h | h | h | h | h | h | h
  · as_aux_lemma =>
    obtain ⟨b0, b1, b2, b3, b4⟩ := fl_spec h
    rw [b0, b1, b2, b3, b4]
    have Hh := Lib.hid h
    clear h
    obtain ⟨Y0, hY⟩ : ∃ Y, Y = (W1.alloc (.cells #[.bool true, .bool false, .bool false, .bool false, .bool false] 60)).alloc (.cells #[.int .i64 kd, .string ⟨#[]⟩, .string ⟨#[]⟩, .int .u64 0, .int .i64 0, .string ⟨#[]⟩, .string ⟨#[]⟩, .int .i64 0, .int .i64 0, .slice none 0 0, .int .i64 0, .int .i64 0, .int .i64 0, .int .i64 0, .string ⟨#[]⟩, .int .i64 0] 29) := ⟨_, rfl⟩
    have hbY : Below W1.heap.size W1 Y0 := by rw [hY]; exact ((Below.refl _ _).alloc (Nat.le_refl _) _).alloc (by simp) _
    have g0 : Gn w W1.heap.size #[.int .i64 kd, .string nm, .string wk, .int .u64 tk, .int .i64 vl, .string snm, .string stn, .int .i64 spr, .int .i64 sdl, .slice sa sn sc, .int .i64 sbs, .int .i64 scp, .int .i64 sat, .int .i64 sls, .string scr, .int .i64 sct] #[.bool true, .bool false, .bool false, .bool false, .bool false] #[.int .i64 kd, .string ⟨#[]⟩, .string ⟨#[]⟩, .int .u64 0, .int .i64 0, .string ⟨#[]⟩, .string ⟨#[]⟩, .int .i64 0, .int .i64 0, .slice none 0 0, .int .i64 0, .int .i64 0, .int .i64 0, .int .i64 0, .string ⟨#[]⟩, .int .i64 0] Y0 := by
      refine ⟨(hbY.block _ hlt).trans hy0, (hbY.block _ hfb).trans hy1, ?_, ?_, HB1.out.1.trans (hbY.mono HB1.out.1.size)⟩
      · rw [hY]; exact ((Below.refl (W1.heap.size + 1) _).alloc (by simp) _ |>.block _ (by omega)).trans (heap_alloc_new W1 _)
      · rw [hY]
        have := heap_alloc_new (W1.alloc (.cells #[.bool true, .bool false, .bool false, .bool false, .bool false] 60)) (.cells #[.int .i64 kd, .string ⟨#[]⟩, .string ⟨#[]⟩, .int .u64 0, .int .i64 0, .string ⟨#[]⟩, .string ⟨#[]⟩, .int .i64 0, .int .i64 0, .slice none 0 0, .int .i64 0, .int .i64 0, .int .i64 0, .int .i64 0, .string ⟨#[]⟩, .int .i64 0] 29)
        rwa [World.size_alloc] at this
    have D0 := Lib.hid (Sp.Dp.old HB1.out.2 hbY)
    have BB := Lib.hid (And.intro b0 (And.intro b1 (And.intro b2 (And.intro b3 b4))))
    clear hbY b0 b1 b2 b3 b4
    go_upto_region 3 with fail
    rw [← hY]
    clear hY hy0 hy1 l0
    have f0 := (cell_at g0.fl (i := 0) rfl).1
    have f1 := (cell_at g0.fl (i := 1) rfl).1
    have f2 := (cell_at g0.fl (i := 2) rfl).1
    have f3 := (cell_at g0.fl (i := 3) rfl).1
    have f4 := (cell_at g0.fl (i := 4) rfl).1
    have HC := Lib.hid (Sp.Clone_any ⟨snm, stn, spr, sdl, sa, sn, sc, sds, sbs, scp, sat, sls, scr, sct⟩ (w := Y0) D0.out hn)
    have c5 := (cell_at g0.cb (i := 5) rfl).1
    have c6 := (cell_at g0.cb (i := 6) rfl).1
    have c7 := (cell_at g0.cb (i := 7) rfl).1
    have c8 := (cell_at g0.cb (i := 8) rfl).1
    have c9 := (cell_at g0.cb (i := 9) rfl).1
    have c10 := (cell_at g0.cb (i := 10) rfl).1
    have c11 := (cell_at g0.cb (i := 11) rfl).1
    have c12 := (cell_at g0.cb (i := 12) rfl).1
    have c13 := (cell_at g0.cb (i := 13) rfl).1
    have c14 := (cell_at g0.cb (i := 14) rfl).1
    have c15 := (cell_at g0.cb (i := 15) rfl).1
    have G0 := Lib.hid g0
    clear g0
    go_wp2_with fail
    refine HC.out.mono ?_
    clear f0 f1 f2 f3 f4 c5 c6 c7 c8 c9 c10 c11 c12 c13 c14 c15
    rintro e Z0 ⟨y, rfl, hy, hbz, hdy, hgy⟩
    have gz := G0.out.call hbz
    have HX := Lib.hid (And.intro hy (And.intro hdy hgy))
    have szY := Lib.hid (show W1.heap.size + 1 < Y0.heap.size from lt_of_block G0.out.ob)
    have hthr : Z0.there (W1.heap.size + 1) 5 y.cells.size := by
      intro k hk
      have hk' : k < 11 := hk
      simp only [World.cell?, World.frozen?, gz.ob]
      refine ⟨?_, by simp⟩
      rw [Array.getElem?_eq_getElem (by simp; omega)]
      rfl
    have hinf : (Try.prog.info? 27).map (·.size) = some y.cells.size := info_spec'
    have hone : y.cells.all (·.oneCell') = true := by unfold Sp.Spc.cells; rw [List.all_toArray]; rfl
    have GZ := Lib.hid gz
    clear gz HC hy hdy hgy hbz
    go_upto_region 5 with (refine wpList_store_mid rfl 27 _ _ rfl (W1.heap.size + 1) 5 y.cells rfl rfl hthr hinf hone ?_)
    rw [setCells_all]
    clear hthr hinf hone
    obtain ⟨Y1, hU⟩ : ∃ U, U = setAll (W1.heap.size + 1) 5 Z0 y.cells.toList := ⟨_, rfl⟩
    rw [← hU]
    obtain ⟨g, go⟩ := GZ.out.sets hfb 5 y.cells.toList (by show 5 + 11 ≤ 16; omega)
    rw [← hU] at g go
    have GO0 := Lib.hid go
    have g1 : Gn w W1.heap.size #[.int .i64 kd, .string nm, .string wk, .int .u64 tk, .int .i64 vl, .string snm, .string stn, .int .i64 spr, .int .i64 sdl, .slice sa sn sc, .int .i64 sbs, .int .i64 scp, .int .i64 sat, .int .i64 sls, .string scr, .int .i64 sct] #[.bool true, .bool false, .bool false, .bool false, .bool false] #[.int .i64 kd, .string ⟨#[]⟩, .string ⟨#[]⟩, .int .u64 0, .int .i64 0, .string y.nm, .string y.tn, .int .i64 y.pr, .int .i64 y.dl, .slice y.a y.n y.c, .int .i64 y.bs, .int .i64 y.cp, .int .i64 y.at', .int .i64 y.ls, .string y.cr, .int .i64 y.ct] Y1 := g
    clear g go hU
    have f0 := (cell_at g1.fl (i := 0) rfl).1
    have f1 := (cell_at g1.fl (i := 1) rfl).1
    have f2 := (cell_at g1.fl (i := 2) rfl).1
    have f3 := (cell_at g1.fl (i := 3) rfl).1
    have f4 := (cell_at g1.fl (i := 4) rfl).1
    have GE := Lib.hid g1
    clear g1
    go_upto_region 13 with fail
    clear f0 f1 f2 f3 f4
    have g1 := GE.out
    obtain ⟨CS, hCS⟩ : ∃ CS : List Value, CS = [.int .i64 kd, .string ⟨#[]⟩, .string ⟨#[]⟩, .int .u64 0, .int .i64 0, .string y.nm, .string y.tn, .int .i64 y.pr, .int .i64 y.dl, .slice y.a y.n y.c, .int .i64 y.bs, .int .i64 y.cp, .int .i64 y.at', .int .i64 y.ls, .string y.cr, .int .i64 y.ct] := ⟨_, rfl⟩
    have hrng : Y1.rangeAt (W1.heap.size + 1) 0 CS := range_of (by rw [hCS]; exact g1.ob)
    have hthr : Y1.there (w.heap.size + 1) 0 CS.toArray.size := there_of g1.rs (by rw [hCS]; simp)
    have hinf : (Try.prog.info? 29).map (·.size) = some CS.length := by rw [hCS]; exact info_cmd'
    have hinf2 : (Try.prog.info? 29).map (·.size) = some CS.toArray.size := by rw [hCS]; exact info_cmd'
    have hone : CS.toArray.all (·.oneCell') = true := by rw [List.all_toArray, hCS]; rfl
    obtain ⟨x1, x2, x3⟩ := g1.fin CS (by rw [hCS]; rfl)
    obtain ⟨X, hX⟩ : ∃ X, X = setAll (w.heap.size + 1) 0 Y1 CS := ⟨_, rfl⟩
    rw [← hX] at x1 x2 x3
    have HX' := Lib.hid (And.intro hX hCS)
    have HXX := Lib.hid (And.intro x1 (And.intro x2 x3))
    clear g1 hX hCS x1 x2 x3
    go_wp2_with (first | (refine wpList_load_mid rfl 29 _ rfl (W1.heap.size + 1) 0 rfl CS _ hrng Try.underlying29 rfl hinf ?_) | (refine wpList_store_mid rfl 29 _ _ rfl (w.heap.size + 1) 0 CS.toArray rfl rfl hthr hinf2 hone ?_))
    rw [setCells_all, ← HX'.out.1]
    refine bodyPost_ret (v := .agg CS.toArray) ?_ rfl ?_
    · rw [results_c1 rfl]
      exact run_loadVar_mid X (w.heap.size + 1) 0 29 CS _ (range_of HXX.out.1) Try.underlying29 rfl hinf
    · obtain ⟨x1, x2, x3⟩ := HXX.out
      rw [HX'.out.2]
      refine ⟨⟨kd, ⟨#[]⟩, ⟨#[]⟩, 0, 0, y⟩, rfl, ?only, ?dp, x2⟩
      case only =>
        obtain ⟨b0, b1, b2, b3, b4⟩ := BB.out
        refine ⟨rfl, ?_, ?_, ?_, ?_, ?_⟩ <;> simp only [b0, b1, b2, b3, b4] <;> first | rfl | exact HX.out.1
      case dp =>
        have hd := HX.out.2.1
        refine ⟨hd.1, hd.2.1, ?_⟩
        rcases hd.2.2 with h0 | ⟨b, o, h1, h2⟩
        · exact .inl h0
        · rcases HX.out.2.2 with h0 | ⟨g, cur, q, hg, _⟩
          · exact .inl h0
          · refine .inr ⟨b, o, h1, fun i hi => ?_⟩
            rw [q] at h1
            simp only [Option.some.injEq, Addr.mk.injEq] at h1
            have := szY.out
            exact (World.cell?_of_block (w := Z0) (a := ⟨b, o + i, none⟩) ((x3 b (by omega)).trans (GO0.out b (by omega)))).trans (h2 i hi)
  · as_aux_lemma =>
    obtain ⟨b0, b1, b2, b3, b4⟩ := fl_worker h
    rw [b0, b1, b2, b3, b4]
    have Hh := Lib.hid h
    clear h
    obtain ⟨Y0, hY⟩ : ∃ Y, Y = (W1.alloc (.cells #[.bool false, .bool true, .bool false, .bool false, .bool false] 60)).alloc (.cells #[.int .i64 kd, .string ⟨#[]⟩, .string ⟨#[]⟩, .int .u64 0, .int .i64 0, .string ⟨#[]⟩, .string ⟨#[]⟩, .int .i64 0, .int .i64 0, .slice none 0 0, .int .i64 0, .int .i64 0, .int .i64 0, .int .i64 0, .string ⟨#[]⟩, .int .i64 0] 29) := ⟨_, rfl⟩
    have hbY : Below W1.heap.size W1 Y0 := by rw [hY]; exact ((Below.refl _ _).alloc (Nat.le_refl _) _).alloc (by simp) _
    have g0 : Gn w W1.heap.size #[.int .i64 kd, .string nm, .string wk, .int .u64 tk, .int .i64 vl, .string snm, .string stn, .int .i64 spr, .int .i64 sdl, .slice sa sn sc, .int .i64 sbs, .int .i64 scp, .int .i64 sat, .int .i64 sls, .string scr, .int .i64 sct] #[.bool false, .bool true, .bool false, .bool false, .bool false] #[.int .i64 kd, .string ⟨#[]⟩, .string ⟨#[]⟩, .int .u64 0, .int .i64 0, .string ⟨#[]⟩, .string ⟨#[]⟩, .int .i64 0, .int .i64 0, .slice none 0 0, .int .i64 0, .int .i64 0, .int .i64 0, .int .i64 0, .string ⟨#[]⟩, .int .i64 0] Y0 := by
      refine ⟨(hbY.block _ hlt).trans hy0, (hbY.block _ hfb).trans hy1, ?_, ?_, HB1.out.1.trans (hbY.mono HB1.out.1.size)⟩
      · rw [hY]; exact ((Below.refl (W1.heap.size + 1) _).alloc (by simp) _ |>.block _ (by omega)).trans (heap_alloc_new W1 _)
      · rw [hY]
        have := heap_alloc_new (W1.alloc (.cells #[.bool false, .bool true, .bool false, .bool false, .bool false] 60)) (.cells #[.int .i64 kd, .string ⟨#[]⟩, .string ⟨#[]⟩, .int .u64 0, .int .i64 0, .string ⟨#[]⟩, .string ⟨#[]⟩, .int .i64 0, .int .i64 0, .slice none 0 0, .int .i64 0, .int .i64 0, .int .i64 0, .int .i64 0, .string ⟨#[]⟩, .int .i64 0] 29)
        rwa [World.size_alloc] at this
    have D0 := Lib.hid (Sp.Dp.old HB1.out.2 hbY)
    have BB := Lib.hid (And.intro b0 (And.intro b1 (And.intro b2 (And.intro b3 b4))))
    clear hbY b0 b1 b2 b3 b4
    go_upto_region 3 with fail
    rw [← hY]
    clear hY hy0 hy1 l0
    have f0 := (cell_at g0.fl (i := 0) rfl).1
    have f1 := (cell_at g0.fl (i := 1) rfl).1
    have f2 := (cell_at g0.fl (i := 2) rfl).1
    have f3 := (cell_at g0.fl (i := 3) rfl).1
    have f4 := (cell_at g0.fl (i := 4) rfl).1
    have c0 := (cell_at g0.cb (i := 2) rfl).1
    obtain ⟨z0, z1⟩ := cell_at g0.ob (i := 2) rfl
    have G0 := Lib.hid g0
    clear g0
    go_upto_region 7 with fail
    clear f0 f1 f2 f3 f4 c0 z0 z1
    obtain ⟨Y1, hU⟩ : ∃ U, U = setAll (W1.heap.size + 1) 2 Y0 [.string wk] := ⟨_, rfl⟩
    have hU' := hU
    simp only [setAll] at hU'
    rw [← hU']
    clear hU'
    obtain ⟨g, -⟩ := G0.out.sets hfb 2 [.string wk] (by simp)
    rw [← hU] at g
    have g1 : Gn w W1.heap.size #[.int .i64 kd, .string nm, .string wk, .int .u64 tk, .int .i64 vl, .string snm, .string stn, .int .i64 spr, .int .i64 sdl, .slice sa sn sc, .int .i64 sbs, .int .i64 scp, .int .i64 sat, .int .i64 sls, .string scr, .int .i64 sct] #[.bool false, .bool true, .bool false, .bool false, .bool false] #[.int .i64 kd, .string ⟨#[]⟩, .string wk, .int .u64 0, .int .i64 0, .string ⟨#[]⟩, .string ⟨#[]⟩, .int .i64 0, .int .i64 0, .slice none 0 0, .int .i64 0, .int .i64 0, .int .i64 0, .int .i64 0, .string ⟨#[]⟩, .int .i64 0] Y1 := g
    clear g hU
    have f0 := (cell_at g1.fl (i := 0) rfl).1
    have f1 := (cell_at g1.fl (i := 1) rfl).1
    have f2 := (cell_at g1.fl (i := 2) rfl).1
    have f3 := (cell_at g1.fl (i := 3) rfl).1
    have f4 := (cell_at g1.fl (i := 4) rfl).1
    have GE := Lib.hid g1
    clear g1
    go_upto_region 13 with fail
    clear f0 f1 f2 f3 f4
    have g1 := GE.out
    obtain ⟨CS, hCS⟩ : ∃ CS : List Value, CS = [.int .i64 kd, .string ⟨#[]⟩, .string wk, .int .u64 0, .int .i64 0, .string ⟨#[]⟩, .string ⟨#[]⟩, .int .i64 0, .int .i64 0, .slice none 0 0, .int .i64 0, .int .i64 0, .int .i64 0, .int .i64 0, .string ⟨#[]⟩, .int .i64 0] := ⟨_, rfl⟩
    have hrng : Y1.rangeAt (W1.heap.size + 1) 0 CS := range_of (by rw [hCS]; exact g1.ob)
    have hthr : Y1.there (w.heap.size + 1) 0 CS.toArray.size := there_of g1.rs (by rw [hCS]; simp)
    have hinf : (Try.prog.info? 29).map (·.size) = some CS.length := by rw [hCS]; exact info_cmd'
    have hinf2 : (Try.prog.info? 29).map (·.size) = some CS.toArray.size := by rw [hCS]; exact info_cmd'
    have hone : CS.toArray.all (·.oneCell') = true := by rw [List.all_toArray, hCS]; rfl
    obtain ⟨x1, x2, x3⟩ := g1.fin CS (by rw [hCS]; rfl)
    obtain ⟨X, hX⟩ : ∃ X, X = setAll (w.heap.size + 1) 0 Y1 CS := ⟨_, rfl⟩
    rw [← hX] at x1 x2 x3
    have HX' := Lib.hid (And.intro hX hCS)
    have HXX := Lib.hid (And.intro x1 (And.intro x2 x3))
    clear g1 hX hCS x1 x2 x3
    go_wp2_with (first | (refine wpList_load_mid rfl 29 _ rfl (W1.heap.size + 1) 0 rfl CS _ hrng Try.underlying29 rfl hinf ?_) | (refine wpList_store_mid rfl 29 _ _ rfl (w.heap.size + 1) 0 CS.toArray rfl rfl hthr hinf2 hone ?_))
    rw [setCells_all, ← HX'.out.1]
    refine bodyPost_ret (v := .agg CS.toArray) ?_ rfl ?_
    · rw [results_c1 rfl]
      exact run_loadVar_mid X (w.heap.size + 1) 0 29 CS _ (range_of HXX.out.1) Try.underlying29 rfl hinf
    · obtain ⟨x1, x2, x3⟩ := HXX.out
      rw [HX'.out.2]
      refine ⟨⟨kd, ⟨#[]⟩, wk, 0, 0, zsp⟩, rfl, ?only, ?dp, x2⟩
      case only =>
        obtain ⟨b0, b1, b2, b3, b4⟩ := BB.out
        refine ⟨rfl, ?_, ?_, ?_, ?_, ?_⟩ <;> simp only [b0, b1, b2, b3, b4] <;> first | rfl | simp
      case dp => exact ⟨rfl, fun _ => rfl, .inl rfl⟩
  · as_aux_lemma =>
    obtain ⟨b0, b1, b2, b3, b4⟩ := fl_two h
    rw [b0, b1, b2, b3, b4]
    have Hh := Lib.hid h
    clear h
    obtain ⟨Y0, hY⟩ : ∃ Y, Y = (W1.alloc (.cells #[.bool false, .bool false, .bool true, .bool true, .bool false] 60)).alloc (.cells #[.int .i64 kd, .string ⟨#[]⟩, .string ⟨#[]⟩, .int .u64 0, .int .i64 0, .string ⟨#[]⟩, .string ⟨#[]⟩, .int .i64 0, .int .i64 0, .slice none 0 0, .int .i64 0, .int .i64 0, .int .i64 0, .int .i64 0, .string ⟨#[]⟩, .int .i64 0] 29) := ⟨_, rfl⟩
    have hbY : Below W1.heap.size W1 Y0 := by rw [hY]; exact ((Below.refl _ _).alloc (Nat.le_refl _) _).alloc (by simp) _
    have g0 : Gn w W1.heap.size #[.int .i64 kd, .string nm, .string wk, .int .u64 tk, .int .i64 vl, .string snm, .string stn, .int .i64 spr, .int .i64 sdl, .slice sa sn sc, .int .i64 sbs, .int .i64 scp, .int .i64 sat, .int .i64 sls, .string scr, .int .i64 sct] #[.bool false, .bool false, .bool true, .bool true, .bool false] #[.int .i64 kd, .string ⟨#[]⟩, .string ⟨#[]⟩, .int .u64 0, .int .i64 0, .string ⟨#[]⟩, .string ⟨#[]⟩, .int .i64 0, .int .i64 0, .slice none 0 0, .int .i64 0, .int .i64 0, .int .i64 0, .int .i64 0, .string ⟨#[]⟩, .int .i64 0] Y0 := by
      refine ⟨(hbY.block _ hlt).trans hy0, (hbY.block _ hfb).trans hy1, ?_, ?_, HB1.out.1.trans (hbY.mono HB1.out.1.size)⟩
      · rw [hY]; exact ((Below.refl (W1.heap.size + 1) _).alloc (by simp) _ |>.block _ (by omega)).trans (heap_alloc_new W1 _)
      · rw [hY]
        have := heap_alloc_new (W1.alloc (.cells #[.bool false, .bool false, .bool true, .bool true, .bool false] 60)) (.cells #[.int .i64 kd, .string ⟨#[]⟩, .string ⟨#[]⟩, .int .u64 0, .int .i64 0, .string ⟨#[]⟩, .string ⟨#[]⟩, .int .i64 0, .int .i64 0, .slice none 0 0, .int .i64 0, .int .i64 0, .int .i64 0, .int .i64 0, .string ⟨#[]⟩, .int .i64 0] 29)
        rwa [World.size_alloc] at this
    have D0 := Lib.hid (Sp.Dp.old HB1.out.2 hbY)
    have BB := Lib.hid (And.intro b0 (And.intro b1 (And.intro b2 (And.intro b3 b4))))
    clear hbY b0 b1 b2 b3 b4
    go_upto_region 3 with fail
    rw [← hY]
    clear hY hy0 hy1 l0
    have f0 := (cell_at g0.fl (i := 0) rfl).1
    have f1 := (cell_at g0.fl (i := 1) rfl).1
    have f2 := (cell_at g0.fl (i := 2) rfl).1
    have f3 := (cell_at g0.fl (i := 3) rfl).1
    have f4 := (cell_at g0.fl (i := 4) rfl).1
    have c0 := (cell_at g0.cb (i := 1) rfl).1
    obtain ⟨z0, z1⟩ := cell_at g0.ob (i := 1) rfl
    have G0 := Lib.hid g0
    clear g0
    go_upto_region 9 with fail
    clear f0 f1 f2 f3 f4 c0 z0 z1
    obtain ⟨Y1, hU⟩ : ∃ U, U = setAll (W1.heap.size + 1) 1 Y0 [.string nm] := ⟨_, rfl⟩
    have hU' := hU
    simp only [setAll] at hU'
    rw [← hU']
    clear hU'
    obtain ⟨g, -⟩ := G0.out.sets hfb 1 [.string nm] (by simp)
    rw [← hU] at g
    have g1 : Gn w W1.heap.size #[.int .i64 kd, .string nm, .string wk, .int .u64 tk, .int .i64 vl, .string snm, .string stn, .int .i64 spr, .int .i64 sdl, .slice sa sn sc, .int .i64 sbs, .int .i64 scp, .int .i64 sat, .int .i64 sls, .string scr, .int .i64 sct] #[.bool false, .bool false, .bool true, .bool true, .bool false] #[.int .i64 kd, .string nm, .string ⟨#[]⟩, .int .u64 0, .int .i64 0, .string ⟨#[]⟩, .string ⟨#[]⟩, .int .i64 0, .int .i64 0, .slice none 0 0, .int .i64 0, .int .i64 0, .int .i64 0, .int .i64 0, .string ⟨#[]⟩, .int .i64 0] Y1 := g
    clear g hU
    have f0 := (cell_at g1.fl (i := 0) rfl).1
    have f1 := (cell_at g1.fl (i := 1) rfl).1
    have f2 := (cell_at g1.fl (i := 2) rfl).1
    have f3 := (cell_at g1.fl (i := 3) rfl).1
    have f4 := (cell_at g1.fl (i := 4) rfl).1
    have c0 := (cell_at g1.cb (i := 3) rfl).1
    obtain ⟨z0, z1⟩ := cell_at g1.ob (i := 3) rfl
    have G1 := Lib.hid g1
    clear g1
    go_upto_region 11 with fail
    clear f0 f1 f2 f3 f4 c0 z0 z1
    obtain ⟨Y2, hU⟩ : ∃ U, U = setAll (W1.heap.size + 1) 3 Y1 [.int .u64 tk] := ⟨_, rfl⟩
    have hU' := hU
    simp only [setAll] at hU'
    rw [← hU']
    clear hU'
    obtain ⟨g, -⟩ := G1.out.sets hfb 3 [.int .u64 tk] (by simp)
    rw [← hU] at g
    have g2 : Gn w W1.heap.size #[.int .i64 kd, .string nm, .string wk, .int .u64 tk, .int .i64 vl, .string snm, .string stn, .int .i64 spr, .int .i64 sdl, .slice sa sn sc, .int .i64 sbs, .int .i64 scp, .int .i64 sat, .int .i64 sls, .string scr, .int .i64 sct] #[.bool false, .bool false, .bool true, .bool true, .bool false] #[.int .i64 kd, .string nm, .string ⟨#[]⟩, .int .u64 tk, .int .i64 0, .string ⟨#[]⟩, .string ⟨#[]⟩, .int .i64 0, .int .i64 0, .slice none 0 0, .int .i64 0, .int .i64 0, .int .i64 0, .int .i64 0, .string ⟨#[]⟩, .int .i64 0] Y2 := g
    clear g hU
    have f0 := (cell_at g2.fl (i := 0) rfl).1
    have f1 := (cell_at g2.fl (i := 1) rfl).1
    have f2 := (cell_at g2.fl (i := 2) rfl).1
    have f3 := (cell_at g2.fl (i := 3) rfl).1
    have f4 := (cell_at g2.fl (i := 4) rfl).1
    have GE := Lib.hid g2
    clear g2
    go_upto_region 13 with fail
    clear f0 f1 f2 f3 f4
    have g2 := GE.out
    obtain ⟨CS, hCS⟩ : ∃ CS : List Value, CS = [.int .i64 kd, .string nm, .string ⟨#[]⟩, .int .u64 tk, .int .i64 0, .string ⟨#[]⟩, .string ⟨#[]⟩, .int .i64 0, .int .i64 0, .slice none 0 0, .int .i64 0, .int .i64 0, .int .i64 0, .int .i64 0, .string ⟨#[]⟩, .int .i64 0] := ⟨_, rfl⟩
    have hrng : Y2.rangeAt (W1.heap.size + 1) 0 CS := range_of (by rw [hCS]; exact g2.ob)
    have hthr : Y2.there (w.heap.size + 1) 0 CS.toArray.size := there_of g2.rs (by rw [hCS]; simp)
    have hinf : (Try.prog.info? 29).map (·.size) = some CS.length := by rw [hCS]; exact info_cmd'
    have hinf2 : (Try.prog.info? 29).map (·.size) = some CS.toArray.size := by rw [hCS]; exact info_cmd'
    have hone : CS.toArray.all (·.oneCell') = true := by rw [List.all_toArray, hCS]; rfl
    obtain ⟨x1, x2, x3⟩ := g2.fin CS (by rw [hCS]; rfl)
    obtain ⟨X, hX⟩ : ∃ X, X = setAll (w.heap.size + 1) 0 Y2 CS := ⟨_, rfl⟩
    rw [← hX] at x1 x2 x3
    have HX' := Lib.hid (And.intro hX hCS)
    have HXX := Lib.hid (And.intro x1 (And.intro x2 x3))
    clear g2 hX hCS x1 x2 x3
    go_wp2_with (first | (refine wpList_load_mid rfl 29 _ rfl (W1.heap.size + 1) 0 rfl CS _ hrng Try.underlying29 rfl hinf ?_) | (refine wpList_store_mid rfl 29 _ _ rfl (w.heap.size + 1) 0 CS.toArray rfl rfl hthr hinf2 hone ?_))
    rw [setCells_all, ← HX'.out.1]
    refine bodyPost_ret (v := .agg CS.toArray) ?_ rfl ?_
    · rw [results_c1 rfl]
      exact run_loadVar_mid X (w.heap.size + 1) 0 29 CS _ (range_of HXX.out.1) Try.underlying29 rfl hinf
    · obtain ⟨x1, x2, x3⟩ := HXX.out
      rw [HX'.out.2]
      refine ⟨⟨kd, nm, ⟨#[]⟩, tk, 0, zsp⟩, rfl, ?only, ?dp, x2⟩
      case only =>
        obtain ⟨b0, b1, b2, b3, b4⟩ := BB.out
        refine ⟨rfl, ?_, ?_, ?_, ?_, ?_⟩ <;> simp only [b0, b1, b2, b3, b4] <;> first | rfl | simp
      case dp => exact ⟨rfl, fun _ => rfl, .inl rfl⟩
  · as_aux_lemma =>
    obtain ⟨b0, b1, b2, b3, b4⟩ := fl_three h
    rw [b0, b1, b2, b3, b4]
    have Hh := Lib.hid h
    clear h
    obtain ⟨Y0, hY⟩ : ∃ Y, Y = (W1.alloc (.cells #[.bool false, .bool false, .bool true, .bool true, .bool true] 60)).alloc (.cells #[.int .i64 kd, .string ⟨#[]⟩, .string ⟨#[]⟩, .int .u64 0, .int .i64 0, .string ⟨#[]⟩, .string ⟨#[]⟩, .int .i64 0, .int .i64 0, .slice none 0 0, .int .i64 0, .int .i64 0, .int .i64 0, .int .i64 0, .string ⟨#[]⟩, .int .i64 0] 29) := ⟨_, rfl⟩
    have hbY : Below W1.heap.size W1 Y0 := by rw [hY]; exact ((Below.refl _ _).alloc (Nat.le_refl _) _).alloc (by simp) _
    have g0 : Gn w W1.heap.size #[.int .i64 kd, .string nm, .string wk, .int .u64 tk, .int .i64 vl, .string snm, .string stn, .int .i64 spr, .int .i64 sdl, .slice sa sn sc, .int .i64 sbs, .int .i64 scp, .int .i64 sat, .int .i64 sls, .string scr, .int .i64 sct] #[.bool false, .bool false, .bool true, .bool true, .bool true] #[.int .i64 kd, .string ⟨#[]⟩, .string ⟨#[]⟩, .int .u64 0, .int .i64 0, .string ⟨#[]⟩, .string ⟨#[]⟩, .int .i64 0, .int .i64 0, .slice none 0 0, .int .i64 0, .int .i64 0, .int .i64 0, .int .i64 0, .string ⟨#[]⟩, .int .i64 0] Y0 := by
      refine ⟨(hbY.block _ hlt).trans hy0, (hbY.block _ hfb).trans hy1, ?_, ?_, HB1.out.1.trans (hbY.mono HB1.out.1.size)⟩
      · rw [hY]; exact ((Below.refl (W1.heap.size + 1) _).alloc (by simp) _ |>.block _ (by omega)).trans (heap_alloc_new W1 _)
      · rw [hY]
        have := heap_alloc_new (W1.alloc (.cells #[.bool false, .bool false, .bool true, .bool true, .bool true] 60)) (.cells #[.int .i64 kd, .string ⟨#[]⟩, .string ⟨#[]⟩, .int .u64 0, .int .i64 0, .string ⟨#[]⟩, .string ⟨#[]⟩, .int .i64 0, .int .i64 0, .slice none 0 0, .int .i64 0, .int .i64 0, .int .i64 0, .int .i64 0, .string ⟨#[]⟩, .int .i64 0] 29)
        rwa [World.size_alloc] at this
    have D0 := Lib.hid (Sp.Dp.old HB1.out.2 hbY)
    have BB := Lib.hid (And.intro b0 (And.intro b1 (And.intro b2 (And.intro b3 b4))))
    clear hbY b0 b1 b2 b3 b4
    go_upto_region 3 with fail
    rw [← hY]
    clear hY hy0 hy1 l0
    have f0 := (cell_at g0.fl (i := 0) rfl).1
    have f1 := (cell_at g0.fl (i := 1) rfl).1
    have f2 := (cell_at g0.fl (i := 2) rfl).1
    have f3 := (cell_at g0.fl (i := 3) rfl).1
    have f4 := (cell_at g0.fl (i := 4) rfl).1
    have c0 := (cell_at g0.cb (i := 1) rfl).1
    obtain ⟨z0, z1⟩ := cell_at g0.ob (i := 1) rfl
    have G0 := Lib.hid g0
    clear g0
    go_upto_region 9 with fail
    clear f0 f1 f2 f3 f4 c0 z0 z1
    obtain ⟨Y1, hU⟩ : ∃ U, U = setAll (W1.heap.size + 1) 1 Y0 [.string nm] := ⟨_, rfl⟩
    have hU' := hU
    simp only [setAll] at hU'
    rw [← hU']
    clear hU'
    obtain ⟨g, -⟩ := G0.out.sets hfb 1 [.string nm] (by simp)
    rw [← hU] at g
    have g1 : Gn w W1.heap.size #[.int .i64 kd, .string nm, .string wk, .int .u64 tk, .int .i64 vl, .string snm, .string stn, .int .i64 spr, .int .i64 sdl, .slice sa sn sc, .int .i64 sbs, .int .i64 scp, .int .i64 sat, .int .i64 sls, .string scr, .int .i64 sct] #[.bool false, .bool false, .bool true, .bool true, .bool true] #[.int .i64 kd, .string nm, .string ⟨#[]⟩, .int .u64 0, .int .i64 0, .string ⟨#[]⟩, .string ⟨#[]⟩, .int .i64 0, .int .i64 0, .slice none 0 0, .int .i64 0, .int .i64 0, .int .i64 0, .int .i64 0, .string ⟨#[]⟩, .int .i64 0] Y1 := g
    clear g hU
    have f0 := (cell_at g1.fl (i := 0) rfl).1
    have f1 := (cell_at g1.fl (i := 1) rfl).1
    have f2 := (cell_at g1.fl (i := 2) rfl).1
    have f3 := (cell_at g1.fl (i := 3) rfl).1
    have f4 := (cell_at g1.fl (i := 4) rfl).1
    have c0 := (cell_at g1.cb (i := 3) rfl).1
    obtain ⟨z0, z1⟩ := cell_at g1.ob (i := 3) rfl
    have G1 := Lib.hid g1
    clear g1
    go_upto_region 11 with fail
    clear f0 f1 f2 f3 f4 c0 z0 z1
    obtain ⟨Y2, hU⟩ : ∃ U, U = setAll (W1.heap.size + 1) 3 Y1 [.int .u64 tk] := ⟨_, rfl⟩
    have hU' := hU
    simp only [setAll] at hU'
    rw [← hU']
    clear hU'
    obtain ⟨g, -⟩ := G1.out.sets hfb 3 [.int .u64 tk] (by simp)
    rw [← hU] at g
    have g2 : Gn w W1.heap.size #[.int .i64 kd, .string nm, .string wk, .int .u64 tk, .int .i64 vl, .string snm, .string stn, .int .i64 spr, .int .i64 sdl, .slice sa sn sc, .int .i64 sbs, .int .i64 scp, .int .i64 sat, .int .i64 sls, .string scr, .int .i64 sct] #[.bool false, .bool false, .bool true, .bool true, .bool true] #[.int .i64 kd, .string nm, .string ⟨#[]⟩, .int .u64 tk, .int .i64 0, .string ⟨#[]⟩, .string ⟨#[]⟩, .int .i64 0, .int .i64 0, .slice none 0 0, .int .i64 0, .int .i64 0, .int .i64 0, .int .i64 0, .string ⟨#[]⟩, .int .i64 0] Y2 := g
    clear g hU
    have f0 := (cell_at g2.fl (i := 0) rfl).1
    have f1 := (cell_at g2.fl (i := 1) rfl).1
    have f2 := (cell_at g2.fl (i := 2) rfl).1
    have f3 := (cell_at g2.fl (i := 3) rfl).1
    have f4 := (cell_at g2.fl (i := 4) rfl).1
    have c0 := (cell_at g2.cb (i := 4) rfl).1
    obtain ⟨z0, z1⟩ := cell_at g2.ob (i := 4) rfl
    have G2 := Lib.hid g2
    clear g2
    go_upto_region 13 with fail
    clear f0 f1 f2 f3 f4 c0 z0 z1
    obtain ⟨Y3, hU⟩ : ∃ U, U = setAll (W1.heap.size + 1) 4 Y2 [.int .i64 vl] := ⟨_, rfl⟩
    have hU' := hU
    simp only [setAll] at hU'
    rw [← hU']
    clear hU'
    obtain ⟨g, -⟩ := G2.out.sets hfb 4 [.int .i64 vl] (by simp)
    rw [← hU] at g
    have g3 : Gn w W1.heap.size #[.int .i64 kd, .string nm, .string wk, .int .u64 tk, .int .i64 vl, .string snm, .string stn, .int .i64 spr, .int .i64 sdl, .slice sa sn sc, .int .i64 sbs, .int .i64 scp, .int .i64 sat, .int .i64 sls, .string scr, .int .i64 sct] #[.bool false, .bool false, .bool true, .bool true, .bool true] #[.int .i64 kd, .string nm, .string ⟨#[]⟩, .int .u64 tk, .int .i64 vl, .string ⟨#[]⟩, .string ⟨#[]⟩, .int .i64 0, .int .i64 0, .slice none 0 0, .int .i64 0, .int .i64 0, .int .i64 0, .int .i64 0, .string ⟨#[]⟩, .int .i64 0] Y3 := g
    clear g hU
    obtain ⟨CS, hCS⟩ : ∃ CS : List Value, CS = [.int .i64 kd, .string nm, .string ⟨#[]⟩, .int .u64 tk, .int .i64 vl, .string ⟨#[]⟩, .string ⟨#[]⟩, .int .i64 0, .int .i64 0, .slice none 0 0, .int .i64 0, .int .i64 0, .int .i64 0, .int .i64 0, .string ⟨#[]⟩, .int .i64 0] := ⟨_, rfl⟩
    have hrng : Y3.rangeAt (W1.heap.size + 1) 0 CS := range_of (by rw [hCS]; exact g3.ob)
    have hthr : Y3.there (w.heap.size + 1) 0 CS.toArray.size := there_of g3.rs (by rw [hCS]; simp)
    have hinf : (Try.prog.info? 29).map (·.size) = some CS.length := by rw [hCS]; exact info_cmd'
    have hinf2 : (Try.prog.info? 29).map (·.size) = some CS.toArray.size := by rw [hCS]; exact info_cmd'
    have hone : CS.toArray.all (·.oneCell') = true := by rw [List.all_toArray, hCS]; rfl
    obtain ⟨x1, x2, x3⟩ := g3.fin CS (by rw [hCS]; rfl)
    obtain ⟨X, hX⟩ : ∃ X, X = setAll (w.heap.size + 1) 0 Y3 CS := ⟨_, rfl⟩
    rw [← hX] at x1 x2 x3
    have HX' := Lib.hid (And.intro hX hCS)
    have HXX := Lib.hid (And.intro x1 (And.intro x2 x3))
    clear g3 hX hCS x1 x2 x3
    go_wp2_with (first | (refine wpList_load_mid rfl 29 _ rfl (W1.heap.size + 1) 0 rfl CS _ hrng Try.underlying29 rfl hinf ?_) | (refine wpList_store_mid rfl 29 _ _ rfl (w.heap.size + 1) 0 CS.toArray rfl rfl hthr hinf2 hone ?_))
    rw [setCells_all, ← HX'.out.1]
    refine bodyPost_ret (v := .agg CS.toArray) ?_ rfl ?_
    · rw [results_c1 rfl]
      exact run_loadVar_mid X (w.heap.size + 1) 0 29 CS _ (range_of HXX.out.1) Try.underlying29 rfl hinf
    · obtain ⟨x1, x2, x3⟩ := HXX.out
      rw [HX'.out.2]
      refine ⟨⟨kd, nm, ⟨#[]⟩, tk, vl, zsp⟩, rfl, ?only, ?dp, x2⟩
      case only =>
        obtain ⟨b0, b1, b2, b3, b4⟩ := BB.out
        refine ⟨rfl, ?_, ?_, ?_, ?_, ?_⟩ <;> simp only [b0, b1, b2, b3, b4] <;> first | rfl | simp
      case dp => exact ⟨rfl, fun _ => rfl, .inl rfl⟩
  · as_aux_lemma =>
    obtain ⟨b0, b1, b2, b3, b4⟩ := fl_name h
    rw [b0, b1, b2, b3, b4]
    have Hh := Lib.hid h
    clear h
    obtain ⟨Y0, hY⟩ : ∃ Y, Y = (W1.alloc (.cells #[.bool false, .bool false, .bool true, .bool false, .bool false] 60)).alloc (.cells #[.int .i64 kd, .string ⟨#[]⟩, .string ⟨#[]⟩, .int .u64 0, .int .i64 0, .string ⟨#[]⟩, .string ⟨#[]⟩, .int .i64 0, .int .i64 0, .slice none 0 0, .int .i64 0, .int .i64 0, .int .i64 0, .int .i64 0, .string ⟨#[]⟩, .int .i64 0] 29) := ⟨_, rfl⟩
    have hbY : Below W1.heap.size W1 Y0 := by rw [hY]; exact ((Below.refl _ _).alloc (Nat.le_refl _) _).alloc (by simp) _
    have g0 : Gn w W1.heap.size #[.int .i64 kd, .string nm, .string wk, .int .u64 tk, .int .i64 vl, .string snm, .string stn, .int .i64 spr, .int .i64 sdl, .slice sa sn sc, .int .i64 sbs, .int .i64 scp, .int .i64 sat, .int .i64 sls, .string scr, .int .i64 sct] #[.bool false, .bool false, .bool true, .bool false, .bool false] #[.int .i64 kd, .string ⟨#[]⟩, .string ⟨#[]⟩, .int .u64 0, .int .i64 0, .string ⟨#[]⟩, .string ⟨#[]⟩, .int .i64 0, .int .i64 0, .slice none 0 0, .int .i64 0, .int .i64 0, .int .i64 0, .int .i64 0, .string ⟨#[]⟩, .int .i64 0] Y0 := by
      refine ⟨(hbY.block _ hlt).trans hy0, (hbY.block _ hfb).trans hy1, ?_, ?_, HB1.out.1.trans (hbY.mono HB1.out.1.size)⟩
      · rw [hY]; exact ((Below.refl (W1.heap.size + 1) _).alloc (by simp) _ |>.block _ (by omega)).trans (heap_alloc_new W1 _)
      · rw [hY]
        have := heap_alloc_new (W1.alloc (.cells #[.bool false, .bool false, .bool true, .bool false, .bool false] 60)) (.cells #[.int .i64 kd, .string ⟨#[]⟩, .string ⟨#[]⟩, .int .u64 0, .int .i64 0, .string ⟨#[]⟩, .string ⟨#[]⟩, .int .i64 0, .int .i64 0, .slice none 0 0, .int .i64 0, .int .i64 0, .int .i64 0, .int .i64 0, .string ⟨#[]⟩, .int .i64 0] 29)
        rwa [World.size_alloc] at this
    have D0 := Lib.hid (Sp.Dp.old HB1.out.2 hbY)
    have BB := Lib.hid (And.intro b0 (And.intro b1 (And.intro b2 (And.intro b3 b4))))
    clear hbY b0 b1 b2 b3 b4
    go_upto_region 3 with fail
    rw [← hY]
    clear hY hy0 hy1 l0
    have f0 := (cell_at g0.fl (i := 0) rfl).1
    have f1 := (cell_at g0.fl (i := 1) rfl).1
    have f2 := (cell_at g0.fl (i := 2) rfl).1
    have f3 := (cell_at g0.fl (i := 3) rfl).1
    have f4 := (cell_at g0.fl (i := 4) rfl).1
    have c0 := (cell_at g0.cb (i := 1) rfl).1
    obtain ⟨z0, z1⟩ := cell_at g0.ob (i := 1) rfl
    have G0 := Lib.hid g0
    clear g0
    go_upto_region 9 with fail
    clear f0 f1 f2 f3 f4 c0 z0 z1
    obtain ⟨Y1, hU⟩ : ∃ U, U = setAll (W1.heap.size + 1) 1 Y0 [.string nm] := ⟨_, rfl⟩
    have hU' := hU
    simp only [setAll] at hU'
    rw [← hU']
    clear hU'
    obtain ⟨g, -⟩ := G0.out.sets hfb 1 [.string nm] (by simp)
    rw [← hU] at g
    have g1 : Gn w W1.heap.size #[.int .i64 kd, .string nm, .string wk, .int .u64 tk, .int .i64 vl, .string snm, .string stn, .int .i64 spr, .int .i64 sdl, .slice sa sn sc, .int .i64 sbs, .int .i64 scp, .int .i64 sat, .int .i64 sls, .string scr, .int .i64 sct] #[.bool false, .bool false, .bool true, .bool false, .bool false] #[.int .i64 kd, .string nm, .string ⟨#[]⟩, .int .u64 0, .int .i64 0, .string ⟨#[]⟩, .string ⟨#[]⟩, .int .i64 0, .int .i64 0, .slice none 0 0, .int .i64 0, .int .i64 0, .int .i64 0, .int .i64 0, .string ⟨#[]⟩, .int .i64 0] Y1 := g
    clear g hU
    have f0 := (cell_at g1.fl (i := 0) rfl).1
    have f1 := (cell_at g1.fl (i := 1) rfl).1
    have f2 := (cell_at g1.fl (i := 2) rfl).1
    have f3 := (cell_at g1.fl (i := 3) rfl).1
    have f4 := (cell_at g1.fl (i := 4) rfl).1
    have GE := Lib.hid g1
    clear g1
    go_upto_region 13 with fail
    clear f0 f1 f2 f3 f4
    have g1 := GE.out
    obtain ⟨CS, hCS⟩ : ∃ CS : List Value, CS = [.int .i64 kd, .string nm, .string ⟨#[]⟩, .int .u64 0, .int .i64 0, .string ⟨#[]⟩, .string ⟨#[]⟩, .int .i64 0, .int .i64 0, .slice none 0 0, .int .i64 0, .int .i64 0, .int .i64 0, .int .i64 0, .string ⟨#[]⟩, .int .i64 0] := ⟨_, rfl⟩
    have hrng : Y1.rangeAt (W1.heap.size + 1) 0 CS := range_of (by rw [hCS]; exact g1.ob)
    have hthr : Y1.there (w.heap.size + 1) 0 CS.toArray.size := there_of g1.rs (by rw [hCS]; simp)
    have hinf : (Try.prog.info? 29).map (·.size) = some CS.length := by rw [hCS]; exact info_cmd'
    have hinf2 : (Try.prog.info? 29).map (·.size) = some CS.toArray.size := by rw [hCS]; exact info_cmd'
    have hone : CS.toArray.all (·.oneCell') = true := by rw [List.all_toArray, hCS]; rfl
    obtain ⟨x1, x2, x3⟩ := g1.fin CS (by rw [hCS]; rfl)
    obtain ⟨X, hX⟩ : ∃ X, X = setAll (w.heap.size + 1) 0 Y1 CS := ⟨_, rfl⟩
    rw [← hX] at x1 x2 x3
    have HX' := Lib.hid (And.intro hX hCS)
    have HXX := Lib.hid (And.intro x1 (And.intro x2 x3))
    clear g1 hX hCS x1 x2 x3
    go_wp2_with (first | (refine wpList_load_mid rfl 29 _ rfl (W1.heap.size + 1) 0 rfl CS _ hrng Try.underlying29 rfl hinf ?_) | (refine wpList_store_mid rfl 29 _ _ rfl (w.heap.size + 1) 0 CS.toArray rfl rfl hthr hinf2 hone ?_))
    rw [setCells_all, ← HX'.out.1]
    refine bodyPost_ret (v := .agg CS.toArray) ?_ rfl ?_
    · rw [results_c1 rfl]
      exact run_loadVar_mid X (w.heap.size + 1) 0 29 CS _ (range_of HXX.out.1) Try.underlying29 rfl hinf
    · obtain ⟨x1, x2, x3⟩ := HXX.out
      rw [HX'.out.2]
      refine ⟨⟨kd, nm, ⟨#[]⟩, 0, 0, zsp⟩, rfl, ?only, ?dp, x2⟩
      case only =>
        obtain ⟨b0, b1, b2, b3, b4⟩ := BB.out
        refine ⟨rfl, ?_, ?_, ?_, ?_, ?_⟩ <;> simp only [b0, b1, b2, b3, b4] <;> first | rfl | simp
      case dp => exact ⟨rfl, fun _ => rfl, .inl rfl⟩
  · as_aux_lemma =>
    obtain ⟨b0, b1, b2, b3, b4⟩ := fl_value h
    rw [b0, b1, b2, b3, b4]
    have Hh := Lib.hid h
    clear h
    obtain ⟨Y0, hY⟩ : ∃ Y, Y = (W1.alloc (.cells #[.bool false, .bool false, .bool false, .bool false, .bool true] 60)).alloc (.cells #[.int .i64 kd, .string ⟨#[]⟩, .string ⟨#[]⟩, .int .u64 0, .int .i64 0, .string ⟨#[]⟩, .string ⟨#[]⟩, .int .i64 0, .int .i64 0, .slice none 0 0, .int .i64 0, .int .i64 0, .int .i64 0, .int .i64 0, .string ⟨#[]⟩, .int .i64 0] 29) := ⟨_, rfl⟩
    have hbY : Below W1.heap.size W1 Y0 := by rw [hY]; exact ((Below.refl _ _).alloc (Nat.le_refl _) _).alloc (by simp) _
    have g0 : Gn w W1.heap.size #[.int .i64 kd, .string nm, .string wk, .int .u64 tk, .int .i64 vl, .string snm, .string stn, .int .i64 spr, .int .i64 sdl, .slice sa sn sc, .int .i64 sbs, .int .i64 scp, .int .i64 sat, .int .i64 sls, .string scr, .int .i64 sct] #[.bool false, .bool false, .bool false, .bool false, .bool true] #[.int .i64 kd, .string ⟨#[]⟩, .string ⟨#[]⟩, .int .u64 0, .int .i64 0, .string ⟨#[]⟩, .string ⟨#[]⟩, .int .i64 0, .int .i64 0, .slice none 0 0, .int .i64 0, .int .i64 0, .int .i64 0, .int .i64 0, .string ⟨#[]⟩, .int .i64 0] Y0 := by
      refine ⟨(hbY.block _ hlt).trans hy0, (hbY.block _ hfb).trans hy1, ?_, ?_, HB1.out.1.trans (hbY.mono HB1.out.1.size)⟩
      · rw [hY]; exact ((Below.refl (W1.heap.size + 1) _).alloc (by simp) _ |>.block _ (by omega)).trans (heap_alloc_new W1 _)
      · rw [hY]
        have := heap_alloc_new (W1.alloc (.cells #[.bool false, .bool false, .bool false, .bool false, .bool true] 60)) (.cells #[.int .i64 kd, .string ⟨#[]⟩, .string ⟨#[]⟩, .int .u64 0, .int .i64 0, .string ⟨#[]⟩, .string ⟨#[]⟩, .int .i64 0, .int .i64 0, .slice none 0 0, .int .i64 0, .int .i64 0, .int .i64 0, .int .i64 0, .string ⟨#[]⟩, .int .i64 0] 29)
        rwa [World.size_alloc] at this
    have D0 := Lib.hid (Sp.Dp.old HB1.out.2 hbY)
    have BB := Lib.hid (And.intro b0 (And.intro b1 (And.intro b2 (And.intro b3 b4))))
    clear hbY b0 b1 b2 b3 b4
    go_upto_region 3 with fail
    rw [← hY]
    clear hY hy0 hy1 l0
    have f0 := (cell_at g0.fl (i := 0) rfl).1
    have f1 := (cell_at g0.fl (i := 1) rfl).1
    have f2 := (cell_at g0.fl (i := 2) rfl).1
    have f3 := (cell_at g0.fl (i := 3) rfl).1
    have f4 := (cell_at g0.fl (i := 4) rfl).1
    have c0 := (cell_at g0.cb (i := 4) rfl).1
    obtain ⟨z0, z1⟩ := cell_at g0.ob (i := 4) rfl
    have G0 := Lib.hid g0
    clear g0
    go_upto_region 13 with fail
    clear f0 f1 f2 f3 f4 c0 z0 z1
    obtain ⟨Y1, hU⟩ : ∃ U, U = setAll (W1.heap.size + 1) 4 Y0 [.int .i64 vl] := ⟨_, rfl⟩
    have hU' := hU
    simp only [setAll] at hU'
    rw [← hU']
    clear hU'
    obtain ⟨g, -⟩ := G0.out.sets hfb 4 [.int .i64 vl] (by simp)
    rw [← hU] at g
    have g1 : Gn w W1.heap.size #[.int .i64 kd, .string nm, .string wk, .int .u64 tk, .int .i64 vl, .string snm, .string stn, .int .i64 spr, .int .i64 sdl, .slice sa sn sc, .int .i64 sbs, .int .i64 scp, .int .i64 sat, .int .i64 sls, .string scr, .int .i64 sct] #[.bool false, .bool false, .bool false, .bool false, .bool true] #[.int .i64 kd, .string ⟨#[]⟩, .string ⟨#[]⟩, .int .u64 0, .int .i64 vl, .string ⟨#[]⟩, .string ⟨#[]⟩, .int .i64 0, .int .i64 0, .slice none 0 0, .int .i64 0, .int .i64 0, .int .i64 0, .int .i64 0, .string ⟨#[]⟩, .int .i64 0] Y1 := g
    clear g hU
    obtain ⟨CS, hCS⟩ : ∃ CS : List Value, CS = [.int .i64 kd, .string ⟨#[]⟩, .string ⟨#[]⟩, .int .u64 0, .int .i64 vl, .string ⟨#[]⟩, .string ⟨#[]⟩, .int .i64 0, .int .i64 0, .slice none 0 0, .int .i64 0, .int .i64 0, .int .i64 0, .int .i64 0, .string ⟨#[]⟩, .int .i64 0] := ⟨_, rfl⟩
    have hrng : Y1.rangeAt (W1.heap.size + 1) 0 CS := range_of (by rw [hCS]; exact g1.ob)
    have hthr : Y1.there (w.heap.size + 1) 0 CS.toArray.size := there_of g1.rs (by rw [hCS]; simp)
    have hinf : (Try.prog.info? 29).map (·.size) = some CS.length := by rw [hCS]; exact info_cmd'
    have hinf2 : (Try.prog.info? 29).map (·.size) = some CS.toArray.size := by rw [hCS]; exact info_cmd'
    have hone : CS.toArray.all (·.oneCell') = true := by rw [List.all_toArray, hCS]; rfl
    obtain ⟨x1, x2, x3⟩ := g1.fin CS (by rw [hCS]; rfl)
    obtain ⟨X, hX⟩ : ∃ X, X = setAll (w.heap.size + 1) 0 Y1 CS := ⟨_, rfl⟩
    rw [← hX] at x1 x2 x3
    have HX' := Lib.hid (And.intro hX hCS)
    have HXX := Lib.hid (And.intro x1 (And.intro x2 x3))
    clear g1 hX hCS x1 x2 x3
    go_wp2_with (first | (refine wpList_load_mid rfl 29 _ rfl (W1.heap.size + 1) 0 rfl CS _ hrng Try.underlying29 rfl hinf ?_) | (refine wpList_store_mid rfl 29 _ _ rfl (w.heap.size + 1) 0 CS.toArray rfl rfl hthr hinf2 hone ?_))
    rw [setCells_all, ← HX'.out.1]
    refine bodyPost_ret (v := .agg CS.toArray) ?_ rfl ?_
    · rw [results_c1 rfl]
      exact run_loadVar_mid X (w.heap.size + 1) 0 29 CS _ (range_of HXX.out.1) Try.underlying29 rfl hinf
    · obtain ⟨x1, x2, x3⟩ := HXX.out
      rw [HX'.out.2]
      refine ⟨⟨kd, ⟨#[]⟩, ⟨#[]⟩, 0, vl, zsp⟩, rfl, ?only, ?dp, x2⟩
      case only =>
        obtain ⟨b0, b1, b2, b3, b4⟩ := BB.out
        refine ⟨rfl, ?_, ?_, ?_, ?_, ?_⟩ <;> simp only [b0, b1, b2, b3, b4] <;> first | rfl | simp
      case dp => exact ⟨rfl, fun _ => rfl, .inl rfl⟩
  · as_aux_lemma =>
    obtain ⟨b0, b1, b2, b3, b4⟩ := fl_none h
    rw [b0, b1, b2, b3, b4]
    have Hh := Lib.hid h
    clear h
    obtain ⟨Y0, hY⟩ : ∃ Y, Y = (W1.alloc (.cells #[.bool false, .bool false, .bool false, .bool false, .bool false] 60)).alloc (.cells #[.int .i64 kd, .string ⟨#[]⟩, .string ⟨#[]⟩, .int .u64 0, .int .i64 0, .string ⟨#[]⟩, .string ⟨#[]⟩, .int .i64 0, .int .i64 0, .slice none 0 0, .int .i64 0, .int .i64 0, .int .i64 0, .int .i64 0, .string ⟨#[]⟩, .int .i64 0] 29) := ⟨_, rfl⟩
    have hbY : Below W1.heap.size W1 Y0 := by rw [hY]; exact ((Below.refl _ _).alloc (Nat.le_refl _) _).alloc (by simp) _
    have g0 : Gn w W1.heap.size #[.int .i64 kd, .string nm, .string wk, .int .u64 tk, .int .i64 vl, .string snm, .string stn, .int .i64 spr, .int .i64 sdl, .slice sa sn sc, .int .i64 sbs, .int .i64 scp, .int .i64 sat, .int .i64 sls, .string scr, .int .i64 sct] #[.bool false, .bool false, .bool false, .bool false, .bool false] #[.int .i64 kd, .string ⟨#[]⟩, .string ⟨#[]⟩, .int .u64 0, .int .i64 0, .string ⟨#[]⟩, .string ⟨#[]⟩, .int .i64 0, .int .i64 0, .slice none 0 0, .int .i64 0, .int .i64 0, .int .i64 0, .int .i64 0, .string ⟨#[]⟩, .int .i64 0] Y0 := by
      refine ⟨(hbY.block _ hlt).trans hy0, (hbY.block _ hfb).trans hy1, ?_, ?_, HB1.out.1.trans (hbY.mono HB1.out.1.size)⟩
      · rw [hY]; exact ((Below.refl (W1.heap.size + 1) _).alloc (by simp) _ |>.block _ (by omega)).trans (heap_alloc_new W1 _)
      · rw [hY]
        have := heap_alloc_new (W1.alloc (.cells #[.bool false, .bool false, .bool false, .bool false, .bool false] 60)) (.cells #[.int .i64 kd, .string ⟨#[]⟩, .string ⟨#[]⟩, .int .u64 0, .int .i64 0, .string ⟨#[]⟩, .string ⟨#[]⟩, .int .i64 0, .int .i64 0, .slice none 0 0, .int .i64 0, .int .i64 0, .int .i64 0, .int .i64 0, .string ⟨#[]⟩, .int .i64 0] 29)
        rwa [World.size_alloc] at this
    have D0 := Lib.hid (Sp.Dp.old HB1.out.2 hbY)
    have BB := Lib.hid (And.intro b0 (And.intro b1 (And.intro b2 (And.intro b3 b4))))
    clear hbY b0 b1 b2 b3 b4
    go_upto_region 3 with fail
    rw [← hY]
    clear hY hy0 hy1 l0
    have f0 := (cell_at g0.fl (i := 0) rfl).1
    have f1 := (cell_at g0.fl (i := 1) rfl).1
    have f2 := (cell_at g0.fl (i := 2) rfl).1
    have f3 := (cell_at g0.fl (i := 3) rfl).1
    have f4 := (cell_at g0.fl (i := 4) rfl).1
    have GE := Lib.hid g0
    clear g0
    go_upto_region 13 with fail
    clear f0 f1 f2 f3 f4
    have g0 := GE.out
    obtain ⟨CS, hCS⟩ : ∃ CS : List Value, CS = [.int .i64 kd, .string ⟨#[]⟩, .string ⟨#[]⟩, .int .u64 0, .int .i64 0, .string ⟨#[]⟩, .string ⟨#[]⟩, .int .i64 0, .int .i64 0, .slice none 0 0, .int .i64 0, .int .i64 0, .int .i64 0, .int .i64 0, .string ⟨#[]⟩, .int .i64 0] := ⟨_, rfl⟩
    have hrng : Y0.rangeAt (W1.heap.size + 1) 0 CS := range_of (by rw [hCS]; exact g0.ob)
    have hthr : Y0.there (w.heap.size + 1) 0 CS.toArray.size := there_of g0.rs (by rw [hCS]; simp)
    have hinf : (Try.prog.info? 29).map (·.size) = some CS.length := by rw [hCS]; exact info_cmd'
    have hinf2 : (Try.prog.info? 29).map (·.size) = some CS.toArray.size := by rw [hCS]; exact info_cmd'
    have hone : CS.toArray.all (·.oneCell') = true := by rw [List.all_toArray, hCS]; rfl
    obtain ⟨x1, x2, x3⟩ := g0.fin CS (by rw [hCS]; rfl)
    obtain ⟨X, hX⟩ : ∃ X, X = setAll (w.heap.size + 1) 0 Y0 CS := ⟨_, rfl⟩
    rw [← hX] at x1 x2 x3
    have HX' := Lib.hid (And.intro hX hCS)
    have HXX := Lib.hid (And.intro x1 (And.intro x2 x3))
    clear g0 hX hCS x1 x2 x3
    go_wp2_with (first | (refine wpList_load_mid rfl 29 _ rfl (W1.heap.size + 1) 0 rfl CS _ hrng Try.underlying29 rfl hinf ?_) | (refine wpList_store_mid rfl 29 _ _ rfl (w.heap.size + 1) 0 CS.toArray rfl rfl hthr hinf2 hone ?_))
    rw [setCells_all, ← HX'.out.1]
    refine bodyPost_ret (v := .agg CS.toArray) ?_ rfl ?_
    · rw [results_c1 rfl]
      exact run_loadVar_mid X (w.heap.size + 1) 0 29 CS _ (range_of HXX.out.1) Try.underlying29 rfl hinf
    · obtain ⟨x1, x2, x3⟩ := HXX.out
      rw [HX'.out.2]
      refine ⟨⟨kd, ⟨#[]⟩, ⟨#[]⟩, 0, 0, zsp⟩, rfl, ?only, ?dp, x2⟩
      case only =>
        obtain ⟨b0, b1, b2, b3, b4⟩ := BB.out
        refine ⟨rfl, ?_, ?_, ?_, ?_, ?_⟩ <;> simp only [b0, b1, b2, b3, b4] <;> first | rfl | simp
      case dp => exact ⟨rfl, fun _ => rfl, .inl rfl⟩
end Go.Proofs.Ytfidmjpjfigmcaa.Cm
