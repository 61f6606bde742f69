
/- commands as bytes: get -/
import Derived.Test.YtfidmjpjfigmcaaCmA
import Derived.Test.YtfidmjpjfigmcaaCm9
import Derived.Deep.DeepCutAuto
import Derived.Deep.CutBlock
namespace Go.Proofs.Ytfidmjpjfigmcaa.Cm
open Go.RowKit Go.Lib Wn Rf By
set_option linter.unusedVariables false
set_option maxRecDepth 20000
/-- in the midst of get: the result's block, the command's, the fields', the reader -/
structure Gc (w : World) (rb fb : Nat) (bs cs : Array Value) (W : World) (l : List UInt8) (e : Int) : Prop where
  rs : W.heap[w.heap.size]? = some (.cells #[.int .i64 0, .string ⟨#[]⟩, .string ⟨#[]⟩, .int .u64 0, .int .i64 0, .string ⟨#[]⟩, .string ⟨#[]⟩, .int .i64 0, .int .i64 0, .slice none 0 0, .int .i64 0, .int .i64 0, .int .i64 0, .int .i64 0, .string ⟨#[]⟩, .int .i64 0] 29 (0, 0))
  cb : W.heap[w.heap.size + 1]? = some (.cells cs 29 (0, 0))
  fb : W.heap[fb]? = some (.cells bs 60 (0, 0))
  rd : Rd W rb l e
  ar : Ar rb w W
theorem Gc.call {w : World} {rb fb : Nat} {bs cs : Array Value} {W W' : World} {l l' : List UInt8} {e e' : Int} (h : Gc w rb fb bs cs W l e) (hrb : rb < w.heap.size) (hfb : w.heap.size + 1 < fb) (hA : Ar rb W W') (hr : Rd W' rb l' e') : Gc w rb fb bs cs W' l' e' :=
  ⟨(hA.block _ (lt_of_block h.rs) (by omega)).trans h.rs, (hA.block _ (lt_of_block h.cb) (by omega)).trans h.cb, (hA.block _ (lt_of_block h.fb) (by omega)).trans h.fb, hr, h.ar.trans hA⟩
/-- the command's block is written -/
theorem Gc.sets {w : World} {rb fb : Nat} {bs cs : Array Value} {W : World} {l : List UInt8} {e : Int} (h : Gc w rb fb bs cs W l e) (hrb : rb < w.heap.size) (hfb : w.heap.size + 1 < fb) (i : Nat) (vs : List Value) (hl : i + vs.length ≤ cs.size) :
    Gc w rb fb bs (cs.toList.take i ++ vs ++ cs.toList.drop (i + vs.length)).toArray (setAll (w.heap.size + 1) i W vs) l e ∧ ∀ k, k ≠ w.heap.size + 1 → (setAll (w.heap.size + 1) i W vs).heap[k]? = W.heap[k]? := by
  obtain ⟨h1, h2, h3, h4, h5⟩ := setAll_other (b := w.heap.size + 1) vs i W
  refine ⟨⟨(h1 _ (by omega)).trans h.rs, setAll_part vs i W cs h.cb hl, (h1 _ (by omega)).trans h.fb, h.rd.kept (h1 _ (by omega)) (fun g cur hg => h1 g ?_), ⟨h3.trans h.ar.os, h4.trans h.ar.tape, h5.trans h.ar.output, by rw [h2]; exact h.ar.size, fun k hk hn => (h1 k (by omega)).trans (h.ar.block k hk hn)⟩⟩, h1⟩
  rintro rfl
  rw [h.cb] at hg
  simp at hg
/-- the result's block is written -/
theorem Gc.fin {w : World} {rb fb : Nat} {bs cs : Array Value} {W : World} {l : List UInt8} {e : Int} (h : Gc w rb fb bs cs W l e) (hrb : rb < w.heap.size) (vs : List Value) (hl : vs.length = 16) :
    (setAll w.heap.size 0 W vs).heap[w.heap.size]? = some (.cells vs.toArray 29 (0, 0)) ∧ Rd (setAll w.heap.size 0 W vs) rb l e ∧ Ar rb w (setAll w.heap.size 0 W vs) ∧ ∀ k, k ≠ w.heap.size → (setAll w.heap.size 0 W vs).heap[k]? = W.heap[k]? := by
  obtain ⟨h1, h2, h3, h4, h5⟩ := setAll_other (b := w.heap.size) vs 0 W
  refine ⟨setAll_all h.rs (by rw [hl]; rfl), h.rd.kept (h1 rb (by omega)) (fun g cur hg => h1 g ?_), ⟨h3.trans h.ar.os, h4.trans h.ar.tape, h5.trans h.ar.output, by rw [h2]; exact h.ar.size, fun k hk hn => (h1 k (by omega)).trans (h.ar.block k hk hn)⟩, h1⟩
  rintro rfl
  rw [h.rs] at hg
  simp at hg
/-- what get answers -/
def GotC (rb : Nat) (l : List UInt8) (er : Int) (w : World) (e : Ending) (w' : World) : Prop :=
  ∃ (c : Cmd) (l' : List UInt8) (er' : Int), e = .returned (.agg c.cells) ∧ c.wf ∧ Sp.Dp w' c.sp.a c.sp.n c.sp.ds ∧ Rd w' rb l' er' ∧ Ar rb w w' ∧ (er' = 0 → er = 0 ∧ (isK c.kd = true → l = cmdB c ++ l')) ∧ Only c c ∧ 0 ≤ c.kd ∧ c.kd ≤ 10 ∧ c.sp.n ≤ 255 ∧ (c.sp.n = 0 ∨ ∃ g, c.sp.a = some ⟨g, 0, none⟩ ∧ w.heap.size ≤ g)
theorem info_cmd : (Try.prog.info? 29).map (·.size) = some 16 := by kernel_rfl
theorem info_spec : (Try.prog.info? 27).map (·.size) = some 11 := by kernel_rfl
theorem zsp_wf : zsp.wf := by unfold zsp Sp.Spc.wf Sp.W64; decide
set_option maxHeartbeats 8000000 in
theorem get_any (rb : Nat) (l0 : List UInt8) (e0 : Int) (w : World) (h : Rd w rb l0 e0) :
    Calls Try.prog 19 #[.pointer (some ⟨rb, 0, none⟩)] w (GotC rb l0 e0 w) := by
  have hrb := h.lt
  obtain ⟨V, hV⟩ : ∃ V, V = w.alloc (.cells #[.int .i64 0, .string ⟨#[]⟩, .string ⟨#[]⟩, .int .u64 0, .int .i64 0, .string ⟨#[]⟩, .string ⟨#[]⟩, .int .i64 0, .int .i64 0, .slice none 0 0, .int .i64 0, .int .i64 0, .int .i64 0, .int .i64 0, .string ⟨#[]⟩, .int .i64 0] 29) := ⟨_, rfl⟩
  have hb : Below w.heap.size w V := by rw [hV]; exact (Below.refl _ _).alloc (Nat.le_refl _) _
  have hs : V.heap.size = w.heap.size + 1 := by rw [hV]; simp
  have hr0 : V.heap[w.heap.size]? = some (.cells #[.int .i64 0, .string ⟨#[]⟩, .string ⟨#[]⟩, .int .u64 0, .int .i64 0, .string ⟨#[]⟩, .string ⟨#[]⟩, .int .i64 0, .int .i64 0, .slice none 0 0, .int .i64 0, .int .i64 0, .int .i64 0, .int .i64 0, .string ⟨#[]⟩, .int .i64 0] 29 (0, 0)) := by rw [hV]; exact heap_alloc_new w _
  have HN := Lib.hid (num_r rb l0 e0 V (h.below hb))
  have A0 := Lib.hid (Ar.ofBelow (rb := rb) hb)
  clear hb h
  go_enter Try.func19, Try.ntmps19
  go_wp2_with fail
  rw [← hV]
  have HV := Lib.hid hV
  clear hV
  refine HN.out.mono ?_
  rintro e W1 ⟨x, l1, e1, rfl, hx, hr1, hA1, hk1, -⟩
  clear HN
  have hs1 : W1.heap.size = w.heap.size + 1 := by rw [hA1.size, hs]
  have hr1' := (hA1.block w.heap.size (by omega)).trans hr0
  have A1 := Lib.hid (A0.out.trans hA1.ar)
  have K1 := Lib.hid hk1
  clear hk1 hA1 hr0
  by_cases h10 : x ≤ 10
  · have hmin : min (x : Int) 10 = (x : Int) := by omega
    obtain ⟨U, hU⟩ : ∃ U, U = W1.alloc (.cells #[.int .i64 x, .string ⟨#[]⟩, .string ⟨#[]⟩, .int .u64 0, .int .i64 0, .string ⟨#[]⟩, .string ⟨#[]⟩, .int .i64 0, .int .i64 0, .slice none 0 0, .int .i64 0, .int .i64 0, .int .i64 0, .int .i64 0, .string ⟨#[]⟩, .int .i64 0] 29) := ⟨_, rfl⟩
    have hbU : Below W1.heap.size W1 U := by rw [hU]; exact (Below.refl _ _).alloc (Nat.le_refl _) _
    have hc0 : U.heap[w.heap.size + 1]? = some (.cells #[.int .i64 x, .string ⟨#[]⟩, .string ⟨#[]⟩, .int .u64 0, .int .i64 0, .string ⟨#[]⟩, .string ⟨#[]⟩, .int .i64 0, .int .i64 0, .slice none 0 0, .int .i64 0, .int .i64 0, .int .i64 0, .int .i64 0, .string ⟨#[]⟩, .int .i64 0] 29 (0, 0)) := by rw [hU, ← hs1]; exact heap_alloc_new W1 _
    have hrU := (hbU.block w.heap.size (by omega)).trans hr1'
    have hsU : U.heap.size = w.heap.size + 2 := by rw [hU]; simp [hs1]
    have HF := Lib.hid (fields_any x U)
    have RU := Lib.hid (And.intro (hr1.below hbU) (A1.out.trans (Ar.ofBelow hbU)))
    clear hr1 hbU hr1' hs
    go_wp2_with fail
    rw [← hU]
    clear hU hs1
    refine HF.out.mono ?_
    rintro e W2 ⟨rfl, hb2⟩
    have hr2 := (hb2.block w.heap.size (by omega)).trans hrU
    have hc2 := (hb2.block (w.heap.size + 1) (by omega)).trans hc0
    have R2 := Lib.hid (And.intro (RU.out.1.below hb2) (RU.out.2.trans (Ar.ofBelow hb2)))
    have hs2 := hb2.size
    have hfb : w.heap.size + 1 < W2.heap.size := by omega
    clear hb2 hrU hc0 hs2 hsU RU HF
    unfold flds
    rcases cls (x) with h | h | h | h | h | h | h
    · obtain ⟨b0, b1, b2, b3, b4⟩ := fl_spec h
      rw [b0, b1, b2, b3, b4]
      have Hh := Lib.hid h
      clear h
      obtain ⟨Y0, hY⟩ : ∃ Y, Y = W2.alloc (.cells #[.bool true, .bool false, .bool false, .bool false, .bool false] 60) := ⟨_, rfl⟩
      have hbY : Below W2.heap.size W2 Y0 := by rw [hY]; exact (Below.refl _ _).alloc (Nat.le_refl _) _
      have g0 : Gc w rb W2.heap.size #[.bool true, .bool false, .bool false, .bool false, .bool false] #[.int .i64 x, .string ⟨#[]⟩, .string ⟨#[]⟩, .int .u64 0, .int .i64 0, .string ⟨#[]⟩, .string ⟨#[]⟩, .int .i64 0, .int .i64 0, .slice none 0 0, .int .i64 0, .int .i64 0, .int .i64 0, .int .i64 0, .string ⟨#[]⟩, .int .i64 0] Y0 l1 e1 := ⟨(hbY.block _ (by omega)).trans hr2, (hbY.block _ hfb).trans hc2, by rw [hY]; exact heap_alloc_new W2 _, R2.out.1.below hbY, R2.out.2.trans (Ar.ofBelow hbY)⟩
      have hy2 := Lib.hid hbY.size
      have BB := Lib.hid (And.intro b0 (And.intro b1 (And.intro b2 (And.intro b3 b4))))
      clear hbY b0 b1 b2 b3 b4
      go_upto_region 3 with fail
      rw [← hY]
      clear hY hr2 hc2
      have HC := Lib.hid (spGet_any rb l1 e1 Y0 g0.rd)
      have f0 := (cell_at g0.fb (i := 0) rfl).1
      have f1 := (cell_at g0.fb (i := 1) rfl).1
      have f2 := (cell_at g0.fb (i := 2) rfl).1
      have f3 := (cell_at g0.fb (i := 3) rfl).1
      have f4 := (cell_at g0.fb (i := 4) rfl).1
      have Gj0 := Lib.hid g0
      clear g0
      go_wp2_with fail
      clear f0 f1 f2 f3 f4
      refine HC.out.mono ?_
      rintro e Z0 ⟨xs, l2, e2, rfl, hwx, hdx, hr, hA, hk, hzx, hnx, hgx⟩
      clear HC
      have gz := Gj0.out.call hrb hfb hA hr
      have HK0 := Lib.hid hk
      have HX := Lib.hid (And.intro hwx (And.intro hdx (And.intro hnx hgx)))
      have hsz := Lib.hid hA
      clear hwx hdx hnx hzx hgx
      have hthr : Z0.there (w.heap.size + 1) 5 xs.cells.size := by
        intro k hk
        have hk' : k < 11 := hk
        simp only [World.cell?, World.frozen?, gz.cb]
        refine ⟨?_, by simp⟩
        rw [Array.getElem?_eq_getElem (by simp; omega)]
        rfl
      have hinf : (Try.prog.info? 27).map (·.size) = some xs.cells.size := info_spec
      have hone : xs.cells.all (·.oneCell') = true := by unfold Sp.Spc.cells; rw [List.all_toArray]; rfl
      have GZ := Lib.hid gz
      clear hA hr hk gz
      go_upto_region 5 with (refine wpList_store_mid rfl 27 _ _ rfl (w.heap.size + 1) 5 xs.cells rfl rfl hthr hinf hone ?_)
      rw [setCells_all]
      clear hthr hinf hone
      obtain ⟨Y1, hU⟩ : ∃ U, U = setAll (w.heap.size + 1) 5 Z0 xs.cells.toList := ⟨_, rfl⟩
      rw [← hU]
      obtain ⟨g, go⟩ := GZ.out.sets hrb hfb 5 xs.cells.toList (by show 5 + 11 ≤ 16; omega)
      rw [← hU] at g go
      have GO0 := Lib.hid go
      have g1 : Gc w rb W2.heap.size #[.bool true, .bool false, .bool false, .bool false, .bool false] #[.int .i64 x, .string ⟨#[]⟩, .string ⟨#[]⟩, .int .u64 0, .int .i64 0, .string xs.nm, .string xs.tn, .int .i64 xs.pr, .int .i64 xs.dl, .slice xs.a xs.n xs.c, .int .i64 xs.bs, .int .i64 xs.cp, .int .i64 xs.at', .int .i64 xs.ls, .string xs.cr, .int .i64 xs.ct] Y1 l2 e2 := g
      clear g go hU
      have f0 := (cell_at g1.fb (i := 0) rfl).1
      have f1 := (cell_at g1.fb (i := 1) rfl).1
      have f2 := (cell_at g1.fb (i := 2) rfl).1
      have f3 := (cell_at g1.fb (i := 3) rfl).1
      have f4 := (cell_at g1.fb (i := 4) rfl).1
      have GE := Lib.hid g1
      clear g1
      go_upto_region 13 with fail
      clear f0 f1 f2 f3 f4
      have g1 := GE.out
      obtain ⟨CS, hCS⟩ : ∃ CS : List Value, CS = [.int .i64 x, .string ⟨#[]⟩, .string ⟨#[]⟩, .int .u64 0, .int .i64 0, .string xs.nm, .string xs.tn, .int .i64 xs.pr, .int .i64 xs.dl, .slice xs.a xs.n xs.c, .int .i64 xs.bs, .int .i64 xs.cp, .int .i64 xs.at', .int .i64 xs.ls, .string xs.cr, .int .i64 xs.ct] := ⟨_, rfl⟩
      have hrng : Y1.rangeAt (w.heap.size + 1) 0 CS := range_of (by rw [hCS]; exact g1.cb)
      have hthr : Y1.there w.heap.size 0 CS.toArray.size := there_of g1.rs (by rw [hCS]; simp)
      have hinf : (Try.prog.info? 29).map (·.size) = some CS.length := by rw [hCS]; exact info_cmd
      have hinf2 : (Try.prog.info? 29).map (·.size) = some CS.toArray.size := by rw [hCS]; exact info_cmd
      have hone : CS.toArray.all (·.oneCell') = true := by rw [List.all_toArray, hCS]; rfl
      obtain ⟨x1, x2, x3, x4⟩ := g1.fin hrb CS (by rw [hCS]; rfl)
      obtain ⟨X, hX⟩ : ∃ X, X = setAll w.heap.size 0 Y1 CS := ⟨_, rfl⟩
      rw [← hX] at x1 x2 x3 x4
      have HX' := Lib.hid (And.intro hX hCS)
      have HXX := Lib.hid (And.intro x1 (And.intro x2 (And.intro x3 x4)))
      clear g1 hX hCS x1 x2 x3 x4
      go_wp2_with (first | (refine wpList_load_mid rfl 29 _ rfl (w.heap.size + 1) 0 rfl CS _ hrng Try.underlying29 rfl hinf ?_) | (refine wpList_store_mid rfl 29 _ _ rfl w.heap.size 0 CS.toArray rfl rfl hthr hinf2 hone ?_))
      rw [setCells_all, ← HX'.out.1]
      refine bodyPost_ret (v := .agg CS.toArray) ?_ rfl ?_
      · rw [results_c1 rfl]
        exact run_loadVar_mid X w.heap.size 0 29 CS _ (range_of HXX.out.1) Try.underlying29 rfl hinf
      · obtain ⟨x1, x2, x3, x4⟩ := HXX.out
        rw [HX'.out.2]
        refine ⟨⟨x, ⟨#[]⟩, ⟨#[]⟩, 0, 0, xs⟩, l2, e2, rfl, ⟨?wk, ?wt, ?wv, ?ws⟩, ?dp, x2, x3, ?ok, ?only, ?p0, ?p10, ?nn, ?gg⟩
        case p0 => show (0 : Int) ≤ (x : Int); omega
        case p10 => show (x : Int) ≤ 10; omega
        case wk =>
          show Sp.W64 (x : Int)
          unfold Sp.W64
          simp [Lit.wf, IntKind.min, IntKind.max, IntKind.signed, IntKind.bits]
          try omega
        case wt => first | exact htk | (show U64 0; unfold U64; decide)
        case wv => first | exact hvl | (show Sp.W64 0; unfold Sp.W64; decide)
        case ws => exact HX.out.1
        case nn => exact HX.out.2.2.1
        case gg =>
          rcases HX.out.2.2.2 with q | ⟨g, q, hg⟩
          · exact .inl q
          · exact .inr ⟨g, q, by have := hy2.out; omega⟩
        case dp =>
          have hd := HX.out.2.1
          refine ⟨hd.1, hd.2.1, ?_⟩
          rcases hd.2.2 with h0 | ⟨b, o, h1, h2⟩
          · exact .inl h0
          · by_cases h0 : xs.n = 0
            · exact .inl h0
            · refine .inr ⟨b, o, h1, fun i hi => ?_⟩
              have hb2 : W2.heap.size ≤ b := by
                rcases HX.out.2.2.2 with q | ⟨g, q, hg⟩
                · omega
                · rw [q] at h1
                  simp only [Option.some.injEq, Addr.mk.injEq] at h1
                  have := hy2.out
                  omega
              have n1 : b ≠ w.heap.size + 1 := by omega
              have n0 : b ≠ w.heap.size := by omega
              exact (World.cell?_of_block (w := Z0) (a := ⟨b, o + i, none⟩) ((x4 b n0).trans (GO0.out b n1))).trans (h2 i hi)
        case only =>
          obtain ⟨b0, b1, b2, b3, b4⟩ := BB.out
          refine ⟨rfl, ?_, ?_, ?_, ?_, ?_⟩ <;> simp only [b0, b1, b2, b3, b4] <;> first | rfl | simp
        case ok =>
          intro h0
          obtain ⟨q0, t0⟩ := HK0.out h0
          obtain ⟨q, t⟩ := K1.out q0
          refine ⟨q, fun hkk => ?_⟩
          rw [t, t0]
          unfold cmdB
          rw [tl_spec Hh.out]
          simp only [List.append_assoc, Int.toNat_natCast]
    · obtain ⟨b0, b1, b2, b3, b4⟩ := fl_worker h
      rw [b0, b1, b2, b3, b4]
      have Hh := Lib.hid h
      clear h
      obtain ⟨Y0, hY⟩ : ∃ Y, Y = W2.alloc (.cells #[.bool false, .bool true, .bool false, .bool false, .bool false] 60) := ⟨_, rfl⟩
      have hbY : Below W2.heap.size W2 Y0 := by rw [hY]; exact (Below.refl _ _).alloc (Nat.le_refl _) _
      have g0 : Gc w rb W2.heap.size #[.bool false, .bool true, .bool false, .bool false, .bool false] #[.int .i64 x, .string ⟨#[]⟩, .string ⟨#[]⟩, .int .u64 0, .int .i64 0, .string ⟨#[]⟩, .string ⟨#[]⟩, .int .i64 0, .int .i64 0, .slice none 0 0, .int .i64 0, .int .i64 0, .int .i64 0, .int .i64 0, .string ⟨#[]⟩, .int .i64 0] Y0 l1 e1 := ⟨(hbY.block _ (by omega)).trans hr2, (hbY.block _ hfb).trans hc2, by rw [hY]; exact heap_alloc_new W2 _, R2.out.1.below hbY, R2.out.2.trans (Ar.ofBelow hbY)⟩
      have hy2 := Lib.hid hbY.size
      have BB := Lib.hid (And.intro b0 (And.intro b1 (And.intro b2 (And.intro b3 b4))))
      clear hbY b0 b1 b2 b3 b4
      go_upto_region 3 with fail
      rw [← hY]
      clear hY hr2 hc2
      have HC := Lib.hid (text_r rb l1 e1 255 Y0 g0.rd (by decide))
      have f0 := (cell_at g0.fb (i := 0) rfl).1
      have f1 := (cell_at g0.fb (i := 1) rfl).1
      have f2 := (cell_at g0.fb (i := 2) rfl).1
      have f3 := (cell_at g0.fb (i := 3) rfl).1
      have f4 := (cell_at g0.fb (i := 4) rfl).1
      have Gj0 := Lib.hid g0
      clear g0
      go_wp2_with fail
      clear f0 f1 f2 f3 f4
      refine HC.out.mono ?_
      rintro e Z0 ⟨wk, l2, e2, rfl, hsz0, hr, hA, hk⟩
      clear HC
      have gz := Gj0.out.call hrb hfb hA.ar hr
      have HK0 := Lib.hid hk
      obtain ⟨c2, z2⟩ := cell_at gz.cb (i := 2) rfl
      have GZ := Lib.hid gz
      clear hA hr hk gz
      go_upto_region 7 with fail
      clear c2 z2
      obtain ⟨Y1, hU⟩ : ∃ U, U = setAll (w.heap.size + 1) 2 Z0 [.string wk] := ⟨_, rfl⟩
      have hU' := hU
      simp only [setAll] at hU'
      rw [← hU']
      clear hU'
      obtain ⟨g, go⟩ := GZ.out.sets hrb hfb 2 [.string wk] (by simp)
      rw [← hU] at g go
      have GO0 := Lib.hid go
      have g1 : Gc w rb W2.heap.size #[.bool false, .bool true, .bool false, .bool false, .bool false] #[.int .i64 x, .string ⟨#[]⟩, .string wk, .int .u64 0, .int .i64 0, .string ⟨#[]⟩, .string ⟨#[]⟩, .int .i64 0, .int .i64 0, .slice none 0 0, .int .i64 0, .int .i64 0, .int .i64 0, .int .i64 0, .string ⟨#[]⟩, .int .i64 0] Y1 l2 e2 := g
      clear g go hU
      have f0 := (cell_at g1.fb (i := 0) rfl).1
      have f1 := (cell_at g1.fb (i := 1) rfl).1
      have f2 := (cell_at g1.fb (i := 2) rfl).1
      have f3 := (cell_at g1.fb (i := 3) rfl).1
      have f4 := (cell_at g1.fb (i := 4) rfl).1
      have GE := Lib.hid g1
      clear g1
      go_upto_region 13 with fail
      clear f0 f1 f2 f3 f4
      have g1 := GE.out
      obtain ⟨CS, hCS⟩ : ∃ CS : List Value, CS = [.int .i64 x, .string ⟨#[]⟩, .string wk, .int .u64 0, .int .i64 0, .string ⟨#[]⟩, .string ⟨#[]⟩, .int .i64 0, .int .i64 0, .slice none 0 0, .int .i64 0, .int .i64 0, .int .i64 0, .int .i64 0, .string ⟨#[]⟩, .int .i64 0] := ⟨_, rfl⟩
      have hrng : Y1.rangeAt (w.heap.size + 1) 0 CS := range_of (by rw [hCS]; exact g1.cb)
      have hthr : Y1.there w.heap.size 0 CS.toArray.size := there_of g1.rs (by rw [hCS]; simp)
      have hinf : (Try.prog.info? 29).map (·.size) = some CS.length := by rw [hCS]; exact info_cmd
      have hinf2 : (Try.prog.info? 29).map (·.size) = some CS.toArray.size := by rw [hCS]; exact info_cmd
      have hone : CS.toArray.all (·.oneCell') = true := by rw [List.all_toArray, hCS]; rfl
      obtain ⟨x1, x2, x3, x4⟩ := g1.fin hrb CS (by rw [hCS]; rfl)
      obtain ⟨X, hX⟩ : ∃ X, X = setAll w.heap.size 0 Y1 CS := ⟨_, rfl⟩
      rw [← hX] at x1 x2 x3 x4
      have HX' := Lib.hid (And.intro hX hCS)
      have HXX := Lib.hid (And.intro x1 (And.intro x2 (And.intro x3 x4)))
      clear g1 hX hCS x1 x2 x3 x4
      go_wp2_with (first | (refine wpList_load_mid rfl 29 _ rfl (w.heap.size + 1) 0 rfl CS _ hrng Try.underlying29 rfl hinf ?_) | (refine wpList_store_mid rfl 29 _ _ rfl w.heap.size 0 CS.toArray rfl rfl hthr hinf2 hone ?_))
      rw [setCells_all, ← HX'.out.1]
      refine bodyPost_ret (v := .agg CS.toArray) ?_ rfl ?_
      · rw [results_c1 rfl]
        exact run_loadVar_mid X w.heap.size 0 29 CS _ (range_of HXX.out.1) Try.underlying29 rfl hinf
      · obtain ⟨x1, x2, x3, x4⟩ := HXX.out
        rw [HX'.out.2]
        refine ⟨⟨x, ⟨#[]⟩, wk, 0, 0, zsp⟩, l2, e2, rfl, ⟨?wk, ?wt, ?wv, ?ws⟩, ?dp, x2, x3, ?ok, ?only, ?p0, ?p10, ?nn, ?gg⟩
        case p0 => show (0 : Int) ≤ (x : Int); omega
        case p10 => show (x : Int) ≤ 10; omega
        case wk =>
          show Sp.W64 (x : Int)
          unfold Sp.W64
          simp [Lit.wf, IntKind.min, IntKind.max, IntKind.signed, IntKind.bits]
          try omega
        case wt => first | exact htk | (show U64 0; unfold U64; decide)
        case wv => first | exact hvl | (show Sp.W64 0; unfold Sp.W64; decide)
        case ws => exact zsp_wf
        case nn => exact Nat.zero_le _
        case gg => exact .inl rfl
        case dp => exact ⟨rfl, fun _ => rfl, .inl rfl⟩
        case only =>
          obtain ⟨b0, b1, b2, b3, b4⟩ := BB.out
          refine ⟨rfl, ?_, ?_, ?_, ?_, ?_⟩ <;> simp only [b0, b1, b2, b3, b4] <;> first | rfl | simp
        case ok =>
          intro h0
          obtain ⟨q0, t0⟩ := HK0.out h0
          obtain ⟨q, t⟩ := K1.out q0
          refine ⟨q, fun hkk => ?_⟩
          rw [t, t0]
          unfold cmdB
          rw [tl_worker Hh.out]
          simp only [List.append_assoc, Int.toNat_natCast]
    · obtain ⟨b0, b1, b2, b3, b4⟩ := fl_two h
      rw [b0, b1, b2, b3, b4]
      have Hh := Lib.hid h
      clear h
      obtain ⟨Y0, hY⟩ : ∃ Y, Y = W2.alloc (.cells #[.bool false, .bool false, .bool true, .bool true, .bool false] 60) := ⟨_, rfl⟩
      have hbY : Below W2.heap.size W2 Y0 := by rw [hY]; exact (Below.refl _ _).alloc (Nat.le_refl _) _
      have g0 : Gc w rb W2.heap.size #[.bool false, .bool false, .bool true, .bool true, .bool false] #[.int .i64 x, .string ⟨#[]⟩, .string ⟨#[]⟩, .int .u64 0, .int .i64 0, .string ⟨#[]⟩, .string ⟨#[]⟩, .int .i64 0, .int .i64 0, .slice none 0 0, .int .i64 0, .int .i64 0, .int .i64 0, .int .i64 0, .string ⟨#[]⟩, .int .i64 0] Y0 l1 e1 := ⟨(hbY.block _ (by omega)).trans hr2, (hbY.block _ hfb).trans hc2, by rw [hY]; exact heap_alloc_new W2 _, R2.out.1.below hbY, R2.out.2.trans (Ar.ofBelow hbY)⟩
      have hy2 := Lib.hid hbY.size
      have BB := Lib.hid (And.intro b0 (And.intro b1 (And.intro b2 (And.intro b3 b4))))
      clear hbY b0 b1 b2 b3 b4
      go_upto_region 3 with fail
      rw [← hY]
      clear hY hr2 hc2
      have HC := Lib.hid (text_r rb l1 e1 255 Y0 g0.rd (by decide))
      have f0 := (cell_at g0.fb (i := 0) rfl).1
      have f1 := (cell_at g0.fb (i := 1) rfl).1
      have f2 := (cell_at g0.fb (i := 2) rfl).1
      have f3 := (cell_at g0.fb (i := 3) rfl).1
      have f4 := (cell_at g0.fb (i := 4) rfl).1
      have Gj0 := Lib.hid g0
      clear g0
      go_wp2_with fail
      clear f0 f1 f2 f3 f4
      refine HC.out.mono ?_
      rintro e Z0 ⟨nm, l2, e2, rfl, hsz0, hr, hA, hk⟩
      clear HC
      have gz := Gj0.out.call hrb hfb hA.ar hr
      have HK0 := Lib.hid hk
      obtain ⟨c1, z1⟩ := cell_at gz.cb (i := 1) rfl
      have GZ := Lib.hid gz
      clear hA hr hk gz
      go_upto_region 9 with fail
      clear c1 z1
      obtain ⟨Y1, hU⟩ : ∃ U, U = setAll (w.heap.size + 1) 1 Z0 [.string nm] := ⟨_, rfl⟩
      have hU' := hU
      simp only [setAll] at hU'
      rw [← hU']
      clear hU'
      obtain ⟨g, go⟩ := GZ.out.sets hrb hfb 1 [.string nm] (by simp)
      rw [← hU] at g go
      have GO0 := Lib.hid go
      have g1 : Gc w rb W2.heap.size #[.bool false, .bool false, .bool true, .bool true, .bool false] #[.int .i64 x, .string nm, .string ⟨#[]⟩, .int .u64 0, .int .i64 0, .string ⟨#[]⟩, .string ⟨#[]⟩, .int .i64 0, .int .i64 0, .slice none 0 0, .int .i64 0, .int .i64 0, .int .i64 0, .int .i64 0, .string ⟨#[]⟩, .int .i64 0] Y1 l2 e2 := g
      clear g go hU
      have HC := Lib.hid (num_r rb l2 e2 Y1 g1.rd)
      have f0 := (cell_at g1.fb (i := 0) rfl).1
      have f1 := (cell_at g1.fb (i := 1) rfl).1
      have f2 := (cell_at g1.fb (i := 2) rfl).1
      have f3 := (cell_at g1.fb (i := 3) rfl).1
      have f4 := (cell_at g1.fb (i := 4) rfl).1
      have Gj1 := Lib.hid g1
      clear g1
      go_wp2_with fail
      clear f0 f1 f2 f3 f4
      refine HC.out.mono ?_
      rintro e Z1 ⟨tk, l3, e3, rfl, htk, hr, hA, hk, -⟩
      clear HC
      have gz := Gj1.out.call hrb hfb hA.ar hr
      have HK1 := Lib.hid hk
      obtain ⟨c3, z3⟩ := cell_at gz.cb (i := 3) rfl
      have GZ := Lib.hid gz
      clear hA hr hk gz
      go_upto_region 11 with fail
      clear c3 z3
      obtain ⟨Y2, hU⟩ : ∃ U, U = setAll (w.heap.size + 1) 3 Z1 [.int .u64 tk] := ⟨_, rfl⟩
      have hU' := hU
      simp only [setAll] at hU'
      rw [← hU']
      clear hU'
      obtain ⟨g, go⟩ := GZ.out.sets hrb hfb 3 [.int .u64 tk] (by simp)
      rw [← hU] at g go
      have GO1 := Lib.hid go
      have g2 : Gc w rb W2.heap.size #[.bool false, .bool false, .bool true, .bool true, .bool false] #[.int .i64 x, .string nm, .string ⟨#[]⟩, .int .u64 tk, .int .i64 0, .string ⟨#[]⟩, .string ⟨#[]⟩, .int .i64 0, .int .i64 0, .slice none 0 0, .int .i64 0, .int .i64 0, .int .i64 0, .int .i64 0, .string ⟨#[]⟩, .int .i64 0] Y2 l3 e3 := g
      clear g go hU
      have f0 := (cell_at g2.fb (i := 0) rfl).1
      have f1 := (cell_at g2.fb (i := 1) rfl).1
      have f2 := (cell_at g2.fb (i := 2) rfl).1
      have f3 := (cell_at g2.fb (i := 3) rfl).1
      have f4 := (cell_at g2.fb (i := 4) rfl).1
      have GE := Lib.hid g2
      clear g2
      go_upto_region 13 with fail
      clear f0 f1 f2 f3 f4
      have g2 := GE.out
      obtain ⟨CS, hCS⟩ : ∃ CS : List Value, CS = [.int .i64 x, .string nm, .string ⟨#[]⟩, .int .u64 tk, .int .i64 0, .string ⟨#[]⟩, .string ⟨#[]⟩, .int .i64 0, .int .i64 0, .slice none 0 0, .int .i64 0, .int .i64 0, .int .i64 0, .int .i64 0, .string ⟨#[]⟩, .int .i64 0] := ⟨_, rfl⟩
      have hrng : Y2.rangeAt (w.heap.size + 1) 0 CS := range_of (by rw [hCS]; exact g2.cb)
      have hthr : Y2.there w.heap.size 0 CS.toArray.size := there_of g2.rs (by rw [hCS]; simp)
      have hinf : (Try.prog.info? 29).map (·.size) = some CS.length := by rw [hCS]; exact info_cmd
      have hinf2 : (Try.prog.info? 29).map (·.size) = some CS.toArray.size := by rw [hCS]; exact info_cmd
      have hone : CS.toArray.all (·.oneCell') = true := by rw [List.all_toArray, hCS]; rfl
      obtain ⟨x1, x2, x3, x4⟩ := g2.fin hrb CS (by rw [hCS]; rfl)
      obtain ⟨X, hX⟩ : ∃ X, X = setAll w.heap.size 0 Y2 CS := ⟨_, rfl⟩
      rw [← hX] at x1 x2 x3 x4
      have HX' := Lib.hid (And.intro hX hCS)
      have HXX := Lib.hid (And.intro x1 (And.intro x2 (And.intro x3 x4)))
      clear g2 hX hCS x1 x2 x3 x4
      go_wp2_with (first | (refine wpList_load_mid rfl 29 _ rfl (w.heap.size + 1) 0 rfl CS _ hrng Try.underlying29 rfl hinf ?_) | (refine wpList_store_mid rfl 29 _ _ rfl w.heap.size 0 CS.toArray rfl rfl hthr hinf2 hone ?_))
      rw [setCells_all, ← HX'.out.1]
      refine bodyPost_ret (v := .agg CS.toArray) ?_ rfl ?_
      · rw [results_c1 rfl]
        exact run_loadVar_mid X w.heap.size 0 29 CS _ (range_of HXX.out.1) Try.underlying29 rfl hinf
      · obtain ⟨x1, x2, x3, x4⟩ := HXX.out
        rw [HX'.out.2]
        refine ⟨⟨x, nm, ⟨#[]⟩, tk, 0, zsp⟩, l3, e3, rfl, ⟨?wk, ?wt, ?wv, ?ws⟩, ?dp, x2, x3, ?ok, ?only, ?p0, ?p10, ?nn, ?gg⟩
        case p0 => show (0 : Int) ≤ (x : Int); omega
        case p10 => show (x : Int) ≤ 10; omega
        case wk =>
          show Sp.W64 (x : Int)
          unfold Sp.W64
          simp [Lit.wf, IntKind.min, IntKind.max, IntKind.signed, IntKind.bits]
          try omega
        case wt => first | exact htk | (show U64 0; unfold U64; decide)
        case wv => first | exact hvl | (show Sp.W64 0; unfold Sp.W64; decide)
        case ws => exact zsp_wf
        case nn => exact Nat.zero_le _
        case gg => exact .inl rfl
        case dp => exact ⟨rfl, fun _ => rfl, .inl rfl⟩
        case only =>
          obtain ⟨b0, b1, b2, b3, b4⟩ := BB.out
          refine ⟨rfl, ?_, ?_, ?_, ?_, ?_⟩ <;> simp only [b0, b1, b2, b3, b4] <;> first | rfl | simp
        case ok =>
          intro h0
          obtain ⟨q1, t1⟩ := HK1.out h0
          obtain ⟨q0, t0⟩ := HK0.out q1
          obtain ⟨q, t⟩ := K1.out q0
          refine ⟨q, fun hkk => ?_⟩
          rw [t, t0, t1]
          unfold cmdB
          rw [tl_two Hh.out]
          simp only [List.append_assoc, Int.toNat_natCast]
    · obtain ⟨b0, b1, b2, b3, b4⟩ := fl_three h
      rw [b0, b1, b2, b3, b4]
      have Hh := Lib.hid h
      clear h
      obtain ⟨Y0, hY⟩ : ∃ Y, Y = W2.alloc (.cells #[.bool false, .bool false, .bool true, .bool true, .bool true] 60) := ⟨_, rfl⟩
      have hbY : Below W2.heap.size W2 Y0 := by rw [hY]; exact (Below.refl _ _).alloc (Nat.le_refl _) _
      have g0 : Gc w rb W2.heap.size #[.bool false, .bool false, .bool true, .bool true, .bool true] #[.int .i64 x, .string ⟨#[]⟩, .string ⟨#[]⟩, .int .u64 0, .int .i64 0, .string ⟨#[]⟩, .string ⟨#[]⟩, .int .i64 0, .int .i64 0, .slice none 0 0, .int .i64 0, .int .i64 0, .int .i64 0, .int .i64 0, .string ⟨#[]⟩, .int .i64 0] Y0 l1 e1 := ⟨(hbY.block _ (by omega)).trans hr2, (hbY.block _ hfb).trans hc2, by rw [hY]; exact heap_alloc_new W2 _, R2.out.1.below hbY, R2.out.2.trans (Ar.ofBelow hbY)⟩
      have hy2 := Lib.hid hbY.size
      have BB := Lib.hid (And.intro b0 (And.intro b1 (And.intro b2 (And.intro b3 b4))))
      clear hbY b0 b1 b2 b3 b4
      go_upto_region 3 with fail
      rw [← hY]
      clear hY hr2 hc2
      have HC := Lib.hid (text_r rb l1 e1 255 Y0 g0.rd (by decide))
      have f0 := (cell_at g0.fb (i := 0) rfl).1
      have f1 := (cell_at g0.fb (i := 1) rfl).1
      have f2 := (cell_at g0.fb (i := 2) rfl).1
      have f3 := (cell_at g0.fb (i := 3) rfl).1
      have f4 := (cell_at g0.fb (i := 4) rfl).1
      have Gj0 := Lib.hid g0
      clear g0
      go_wp2_with fail
      clear f0 f1 f2 f3 f4
      refine HC.out.mono ?_
      rintro e Z0 ⟨nm, l2, e2, rfl, hsz0, hr, hA, hk⟩
      clear HC
      have gz := Gj0.out.call hrb hfb hA.ar hr
      have HK0 := Lib.hid hk
      obtain ⟨c1, z1⟩ := cell_at gz.cb (i := 1) rfl
      have GZ := Lib.hid gz
      clear hA hr hk gz
      go_upto_region 9 with fail
      clear c1 z1
      obtain ⟨Y1, hU⟩ : ∃ U, U = setAll (w.heap.size + 1) 1 Z0 [.string nm] := ⟨_, rfl⟩
      have hU' := hU
      simp only [setAll] at hU'
      rw [← hU']
      clear hU'
      obtain ⟨g, go⟩ := GZ.out.sets hrb hfb 1 [.string nm] (by simp)
      rw [← hU] at g go
      have GO0 := Lib.hid go
      have g1 : Gc w rb W2.heap.size #[.bool false, .bool false, .bool true, .bool true, .bool true] #[.int .i64 x, .string nm, .string ⟨#[]⟩, .int .u64 0, .int .i64 0, .string ⟨#[]⟩, .string ⟨#[]⟩, .int .i64 0, .int .i64 0, .slice none 0 0, .int .i64 0, .int .i64 0, .int .i64 0, .int .i64 0, .string ⟨#[]⟩, .int .i64 0] Y1 l2 e2 := g
      clear g go hU
      have HC := Lib.hid (num_r rb l2 e2 Y1 g1.rd)
      have f0 := (cell_at g1.fb (i := 0) rfl).1
      have f1 := (cell_at g1.fb (i := 1) rfl).1
      have f2 := (cell_at g1.fb (i := 2) rfl).1
      have f3 := (cell_at g1.fb (i := 3) rfl).1
      have f4 := (cell_at g1.fb (i := 4) rfl).1
      have Gj1 := Lib.hid g1
      clear g1
      go_wp2_with fail
      clear f0 f1 f2 f3 f4
      refine HC.out.mono ?_
      rintro e Z1 ⟨tk, l3, e3, rfl, htk, hr, hA, hk, -⟩
      clear HC
      have gz := Gj1.out.call hrb hfb hA.ar hr
      have HK1 := Lib.hid hk
      obtain ⟨c3, z3⟩ := cell_at gz.cb (i := 3) rfl
      have GZ := Lib.hid gz
      clear hA hr hk gz
      go_upto_region 11 with fail
      clear c3 z3
      obtain ⟨Y2, hU⟩ : ∃ U, U = setAll (w.heap.size + 1) 3 Z1 [.int .u64 tk] := ⟨_, rfl⟩
      have hU' := hU
      simp only [setAll] at hU'
      rw [← hU']
      clear hU'
      obtain ⟨g, go⟩ := GZ.out.sets hrb hfb 3 [.int .u64 tk] (by simp)
      rw [← hU] at g go
      have GO1 := Lib.hid go
      have g2 : Gc w rb W2.heap.size #[.bool false, .bool false, .bool true, .bool true, .bool true] #[.int .i64 x, .string nm, .string ⟨#[]⟩, .int .u64 tk, .int .i64 0, .string ⟨#[]⟩, .string ⟨#[]⟩, .int .i64 0, .int .i64 0, .slice none 0 0, .int .i64 0, .int .i64 0, .int .i64 0, .int .i64 0, .string ⟨#[]⟩, .int .i64 0] Y2 l3 e3 := g
      clear g go hU
      have HC := Lib.hid (int_r rb l3 e3 Y2 g2.rd)
      have f0 := (cell_at g2.fb (i := 0) rfl).1
      have f1 := (cell_at g2.fb (i := 1) rfl).1
      have f2 := (cell_at g2.fb (i := 2) rfl).1
      have f3 := (cell_at g2.fb (i := 3) rfl).1
      have f4 := (cell_at g2.fb (i := 4) rfl).1
      have Gj2 := Lib.hid g2
      clear g2
      go_wp2_with fail
      clear f0 f1 f2 f3 f4
      refine HC.out.mono ?_
      rintro e Z2 ⟨vl, l4, e4, rfl, hvl, hr, hA, hk⟩
      clear HC
      have gz := Gj2.out.call hrb hfb hA.ar hr
      have HK2 := Lib.hid hk
      obtain ⟨c4, z4⟩ := cell_at gz.cb (i := 4) rfl
      have GZ := Lib.hid gz
      clear hA hr hk gz
      go_upto_region 13 with fail
      clear c4 z4
      obtain ⟨Y3, hU⟩ : ∃ U, U = setAll (w.heap.size + 1) 4 Z2 [.int .i64 vl] := ⟨_, rfl⟩
      have hU' := hU
      simp only [setAll] at hU'
      rw [← hU']
      clear hU'
      obtain ⟨g, go⟩ := GZ.out.sets hrb hfb 4 [.int .i64 vl] (by simp)
      rw [← hU] at g go
      have GO2 := Lib.hid go
      have g3 : Gc w rb W2.heap.size #[.bool false, .bool false, .bool true, .bool true, .bool true] #[.int .i64 x, .string nm, .string ⟨#[]⟩, .int .u64 tk, .int .i64 vl, .string ⟨#[]⟩, .string ⟨#[]⟩, .int .i64 0, .int .i64 0, .slice none 0 0, .int .i64 0, .int .i64 0, .int .i64 0, .int .i64 0, .string ⟨#[]⟩, .int .i64 0] Y3 l4 e4 := g
      clear g go hU
      obtain ⟨CS, hCS⟩ : ∃ CS : List Value, CS = [.int .i64 x, .string nm, .string ⟨#[]⟩, .int .u64 tk, .int .i64 vl, .string ⟨#[]⟩, .string ⟨#[]⟩, .int .i64 0, .int .i64 0, .slice none 0 0, .int .i64 0, .int .i64 0, .int .i64 0, .int .i64 0, .string ⟨#[]⟩, .int .i64 0] := ⟨_, rfl⟩
      have hrng : Y3.rangeAt (w.heap.size + 1) 0 CS := range_of (by rw [hCS]; exact g3.cb)
      have hthr : Y3.there w.heap.size 0 CS.toArray.size := there_of g3.rs (by rw [hCS]; simp)
      have hinf : (Try.prog.info? 29).map (·.size) = some CS.length := by rw [hCS]; exact info_cmd
      have hinf2 : (Try.prog.info? 29).map (·.size) = some CS.toArray.size := by rw [hCS]; exact info_cmd
      have hone : CS.toArray.all (·.oneCell') = true := by rw [List.all_toArray, hCS]; rfl
      obtain ⟨x1, x2, x3, x4⟩ := g3.fin hrb CS (by rw [hCS]; rfl)
      obtain ⟨X, hX⟩ : ∃ X, X = setAll w.heap.size 0 Y3 CS := ⟨_, rfl⟩
      rw [← hX] at x1 x2 x3 x4
      have HX' := Lib.hid (And.intro hX hCS)
      have HXX := Lib.hid (And.intro x1 (And.intro x2 (And.intro x3 x4)))
      clear g3 hX hCS x1 x2 x3 x4
      go_wp2_with (first | (refine wpList_load_mid rfl 29 _ rfl (w.heap.size + 1) 0 rfl CS _ hrng Try.underlying29 rfl hinf ?_) | (refine wpList_store_mid rfl 29 _ _ rfl w.heap.size 0 CS.toArray rfl rfl hthr hinf2 hone ?_))
      rw [setCells_all, ← HX'.out.1]
      refine bodyPost_ret (v := .agg CS.toArray) ?_ rfl ?_
      · rw [results_c1 rfl]
        exact run_loadVar_mid X w.heap.size 0 29 CS _ (range_of HXX.out.1) Try.underlying29 rfl hinf
      · obtain ⟨x1, x2, x3, x4⟩ := HXX.out
        rw [HX'.out.2]
        refine ⟨⟨x, nm, ⟨#[]⟩, tk, vl, zsp⟩, l4, e4, rfl, ⟨?wk, ?wt, ?wv, ?ws⟩, ?dp, x2, x3, ?ok, ?only, ?p0, ?p10, ?nn, ?gg⟩
        case p0 => show (0 : Int) ≤ (x : Int); omega
        case p10 => show (x : Int) ≤ 10; omega
        case wk =>
          show Sp.W64 (x : Int)
          unfold Sp.W64
          simp [Lit.wf, IntKind.min, IntKind.max, IntKind.signed, IntKind.bits]
          try omega
        case wt => first | exact htk | (show U64 0; unfold U64; decide)
        case wv => first | exact hvl | (show Sp.W64 0; unfold Sp.W64; decide)
        case ws => exact zsp_wf
        case nn => exact Nat.zero_le _
        case gg => exact .inl rfl
        case dp => exact ⟨rfl, fun _ => rfl, .inl rfl⟩
        case only =>
          obtain ⟨b0, b1, b2, b3, b4⟩ := BB.out
          refine ⟨rfl, ?_, ?_, ?_, ?_, ?_⟩ <;> simp only [b0, b1, b2, b3, b4] <;> first | rfl | simp
        case ok =>
          intro h0
          obtain ⟨q2, t2⟩ := HK2.out h0
          obtain ⟨q1, t1⟩ := HK1.out q2
          obtain ⟨q0, t0⟩ := HK0.out q1
          obtain ⟨q, t⟩ := K1.out q0
          refine ⟨q, fun hkk => ?_⟩
          rw [t, t0, t1, t2]
          unfold cmdB
          rw [tl_three Hh.out]
          simp only [List.append_assoc, Int.toNat_natCast]
    · obtain ⟨b0, b1, b2, b3, b4⟩ := fl_name h
      rw [b0, b1, b2, b3, b4]
      have Hh := Lib.hid h
      clear h
      obtain ⟨Y0, hY⟩ : ∃ Y, Y = W2.alloc (.cells #[.bool false, .bool false, .bool true, .bool false, .bool false] 60) := ⟨_, rfl⟩
      have hbY : Below W2.heap.size W2 Y0 := by rw [hY]; exact (Below.refl _ _).alloc (Nat.le_refl _) _
      have g0 : Gc w rb W2.heap.size #[.bool false, .bool false, .bool true, .bool false, .bool false] #[.int .i64 x, .string ⟨#[]⟩, .string ⟨#[]⟩, .int .u64 0, .int .i64 0, .string ⟨#[]⟩, .string ⟨#[]⟩, .int .i64 0, .int .i64 0, .slice none 0 0, .int .i64 0, .int .i64 0, .int .i64 0, .int .i64 0, .string ⟨#[]⟩, .int .i64 0] Y0 l1 e1 := ⟨(hbY.block _ (by omega)).trans hr2, (hbY.block _ hfb).trans hc2, by rw [hY]; exact heap_alloc_new W2 _, R2.out.1.below hbY, R2.out.2.trans (Ar.ofBelow hbY)⟩
      have hy2 := Lib.hid hbY.size
      have BB := Lib.hid (And.intro b0 (And.intro b1 (And.intro b2 (And.intro b3 b4))))
      clear hbY b0 b1 b2 b3 b4
      go_upto_region 3 with fail
      rw [← hY]
      clear hY hr2 hc2
      have HC := Lib.hid (text_r rb l1 e1 255 Y0 g0.rd (by decide))
      have f0 := (cell_at g0.fb (i := 0) rfl).1
      have f1 := (cell_at g0.fb (i := 1) rfl).1
      have f2 := (cell_at g0.fb (i := 2) rfl).1
      have f3 := (cell_at g0.fb (i := 3) rfl).1
      have f4 := (cell_at g0.fb (i := 4) rfl).1
      have Gj0 := Lib.hid g0
      clear g0
      go_wp2_with fail
      clear f0 f1 f2 f3 f4
      refine HC.out.mono ?_
      rintro e Z0 ⟨nm, l2, e2, rfl, hsz0, hr, hA, hk⟩
      clear HC
      have gz := Gj0.out.call hrb hfb hA.ar hr
      have HK0 := Lib.hid hk
      obtain ⟨c1, z1⟩ := cell_at gz.cb (i := 1) rfl
      have GZ := Lib.hid gz
      clear hA hr hk gz
      go_upto_region 9 with fail
      clear c1 z1
      obtain ⟨Y1, hU⟩ : ∃ U, U = setAll (w.heap.size + 1) 1 Z0 [.string nm] := ⟨_, rfl⟩
      have hU' := hU
      simp only [setAll] at hU'
      rw [← hU']
      clear hU'
      obtain ⟨g, go⟩ := GZ.out.sets hrb hfb 1 [.string nm] (by simp)
      rw [← hU] at g go
      have GO0 := Lib.hid go
      have g1 : Gc w rb W2.heap.size #[.bool false, .bool false, .bool true, .bool false, .bool false] #[.int .i64 x, .string nm, .string ⟨#[]⟩, .int .u64 0, .int .i64 0, .string ⟨#[]⟩, .string ⟨#[]⟩, .int .i64 0, .int .i64 0, .slice none 0 0, .int .i64 0, .int .i64 0, .int .i64 0, .int .i64 0, .string ⟨#[]⟩, .int .i64 0] Y1 l2 e2 := g
      clear g go hU
      have f0 := (cell_at g1.fb (i := 0) rfl).1
      have f1 := (cell_at g1.fb (i := 1) rfl).1
      have f2 := (cell_at g1.fb (i := 2) rfl).1
      have f3 := (cell_at g1.fb (i := 3) rfl).1
      have f4 := (cell_at g1.fb (i := 4) rfl).1
      have GE := Lib.hid g1
      clear g1
      go_upto_region 13 with fail
      clear f0 f1 f2 f3 f4
      have g1 := GE.out
      obtain ⟨CS, hCS⟩ : ∃ CS : List Value, CS = [.int .i64 x, .string nm, .string ⟨#[]⟩, .int .u64 0, .int .i64 0, .string ⟨#[]⟩, .string ⟨#[]⟩, .int .i64 0, .int .i64 0, .slice none 0 0, .int .i64 0, .int .i64 0, .int .i64 0, .int .i64 0, .string ⟨#[]⟩, .int .i64 0] := ⟨_, rfl⟩
      have hrng : Y1.rangeAt (w.heap.size + 1) 0 CS := range_of (by rw [hCS]; exact g1.cb)
      have hthr : Y1.there w.heap.size 0 CS.toArray.size := there_of g1.rs (by rw [hCS]; simp)
      have hinf : (Try.prog.info? 29).map (·.size) = some CS.length := by rw [hCS]; exact info_cmd
      have hinf2 : (Try.prog.info? 29).map (·.size) = some CS.toArray.size := by rw [hCS]; exact info_cmd
      have hone : CS.toArray.all (·.oneCell') = true := by rw [List.all_toArray, hCS]; rfl
      obtain ⟨x1, x2, x3, x4⟩ := g1.fin hrb CS (by rw [hCS]; rfl)
      obtain ⟨X, hX⟩ : ∃ X, X = setAll w.heap.size 0 Y1 CS := ⟨_, rfl⟩
      rw [← hX] at x1 x2 x3 x4
      have HX' := Lib.hid (And.intro hX hCS)
      have HXX := Lib.hid (And.intro x1 (And.intro x2 (And.intro x3 x4)))
      clear g1 hX hCS x1 x2 x3 x4
      go_wp2_with (first | (refine wpList_load_mid rfl 29 _ rfl (w.heap.size + 1) 0 rfl CS _ hrng Try.underlying29 rfl hinf ?_) | (refine wpList_store_mid rfl 29 _ _ rfl w.heap.size 0 CS.toArray rfl rfl hthr hinf2 hone ?_))
      rw [setCells_all, ← HX'.out.1]
      refine bodyPost_ret (v := .agg CS.toArray) ?_ rfl ?_
      · rw [results_c1 rfl]
        exact run_loadVar_mid X w.heap.size 0 29 CS _ (range_of HXX.out.1) Try.underlying29 rfl hinf
      · obtain ⟨x1, x2, x3, x4⟩ := HXX.out
        rw [HX'.out.2]
        refine ⟨⟨x, nm, ⟨#[]⟩, 0, 0, zsp⟩, l2, e2, rfl, ⟨?wk, ?wt, ?wv, ?ws⟩, ?dp, x2, x3, ?ok, ?only, ?p0, ?p10, ?nn, ?gg⟩
        case p0 => show (0 : Int) ≤ (x : Int); omega
        case p10 => show (x : Int) ≤ 10; omega
        case wk =>
          show Sp.W64 (x : Int)
          unfold Sp.W64
          simp [Lit.wf, IntKind.min, IntKind.max, IntKind.signed, IntKind.bits]
          try omega
        case wt => first | exact htk | (show U64 0; unfold U64; decide)
        case wv => first | exact hvl | (show Sp.W64 0; unfold Sp.W64; decide)
        case ws => exact zsp_wf
        case nn => exact Nat.zero_le _
        case gg => exact .inl rfl
        case dp => exact ⟨rfl, fun _ => rfl, .inl rfl⟩
        case only =>
          obtain ⟨b0, b1, b2, b3, b4⟩ := BB.out
          refine ⟨rfl, ?_, ?_, ?_, ?_, ?_⟩ <;> simp only [b0, b1, b2, b3, b4] <;> first | rfl | simp
        case ok =>
          intro h0
          obtain ⟨q0, t0⟩ := HK0.out h0
          obtain ⟨q, t⟩ := K1.out q0
          refine ⟨q, fun hkk => ?_⟩
          rw [t, t0]
          unfold cmdB
          rw [tl_name Hh.out]
          simp only [List.append_assoc, Int.toNat_natCast]
    · obtain ⟨b0, b1, b2, b3, b4⟩ := fl_value h
      rw [b0, b1, b2, b3, b4]
      have Hh := Lib.hid h
      clear h
      obtain ⟨Y0, hY⟩ : ∃ Y, Y = W2.alloc (.cells #[.bool false, .bool false, .bool false, .bool false, .bool true] 60) := ⟨_, rfl⟩
      have hbY : Below W2.heap.size W2 Y0 := by rw [hY]; exact (Below.refl _ _).alloc (Nat.le_refl _) _
      have g0 : Gc w rb W2.heap.size #[.bool false, .bool false, .bool false, .bool false, .bool true] #[.int .i64 x, .string ⟨#[]⟩, .string ⟨#[]⟩, .int .u64 0, .int .i64 0, .string ⟨#[]⟩, .string ⟨#[]⟩, .int .i64 0, .int .i64 0, .slice none 0 0, .int .i64 0, .int .i64 0, .int .i64 0, .int .i64 0, .string ⟨#[]⟩, .int .i64 0] Y0 l1 e1 := ⟨(hbY.block _ (by omega)).trans hr2, (hbY.block _ hfb).trans hc2, by rw [hY]; exact heap_alloc_new W2 _, R2.out.1.below hbY, R2.out.2.trans (Ar.ofBelow hbY)⟩
      have hy2 := Lib.hid hbY.size
      have BB := Lib.hid (And.intro b0 (And.intro b1 (And.intro b2 (And.intro b3 b4))))
      clear hbY b0 b1 b2 b3 b4
      go_upto_region 3 with fail
      rw [← hY]
      clear hY hr2 hc2
      have HC := Lib.hid (int_r rb l1 e1 Y0 g0.rd)
      have f0 := (cell_at g0.fb (i := 0) rfl).1
      have f1 := (cell_at g0.fb (i := 1) rfl).1
      have f2 := (cell_at g0.fb (i := 2) rfl).1
      have f3 := (cell_at g0.fb (i := 3) rfl).1
      have f4 := (cell_at g0.fb (i := 4) rfl).1
      have Gj0 := Lib.hid g0
      clear g0
      go_wp2_with fail
      clear f0 f1 f2 f3 f4
      refine HC.out.mono ?_
      rintro e Z0 ⟨vl, l2, e2, rfl, hvl, hr, hA, hk⟩
      clear HC
      have gz := Gj0.out.call hrb hfb hA.ar hr
      have HK0 := Lib.hid hk
      obtain ⟨c4, z4⟩ := cell_at gz.cb (i := 4) rfl
      have GZ := Lib.hid gz
      clear hA hr hk gz
      go_upto_region 13 with fail
      clear c4 z4
      obtain ⟨Y1, hU⟩ : ∃ U, U = setAll (w.heap.size + 1) 4 Z0 [.int .i64 vl] := ⟨_, rfl⟩
      have hU' := hU
      simp only [setAll] at hU'
      rw [← hU']
      clear hU'
      obtain ⟨g, go⟩ := GZ.out.sets hrb hfb 4 [.int .i64 vl] (by simp)
      rw [← hU] at g go
      have GO0 := Lib.hid go
      have g1 : Gc w rb W2.heap.size #[.bool false, .bool false, .bool false, .bool false, .bool true] #[.int .i64 x, .string ⟨#[]⟩, .string ⟨#[]⟩, .int .u64 0, .int .i64 vl, .string ⟨#[]⟩, .string ⟨#[]⟩, .int .i64 0, .int .i64 0, .slice none 0 0, .int .i64 0, .int .i64 0, .int .i64 0, .int .i64 0, .string ⟨#[]⟩, .int .i64 0] Y1 l2 e2 := g
      clear g go hU
      obtain ⟨CS, hCS⟩ : ∃ CS : List Value, CS = [.int .i64 x, .string ⟨#[]⟩, .string ⟨#[]⟩, .int .u64 0, .int .i64 vl, .string ⟨#[]⟩, .string ⟨#[]⟩, .int .i64 0, .int .i64 0, .slice none 0 0, .int .i64 0, .int .i64 0, .int .i64 0, .int .i64 0, .string ⟨#[]⟩, .int .i64 0] := ⟨_, rfl⟩
      have hrng : Y1.rangeAt (w.heap.size + 1) 0 CS := range_of (by rw [hCS]; exact g1.cb)
      have hthr : Y1.there w.heap.size 0 CS.toArray.size := there_of g1.rs (by rw [hCS]; simp)
      have hinf : (Try.prog.info? 29).map (·.size) = some CS.length := by rw [hCS]; exact info_cmd
      have hinf2 : (Try.prog.info? 29).map (·.size) = some CS.toArray.size := by rw [hCS]; exact info_cmd
      have hone : CS.toArray.all (·.oneCell') = true := by rw [List.all_toArray, hCS]; rfl
      obtain ⟨x1, x2, x3, x4⟩ := g1.fin hrb CS (by rw [hCS]; rfl)
      obtain ⟨X, hX⟩ : ∃ X, X = setAll w.heap.size 0 Y1 CS := ⟨_, rfl⟩
      rw [← hX] at x1 x2 x3 x4
      have HX' := Lib.hid (And.intro hX hCS)
      have HXX := Lib.hid (And.intro x1 (And.intro x2 (And.intro x3 x4)))
      clear g1 hX hCS x1 x2 x3 x4
      go_wp2_with (first | (refine wpList_load_mid rfl 29 _ rfl (w.heap.size + 1) 0 rfl CS _ hrng Try.underlying29 rfl hinf ?_) | (refine wpList_store_mid rfl 29 _ _ rfl w.heap.size 0 CS.toArray rfl rfl hthr hinf2 hone ?_))
      rw [setCells_all, ← HX'.out.1]
      refine bodyPost_ret (v := .agg CS.toArray) ?_ rfl ?_
      · rw [results_c1 rfl]
        exact run_loadVar_mid X w.heap.size 0 29 CS _ (range_of HXX.out.1) Try.underlying29 rfl hinf
      · obtain ⟨x1, x2, x3, x4⟩ := HXX.out
        rw [HX'.out.2]
        refine ⟨⟨x, ⟨#[]⟩, ⟨#[]⟩, 0, vl, zsp⟩, l2, e2, rfl, ⟨?wk, ?wt, ?wv, ?ws⟩, ?dp, x2, x3, ?ok, ?only, ?p0, ?p10, ?nn, ?gg⟩
        case p0 => show (0 : Int) ≤ (x : Int); omega
        case p10 => show (x : Int) ≤ 10; omega
        case wk =>
          show Sp.W64 (x : Int)
          unfold Sp.W64
          simp [Lit.wf, IntKind.min, IntKind.max, IntKind.signed, IntKind.bits]
          try omega
        case wt => first | exact htk | (show U64 0; unfold U64; decide)
        case wv => first | exact hvl | (show Sp.W64 0; unfold Sp.W64; decide)
        case ws => exact zsp_wf
        case nn => exact Nat.zero_le _
        case gg => exact .inl rfl
        case dp => exact ⟨rfl, fun _ => rfl, .inl rfl⟩
        case only =>
          obtain ⟨b0, b1, b2, b3, b4⟩ := BB.out
          refine ⟨rfl, ?_, ?_, ?_, ?_, ?_⟩ <;> simp only [b0, b1, b2, b3, b4] <;> first | rfl | simp
        case ok =>
          intro h0
          obtain ⟨q0, t0⟩ := HK0.out h0
          obtain ⟨q, t⟩ := K1.out q0
          refine ⟨q, fun hkk => ?_⟩
          rw [t, t0]
          unfold cmdB
          rw [tl_value Hh.out]
          simp only [List.append_assoc, Int.toNat_natCast]
    · obtain ⟨b0, b1, b2, b3, b4⟩ := fl_none h
      rw [b0, b1, b2, b3, b4]
      have Hh := Lib.hid h
      clear h
      obtain ⟨Y0, hY⟩ : ∃ Y, Y = W2.alloc (.cells #[.bool false, .bool false, .bool false, .bool false, .bool false] 60) := ⟨_, rfl⟩
      have hbY : Below W2.heap.size W2 Y0 := by rw [hY]; exact (Below.refl _ _).alloc (Nat.le_refl _) _
      have g0 : Gc w rb W2.heap.size #[.bool false, .bool false, .bool false, .bool false, .bool false] #[.int .i64 x, .string ⟨#[]⟩, .string ⟨#[]⟩, .int .u64 0, .int .i64 0, .string ⟨#[]⟩, .string ⟨#[]⟩, .int .i64 0, .int .i64 0, .slice none 0 0, .int .i64 0, .int .i64 0, .int .i64 0, .int .i64 0, .string ⟨#[]⟩, .int .i64 0] Y0 l1 e1 := ⟨(hbY.block _ (by omega)).trans hr2, (hbY.block _ hfb).trans hc2, by rw [hY]; exact heap_alloc_new W2 _, R2.out.1.below hbY, R2.out.2.trans (Ar.ofBelow hbY)⟩
      have hy2 := Lib.hid hbY.size
      have BB := Lib.hid (And.intro b0 (And.intro b1 (And.intro b2 (And.intro b3 b4))))
      clear hbY b0 b1 b2 b3 b4
      go_upto_region 3 with fail
      rw [← hY]
      clear hY hr2 hc2
      have f0 := (cell_at g0.fb (i := 0) rfl).1
      have f1 := (cell_at g0.fb (i := 1) rfl).1
      have f2 := (cell_at g0.fb (i := 2) rfl).1
      have f3 := (cell_at g0.fb (i := 3) rfl).1
      have f4 := (cell_at g0.fb (i := 4) rfl).1
      have GE := Lib.hid g0
      clear g0
      go_upto_region 13 with fail
      clear f0 f1 f2 f3 f4
      have g0 := GE.out
      obtain ⟨CS, hCS⟩ : ∃ CS : List Value, CS = [.int .i64 x, .string ⟨#[]⟩, .string ⟨#[]⟩, .int .u64 0, .int .i64 0, .string ⟨#[]⟩, .string ⟨#[]⟩, .int .i64 0, .int .i64 0, .slice none 0 0, .int .i64 0, .int .i64 0, .int .i64 0, .int .i64 0, .string ⟨#[]⟩, .int .i64 0] := ⟨_, rfl⟩
      have hrng : Y0.rangeAt (w.heap.size + 1) 0 CS := range_of (by rw [hCS]; exact g0.cb)
      have hthr : Y0.there w.heap.size 0 CS.toArray.size := there_of g0.rs (by rw [hCS]; simp)
      have hinf : (Try.prog.info? 29).map (·.size) = some CS.length := by rw [hCS]; exact info_cmd
      have hinf2 : (Try.prog.info? 29).map (·.size) = some CS.toArray.size := by rw [hCS]; exact info_cmd
      have hone : CS.toArray.all (·.oneCell') = true := by rw [List.all_toArray, hCS]; rfl
      obtain ⟨x1, x2, x3, x4⟩ := g0.fin hrb CS (by rw [hCS]; rfl)
      obtain ⟨X, hX⟩ : ∃ X, X = setAll w.heap.size 0 Y0 CS := ⟨_, rfl⟩
      rw [← hX] at x1 x2 x3 x4
      have HX' := Lib.hid (And.intro hX hCS)
      have HXX := Lib.hid (And.intro x1 (And.intro x2 (And.intro x3 x4)))
      clear g0 hX hCS x1 x2 x3 x4
      go_wp2_with (first | (refine wpList_load_mid rfl 29 _ rfl (w.heap.size + 1) 0 rfl CS _ hrng Try.underlying29 rfl hinf ?_) | (refine wpList_store_mid rfl 29 _ _ rfl w.heap.size 0 CS.toArray rfl rfl hthr hinf2 hone ?_))
      rw [setCells_all, ← HX'.out.1]
      refine bodyPost_ret (v := .agg CS.toArray) ?_ rfl ?_
      · rw [results_c1 rfl]
        exact run_loadVar_mid X w.heap.size 0 29 CS _ (range_of HXX.out.1) Try.underlying29 rfl hinf
      · obtain ⟨x1, x2, x3, x4⟩ := HXX.out
        rw [HX'.out.2]
        refine ⟨⟨x, ⟨#[]⟩, ⟨#[]⟩, 0, 0, zsp⟩, l1, e1, rfl, ⟨?wk, ?wt, ?wv, ?ws⟩, ?dp, x2, x3, ?ok, ?only, ?p0, ?p10, ?nn, ?gg⟩
        case p0 => show (0 : Int) ≤ (x : Int); omega
        case p10 => show (x : Int) ≤ 10; omega
        case wk =>
          show Sp.W64 (x : Int)
          unfold Sp.W64
          simp [Lit.wf, IntKind.min, IntKind.max, IntKind.signed, IntKind.bits]
          try omega
        case wt => first | exact htk | (show U64 0; unfold U64; decide)
        case wv => first | exact hvl | (show Sp.W64 0; unfold Sp.W64; decide)
        case ws => exact zsp_wf
        case nn => exact Nat.zero_le _
        case gg => exact .inl rfl
        case dp => exact ⟨rfl, fun _ => rfl, .inl rfl⟩
        case only =>
          obtain ⟨b0, b1, b2, b3, b4⟩ := BB.out
          refine ⟨rfl, ?_, ?_, ?_, ?_, ?_⟩ <;> simp only [b0, b1, b2, b3, b4] <;> first | rfl | simp
        case ok =>
          intro h0
          obtain ⟨q, t⟩ := K1.out h0
          refine ⟨q, fun hkk => ?_⟩
          rw [t]
          unfold cmdB
          rw [tl_none Hh.out]
          simp only [List.append_assoc, Int.toNat_natCast, List.nil_append]
  · have hmin : min (x : Int) 10 = 10 := by omega
    obtain ⟨U, hU⟩ : ∃ U, U = W1.alloc (.cells #[.int .i64 10, .string ⟨#[]⟩, .string ⟨#[]⟩, .int .u64 0, .int .i64 0, .string ⟨#[]⟩, .string ⟨#[]⟩, .int .i64 0, .int .i64 0, .slice none 0 0, .int .i64 0, .int .i64 0, .int .i64 0, .int .i64 0, .string ⟨#[]⟩, .int .i64 0] 29) := ⟨_, rfl⟩
    have hbU : Below W1.heap.size W1 U := by rw [hU]; exact (Below.refl _ _).alloc (Nat.le_refl _) _
    have hc0 : U.heap[w.heap.size + 1]? = some (.cells #[.int .i64 10, .string ⟨#[]⟩, .string ⟨#[]⟩, .int .u64 0, .int .i64 0, .string ⟨#[]⟩, .string ⟨#[]⟩, .int .i64 0, .int .i64 0, .slice none 0 0, .int .i64 0, .int .i64 0, .int .i64 0, .int .i64 0, .string ⟨#[]⟩, .int .i64 0] 29 (0, 0)) := by rw [hU, ← hs1]; exact heap_alloc_new W1 _
    have hrU := (hbU.block w.heap.size (by omega)).trans hr1'
    have hsU : U.heap.size = w.heap.size + 2 := by rw [hU]; simp [hs1]
    have HF := Lib.hid (fields_any 10 U)
    have RU := Lib.hid (And.intro (hr1.below hbU) (A1.out.trans (Ar.ofBelow hbU)))
    clear hr1 hbU hr1' hs
    go_wp2_with fail
    rw [← hU]
    clear hU hs1
    refine HF.out.mono ?_
    rintro e W2 ⟨rfl, hb2⟩
    have hr2 := (hb2.block w.heap.size (by omega)).trans hrU
    have hc2 := (hb2.block (w.heap.size + 1) (by omega)).trans hc0
    have R2 := Lib.hid (And.intro (RU.out.1.below hb2) (RU.out.2.trans (Ar.ofBelow hb2)))
    have hs2 := hb2.size
    have hfb : w.heap.size + 1 < W2.heap.size := by omega
    clear hb2 hrU hc0 hs2 hsU RU HF
    unfold flds
    · have h : (10 : Int) < 1 ∨ 9 < (10 : Int) := by omega
      obtain ⟨b0, b1, b2, b3, b4⟩ := fl_none h
      rw [b0, b1, b2, b3, b4]
      have Hh := Lib.hid h
      clear h
      obtain ⟨Y0, hY⟩ : ∃ Y, Y = W2.alloc (.cells #[.bool false, .bool false, .bool false, .bool false, .bool false] 60) := ⟨_, rfl⟩
      have hbY : Below W2.heap.size W2 Y0 := by rw [hY]; exact (Below.refl _ _).alloc (Nat.le_refl _) _
      have g0 : Gc w rb W2.heap.size #[.bool false, .bool false, .bool false, .bool false, .bool false] #[.int .i64 10, .string ⟨#[]⟩, .string ⟨#[]⟩, .int .u64 0, .int .i64 0, .string ⟨#[]⟩, .string ⟨#[]⟩, .int .i64 0, .int .i64 0, .slice none 0 0, .int .i64 0, .int .i64 0, .int .i64 0, .int .i64 0, .string ⟨#[]⟩, .int .i64 0] Y0 l1 e1 := ⟨(hbY.block _ (by omega)).trans hr2, (hbY.block _ hfb).trans hc2, by rw [hY]; exact heap_alloc_new W2 _, R2.out.1.below hbY, R2.out.2.trans (Ar.ofBelow hbY)⟩
      have hy2 := Lib.hid hbY.size
      have BB := Lib.hid (And.intro b0 (And.intro b1 (And.intro b2 (And.intro b3 b4))))
      clear hbY b0 b1 b2 b3 b4
      go_upto_region 3 with fail
      rw [← hY]
      clear hY hr2 hc2
      have f0 := (cell_at g0.fb (i := 0) rfl).1
      have f1 := (cell_at g0.fb (i := 1) rfl).1
      have f2 := (cell_at g0.fb (i := 2) rfl).1
      have f3 := (cell_at g0.fb (i := 3) rfl).1
      have f4 := (cell_at g0.fb (i := 4) rfl).1
      have GE := Lib.hid g0
      clear g0
      go_upto_region 13 with fail
      clear f0 f1 f2 f3 f4
      have g0 := GE.out
      obtain ⟨CS, hCS⟩ : ∃ CS : List Value, CS = [.int .i64 10, .string ⟨#[]⟩, .string ⟨#[]⟩, .int .u64 0, .int .i64 0, .string ⟨#[]⟩, .string ⟨#[]⟩, .int .i64 0, .int .i64 0, .slice none 0 0, .int .i64 0, .int .i64 0, .int .i64 0, .int .i64 0, .string ⟨#[]⟩, .int .i64 0] := ⟨_, rfl⟩
      have hrng : Y0.rangeAt (w.heap.size + 1) 0 CS := range_of (by rw [hCS]; exact g0.cb)
      have hthr : Y0.there w.heap.size 0 CS.toArray.size := there_of g0.rs (by rw [hCS]; simp)
      have hinf : (Try.prog.info? 29).map (·.size) = some CS.length := by rw [hCS]; exact info_cmd
      have hinf2 : (Try.prog.info? 29).map (·.size) = some CS.toArray.size := by rw [hCS]; exact info_cmd
      have hone : CS.toArray.all (·.oneCell') = true := by rw [List.all_toArray, hCS]; rfl
      obtain ⟨x1, x2, x3, x4⟩ := g0.fin hrb CS (by rw [hCS]; rfl)
      obtain ⟨X, hX⟩ : ∃ X, X = setAll w.heap.size 0 Y0 CS := ⟨_, rfl⟩
      rw [← hX] at x1 x2 x3 x4
      have HX' := Lib.hid (And.intro hX hCS)
      have HXX := Lib.hid (And.intro x1 (And.intro x2 (And.intro x3 x4)))
      clear g0 hX hCS x1 x2 x3 x4
      go_wp2_with (first | (refine wpList_load_mid rfl 29 _ rfl (w.heap.size + 1) 0 rfl CS _ hrng Try.underlying29 rfl hinf ?_) | (refine wpList_store_mid rfl 29 _ _ rfl w.heap.size 0 CS.toArray rfl rfl hthr hinf2 hone ?_))
      rw [setCells_all, ← HX'.out.1]
      refine bodyPost_ret (v := .agg CS.toArray) ?_ rfl ?_
      · rw [results_c1 rfl]
        exact run_loadVar_mid X w.heap.size 0 29 CS _ (range_of HXX.out.1) Try.underlying29 rfl hinf
      · obtain ⟨x1, x2, x3, x4⟩ := HXX.out
        rw [HX'.out.2]
        refine ⟨⟨10, ⟨#[]⟩, ⟨#[]⟩, 0, 0, zsp⟩, l1, e1, rfl, ⟨?wk, ?wt, ?wv, ?ws⟩, ?dp, x2, x3, ?ok, ?only, ?p0, ?p10, ?nn, ?gg⟩
        case p0 => show (0 : Int) ≤ (10 : Int); omega
        case p10 => show (10 : Int) ≤ 10; omega
        case wk =>
          show Sp.W64 (10 : Int)
          unfold Sp.W64
          simp [Lit.wf, IntKind.min, IntKind.max, IntKind.signed, IntKind.bits]
          try omega
        case wt => first | exact htk | (show U64 0; unfold U64; decide)
        case wv => first | exact hvl | (show Sp.W64 0; unfold Sp.W64; decide)
        case ws => exact zsp_wf
        case nn => exact Nat.zero_le _
        case gg => exact .inl rfl
        case dp => exact ⟨rfl, fun _ => rfl, .inl rfl⟩
        case only =>
          obtain ⟨b0, b1, b2, b3, b4⟩ := BB.out
          refine ⟨rfl, ?_, ?_, ?_, ?_, ?_⟩ <;> simp only [b0, b1, b2, b3, b4] <;> first | rfl | simp
        case ok =>
          intro h0
          obtain ⟨q, t⟩ := K1.out h0
          refine ⟨q, fun hkk => ?_⟩
          rw [t]
          exact absurd hkk (by decide)
end Go.Proofs.Ytfidmjpjfigmcaa.Cm
