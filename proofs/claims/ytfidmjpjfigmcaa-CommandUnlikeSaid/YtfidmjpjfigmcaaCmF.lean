
/- commands as bytes: Of -/
import Derived.Test.YtfidmjpjfigmcaaCmD
namespace Go.Proofs.Ytfidmjpjfigmcaa.Cm
open Go.RowKit Go.Lib Wn Rf By
set_option linter.unusedVariables false
set_option maxRecDepth 20000
theorem results_c2 {fn : Func} {p a : Tmp} {ty : TypeId} (h : fn.results = #[.cell p ty, .tmp a]) (tmps : Array Value) (P : Program) (w : World) :
    (results fn tmps).run P w = ((asAddr (tmps.getD p undef)).run P w).andThen fun x w₁ => ((loadVar ty x).run P w₁).andThen fun v w₂ => .ok (.tuple #[v, tmps.getD a undef]) w₂ := by
  simp only [results, h]
  simp [Sem.run_bind, Result.andThen]
def zreq : Req := ⟨0, 0, ⟨0, ⟨#[]⟩, ⟨#[]⟩, 0, 0, zsp⟩⟩
theorem info_req : (Try.prog.info? 31).map (·.size) = some 18 := by kernel_rfl
/-- in the midst of Of: the result's block, the request's, the reader -/
structure Gq (w : World) (rb : Nat) (cs : Array Value) (W : World) (l : List UInt8) (e : Int) : Prop where
  rs : W.heap[w.heap.size]? = some (.cells zreq.cells 31 (0, 0))
  qb : W.heap[w.heap.size + 1]? = some (.cells cs 31 (0, 0))
  rd : Rd W rb l e
  bel : Below w.heap.size w W
theorem Gq.call {w : World} {rb : Nat} {cs : Array Value} {W W' : World} {l l' : List UInt8} {e e' : Int} (h : Gq w rb cs W l e) (hrb : w.heap.size + 2 ≤ rb) (hA : Ar rb W W') (hr : Rd W' rb l' e') : Gq w rb cs W' l' e' :=
  ⟨(hA.block _ (lt_of_block h.rs) (by omega)).trans h.rs, (hA.block _ (lt_of_block h.qb) (by omega)).trans h.qb, hr, h.bel.trans (hA.below (by omega) h.bel.size)⟩
theorem Gq.sets {w : World} {rb : Nat} {cs : Array Value} {W : World} {l : List UInt8} {e : Int} (h : Gq w rb cs W l e) (hrb : w.heap.size + 2 ≤ rb) (i : Nat) (vs : List Value) (hl : i + vs.length ≤ cs.size) :
    Gq w rb (cs.toList.take i ++ vs ++ cs.toList.drop (i + vs.length)).toArray (setAll (w.heap.size + 1) i W vs) l e ∧ ∀ k, k ≠ w.heap.size + 1 → (setAll (w.heap.size + 1) i W vs).heap[k]? = W.heap[k]? := by
  obtain ⟨h1, h2, h3, h4, h5⟩ := setAll_other (b := w.heap.size + 1) vs i W
  refine ⟨⟨(h1 _ (by omega)).trans h.rs, setAll_part vs i W cs h.qb hl, h.rd.kept (h1 _ (by omega)) (fun g cur hg => h1 g ?_), setAll_below h.bel (by omega)⟩, h1⟩
  rintro rfl
  rw [h.qb] at hg
  simp at hg
/-- what Of answers -/
def GotQ (l : List UInt8) (w : World) (e : Ending) (w' : World) : Prop :=
  ∃ (q : Req) (er : Int), e = .returned (.tuple #[.agg q.cells, .int .i64 er]) ∧ (er ≠ 0 → q = zreq) ∧
    (er = 0 → q.wf ∧ Sp.Dp w' q.c.sp.a q.c.sp.n q.c.sp.ds ∧ q.c.sp.n ≤ 255 ∧ isK q.c.kd = true ∧ reqB q = l ∧ Only q.c q.c ∧ l.length ≤ 900) ∧ (900 < l.length → er = 15) ∧ Below w.heap.size w w'
/-- a refusal: the zero request has been stored -/
theorem refuse {l : List UInt8} {w X : World} {er : Int} (hne : er ≠ 0) (hl : 900 < l.length → er = 15) (hb : Below w.heap.size w X) : GotQ l w (.returned (.tuple #[.agg zreq.cells, .int .i64 er])) X :=
  ⟨zreq, er, rfl, fun _ => rfl, fun h => absurd h hne, hl, hb⟩
theorem ones_req (q : Req) : q.cells.all (·.oneCell') = true := by unfold Req.cells; rw [List.all_toArray]; rfl
theorem ones_cmd (c : Cmd) : c.cells.all (·.oneCell') = true := by unfold Cmd.cells; rw [List.all_toArray]; rfl
/-- the result's block, loaded -/
theorem told {X : World} {b : Nat} {q : Req} {er : Int} {fn : Func} {tmps : Array Value} {a p : Tmp} (hr : fn.results = #[.cell p 31, .tmp a]) (h : X.heap[b]? = some (.cells q.cells 31 (0, 0))) (hp : tmps.getD p undef = .pointer (some ⟨b, 0, none⟩)) (ha : tmps.getD a undef = .int .i64 er) :
    (results fn tmps).run Try.prog X = .ok (.tuple #[.agg q.cells, .int .i64 er]) X := by
  have := run_loadVar_mid (P := Try.prog) X b 0 31 q.cells.toList _ (range_of (by rw [Array.toArray_toList]; exact h)) Try.underlying31 rfl info_req
  rw [results_c2 hr, hp, ha]
  show ((loadVar 31 ⟨b, 0, none⟩).run Try.prog X).andThen _ = _
  rw [this]
  rfl
set_option maxHeartbeats 8000000 in
theorem Of_any (a : Option Addr) (n c : Nat) (l : List UInt8) (w : World) (hi : IsB w a n c l) :
    Calls Try.prog 7 #[.slice a n c] w (GotQ l w) := by
  have hl := hi.1
  have hm := hi.le
  unfold maxLen at hm
  have hinf : (Try.prog.info? 31).map (·.size) = some (#[.int .u64 0, .int .u64 0, .int .i64 0, .string ⟨#[]⟩, .string ⟨#[]⟩, .int .u64 0, .int .i64 0, .string ⟨#[]⟩, .string ⟨#[]⟩, .int .i64 0, .int .i64 0, .slice none 0 0, .int .i64 0, .int .i64 0, .int .i64 0, .int .i64 0, .string ⟨#[]⟩, .int .i64 0] : Array Value).size := info_req
  have hone : (#[.int .u64 0, .int .u64 0, .int .i64 0, .string ⟨#[]⟩, .string ⟨#[]⟩, .int .u64 0, .int .i64 0, .string ⟨#[]⟩, .string ⟨#[]⟩, .int .i64 0, .int .i64 0, .slice none 0 0, .int .i64 0, .int .i64 0, .int .i64 0, .int .i64 0, .string ⟨#[]⟩, .int .i64 0] : Array Value).all (·.oneCell') = true := ones_req zreq
  by_cases h9 : 900 < n
  · obtain ⟨V, hV⟩ : ∃ V, V = w.alloc (.cells zreq.cells 31) := ⟨_, rfl⟩
    have hb : Below w.heap.size w V := by rw [hV]; exact (Below.refl _ _).alloc (Nat.le_refl _) _
    have hr0 : V.heap[w.heap.size]? = some (.cells zreq.cells 31 (0, 0)) := by rw [hV]; exact heap_alloc_new w _
    have hthr : V.there w.heap.size 0 (#[.int .u64 0, .int .u64 0, .int .i64 0, .string ⟨#[]⟩, .string ⟨#[]⟩, .int .u64 0, .int .i64 0, .string ⟨#[]⟩, .string ⟨#[]⟩, .int .i64 0, .int .i64 0, .slice none 0 0, .int .i64 0, .int .i64 0, .int .i64 0, .int .i64 0, .string ⟨#[]⟩, .int .i64 0] : Array Value).size := there_of hr0 (Nat.le_refl _)
    obtain ⟨X, hX⟩ : ∃ X, X = setAll w.heap.size 0 V zreq.cells.toList := ⟨_, rfl⟩
    have x1 : X.heap[w.heap.size]? = some (.cells zreq.cells 31 (0, 0)) := by rw [hX]; exact setAll_all hr0 rfl
    have x2 : Below w.heap.size w X := by rw [hX]; exact setAll_below hb (Nat.le_refl _)
    have hX2 : X = setAll w.heap.size 0 V (#[.int .u64 0, .int .u64 0, .int .i64 0, .string ⟨#[]⟩, .string ⟨#[]⟩, .int .u64 0, .int .i64 0, .string ⟨#[]⟩, .string ⟨#[]⟩, .int .i64 0, .int .i64 0, .slice none 0 0, .int .i64 0, .int .i64 0, .int .i64 0, .int .i64 0, .string ⟨#[]⟩, .int .i64 0] : Array Value).toList := hX
    have HX := Lib.hid (And.intro hX2 (And.intro x1 x2))
    clear hX hX2 x1 x2 hb hr0 hi
    go_enter Try.func7, Try.ntmps7
    go_upto_region 2 with fail
    rw [show w.alloc (.cells #[.int .u64 0, .int .u64 0, .int .i64 0, .string ⟨#[]⟩, .string ⟨#[]⟩, .int .u64 0, .int .i64 0, .string ⟨#[]⟩, .string ⟨#[]⟩, .int .i64 0, .int .i64 0, .slice none 0 0, .int .i64 0, .int .i64 0, .int .i64 0, .int .i64 0, .string ⟨#[]⟩, .int .i64 0] 31) = V from hV.symm]
    clear hV
    go_wp2_with (refine wpList_store_mid rfl 31 _ _ rfl w.heap.size 0 #[.int .u64 0, .int .u64 0, .int .i64 0, .string ⟨#[]⟩, .string ⟨#[]⟩, .int .u64 0, .int .i64 0, .string ⟨#[]⟩, .string ⟨#[]⟩, .int .i64 0, .int .i64 0, .slice none 0 0, .int .i64 0, .int .i64 0, .int .i64 0, .int .i64 0, .string ⟨#[]⟩, .int .i64 0] rfl rfl hthr hinf hone ?_)
    rw [setCells_all, ← HX.out.1]
    exact bodyPost_ret (told rfl HX.out.2.1 rfl rfl) rfl (refuse (by decide) (fun _ => rfl) HX.out.2.2)
  · obtain ⟨V, hV⟩ : ∃ V, V = (w.alloc (.cells #[.int .u64 0, .int .u64 0, .int .i64 0, .string ⟨#[]⟩, .string ⟨#[]⟩, .int .u64 0, .int .i64 0, .string ⟨#[]⟩, .string ⟨#[]⟩, .int .i64 0, .int .i64 0, .slice none 0 0, .int .i64 0, .int .i64 0, .int .i64 0, .int .i64 0, .string ⟨#[]⟩, .int .i64 0] 31)).alloc (.cells #[.int .u64 0, .int .u64 0, .int .i64 0, .string ⟨#[]⟩, .string ⟨#[]⟩, .int .u64 0, .int .i64 0, .string ⟨#[]⟩, .string ⟨#[]⟩, .int .i64 0, .int .i64 0, .slice none 0 0, .int .i64 0, .int .i64 0, .int .i64 0, .int .i64 0, .string ⟨#[]⟩, .int .i64 0] 31) := ⟨_, rfl⟩
    have hb : Below w.heap.size w V := by rw [hV]; exact ((Below.refl _ _).alloc (Nat.le_refl _) _).alloc (by simp) _
    have hs : V.heap.size = w.heap.size + 2 := by rw [hV]; simp
    have hr0 : V.heap[w.heap.size]? = some (.cells zreq.cells 31 (0, 0)) := by rw [hV]; exact ((Below.refl (w.heap.size + 1) _).alloc (by simp) _ |>.block _ (by omega)).trans (heap_alloc_new w _)
    have hq0 : V.heap[w.heap.size + 1]? = some (.cells #[.int .u64 0, .int .u64 0, .int .i64 0, .string ⟨#[]⟩, .string ⟨#[]⟩, .int .u64 0, .int .i64 0, .string ⟨#[]⟩, .string ⟨#[]⟩, .int .i64 0, .int .i64 0, .slice none 0 0, .int .i64 0, .int .i64 0, .int .i64 0, .int .i64 0, .string ⟨#[]⟩, .int .i64 0] 31 (0, 0)) := by
      rw [hV]
      have := heap_alloc_new (w.alloc (.cells #[.int .u64 0, .int .u64 0, .int .i64 0, .string ⟨#[]⟩, .string ⟨#[]⟩, .int .u64 0, .int .i64 0, .string ⟨#[]⟩, .string ⟨#[]⟩, .int .i64 0, .int .i64 0, .slice none 0 0, .int .i64 0, .int .i64 0, .int .i64 0, .int .i64 0, .string ⟨#[]⟩, .int .i64 0] 31)) (.cells #[.int .u64 0, .int .u64 0, .int .i64 0, .string ⟨#[]⟩, .string ⟨#[]⟩, .int .u64 0, .int .i64 0, .string ⟨#[]⟩, .string ⟨#[]⟩, .int .i64 0, .int .i64 0, .slice none 0 0, .int .i64 0, .int .i64 0, .int .i64 0, .int .i64 0, .string ⟨#[]⟩, .int .i64 0] 31)
      rwa [World.size_alloc] at this
    have HR := Lib.hid (read_any a n c l V (hi.old hb) (by omega))
    have HB := Lib.hid (And.intro hb (And.intro hr0 hq0))
    clear hb hi hr0 hq0
    go_enter Try.func7, Try.ntmps7
    go_wp2_with fail
    rw [← hV]
    have HV := Lib.hid hV
    clear hV
    refine HR.out.mono ?_
    rintro e W1 ⟨rb, rfl, hrb, hr1, hb1⟩
    clear HR
    have hrb2 : w.heap.size + 2 ≤ rb := by omega
    have g1 : Gq w rb #[.int .u64 0, .int .u64 0, .int .i64 0, .string ⟨#[]⟩, .string ⟨#[]⟩, .int .u64 0, .int .i64 0, .string ⟨#[]⟩, .string ⟨#[]⟩, .int .i64 0, .int .i64 0, .slice none 0 0, .int .i64 0, .int .i64 0, .int .i64 0, .int .i64 0, .string ⟨#[]⟩, .int .i64 0] W1 l 0 := ⟨(hb1.block _ (by omega)).trans HB.out.2.1, (hb1.block _ (by omega)).trans HB.out.2.2, hr1, HB.out.1.trans (hb1.mono HB.out.1.size)⟩
    have HN := Lib.hid (num_r rb l 0 W1 hr1)
    have G1 := Lib.hid g1
    clear hr1 hb1 g1 hrb hs
    go_wp2_with fail
    refine HN.out.mono ?_
    rintro e Z1 ⟨cl, l1, e1, rfl, hcl, hr, hA, hk, -⟩
    have gz := G1.out.call hrb2 hA.ar hr
    have HK1 := Lib.hid hk
    have HC1 := Lib.hid hcl
    obtain ⟨c0, z0⟩ := cell_at gz.qb (i := 0) rfl
    obtain ⟨Y1, hU⟩ : ∃ U, U = Z1.setCell ⟨w.heap.size + 1, 0, none⟩ (.int .u64 cl) := ⟨_, rfl⟩
    obtain ⟨g, -⟩ := gz.sets hrb2 0 [.int .u64 cl] (by simp)
    have g2 : Gq w rb #[.int .u64 cl, .int .u64 0, .int .i64 0, .string ⟨#[]⟩, .string ⟨#[]⟩, .int .u64 0, .int .i64 0, .string ⟨#[]⟩, .string ⟨#[]⟩, .int .i64 0, .int .i64 0, .slice none 0 0, .int .i64 0, .int .i64 0, .int .i64 0, .int .i64 0, .string ⟨#[]⟩, .int .i64 0] Y1 l1 e1 := by rw [hU]; exact g
    have HN2 := Lib.hid (num_r rb l1 e1 Y1 g2.rd)
    have G2 := Lib.hid g2
    have HU1 := Lib.hid hU
    clear hr hA hk hcl HN gz g g2 hU
    go_wp2_with fail
    rw [← HU1.out]
    clear c0 z0
    refine HN2.out.mono ?_
    rintro e Z2 ⟨nu, l2, e2, rfl, hnu, hr, hA, hk, -⟩
    have gz := G2.out.call hrb2 hA.ar hr
    have HK2 := Lib.hid hk
    have HC2 := Lib.hid hnu
    obtain ⟨c0, z0⟩ := cell_at gz.qb (i := 1) rfl
    obtain ⟨Y2, hU⟩ : ∃ U, U = Z2.setCell ⟨w.heap.size + 1, 1, none⟩ (.int .u64 nu) := ⟨_, rfl⟩
    obtain ⟨g, -⟩ := gz.sets hrb2 1 [.int .u64 nu] (by simp)
    have g3 : Gq w rb #[.int .u64 cl, .int .u64 nu, .int .i64 0, .string ⟨#[]⟩, .string ⟨#[]⟩, .int .u64 0, .int .i64 0, .string ⟨#[]⟩, .string ⟨#[]⟩, .int .i64 0, .int .i64 0, .slice none 0 0, .int .i64 0, .int .i64 0, .int .i64 0, .int .i64 0, .string ⟨#[]⟩, .int .i64 0] Y2 l2 e2 := by rw [hU]; exact g
    have HG := Lib.hid (get_any rb l2 e2 Y2 g3.rd)
    have szY := Lib.hid (show w.heap.size + 1 < Y2.heap.size from lt_of_block g3.qb)
    have G3 := Lib.hid g3
    have HU2 := Lib.hid hU
    clear hr hA hk hnu HN2 gz g g3 hU
    go_wp2_with fail
    rw [← HU2.out]
    clear c0 z0
    refine HG.out.mono ?_
    rintro e Z3 ⟨c', l3, e3, rfl, hwf, hdp, hr, hA, hk, hon, hk0, hk10, hn5, hgg⟩
    have gz := G3.out.call hrb2 hA hr
    have HK3 := Lib.hid hk
    have HC3 := Lib.hid (And.intro hwf (And.intro hdp (And.intro hon (And.intro hn5 hgg))))
    have hthr : Z3.there (w.heap.size + 1) 2 c'.cells.size := by
      intro k hk
      have hk' : k < 16 := hk
      simp only [World.cell?, World.frozen?, gz.qb]
      refine ⟨?_, by simp⟩
      rw [Array.getElem?_eq_getElem (by simp; omega)]
      rfl
    have hinfc : (Try.prog.info? 29).map (·.size) = some c'.cells.size := info_cmd
    have honec := ones_cmd c'
    obtain ⟨Y3, hU⟩ : ∃ U, U = setAll (w.heap.size + 1) 2 Z3 c'.cells.toList := ⟨_, rfl⟩
    obtain ⟨g, go⟩ := gz.sets hrb2 2 c'.cells.toList (by show 2 + 16 ≤ 18; omega)
    rw [← hU] at g go
    have g4 : Gq w rb (Req.cells ⟨cl, nu, c'⟩) Y3 l3 e3 := g
    have HE := Lib.hid (end_any rb l3 e3 Y3 g4.rd)
    have G4 := Lib.hid g4
    have HGO := Lib.hid go
    have HU3 := Lib.hid hU
    clear hr hA hk hwf hdp hon hn5 hgg HG gz g go g4 hU
    go_upto_region 8 with (refine wpList_store_mid rfl 29 _ _ rfl (w.heap.size + 1) 2 c'.cells rfl rfl hthr hinfc honec ?_)
    rw [setCells_all, ← HU3.out]
    clear hthr hinfc honec
    go_wp2_with fail
    refine HE.out.mono ?_
    rintro e Y4 ⟨rfl, rfl⟩
    clear HE
    obtain ⟨E, hE⟩ : ∃ E, E = endE l3 e3 := ⟨_, rfl⟩
    rw [← hE]
    have g := G4.out
    by_cases h0 : E = 0
    · have h3 : e3 = 0 ∧ l3 = [] := by
        rw [hE] at h0
        unfold endE at h0
        by_cases q : e3 = 0
        · by_cases q2 : l3 = []
          · exact ⟨q, q2⟩
          · rw [if_neg (by simpa using q), if_neg q2] at h0; cases h0
        · rw [if_pos q] at h0; exact absurd h0 q
      clear hE
      subst h0
      have H3 := Lib.hid h3
      have ck := (cell_at g.qb (i := 2) rfl).1
      have HI := Lib.hid (isKind_any c'.kd Y3)
      clear g h3
      go_wp2_with fail
      refine HI.out.mono ?_
      rintro e Y5 ⟨rfl, rfl⟩
      clear HI ck
      have g := G4.out
      cases hkd : isK c'.kd with
      | false =>
        have HKD := Lib.hid hkd
        clear hkd
        have hthr : Y5.there w.heap.size 0 (#[.int .u64 0, .int .u64 0, .int .i64 0, .string ⟨#[]⟩, .string ⟨#[]⟩, .int .u64 0, .int .i64 0, .string ⟨#[]⟩, .string ⟨#[]⟩, .int .i64 0, .int .i64 0, .slice none 0 0, .int .i64 0, .int .i64 0, .int .i64 0, .int .i64 0, .string ⟨#[]⟩, .int .i64 0] : Array Value).size := there_of g.rs (Nat.le_refl _)
        obtain ⟨X, hX⟩ : ∃ X, X = setAll w.heap.size 0 Y5 zreq.cells.toList := ⟨_, rfl⟩
        have x1 : X.heap[w.heap.size]? = some (.cells zreq.cells 31 (0, 0)) := by rw [hX]; exact setAll_all g.rs rfl
        have x2 : Below w.heap.size w X := by rw [hX]; exact setAll_below g.bel (Nat.le_refl _)
        have hX2 : X = setAll w.heap.size 0 Y5 (#[.int .u64 0, .int .u64 0, .int .i64 0, .string ⟨#[]⟩, .string ⟨#[]⟩, .int .u64 0, .int .i64 0, .string ⟨#[]⟩, .string ⟨#[]⟩, .int .i64 0, .int .i64 0, .slice none 0 0, .int .i64 0, .int .i64 0, .int .i64 0, .int .i64 0, .string ⟨#[]⟩, .int .i64 0] : Array Value).toList := hX
        have HX := Lib.hid (And.intro hX2 (And.intro x1 x2))
        clear hX hX2 x1 x2 g
        go_wp2_with (refine wpList_store_mid rfl 31 _ _ rfl w.heap.size 0 #[.int .u64 0, .int .u64 0, .int .i64 0, .string ⟨#[]⟩, .string ⟨#[]⟩, .int .u64 0, .int .i64 0, .string ⟨#[]⟩, .string ⟨#[]⟩, .int .i64 0, .int .i64 0, .slice none 0 0, .int .i64 0, .int .i64 0, .int .i64 0, .int .i64 0, .string ⟨#[]⟩, .int .i64 0] rfl rfl hthr hinf hone ?_)
        rw [setCells_all, ← HX.out.1]
        exact bodyPost_ret (told rfl HX.out.2.1 rfl rfl) rfl (refuse (by decide) (fun q => absurd q (by omega)) HX.out.2.2)
      | true =>
        have HKD := Lib.hid hkd
        clear hkd
        obtain ⟨CS, hCS⟩ : ∃ CS : List Value, CS = (Req.cells ⟨cl, nu, c'⟩).toList := ⟨_, rfl⟩
        have hrng : Y5.rangeAt (w.heap.size + 1) 0 CS := range_of (by rw [hCS, Array.toArray_toList]; exact g.qb)
        have hthr : Y5.there w.heap.size 0 CS.toArray.size := there_of g.rs (by rw [hCS]; exact Nat.le_refl _)
        have hinf1 : (Try.prog.info? 31).map (·.size) = some CS.length := by rw [hCS]; exact info_req
        have hinf2 : (Try.prog.info? 31).map (·.size) = some CS.toArray.size := by rw [hCS]; exact info_req
        have hone2 : CS.toArray.all (·.oneCell') = true := by rw [hCS, Array.toArray_toList]; exact ones_req _
        obtain ⟨X, hX⟩ : ∃ X, X = setAll w.heap.size 0 Y5 CS := ⟨_, rfl⟩
        have x1 : X.heap[w.heap.size]? = some (.cells (Req.cells ⟨cl, nu, c'⟩) 31 (0, 0)) := by
          have := setAll_all (vs := CS) g.rs (by rw [hCS]; rfl)
          rw [← hX, hCS, Array.toArray_toList] at this
          exact this
        have x2 : Below w.heap.size w X := by rw [hX]; exact setAll_below g.bel (Nat.le_refl _)
        have x3 : ∀ k, k ≠ w.heap.size → X.heap[k]? = Y5.heap[k]? := by rw [hX]; exact (setAll_other (b := w.heap.size) CS 0 Y5).1
        have HX := Lib.hid (And.intro hX (And.intro x1 (And.intro x2 x3)))
        clear hX hCS x1 x2 x3 g hinf hone
        go_wp2_with (first | (refine wpList_load_mid rfl 31 _ rfl (w.heap.size + 1) 0 rfl CS _ hrng Try.underlying31 rfl hinf1 ?_) | (refine wpList_store_mid rfl 31 _ _ rfl w.heap.size 0 CS.toArray rfl rfl hthr hinf2 hone2 ?_))
        rw [setCells_all, ← HX.out.1]
        obtain ⟨x0, x1, x2, x3⟩ := HX.out
        obtain ⟨h3, rfl⟩ := H3.out
        obtain ⟨q2, t2⟩ := HK3.out h3
        obtain ⟨q1, t1⟩ := HK2.out q2
        obtain ⟨q0, t0⟩ := HK1.out q1
        obtain ⟨hwf, hdp, hon, hn5, hgg⟩ := HC3.out
        refine bodyPost_ret (told (q := ⟨cl, nu, c'⟩) rfl x1 rfl rfl) rfl ⟨⟨cl, nu, c'⟩, 0, rfl, fun h => absurd rfl h, fun _ => ⟨⟨HC1.out, HC2.out, hwf⟩, ?_, hn5, HKD.out, ?_, hon, by omega⟩, fun q => absurd q (by omega), x2⟩
        · refine ⟨hdp.1, hdp.2.1, ?_⟩
          rcases hdp.2.2 with h0 | ⟨b, o, h1, h2⟩
          · exact .inl h0
          · rcases hgg with h0 | ⟨g, q, hg⟩
            · exact .inl h0
            · refine .inr ⟨b, o, h1, fun i hi => ?_⟩
              show X.cell? _ = _
              rw [show c'.sp.a = some ⟨g, 0, none⟩ from q] at h1
              simp only [Option.some.injEq, Addr.mk.injEq] at h1
              have := szY.out
              exact (World.cell?_of_block (w := Z3) (a := ⟨b, o + i, none⟩) ((x3 b (by omega)).trans (HGO.out b (by omega)))).trans (h2 i hi)
        · rw [t0, t1, t2 HKD.out]
          unfold reqB
          rw [List.append_nil]
    · have hne : (E != 0) = true := by simpa using h0
      clear hE
      have hthr : Y3.there w.heap.size 0 (#[.int .u64 0, .int .u64 0, .int .i64 0, .string ⟨#[]⟩, .string ⟨#[]⟩, .int .u64 0, .int .i64 0, .string ⟨#[]⟩, .string ⟨#[]⟩, .int .i64 0, .int .i64 0, .slice none 0 0, .int .i64 0, .int .i64 0, .int .i64 0, .int .i64 0, .string ⟨#[]⟩, .int .i64 0] : Array Value).size := there_of g.rs (Nat.le_refl _)
      obtain ⟨X, hX⟩ : ∃ X, X = setAll w.heap.size 0 Y3 zreq.cells.toList := ⟨_, rfl⟩
      have x1 : X.heap[w.heap.size]? = some (.cells zreq.cells 31 (0, 0)) := by rw [hX]; exact setAll_all g.rs rfl
      have x2 : Below w.heap.size w X := by rw [hX]; exact setAll_below g.bel (Nat.le_refl _)
      have hX2 : X = setAll w.heap.size 0 Y3 (#[.int .u64 0, .int .u64 0, .int .i64 0, .string ⟨#[]⟩, .string ⟨#[]⟩, .int .u64 0, .int .i64 0, .string ⟨#[]⟩, .string ⟨#[]⟩, .int .i64 0, .int .i64 0, .slice none 0 0, .int .i64 0, .int .i64 0, .int .i64 0, .int .i64 0, .string ⟨#[]⟩, .int .i64 0] : Array Value).toList := hX
      have HX := Lib.hid (And.intro hX2 (And.intro x1 x2))
      clear hX hX2 x1 x2 g
      go_wp2_with (refine wpList_store_mid rfl 31 _ _ rfl w.heap.size 0 #[.int .u64 0, .int .u64 0, .int .i64 0, .string ⟨#[]⟩, .string ⟨#[]⟩, .int .u64 0, .int .i64 0, .string ⟨#[]⟩, .string ⟨#[]⟩, .int .i64 0, .int .i64 0, .slice none 0 0, .int .i64 0, .int .i64 0, .int .i64 0, .int .i64 0, .string ⟨#[]⟩, .int .i64 0] rfl rfl hthr hinf hone ?_)
      rw [setCells_all, ← HX.out.1]
      exact bodyPost_ret (told rfl HX.out.2.1 rfl rfl) rfl (refuse h0 (fun q => absurd q (by omega)) HX.out.2.2)
end Go.Proofs.Ytfidmjpjfigmcaa.Cm
