/- expressions: a text's pieces, one by one (strings.SplitSeq) -/
import Derived.Test.YtcodjknhnhdkfaaGreatDoorBr25
import Derived.Test.YtcodjknhnhdkfaaGreatDoorBrRy
import Derived.Test.YtcodjknhnhdkfaaGreatDoorBr02
import Derived.Shelf.Abstract
import Derived.Shelf.RegionOpen
import Derived.OwnWalkIn
import Derived.TacticsInMore
import Derived.LoopNIn
import Derived.LoopIn
namespace Go.Proofs.YtcodjknhnhdkfaaGreatDoor.Cn
open Go.RowKit Go.Lib Go.Proofs.YtcodjknhnhdkfaaGreatDoor.Rg
attribute [local go_sem] Oper.semAt_some
set_option linter.unusedVariables false

theorem index_any (s : L) (c : UInt8) (w : World) :
    Calls Tryz.prog 142 #[S s, .string ⟨#[c]⟩] w fun e w' => e = .returned (.int .i64 (fiI c s)) ∧ w' = w := by
  have h := Tryz.strings_Index_one ⟨s.toArray⟩ c w
  have e : indexByte s c = fiI c s := by
    induction s with
    | nil => rfl
    | cons b l ih =>
      have h2 := fun w => Tryz.strings_Index_one ⟨l.toArray⟩ c w
      unfold indexByte fiI fi
      have ih := ih (h2 w)
      by_cases hb : b = c
      · subst hb; simp
      · rw [if_neg (by simpa using hb), if_neg hb, ih]
        unfold fiI
        cases fi c l with
        | none => simp
        | some i => simp
  rw [← e]
  exact h
/-- the pieces that are told -/
def encS (x : L) : Array Value := #[S x]
def PieceC (ps : List L) (m : Nat) (x : L) (_ : World) : Prop := ps[m]? = some x
/-- the boxes that the iterator reads -/
abbrev seqB (b : Nat) : Array Value := #[.pointer (some ⟨b + 1, 0, none⟩), .pointer (some ⟨b, 0, none⟩), .pointer (some ⟨b + 2, 0, none⟩)]
theorem seq_any (s : L) (c : UInt8) (w : World) :
    Calls Tryz.prog 123 #[S s, .string ⟨#[c]⟩] w fun e w' => e = .returned (.func (.func 154) #[] (seqB w.heap.size)) ∧
      w' = ((w.alloc (.cells #[S s] 9)).alloc (.cells #[.string ⟨#[c]⟩] 9)).alloc (.cells #[.int .i64 0] 3) := by
  have hmf : ∀ (fn : Fn) (first cap : Array Value) (w : World), (Instr.makeFunc fn first cap).run Tryz.prog w = .ok (.func fn first cap) w := fun _ _ _ _ => rfl
  go_enter Tryz.func123, Tryz.ntmps123
  go_wp2_with go_in
  go_ret
  exact ⟨rfl, rfl⟩
/-- the text that lies in a box -/
def strAt (b : Nat) (w : World) : Nat := match w.cell? ⟨b, 0, none⟩ with
  | some (.string x) => x.size
  | _ => 0
theorem one_cell {w : World} {b : Nat} {v : Value} {t : TypeId} (h : w.heap[b]? = some (.cells #[v] t (0, 0))) : w.cell? ⟨b, 0, none⟩ = some v ∧ w.frozen? ⟨b, 0, none⟩ = false := by
  constructor <;> simp [World.cell?, World.frozen?, h]
theorem strAt_eq {w : World} {b : Nat} {l : L} {t : TypeId} (h : w.heap[b]? = some (.cells #[S l] t (0, 0))) : strAt b w = l.length := by
  unfold strAt; rw [(one_cell h).1]; exact size_S l
theorem one_set {w : World} {b : Nat} {v : Value} {t : TypeId} (h : w.heap[b]? = some (.cells #[v] t (0, 0))) (u : Value) : (w.setCell ⟨b, 0, none⟩ u).heap[b]? = some (.cells #[u] t (0, 0)) :=
  heap_setCell_same w b 0 #[v] t u h
set_option maxRecDepth 20000 in
set_option maxHeartbeats 4000000 in
theorem seq_iter (n n₀ n₁ b : Nat) (s : L) (c : UInt8) (w : World) (hs : s.length ≤ 1000) (hb1 : n₁ ≤ b) (hb2 : b + 2 < w.heap.size)
    (h0 : w.heap[b]? = some (.cells #[S s] 9 (0, 0))) (h1 : w.heap[b + 1]? = some (.cells #[.string ⟨#[c]⟩] 9 (0, 0))) (h2 : w.heap[b + 2]? = some (.cells #[.int .i64 0] 3 (0, 0))) :
    IterO (fun k => k = b) true Fence.wide n Tryz.prog 154 (seqB b) encS n₀ n₁ w.heap.size (PieceC (sp c s)) (fun m => m = (sp c s).length) w := by
  intro l J K W hW hJ hKK hY hJ0
  have HJ := Lib.hid hJ
  have HKK := Lib.hid hKK
  have HY := Lib.hid hY
  have HJ0 := Lib.hid hJ0
  have g0 := (hW.block b (by omega)).trans h0
  have g1 := (hW.block (b + 1) (by omega)).trans h1
  have g2 := (hW.block (b + 2) (by omega)).trans h2
  have hk1 := (one_cell g1).1
  have HW := Lib.hid (And.intro hW (And.intro g0 (And.intro g1 g2)))
  clear hJ hKK hY hJ0 hW g0 g1 g2 h0 h1 h2
  refine callsIn_of_wp Tryz.func154 rfl trivial ?_ rfl
  simp only [Tryz.ntmps154, List.size_toArray, List.length_cons, List.length_nil, Nat.reduceAdd, Nat.reduceSub, Array.replicate_succ, Array.replicate_zero, List.push_toArray, List.append_toArray, List.nil_append, List.cons_append]
  gi_wp2_with fail
  gi_loopw [] (fun wr => ∃ (m : Nat) (r : L), (sp c s).drop m = sp c r ∧ r.length ≤ s.length ∧ J m wr ∧ w.heap.size ≤ wr.heap.size ∧ wr.heap[b]? = some (.cells #[S r] 9 (0, 0)) ∧ wr.heap[b + 1]? = some (.cells #[.string ⟨#[c]⟩] 9 (0, 0)) ∧ wr.heap[b + 2]? = some (.cells #[.int .i64 0] 3 (0, 0))) (fun wr => strAt b wr)
  case atStart => exact ⟨0, s, rfl, Nat.le_refl _, HJ0.out, HW.out.1.size, HW.out.2.1, HW.out.2.2.1, HW.out.2.2.2⟩
  case round =>
    obtain ⟨m, r, hd, hr, hj, hz, g0, g1, g2⟩ := hrel
    obtain ⟨k0, f0⟩ := one_cell g0
    have k1 := (one_cell g1).1
    have k2 := (one_cell g2).1
    have hsz := size_S r
    have HA := Lib.hid (And.intro hd (And.intro hj (And.intro g0 (And.intro g1 g2))))
    clear hd hj g0 g1 g2
    cases hfi : fi c r with
    | none =>
      have hI : fiI c r = -1 := by unfold fiI; rw [hfi]
      have hx := index_any r c wr
      rw [hI] at hx
      have hps : (sp c s)[m]? = some r ∧ (sp c s).length = m + 1 := by
        have e1 : (sp c s).drop m = [r] := HA.out.1.trans (sp_miss hfi)
        have e2 := congrArg List.length e1
        rw [List.length_drop, List.length_singleton] at e2
        refine ⟨?_, by omega⟩
        have e3 : ((sp c s).drop m)[0]? = some r := by rw [e1]; rfl
        rw [List.getElem?_drop] at e3
        exact e3
      have HP := Lib.hid hps
      clear hps hfi hI
      obtain ⟨fn, tmps, assign, body, hy, hR⟩ := HY.out m r wr HA.out.2.1 HP.out.1
      dsimp only [encS] at hy
      gi_wp2_with fail
      refine ⟨trivial, (fun h => by cases h), (callsIn_wide.2 hx).mono ?_⟩
      rintro e w' ⟨rfl, rfl⟩
      gi_wp2_with fail
      refine ⟨(fun h => by cases h), hR.mono ?_⟩
      rintro e' W3 (⟨rfl, hJ3, hm3⟩ | ⟨_, rfl, hK3⟩)
      · gi_wp2_with fail
        go_end0
        exact ⟨⟨_, rfl⟩, .inl ⟨m + 1, HP.out.2.symm, hJ3⟩⟩
      · gi_wp2_with fail
        go_end0
        exact ⟨⟨_, rfl⟩, .inr ⟨m, hK3⟩⟩
    | some i =>
      obtain ⟨i1, i2, i3⟩ := fi_some hfi
      have hI : fiI c r = (i : Nat) := by unfold fiI; rw [hfi]
      have hx := index_any r c wr
      rw [hI] at hx
      have hlt : (i : Int) < ((⟨r.toArray⟩ : ByteArray).size : Nat) := by rw [hsz]; omega
      have hsl1 := sub_S r 0 i
      have hsl2 := sub_S r (i + 1) r.length
      rw [List.drop_zero, Nat.sub_zero] at hsl1
      rw [List.take_of_length_le (by rw [List.length_drop]; omega)] at hsl2
      have hps : (sp c s)[m]? = some (r.take i) ∧ (sp c s).drop (m + 1) = sp c (r.drop (i + 1)) := by
        have e1 : (sp c s).drop m = r.take i :: sp c (r.drop (i + 1)) := HA.out.1.trans (sp_at hfi)
        constructor
        · have e3 : ((sp c s).drop m)[0]? = some (r.take i) := by rw [e1]; rfl
          rw [List.getElem?_drop] at e3
          exact e3
        · rw [← List.drop_drop, e1]; rfl
      have HP := Lib.hid hps
      clear hps hfi hI i2 i3
      obtain ⟨fn, tmps, assign, body, hy, hR⟩ := HY.out m (r.take i) wr HA.out.2.1 HP.out.1
      dsimp only [encS] at hy
      gi_wp2_with fail
      refine ⟨trivial, (fun h => by cases h), (callsIn_wide.2 hx).mono ?_⟩
      rintro e w' ⟨rfl, rfl⟩
      gi_wp2_with fail
      refine ⟨(fun h => by cases h), hR.mono ?_⟩
      rintro e' W3 (⟨rfl, hJ3, hm3⟩ | ⟨_, rfl, hK3⟩)
      · have g0 := (hm3.block b (.inr hb1) (by omega)).trans HA.out.2.2.1
        have g1 := (hm3.block (b + 1) (.inr (by omega)) (by omega)).trans HA.out.2.2.2.1
        have g2 := (hm3.block (b + 2) (.inr (by omega)) (by omega)).trans HA.out.2.2.2.2
        obtain ⟨k0', f0'⟩ := one_cell g0
        have k1' := (one_cell g1).1
        have hz3 := hm3.size
        have HF := Lib.hid (And.intro hJ3 (And.intro g0 (And.intro g1 g2)))
        clear hJ3 hm3 g0 g1 g2 k0 f0 k1 k2 hsl1 hlt
        gi_wp2_with fail
        refine ⟨⟨m + 1, r.drop (i + 1), HP.out.2, by rw [List.length_drop]; omega, HJ.out _ _ _ HF.out.1 (BelowO.set (own := fun k => k = b) (p := ⟨b, 0, none⟩) (BelowO.of (Below.refl _ _)) rfl _), by simp; omega, one_set HF.out.2.1 _, ?_, ?_⟩, ?_⟩
        · rw [heap_setCell_other _ _ _ _ (by simp)]; exact HF.out.2.2.1
        · rw [heap_setCell_other _ _ _ _ (by simp)]; exact HF.out.2.2.2
        · rw [strAt_eq HA.out.2.2.1, strAt_eq (one_set HF.out.2.1 _), List.length_drop]; omega
      · gi_wp2_with fail
        refine bodyPost_ret (results_none rfl _ _ _) rfl ?_
        exact ⟨⟨_, rfl⟩, .inr ⟨m, hK3⟩⟩
end Go.Proofs.YtcodjknhnhdkfaaGreatDoor.Cn
namespace Go.Proofs.YtcodjknhnhdkfaaGreatDoor.Cn
open Go.RowKit Go.Lib Go.Proofs.YtcodjknhnhdkfaaGreatDoor.Rg Go.Proofs.YtcodjknhnhdkfaaGreatDoor.Ht
attribute [local go_sem] Oper.semAt_some
set_option linter.unusedVariables false

theorem load_u64 {W : World} {b : Nat} {v : Value} (h : W.cell? ⟨b, 0, none⟩ = some v) : (loadVar 34 ⟨b, 0, none⟩).run Tryz.prog W = .ok v W := by go_simp
theorem load_errno {W : World} {b : Nat} {v : Value} (h : W.cell? ⟨b, 0, none⟩ = some v) : (loadVar 25 ⟨b, 0, none⟩).run Tryz.prog W = .ok v W := by go_simp
/-- the activation is left by a jump out of a loop: two results in cells -/
theorem leaveC2 {fn : Func} {tmps : Array Value} {N D r1 r2 b1 b2 : Nat} {X : World} {v1 v2 : Value} {R : Ending → World → Prop}
    (hres : fn.results = #[.cell r1 34, .cell r2 25]) (ht1 : tmps.getD r1 undef = .pointer (some ⟨b1, 0, none⟩)) (ht2 : tmps.getD r2 undef = .pointer (some ⟨b2, 0, none⟩))
    (h1 : X.heap[b1]? = some (.cells #[v1] 34 (0, 0))) (h2 : X.heap[b2]? = some (.cells #[v2] 25 (0, 0)))
    (hD : N ≤ D) (h : X.heap[D]? = some (.deferred (some []))) (hR : ∀ X', Calmly N X X' → R (.returned (.tuple #[v1, v2])) X') :
    LeavesInM Fence.wide 3 Tryz.prog fn tmps R [{ target := .collected D, args := #[] }] .returning X := by
  refine ⟨by simp, .inl ⟨D, _, rfl, run_takeDeferred h, ?_⟩⟩
  have hbut := but_put D X (.deferred none)
  refine ⟨.tuple #[v1, v2], ?_, hR _ (Calmly.but' hbut hD h rfl)⟩
  have n1 : b1 ≠ D := fun e => by rw [e, h] at h1; cases h1
  have n2 : b2 ≠ D := fun e => by rw [e, h] at h2; cases h2
  have e1 := load_u64 (one_cell ((hbut.2.2.2.2 b1 n1).trans h1)).1
  have e2 := load_errno (one_cell ((hbut.2.2.2.2 b2 n2).trans h2)).1
  have ht1' : tmps[r1]?.getD undef = .pointer (some ⟨b1, 0, none⟩) := by simpa using ht1
  have ht2' : tmps[r2]?.getD undef = .pointer (some ⟨b2, 0, none⟩) := by simpa using ht2
  simp only [results, hres]
  simp [ht1', ht2', Result.andThen, asAddr, e1, e2]
/-- the field that is read, its results' cells, and its sum so far; the pieces that have come are good -/
structure Fs (w : World) (f : Fd) (ps : List L) (N m : Nat) (W : World) : Prop where
  fd : W.heap[w.heap.size]? = some (.cells #[.int .i64 (f.lo : Nat), .int .i64 (f.hi : Nat), S f.nm] 164 (0, 0))
  r1 : W.heap[w.heap.size + 1]? = some (.cells #[.int .u64 0] 34 (0, 0))
  r2 : W.heap[w.heap.size + 2]? = some (.cells #[.int .i64 0] 25 (0, 0))
  all : W.heap[w.heap.size + 3]? = some (.cells #[.int .u64 (mk (setF f (ps.take m)) : Nat)] 34 (0, 0))
  ok : ∀ p ∈ ps.take m, errP f p = 0
  bel : Below w.heap.size w W
  size : N ≤ W.heap.size
theorem Fs.calm {w : World} {f : Fd} {ps : List L} {N m : Nat} {W W' : World} (h : Fs w f ps N m W) (hN : N = w.heap.size + 7) (hc : CalmO (fun k => k = w.heap.size + 4) N W W') : Fs w f ps N m W' :=
  ⟨hc.cell (by omega) h.fd, hc.cell (by omega) h.r1, hc.cell (by omega) h.r2, hc.cell (by omega) h.all, h.ok,
    h.bel.trans (hc.below (by omega) h.size (fun k hk => by omega)), Nat.le_trans h.size hc.size⟩
/-- a field that is refused -/
structure Fx (w : World) (f : Fd) (ps : List L) (N : Nat) (c : Code) (W : World) : Prop where
  code : c = .ret
  ne : errF f ps ≠ 0
  r1 : W.heap[w.heap.size + 1]? = some (.cells #[.int .u64 0] 34 (0, 0))
  r2 : W.heap[w.heap.size + 2]? = some (.cells #[.int .i64 (errF f ps : Nat)] 25 (0, 0))
  bel : Below w.heap.size w W
  size : N ≤ W.heap.size
theorem Fx.calm {w : World} {f : Fd} {ps : List L} {N : Nat} {c : Code} {W W' : World} (h : Fx w f ps N c W) (hN : N = w.heap.size + 7) (hc : CalmO (fun k => k = w.heap.size + 4) N W W') : Fx w f ps N c W' :=
  ⟨h.code, h.ne, hc.cell (by omega) h.r1, hc.cell (by omega) h.r2, h.bel.trans (hc.below (by omega) h.size (fun k hk => by omega)), Nat.le_trans h.size hc.size⟩
theorem errF_app (f : Fd) (qs : List L) : ∀ ps : List L, (∀ p ∈ ps, errP f p = 0) → errF f (ps ++ qs) = errF f qs
  | [], _ => rfl
  | p :: ps, h => by
    rw [List.cons_append, errF, if_pos (h p List.mem_cons_self)]
    exact errF_app f qs ps fun q hq => h q (List.mem_cons_of_mem _ hq)
theorem errF_at {f : Fd} {ps : List L} {m : Nat} {x : L} (ho : ∀ p ∈ ps.take m, errP f p = 0) (hx : ps[m]? = some x) (he : errP f x ≠ 0) : errF f ps = errP f x := by
  have h1 := errF_app f (ps.drop m) (ps.take m) ho
  rw [List.take_append_drop] at h1
  have h2 : ps.drop m = x :: ps.drop (m + 1) := by
    obtain ⟨hl, hg⟩ := List.getElem?_eq_some_iff.1 hx
    rw [List.drop_eq_getElem_cons hl, hg]
  rw [h1, h2, errF, if_neg he]
theorem errF_ok {f : Fd} {ps : List L} (h : ∀ p ∈ ps, errP f p = 0) : errF f ps = 0 := by
  have := errF_app f [] ps h
  rwa [List.append_nil] at this
theorem setF_snoc (f : Fd) (ps : List L) (m : Nat) (x : L) (hx : ps[m]? = some x) (y : Nat) : setF f (ps.take (m + 1)) y = (setF f (ps.take m) y || inP (readT f x).1 y) := by
  unfold setF
  rw [List.take_add_one, hx]
  simp
theorem take_ok {f : Fd} {ps : List L} {m : Nat} {x : L} (ho : ∀ p ∈ ps.take m, errP f p = 0) (hx : ps[m]? = some x) (he : errP f x = 0) : ∀ p ∈ ps.take (m + 1), errP f p = 0 := by
  intro p hp
  rw [List.take_add_one, hx] at hp
  rcases List.mem_append.1 hp with h | h
  · exact ho p h
  · have : p = x := by simpa using h
    rw [this]; exact he
theorem refuse {w : World} {f : Fd} {ps : List L} {N m : Nat} {A W' : World} {x : L} {e : Nat} (hI : Fs w f ps N m A) (hN : N = w.heap.size + 7) (hx : ps[m]? = some x) (he : errP f x = e) (hne : e ≠ 0)
    (hbo : BelowO (fun k => k = w.heap.size + 1 ∨ k = w.heap.size + 2) A W') (h1 : W'.heap[w.heap.size + 1]? = some (.cells #[.int .u64 0] 34 (0, 0))) (h2 : W'.heap[w.heap.size + 2]? = some (.cells #[.int .i64 (e : Nat)] 25 (0, 0))) :
    KeepsFrom N A W' ∧ Fx w f ps N .ret W' := by
  subst he
  have hE := errF_at hI.ok hx hne
  refine ⟨hbo.keeps (fun k hk => by omega), rfl, by rw [hE]; exact hne, h1, by rw [hE]; exact h2, hI.bel.trans (hbo.below hI.bel.size (fun k hk => by omega)), Nat.le_trans hI.size hbo.size⟩
theorem accept {w : World} {f : Fd} {ps : List L} {N m : Nat} {A W' : World} {x : L} (hI : Fs w f ps N m A) (hN : N = w.heap.size + 7) (hx : ps[m]? = some x) (he : errP f x = 0)
    (hbo : BelowO (fun k => k = w.heap.size + 3) A W') (h3 : W'.heap[w.heap.size + 3]? = some (.cells #[.int .u64 (mk (setF f (ps.take (m + 1))) : Nat)] 34 (0, 0))) :
    KeepsFrom N A W' ∧ Mid w.heap.size (w.heap.size + 4) N A W' ∧ Fs w f ps N (m + 1) W' := by
  have hs := hI.size
  exact ⟨hbo.keeps (fun k hk => by omega), hbo.mid hI.size (fun k hk => by omega), (hbo.block _ (by omega) (by omega)).trans hI.fd, (hbo.block _ (by omega) (by omega)).trans hI.r1, (hbo.block _ (by omega) (by omega)).trans hI.r2, h3,
    take_ok hI.ok hx he, hI.bel.trans (hbo.below hI.bel.size (fun k hk => by omega)), Nat.le_trans hI.size hbo.size⟩
end Go.Proofs.YtcodjknhnhdkfaaGreatDoor.Cn
namespace Go.Proofs.YtcodjknhnhdkfaaGreatDoor.Cn
open Go.RowKit Go.Lib Go.Proofs.YtcodjknhnhdkfaaGreatDoor.Rg Go.Proofs.YtcodjknhnhdkfaaGreatDoor.Ht
attribute [local go_sem] Oper.semAt_some
set_option linter.unusedVariables false

set_option maxRecDepth 20000 in
set_option maxHeartbeats 4000000 in
theorem fparse_any (f : Fd) (hf : FOk f) (s : L) (w : World) (hs : s.length ≤ 1000) (hm : Mx w) :
    Calls Tryz.prog 102 #[fdv f, S s] w fun e w' => e = .returned (.tuple #[.int .u64 ((if errF f (sp 44 s) = 0 then mk (setF f (sp 44 s)) else 0 : Nat) : Int), .int .i64 (errF f (sp 44 s) : Nat)]) ∧ Below w.heap.size w w' := by
  obtain ⟨ps, hps⟩ : ∃ ps, ps = sp 44 s := ⟨_, rfl⟩
  rw [← hps]
  obtain ⟨R, hR⟩ : ∃ R : Nat, R = if errF f ps = 0 then mk (setF f ps) else 0 := ⟨_, rfl⟩
  rw [← hR]
  have HR := Lib.hid hR
  clear hR
  have hpl : ∀ p ∈ ps, p.length ≤ 1000 := fun p hp => by rw [hps] at hp; have := (sp_mem_len hp).1; omega
  obtain ⟨V, hV⟩ : ∃ V, V = (((w.alloc (.cells #[.int .i64 (f.lo : Nat), .int .i64 (f.hi : Nat), S f.nm] 164)).alloc (.cells #[.int .u64 0] 34)).alloc (.cells #[.int .i64 0] 25)).alloc (.cells #[.int .u64 0] 34) := ⟨_, rfl⟩
  have hbV : Below w.heap.size w V := by rw [hV]; exact ((((Below.refl _ _).alloc (Nat.le_refl _) _).alloc (by simp) _).alloc (by simp; omega) _).alloc (by simp; omega) _
  have hzV : V.heap.size = w.heap.size + 4 := by rw [hV]; simp
  have g0 : V.heap[w.heap.size]? = some (.cells #[.int .i64 (f.lo : Nat), .int .i64 (f.hi : Nat), S f.nm] 164 (0, 0)) := by
    rw [hV]; exact (Below.heap_alloc _ _ _ (by simp; omega)).trans ((Below.heap_alloc _ _ _ (by simp; omega)).trans (two_new w _ 164 #[.int .u64 0] 34).2.1)
  have g1 : V.heap[w.heap.size + 1]? = some (.cells #[.int .u64 0] 34 (0, 0)) := by
    rw [hV]; exact (Below.heap_alloc _ _ _ (by simp)).trans ((Below.heap_alloc _ _ _ (by simp)).trans (two_new w _ 164 #[.int .u64 0] 34).2.2.1)
  have g2 : V.heap[w.heap.size + 2]? = some (.cells #[.int .i64 0] 25 (0, 0)) := by
    have := (two_new ((w.alloc (.cells #[.int .i64 (f.lo : Nat), .int .i64 (f.hi : Nat), S f.nm] 164)).alloc (.cells #[.int .u64 0] 34)) #[.int .i64 0] 25 #[.int .u64 0] 34).2.1
    rw [hV]; simpa using this
  have g3 : V.heap[w.heap.size + 3]? = some (.cells #[.int .u64 0] 34 (0, 0)) := by
    have := (two_new ((w.alloc (.cells #[.int .i64 (f.lo : Nat), .int .i64 (f.hi : Nat), S f.nm] 164)).alloc (.cells #[.int .u64 0] 34)) #[.int .i64 0] 25 #[.int .u64 0] 34).2.2.1
    rw [hV]; simpa using this
  have HV := Lib.hid (And.intro hbV (And.intro g0 (And.intro g1 (And.intro g2 g3))))
  have HW := Lib.hid hV
  have HZ := Lib.hid hzV
  have HP := Lib.hid (And.intro hps hpl)
  have HM := Lib.hid hm
  have hmix : Tryz.prog.follows .mixedOrders = true := by kernel_rfl
  clear hbV g0 g1 g2 g3 hV hzV hps hpl hm
  refine (callsIn_wide (n := 3)).1 ?_
  refine callsIn_of_wp_marks Tryz.func102 rfl trivial ?_ rfl
  simp only [Tryz.ntmps102, List.size_toArray, List.length_cons, List.length_nil, Nat.reduceAdd, Nat.reduceSub, Array.replicate_succ, Array.replicate_zero, List.push_toArray, List.append_toArray, List.nil_append, List.cons_append]
  refine wpIn_wide.2 ?_
  go_wp2_with fail
  rw [← HW.out]
  refine (seq_any s 44 V).mono ?_
  rintro e w' ⟨rfl, hw'⟩
  have hz2 : w'.heap.size = w.heap.size + 7 := by rw [hw']; simp; rw [HZ.out]
  have hb2 : Below V.heap.size V w' := by rw [hw']; exact ((((Below.refl _ _).alloc (Nat.le_refl _) _).alloc (by simp) _).alloc (by simp; omega) _)
  have q0 : w'.heap[w.heap.size + 4]? = some (.cells #[S s] 9 (0, 0)) := by
    rw [hw', ← HZ.out]; exact (Below.heap_alloc _ _ _ (by simp; omega)).trans (two_new V _ 9 #[.string ⟨#[44]⟩] 9).2.1
  have q1 : w'.heap[w.heap.size + 4 + 1]? = some (.cells #[.string ⟨#[44]⟩] 9 (0, 0)) := by
    rw [hw', ← HZ.out]; exact (Below.heap_alloc _ _ _ (by simp)).trans (two_new V _ 9 #[.string ⟨#[44]⟩] 9).2.2.1
  have q2 : w'.heap[w.heap.size + 4 + 2]? = some (.cells #[.int .i64 0] 3 (0, 0)) := by
    have := (two_new (V.alloc (.cells #[S s] 9)) #[.string ⟨#[44]⟩] 9 #[.int .i64 0] 3).2.2.1
    rw [hw', ← HZ.out]; simpa using this
  have H2 := Lib.hid (And.intro hb2 (And.intro q0 (And.intro q1 q2)))
  have HZ2 := Lib.hid hz2
  clear hb2 q0 q1 q2 hw'
  go_wp2_with fail
  refine (wpIn_wide (n := 3)).1 ?_
  rw [HZ.out]
  have hfs : Fs w f ps w'.heap.size 0 w' := ⟨old_blk H2.out.1 HV.out.2.1, old_blk H2.out.1 HV.out.2.2.1, old_blk H2.out.1 HV.out.2.2.2.1, by
      rw [List.take_zero, show mk (setF f []) = 0 from mk_none (fun _ => rfl)]; exact old_blk H2.out.1 HV.out.2.2.2.2, by simp, HV.out.1.trans (H2.out.1.mono HV.out.1.size), Nat.le_refl _⟩
  refine range_own (own := fun k => k = w.heap.size + 4) rfl (by omega) (gf := 154) (lb := seqB (w.heap.size + 4)) rfl trivial (enters_of Tryz.func154 (by kernel_rfl) rfl)
    (seq_iter (3 - 1) w.heap.size (w.heap.size + 4) (w.heap.size + 4) s 44 w' hs (Nat.le_refl _) (by omega) H2.out.2.1 H2.out.2.2.1 H2.out.2.2.2) (fun k hk => by omega) (fun _ => rfl)
    (Fs w f ps w'.heap.size) (fun c _ => Fx w f ps w'.heap.size c) (fun m A A' h hc => h.calm hz2 hc) (fun c m A A' h hc => h.calm hz2 hc) (fun _ _ _ _ => rfl) hfs (fun m x A A' h _ => h) (fun m x A A' l r h _ _ => h) ?hround ?hdone ?hstop
  case hround =>
    rintro l m x X hlB ⟨rr, hlr⟩ hI hG
    dsimp only [encS]
    have hx : ps[m]? = some x := by rw [HP.out.1]; exact hG
    have hxl := HP.out.2 x (List.mem_of_getElem? hx)
    clear hG hI hfs
    gi_wp2_with fail
    refine ⟨Below.refl _ _, ?_⟩
    intro A2 hbut hI _
    obtain ⟨⟨c0, c1, c2⟩, _⟩ := three hI.fd
    have hmA : Mx A2 := by
      obtain ⟨M, hM⟩ := HM.out
      exact ⟨M, (hI.bel.cell (World.block_lt_of_cell? _ _ hM)).trans hM⟩
    have HI := Lib.hid hI
    have HX := Lib.hid (And.intro hx hmA)
    clear hI hbut hx hmA hlr
    gi_wp2_with fail
    have hrd := read_any f hf x A2 hxl HX.out.2
    have herr : errP f x = if (readT f x).2 then (if mayB f (readT f x).1 then 0 else 3) else 2 := rfl
    have hset := setF_snoc f ps m x HX.out.1
    generalize readT f x = q at hrd herr hset
    obtain ⟨⟨p0, p1, p2⟩, okq⟩ := q
    refine ⟨trivial, CallsIn.inRound l ((callsIn_wide.2 hrd).mono ?_)⟩
    rintro e A3 ⟨rfl, hb3⟩
    clear hrd c0 c1 c2
    obtain ⟨c0, c1, c2⟩ := (three (old_blk hb3 HI.out.fd)).1
    obtain ⟨k1, f1⟩ := one_cell (old_blk hb3 HI.out.r1)
    obtain ⟨k2, f2⟩ := one_cell (old_blk hb3 HI.out.r2)
    have l0 : w.heap.size < A3.heap.size := by have := HI.out.size; have := hb3.size; have := HZ2.out; omega
    have l1 : w.heap.size + 1 < A3.heap.size := by have := HI.out.size; have := hb3.size; have := HZ2.out; omega
    have l2 : w.heap.size + 1 + 1 < A3.heap.size := by have := HI.out.size; have := hb3.size; have := HZ2.out; omega
    have H3 := Lib.hid (And.intro hb3 (And.intro herr hset))
    clear hb3 herr hset
    cases okq
    · gi_wp2_with fail
      have e1 := one_set (old_blk H3.out.1 HI.out.r1) (.int .u64 0)
      have e2 := one_set (w := A3.setCell ⟨w.heap.size + 1, 0, none⟩ (.int .u64 0)) (b := w.heap.size + 2) ((heap_setCell_other _ _ _ _ (by simp)).trans (old_blk H3.out.1 HI.out.r2)) (.int .i64 2)
      refine refuse HI.out HZ2.out HX.out.1 (e := 2) (H3.out.2.1.trans rfl) (by decide) ?_ ?_ ?_
      · exact BelowO.alloc (BelowO.set (p := ⟨w.heap.size + 2, 0, none⟩) (BelowO.set (p := ⟨w.heap.size + 1, 0, none⟩) (BelowO.of H3.out.1) (.inl rfl) _) (.inr rfl) _) _
      · exact (Below.heap_alloc _ _ _ (by simp; omega)).trans ((heap_setCell_other _ _ _ _ (by simp)).trans e1)
      · exact (Below.heap_alloc _ _ _ (by simp; omega)).trans e2
    · have hmy := may_any f (p0, p1, p2)
      generalize hmb : mayB f (p0, p1, p2) = mb at hmy
      gi_wp2_with fail
      obtain ⟨Y, hY⟩ : ∃ Y, Y = A3.alloc (.cells #[.int .i64 (p0 : Nat), .int .i64 (p1 : Nat), .int .i64 (p2 : Nat)] 199) := ⟨_, rfl⟩
      have hbY : Below A2.heap.size A2 Y := by rw [hY]; exact H3.out.1.alloc H3.out.1.size _
      have hgY : Y.heap[A3.heap.size]? = some (.cells #[.int .i64 (p0 : Nat), .int .i64 (p1 : Nat), .int .i64 (p2 : Nat)] 199 (0, 0)) := by rw [hY]; exact heap_alloc_new A3 _
      have hzY : A3.heap.size < Y.heap.size := by rw [hY]; simp
      rw [← hY]
      refine ⟨trivial, CallsIn.inRound l ((callsIn_wide.2 (hmy _)).mono ?_)⟩
      rintro e A4 ⟨rfl, hb4⟩
      have hb4' := hbY.trans (hb4.mono hbY.size)
      have hgp := old_blk hb4 hgY
      clear c0 c1 c2 k1 k2 f1 f2 hmy hbY hgY hY
      obtain ⟨k1, f1⟩ := one_cell (old_blk hb4' HI.out.r1)
      obtain ⟨k2, f2⟩ := one_cell (old_blk hb4' HI.out.r2)
      have H4 := Lib.hid (And.intro hb4' (And.intro hgp hmb))
      clear hb4 hb4' hgp hmb
      cases mb
      · gi_wp2_with fail
        have e1 := one_set (old_blk H4.out.1 HI.out.r1) (.int .u64 0)
        have e2 := one_set (w := A4.setCell ⟨w.heap.size + 1, 0, none⟩ (.int .u64 0)) (b := w.heap.size + 2) ((heap_setCell_other _ _ _ _ (by simp)).trans (old_blk H4.out.1 HI.out.r2)) (.int .i64 3)
        refine refuse HI.out HZ2.out HX.out.1 (H3.out.2.1.trans (by rw [H4.out.2.2]; try rfl)) (by decide) ?_ ?_ ?_
        · exact BelowO.set (p := ⟨w.heap.size + 2, 0, none⟩) (BelowO.set (p := ⟨w.heap.size + 1, 0, none⟩) (BelowO.of H4.out.1) (.inl rfl) _) (.inr rfl) _
        · exact (heap_setCell_other _ _ _ _ (by simp)).trans e1
        · exact e2
      · gi_wp2_with fail
        have hall := (one_cell (old_blk H4.out.1 HI.out.all)).1
        have hallf := (one_cell (old_blk H4.out.1 HI.out.all)).2
        obtain ⟨⟨y0, y1, y2⟩, _⟩ := three H4.out.2.1
        have hpa : A3.heap.size < A4.heap.size := (Array.getElem?_eq_some_iff.1 H4.out.2.1).1
        have hpw : w.heap.size + 3 < A4.heap.size := (Array.getElem?_eq_some_iff.1 (old_blk H4.out.1 HI.out.all)).1
        have hmay : p0 ≤ p1 ∧ p1 ≤ f.hi ∧ 1 ≤ p2 ∧ p2 ≤ 60 := by
          have := H4.out.2.2
          simp [mayB] at this
          omega
        have hval := fun W => values_any (p0, p1, p2) (by have := hf.hi; show p0 ≤ 99; omega) (by have := hf.hi; show p1 ≤ 59; omega) hmay.2.2.1 hmay.2.2.2 W
        have hor := u64_or_nat (mk (setF f (ps.take m))) (mk (inP (p0, p1, p2))) (mk_lt _) (mk_lt _)
        rw [mk_or, show (fun y => setF f (ps.take m) y || inP (p0, p1, p2) y) = setF f (ps.take (m + 1)) from funext fun y => (H3.out.2.2 y).symm] at hor
        obtain ⟨M, hM⟩ : ∃ M, M = mk (setF f (ps.take m)) := ⟨_, rfl⟩
        obtain ⟨U, hU⟩ : ∃ U, U = mk (inP (p0, p1, p2)) := ⟨_, rfl⟩
        rw [← hM, ← hU] at hor
        simp only [← hU] at hval
        rw [← hM] at hall
        have HU := Lib.hid (And.intro hval hor)
        have HG := Lib.hid (And.intro hall (And.intro y0 (And.intro y1 (And.intro y2 (And.intro hpa hpw)))))
        clear hval hor hM hU hall y0 y1 y2 hpa
        refine begin_round 4 (fun X => Below A4.heap.size A4 X) hmix (by kernel_rfl) (Below.refl A4.heap.size A4).drew (fun hS0 => ?_)
        refine Ht.take (i := 0) ⟨some 25, _, _, _, _, _⟩ (.int .u64 (M : Nat)) rfl (by kernel_rfl) (by kernel_rfl) (by decide) (by kernel_rfl) (by kernel_rfl) (by kernel_rfl) hS0 (Or.inl ⟨by rfl, by (intro X hX; have h1 := (hX.cell (p := ⟨w.heap.size + 1 + 1 + 1, 0, none⟩) HG.out.2.2.2.2.2).trans HG.out.1; go_simp)⟩) ?_
        simp only [Act.put, List.setIfInBounds_toArray, List.set_cons_zero, List.set_cons_succ]
        refine Ht.take (i := 1) ⟨some 26, _, _, _, _, _⟩ (.agg #[.int .i64 (p0 : Nat), .int .i64 (p1 : Nat), .int .i64 (p2 : Nat)]) rfl (by kernel_rfl) (by kernel_rfl) (by decide) (by kernel_rfl) (by kernel_rfl) (by kernel_rfl) hS0 (Or.inl ⟨by rfl, by (intro X hX; have h1 := (hX.cell (p := ⟨A3.heap.size, 0, none⟩) HG.out.2.2.2.2.1).trans HG.out.2.1; have h2 := (hX.cell (p := ⟨A3.heap.size, 1, none⟩) HG.out.2.2.2.2.1).trans HG.out.2.2.1; have h3 := (hX.cell (p := ⟨A3.heap.size, 2, none⟩) HG.out.2.2.2.2.1).trans HG.out.2.2.2.1; go_simp)⟩) ?_
        simp only [Act.put, List.setIfInBounds_toArray, List.set_cons_zero, List.set_cons_succ]
        refine Ht.step (i := 2) ⟨some 27, _, _, _, _, _⟩ rfl (by kernel_rfl) (by rfl) (fun K hK => ?_)
        refine Ht.enter 126 #[ptv (p0, p1, p2)] (by have hen := fun args w => enters_of (P := Tryz.prog) Tryz.func126 (by kernel_rfl) rfl args w; go_simp) (HU.out.1 _) ?_
        rintro e A5 ⟨rfl, hb5⟩
        have hS1 : Below A4.heap.size A4 A5 := hS0.trans (hb5.mono hS0.size)
        clear hb5
        refine ⟨_, rfl, hK _ _ (fun _ => hS1) (fun _ => ?_)⟩
        clear hK K
        simp only [Act.put, List.setIfInBounds_toArray, List.set_cons_zero, List.set_cons_succ]
        refine Ht.take (i := 3) ⟨some 28, _, _, _, _, _⟩ (.int .u64 (mk (setF f (ps.take (m + 1))) : Nat)) rfl (by kernel_rfl) (by kernel_rfl) (by decide) (by kernel_rfl) (by kernel_rfl) (by kernel_rfl) hS1 (Or.inl ⟨by rfl, by (intro X hX; have h1 := HU.out.2; go_simp)⟩) ?_
        simp only [Act.put, List.setIfInBounds_toArray, List.set_cons_zero, List.set_cons_succ]
        refine Ht.step (i := 4) ⟨none, _, _, _, _, _⟩ rfl (by kernel_rfl) (by rfl) (fun K hK => ?_)
        have c3 := (hS1.cell (p := ⟨w.heap.size + 1 + 1 + 1, 0, none⟩) HG.out.2.2.2.2.2).trans HG.out.1
        have f3 := (hS1.frozen (p := ⟨w.heap.size + 1 + 1 + 1, 0, none⟩) HG.out.2.2.2.2.2).trans hallf
        have hg3 : A5.heap[w.heap.size + 3]? = some (.cells #[.int .u64 (mk (setF f (ps.take m)) : Nat)] 34 (0, 0)) := old_blk hS1 (old_blk H4.out.1 HI.out.all)
        have H5 := Lib.hid (And.intro hS1 hg3)
        clear hg3 hallf
        go_simp
        refine hK _ _ (fun h => absurd rfl h) (fun _ => ?_)
        clear hK K
        refine done (by kernel_rfl) ?_
        exact accept HI.out HZ2.out HX.out.1 (H3.out.2.1.trans (by rw [H4.out.2.2]; rfl)) (BelowO.set (own := fun k => k = w.heap.size + 3) (p := ⟨w.heap.size + 3, 0, none⟩) (BelowO.of (H4.out.1.trans (H5.out.1.mono H4.out.1.size))) rfl _) (one_set H5.out.2 _)
  case hdone =>
    intro D m2 X hD hS hI hK
    dsimp only
    have hall := (one_cell hI.all).1
    obtain ⟨k1, f1⟩ := one_cell hI.r1
    obtain ⟨k2, f2⟩ := one_cell hI.r2
    have htk : ps.take m2 = ps := by rw [hS, ← HP.out.1]; exact List.take_length
    have hI2 := hI
    have hok : errF f ps = 0 := errF_ok (by have := hI.ok; rwa [htk] at this)
    rw [htk] at hall
    have HX := Lib.hid (And.intro hI2 (And.intro hok (And.intro hK hD)))
    clear hI hI2 hok hK hD hS htk
    go_wp2_with fail
    have e1 := one_set HX.out.1.r1 (.int .u64 (mk (setF f ps) : Nat))
    have e2 := one_set (w := X.setCell ⟨w.heap.size + 1, 0, none⟩ (.int .u64 (mk (setF f ps) : Nat))) (b := w.heap.size + 2) ((heap_setCell_other _ _ _ _ (by simp)).trans HX.out.1.r2) (.int .i64 0)
    have hRe : R = mk (setF f ps) := by rw [HR.out, if_pos HX.out.2.1]
    refine leaveC2 (v1 := .int .u64 (mk (setF f ps) : Nat)) (v2 := .int .i64 0) rfl rfl rfl ((heap_setCell_other _ _ _ _ (by simp)).trans e1) e2 (show w.heap.size ≤ D by have := HX.out.2.2.2; omega) ?_ fun X' hb => ⟨by rw [hRe, HX.out.2.1]; rfl, ?_⟩
    · have hne : D ≠ w.heap.size + 1 ∧ D ≠ w.heap.size + 2 := by have := HX.out.2.2.2; omega
      exact (heap_setCell_other _ _ _ _ hne.2).trans ((heap_setCell_other _ _ _ _ hne.1).trans HX.out.2.2.1)
    · have hb0 := (HX.out.1.bel.setCell (p := ⟨w.heap.size + 1, 0, none⟩) (Nat.le_succ _) (.int .u64 (mk (setF f ps) : Nat))).setCell (p := ⟨w.heap.size + 2, 0, none⟩) (Nat.le_add_right _ _) (.int .i64 0)
      exact hb0.trans (hb.below (Nat.le_refl _) hb0.size)
  case hstop =>
    rintro D c m X hD h hK
    obtain ⟨rfl, h1, h2, h3, h4, h5⟩ := h
    have hRe : R = 0 := by rw [HR.out, if_neg h1]
    have HH := Lib.hid (And.intro h2 (And.intro h3 (And.intro hD (And.intro hK (And.intro h4 hRe)))))
    clear h1 h2 h3 h4 h5 hD hK hRe
    gi_wp2_with fail
    exact leaveC2 rfl rfl rfl HH.out.1 HH.out.2.1 (Nat.le_trans (m := w'.heap.size) (by omega) HH.out.2.2.1) HH.out.2.2.2.1 fun X' hb => ⟨by rw [HH.out.2.2.2.2.2]; rfl, HH.out.2.2.2.2.1.trans (hb.below (Nat.le_refl _) HH.out.2.2.2.2.1.size)⟩
end Go.Proofs.YtcodjknhnhdkfaaGreatDoor.Cn
namespace Go.Proofs.YtcodjknhnhdkfaaGreatDoor.Cn
open Go.RowKit Go.Lib Go.Proofs.YtcodjknhnhdkfaaGreatDoor.Rg Go.Proofs.YtcodjknhnhdkfaaGreatDoor.Ht
set_option linter.unusedVariables false

/-- the table of fields, cell by cell -/
def fldC : Array Value := #[.int .i64 0, .int .i64 59, S [], .int .i64 0, .int .i64 23, S [], .int .i64 1, .int .i64 31, S [], .int .i64 1, .int .i64 12, S (fds 3).nm, .int .i64 0, .int .i64 7, S (fds 4).nm]
/-- what the package's and the library's variables hold -/
structure Gl (w : World) : Prop where
  mx : Mx w
  fld : ∀ (k : Nat) (v : Value), fldC[k]? = some v → w.cell? ⟨0, k, none⟩ = some v
theorem Gl.old {w w' : World} (h : Gl w) (hb : Below w.heap.size w w') : Gl w' :=
  ⟨h.mx.old hb, fun k v hk => (hb.cell (World.block_lt_of_cell? _ _ (h.fld k v hk))).trans (h.fld k v hk)⟩
theorem Gl.drewN {w : World} (h : Gl w) (n : Nat) : Gl (w.drewN n) := h.old (below_drewN (Below.refl _ _) n)
/-- the table as a value -/
def fldV : Value := .agg #[fdv (fds 0), fdv (fds 1), fdv (fds 2), fdv (fds 3), fdv (fds 4)]
/-- a text, cut at blanks -/
theorem split_any (s : L) (c : UInt8) (w : World) (hs : s.length ≤ 1000) (hm : Mx w) :
    Calls Tryz.prog 101 #[S s, .string ⟨#[c]⟩] w fun e w' => e = .returned (.slice (some ⟨w.heap.size, 0, none⟩) (sp c s).length (sp c s).length) ∧ w' = w.alloc (.cells ((sp c s).map fun l => S l).toArray 9) := by
  obtain ⟨m, hm⟩ := hm
  have h := Tryz.strings_Split ⟨s.toArray⟩ ⟨#[c]⟩ m w (by rw [size_S]; omega) hm (Nat.le_refl 1)
  have e1 : countB ⟨s.toArray⟩ ⟨#[c]⟩ = s.count c := by
    show count s [c] = _
    exact count_one c s
  have e2 : splitB ⟨#[c]⟩ 0 (countB ⟨s.toArray⟩ ⟨#[c]⟩) ⟨s.toArray⟩ = (sp c s).map (fun l => (⟨l.toArray⟩ : ByteArray)) := by
    have h2 := splitB_data ⟨#[c]⟩ 0 (countB ⟨s.toArray⟩ ⟨#[c]⟩) ⟨s.toArray⟩
    have h3 : splitK [c] 0 (countB ⟨s.toArray⟩ ⟨#[c]⟩) s = sp c s := by rw [e1]; exact splitK_sp c _ s rfl
    have h4 : (splitB ⟨#[c]⟩ 0 (countB ⟨s.toArray⟩ ⟨#[c]⟩) ⟨s.toArray⟩).map (·.data.toList) = sp c s := h2.trans h3
    rw [← h4, List.map_map]
    refine (List.map_id _).symm.trans (List.map_congr_left fun x _ => ?_)
    show x = ⟨x.data.toList.toArray⟩
    cases x; simp
  rw [e2, e1] at h
  rw [sp_length]
  refine h.mono fun e w' ⟨h1, h2⟩ => ⟨h1, ?_⟩
  rw [h2, List.map_map]
  rfl
abbrev u (n : Nat) : Value := .int .u64 (n : Nat)
/-- an expression's value, and its cells -/
abbrev exC (e : Ex) : Array Value := #[u e.a, u e.b, u e.c, u e.d, u e.e, .bool e.x, .bool e.y]
abbrev exv (e : Ex) : Value := .agg (exC e)
theorem seven {w : World} {b : Nat} {v0 v1 v2 v3 v4 v5 v6 : Value} {t : TypeId} (h : w.heap[b]? = some (.cells #[v0, v1, v2, v3, v4, v5, v6] t (0, 0))) :
    (w.cell? ⟨b, 0, none⟩ = some v0 ∧ w.cell? ⟨b, 1, none⟩ = some v1 ∧ w.cell? ⟨b, 2, none⟩ = some v2 ∧ w.cell? ⟨b, 3, none⟩ = some v3 ∧ w.cell? ⟨b, 4, none⟩ = some v4 ∧ w.cell? ⟨b, 5, none⟩ = some v5 ∧ w.cell? ⟨b, 6, none⟩ = some v6) ∧
    w.frozen? ⟨b, 0, none⟩ = false ∧ w.frozen? ⟨b, 1, none⟩ = false ∧ w.frozen? ⟨b, 2, none⟩ = false ∧ w.frozen? ⟨b, 3, none⟩ = false ∧ w.frozen? ⟨b, 4, none⟩ = false ∧ w.frozen? ⟨b, 5, none⟩ = false ∧ w.frozen? ⟨b, 6, none⟩ = false := by
  refine ⟨⟨?_, ?_, ?_, ?_, ?_, ?_, ?_⟩, ?_, ?_, ?_, ?_, ?_, ?_, ?_⟩ <;> simp [World.cell?, World.frozen?, h]
theorem five {w : World} {b : Nat} {v0 v1 v2 v3 v4 : Value} {t : TypeId} (h : w.heap[b]? = some (.cells #[v0, v1, v2, v3, v4] t (0, 0))) :
    (w.cell? ⟨b, 0, none⟩ = some v0 ∧ w.cell? ⟨b, 1, none⟩ = some v1 ∧ w.cell? ⟨b, 2, none⟩ = some v2 ∧ w.cell? ⟨b, 3, none⟩ = some v3 ∧ w.cell? ⟨b, 4, none⟩ = some v4) ∧
    ∀ k, w.frozen? ⟨b, k, none⟩ = false := by
  refine ⟨⟨?_, ?_, ?_, ?_, ?_⟩, fun k => ?_⟩ <;> simp [World.cell?, World.frozen?, h]
/-- the fields' values so far -/
def av (ts : List L) (m j : Nat) : Nat := if j < m then fv j (ts.getD j []) else 0
abbrev avC (ts : List L) (m : Nat) : Array Value := #[u (av ts m 0), u (av ts m 1), u (av ts m 2), u (av ts m 3), u (av ts m 4)]
theorem avC_zero (ts : List L) : avC ts 0 = #[u 0, u 0, u 0, u 0, u 0] := by simp [av]
theorem avC_next (ts : List L) {m : Nat} (h : m < 5) : (avC ts m).setIfInBounds m (u (fv m (ts.getD m []))) = avC ts (m + 1) := by
  have : m = 0 ∨ m = 1 ∨ m = 2 ∨ m = 3 ∨ m = 4 := by omega
  rcases this with rfl | rfl | rfl | rfl | rfl <;> simp [av]
/-- the errors of the fields from the m-th one on -/
theorem errs_drop (ts : List L) : ∀ (k i : Nat), (∀ j, j < k → ∀ t, ts[j]? = some t → errF (fds (i + j)) (sp 44 t) = 0) → errs i ts = errs (i + k) (ts.drop k)
  | 0, i, _ => rfl
  | k + 1, i, h => by
    cases ts with
    | nil => rfl
    | cons t ts =>
      have h0 := h 0 (Nat.succ_pos k) t rfl
      rw [Nat.add_zero] at h0
      rw [errs, if_pos h0, List.drop_succ_cons, errs_drop ts k (i + 1) (fun j hj t' ht => by have := h (j + 1) (by omega) t' ht; rwa [show i + (j + 1) = i + 1 + j by omega] at this)]
      congr 1; omega
theorem errs_at {ts : List L} {m : Nat} {t : L} (h : ∀ j, j < m → ∀ t, ts[j]? = some t → errF (fds j) (sp 44 t) = 0) (ht : ts[m]? = some t) (he : errF (fds m) (sp 44 t) ≠ 0) : errs 0 ts = errF (fds m) (sp 44 t) := by
  rw [errs_drop ts m 0 (by simpa using h), Nat.zero_add]
  obtain ⟨hl, hg⟩ := List.getElem?_eq_some_iff.1 ht
  rw [List.drop_eq_getElem_cons hl, hg, errs, if_neg he]
theorem errs_ok {ts : List L} (h : ∀ j, j < ts.length → ∀ t, ts[j]? = some t → errF (fds j) (sp 44 t) = 0) : errs 0 ts = 0 := by
  rw [errs_drop ts ts.length 0 (by simpa using h), List.drop_length]; rfl
end Go.Proofs.YtcodjknhnhdkfaaGreatDoor.Cn
namespace Go.Proofs.YtcodjknhnhdkfaaGreatDoor.Cn
open Go.RowKit Go.Lib Go.Proofs.YtcodjknhnhdkfaaGreatDoor.Rg Go.Proofs.YtcodjknhnhdkfaaGreatDoor.Ht
set_option linter.unusedVariables false

theorem parse_long (s : L) (w : World) (h : 128 < s.length) :
    Calls Tryz.prog 84 #[S s] w fun e w' => e = .returned (.tuple #[exv (parseV s), .int .i64 (parseE s : Nat)]) ∧ Below w.heap.size w w' := by
  have hz := size_S s
  have e1 : parseE s = 15 := by unfold parseE; rw [if_pos h]
  have e2 : parseV s = Ex.zero := by unfold parseV; rw [e1]; rfl
  rw [e1, e2]
  go_enter Tryz.func84, Tryz.ntmps84
  go_wp2_with fail
  refine bodyPost_ret (v := .tuple #[exv Ex.zero, .int .i64 15]) ?_ rfl ⟨rfl, ?_⟩
  · rw [Ca.results_c2 rfl]
    go_simp
    exact ⟨rfl, rfl, rfl, rfl, rfl, rfl, rfl⟩
  · (repeat' (first | exact Below.refl _ _ | refine Below.setCell ?_ (by simp <;> omega) _ | refine Below.alloc ?_ (by simp <;> omega) _))
theorem parse_count (s : L) (w : World) (h : s.length ≤ 128) (hc : (sp 32 s).length ≠ 5) (hm : Mx w) :
    Calls Tryz.prog 84 #[S s] w fun e w' => e = .returned (.tuple #[exv (parseV s), .int .i64 (parseE s : Nat)]) ∧ Below w.heap.size w w' := by
  have hz := size_S s
  have e1 : parseE s = 2 := by unfold parseE; rw [if_neg (by omega), if_neg hc]
  have e2 : parseV s = Ex.zero := by unfold parseV; rw [e1]; rfl
  rw [e1, e2]
  have hsp := split_any s 32 (w.alloc (.cells (exC Ex.zero) 146)) (by omega) (hm.old ((Below.refl _ _).alloc (Nat.le_refl _) _))
  have hcI : (((sp 32 s).length : Int) != 5) = true := by simp; omega
  generalize (sp 32 s) = ts at hsp hcI
  have HS := Lib.hid hsp
  clear hsp hc
  go_enter Tryz.func84, Tryz.ntmps84
  go_wp2_with fail
  refine HS.out.mono ?_
  rintro e w1 ⟨rfl, hw1⟩
  have hb1 : Below w.heap.size w w1 := by rw [hw1]; exact ((Below.refl _ _).alloc (Nat.le_refl _) _).alloc (by simp) _
  have hg : w1.heap[w.heap.size]? = some (.cells (exC Ex.zero) 146 (0, 0)) := by rw [hw1]; exact (Below.heap_alloc _ _ _ (by simp)).trans (heap_alloc_new w _)
  obtain ⟨⟨c0, c1, c2, c3, c4, c5, c6⟩, f0, f1, f2, f3, f4, f5, f6⟩ := seven hg
  have H1 := Lib.hid hb1
  clear hb1 hg hw1
  go_wp2_with fail
  refine bodyPost_ret (v := .tuple #[exv Ex.zero, .int .i64 2]) ?_ rfl ⟨rfl, ?_⟩
  · rw [Ca.results_c2 rfl]
    go_simp
    exact ⟨rfl, rfl, rfl, rfl, rfl, rfl, rfl⟩
  · exact (((((((H1.out.setCell (Nat.le_refl _) _).setCell (Nat.le_refl _) _).setCell (Nat.le_refl _) _).setCell (Nat.le_refl _) _).setCell (Nat.le_refl _) _).setCell (Nat.le_refl _) _).setCell (Nat.le_refl _) _)
/-- Parse's memory -/
structure Pz (w : World) (ts : List L) (m : Nat) (W : World) : Prop where
  res : W.heap[w.heap.size]? = some (.cells (exC Ex.zero) 146 (0, 0))
  row : W.heap[w.heap.size + 1]? = some (.cells (ts.map fun l => S l).toArray 9 (0, 0))
  arr : W.heap[w.heap.size + 2]? = some (.cells (avC ts m) 162 (0, 0))
  ok : ∀ j, j < m → ∀ t, ts[j]? = some t → errF (fds j) (sp 44 t) = 0
  bel : Below w.heap.size w W
theorem Pz.old {w : World} {ts : List L} {m : Nat} {W W' : World} (h : Pz w ts m W) (hb : Below W.heap.size W W') : Pz w ts m W' :=
  ⟨old_blk hb h.res, old_blk hb h.row, old_blk hb h.arr, h.ok, h.bel.trans (hb.mono h.bel.size)⟩
set_option maxRecDepth 20000 in
theorem index_fld (m : Nat) (hm : m < 5) (W : World) :
    (Instr.index 165 (.agg #[.int .i64 0, .int .i64 59, S [], .int .i64 0, .int .i64 23, S [], .int .i64 1, .int .i64 31, S [], .int .i64 1, .int .i64 12, S (fds 3).nm, .int .i64 0, .int .i64 7, S (fds 4).nm]) (.int .i64 (m : Nat))).run Tryz.prog W = .ok (fdv (fds m)) W := by
  have : m = 0 ∨ m = 1 ∨ m = 2 ∨ m = 3 ∨ m = 4 := by omega
  rcases this with rfl | rfl | rfl | rfl | rfl <;> go_simp <;> rfl
theorem beq_dec (x y : L) : (x == y) = decide (x = y) := by rw [Bool.eq_iff_iff]; simp
abbrev res7 (W : World) (b : Nat) (v0 v1 v2 v3 v4 v5 v6 : Value) : World := ((((((W.setCell ⟨b, 0, none⟩ v0).setCell ⟨b, 1, none⟩ v1).setCell ⟨b, 2, none⟩ v2).setCell ⟨b, 3, none⟩ v3).setCell ⟨b, 4, none⟩ v4).setCell ⟨b, 5, none⟩ v5).setCell ⟨b, 6, none⟩ v6
theorem res_other {k : Nat} (W : World) (b : Nat) (v0 v1 v2 v3 v4 v5 v6 : Value) (h : k ≠ b) : (res7 W b v0 v1 v2 v3 v4 v5 v6).heap[k]? = W.heap[k]? := by
  simp only [res7]
  repeat rw [heap_setCell_other _ _ _ _ h]
theorem drew_heap (X : World) : X.drew.heap = X.heap := rfl
theorem res_drew {k b : Nat} {o : Option Obj} (W : World) (v0 v1 v2 v3 v4 v5 v6 : Value) (h : k ≠ b) (e : W.heap[k]? = o) : (res7 W b v0 v1 v2 v3 v4 v5 v6).drew.heap[k]? = o := by
  rw [drew_heap, res_other _ _ _ _ _ _ _ _ _ h]; exact e
theorem below_res7 {a W : World} {b : Nat} (h : Below b a W) (v0 v1 v2 v3 v4 v5 v6 : Value) : Below b a (res7 W b v0 v1 v2 v3 v4 v5 v6) :=
  ((((((h.setCell (p := ⟨b, 0, none⟩) (Nat.le_refl _) _).setCell (p := ⟨b, 1, none⟩) (Nat.le_refl _) _).setCell (p := ⟨b, 2, none⟩) (Nat.le_refl _) _).setCell (p := ⟨b, 3, none⟩) (Nat.le_refl _) _).setCell (p := ⟨b, 4, none⟩) (Nat.le_refl _) _).setCell (p := ⟨b, 5, none⟩) (Nat.le_refl _) _).setCell (p := ⟨b, 6, none⟩) (Nat.le_refl _) _
theorem row_cell {W : World} {b : Nat} {ts : List L} {t : TypeId} {m : Nat} {x : L} (h : W.heap[b]? = some (.cells (ts.map fun l => S l).toArray t (0, 0))) (hx : ts[m]? = some x) : W.cell? ⟨b, m, none⟩ = some (S x) := by
  simp [World.cell?, h, hx]
theorem arr_cell {W : World} {b : Nat} {ts : List L} {t : TypeId} {m k : Nat} (h : W.heap[b]? = some (.cells (avC ts m) t (0, 0))) (hk : k < 5) : W.cell? ⟨b, k, none⟩ = some (u (av ts m k)) := by
  have : k = 0 ∨ k = 1 ∨ k = 2 ∨ k = 3 ∨ k = 4 := by omega
  rcases this with rfl | rfl | rfl | rfl | rfl <;> simp [World.cell?, h]
set_option maxRecDepth 20000 in
set_option maxHeartbeats 4000000 in
theorem parse_five (s : L) (w : World) (h : s.length ≤ 128) (hc : (sp 32 s).length = 5) (hg : Gl w) :
    Calls Tryz.prog 84 #[S s] w fun e w' => e = .returned (.tuple #[exv (parseV s), .int .i64 (parseE s : Nat)]) ∧ Below w.heap.size w w' := by
  have hz := size_S s
  have e1 : parseE s = errs 0 (sp 32 s) := by unfold parseE; rw [if_neg (by omega), if_pos hc]
  have hsp := split_any s 32 (w.alloc (.cells (exC Ex.zero) 146)) (by omega) (hg.mx.old ((Below.refl _ _).alloc (Nat.le_refl _) _))
  have htl : ∀ t ∈ sp 32 s, t.length ≤ 1000 := fun t ht => by have := (sp_mem_len ht).1; omega
  obtain ⟨ts, hts⟩ : ∃ ts, ts = sp 32 s := ⟨_, rfl⟩
  rw [← hts] at hsp hc htl e1
  rw [hc] at hsp
  obtain ⟨EV, hEV⟩ : ∃ e, e = parseV s := ⟨_, rfl⟩
  obtain ⟨EE, hEE⟩ : ∃ e, e = parseE s := ⟨_, rfl⟩
  rw [← hEV, ← hEE]
  have hE : EE = errs 0 ts ∧ EV = if errs 0 ts = 0 then exOf ts else Ex.zero := by
    refine ⟨hEE.trans e1, ?_⟩
    rw [hEV, ← e1, hts]; rfl
  have HS := Lib.hid hsp
  have HE := Lib.hid (And.intro hE (And.intro hc htl))
  have HGl := Lib.hid hg
  clear hsp hE hEV hEE e1 htl hts hc hg
  have hmix : Tryz.prog.follows .mixedOrders = true := by kernel_rfl
  go_enter Tryz.func84, Tryz.ntmps84
  go_wp2_with fail
  refine HS.out.mono ?_
  rintro e w1 ⟨rfl, hw1⟩
  obtain ⟨V, hV⟩ : ∃ V, V = w1.alloc (.cells #[.int .u64 0, .int .u64 0, .int .u64 0, .int .u64 0, .int .u64 0] 162) := ⟨_, rfl⟩
  have hz1 : w1.heap.size = w.heap.size + 2 := by rw [hw1]; simp
  have hb1 : Below w.heap.size w w1 := by rw [hw1]; exact ((Below.refl _ _).alloc (Nat.le_refl _) _).alloc (by simp) _
  have hpz : Pz w ts 0 V := by
    refine ⟨?_, ?_, ?_, fun j hj => absurd hj (Nat.not_lt_zero j), ?_⟩
    · rw [hV]; refine (Below.heap_alloc _ _ _ (by omega)).trans ?_
      rw [hw1]; exact (Below.heap_alloc _ _ _ (by simp)).trans (heap_alloc_new w _)
    · rw [hV]; refine (Below.heap_alloc _ _ _ (by omega)).trans ?_
      have := heap_alloc_new (w.alloc (.cells (exC Ex.zero) 146)) (.cells (ts.map fun l => S l).toArray 9)
      rw [World.size_alloc] at this
      rw [hw1]; exact this
    · rw [avC_zero, ← hz1, hV]; exact heap_alloc_new w1 (.cells #[.int .u64 0, .int .u64 0, .int .u64 0, .int .u64 0, .int .u64 0] 162)
    · rw [hV]; exact hb1.alloc hb1.size _
  have hgl := HGl.out.old hpz.bel
  have hgl1 := HGl.out.old hb1
  have hlt0 : 0 < w1.heap.size := by rw [hz1]; omega
  have q0 : w1.cell? ⟨0, 0, none⟩ = some (.int .i64 0) := hgl1.fld 0 _ rfl
  have q1 : w1.cell? ⟨0, 1, none⟩ = some (.int .i64 59) := hgl1.fld 1 _ rfl
  have q2 : w1.cell? ⟨0, 2, none⟩ = some (S []) := hgl1.fld 2 _ rfl
  have q3 : w1.cell? ⟨0, 3, none⟩ = some (.int .i64 0) := hgl1.fld 3 _ rfl
  have q4 : w1.cell? ⟨0, 4, none⟩ = some (.int .i64 23) := hgl1.fld 4 _ rfl
  have q5 : w1.cell? ⟨0, 5, none⟩ = some (S []) := hgl1.fld 5 _ rfl
  have q6 : w1.cell? ⟨0, 6, none⟩ = some (.int .i64 1) := hgl1.fld 6 _ rfl
  have q7 : w1.cell? ⟨0, 7, none⟩ = some (.int .i64 31) := hgl1.fld 7 _ rfl
  have q8 : w1.cell? ⟨0, 8, none⟩ = some (S []) := hgl1.fld 8 _ rfl
  have q9 : w1.cell? ⟨0, 9, none⟩ = some (.int .i64 1) := hgl1.fld 9 _ rfl
  have q10 : w1.cell? ⟨0, 10, none⟩ = some (.int .i64 12) := hgl1.fld 10 _ rfl
  have q11 : w1.cell? ⟨0, 11, none⟩ = some (S (fds 3).nm) := hgl1.fld 11 _ rfl
  have q12 : w1.cell? ⟨0, 12, none⟩ = some (.int .i64 0) := hgl1.fld 12 _ rfl
  have q13 : w1.cell? ⟨0, 13, none⟩ = some (.int .i64 7) := hgl1.fld 13 _ rfl
  have q14 : w1.cell? ⟨0, 14, none⟩ = some (S (fds 4).nm) := hgl1.fld 14 _ rfl
  have HP := Lib.hid (And.intro hpz hgl)
  have HV := Lib.hid (And.intro hV hz1)
  clear hpz hgl hgl1 hV hz1 hb1 hw1
  go_wp2_with fail
  rw [← HV.out.1, HV.out.2]
  clear q0 q1 q2 q3 q4 q5 q6 q7 q8 q9 q10 q11 q12 q13 q14
  go_loopw [20] (fun i wr => ∃ m : Nat, i = .int .i64 (m : Nat) ∧ m ≤ 5 ∧ Pz w ts m wr) (fun i _ => 5 - (RowKit.intOf i).toNat)
  case atStart => exact ⟨0, rfl, by omega, HP.out.1⟩
  case round =>
    obtain ⟨m, rfl, hm, hpz⟩ := hrel
    have HP2 := Lib.hid hpz
    clear hpz
    by_cases hlt : m < 5
    · have hltI : (m : Int) < 5 := by omega
      have hix := index_fld m hlt
      obtain ⟨x, hx⟩ : ∃ x, ts[m]? = some x := by rw [List.getElem?_eq_getElem (by rw [HE.out.2.1]; exact hlt)]; exact ⟨_, rfl⟩
      have hxl := HE.out.2.2 x (List.mem_of_getElem? hx)
      have hfp := fun W (hm : Mx W) => fparse_any (fds m) (fds_ok m) x W hxl hm
      have hXE : (if errF (fds m) (sp 44 x) = 0 then fv m x else 0) = (if errF (fds m) (sp 44 x) = 0 then mk (setF (fds m) (sp 44 x)) else 0) := rfl
      obtain ⟨XV, hXV⟩ : ∃ v, v = (if errF (fds m) (sp 44 x) = 0 then mk (setF (fds m) (sp 44 x)) else 0) := ⟨_, rfl⟩
      obtain ⟨XE, hXEe⟩ : ∃ v, v = errF (fds m) (sp 44 x) := ⟨_, rfl⟩
      simp only [← hXV] at hfp
      simp only [← hXEe] at hfp
      have HF := Lib.hid hfp
      have HXV := Lib.hid (And.intro (hXV.trans hXE.symm) hXEe)
      clear hfp hXV hXEe hXE
      go_wp2_with fail
      obtain ⟨A0, hA0⟩ : ∃ A, A = wr.alloc (.cells #[.int .i64 ((fds m).lo : Nat), .int .i64 ((fds m).hi : Nat), S (fds m).nm] 164) := ⟨_, rfl⟩
      have hbA : Below wr.heap.size wr A0 := by rw [hA0]; exact (Below.refl _ _).alloc (Nat.le_refl _) _
      have hgA : A0.heap[wr.heap.size]? = some (.cells #[.int .i64 ((fds m).lo : Nat), .int .i64 ((fds m).hi : Nat), S (fds m).nm] 164 (0, 0)) := by rw [hA0]; exact heap_alloc_new wr _
      rw [← hA0]
      have hpA := HP2.out.old hbA
      have HS1 := Lib.hid (show A0.drew.heap[wr.heap.size]? = some (.cells #[.int .i64 ((fds m).lo : Nat), .int .i64 ((fds m).hi : Nat), S (fds m).nm] 164 (0, 0)) ∧ A0.drew.heap[w.heap.size + 1]? = some (.cells (ts.map fun l => S l).toArray 9 (0, 0)) from ⟨hgA, hpA.row⟩)
      have HG := Lib.hid (And.intro hpA (show Mx A0.drew from (HGl.out.old hpA.bel).mx.old (Below.refl _ _).drew))
      have HX0 := Lib.hid hbA
      clear hbA hgA hA0 hpA hix
      -- REGION11
      refine begin' 13 (fun Y => Y.heap[wr.heap.size]? = some (.cells #[.int .i64 ((fds m).lo : Nat), .int .i64 ((fds m).hi : Nat), S (fds m).nm] 164 (0, 0)) ∧ Y.heap[w.heap.size + 1]? = some (.cells (ts.map fun l => S l).toArray 9 (0, 0))) hmix HS1.out (fun hS0 => ?_)
      refine Ht.takeN (i := 0) ⟨some 25, _, _, _, _, _⟩ (.int .i64 (m : Nat)) rfl (Nat.le_refl 13) (by kernel_rfl) (by kernel_rfl) (by kernel_rfl) (by kernel_rfl) hS0 (Or.inl ⟨by rfl, by (intro X hX; go_simp)⟩) ?_
      simp only [Act.put, List.setIfInBounds_toArray, List.set_cons_zero, List.set_cons_succ]
      refine Ht.takeN (i := 1) ⟨some 26, _, _, _, _, _⟩ (.agg #[.int .i64 ((fds m).lo : Nat), .int .i64 ((fds m).hi : Nat), S (fds m).nm]) rfl (Nat.le_refl 13) (by kernel_rfl) (by kernel_rfl) (by kernel_rfl) (by kernel_rfl) hS0 (Or.inl ⟨by rfl, by (intro X hX; obtain ⟨⟨h1, h2, h3⟩, _⟩ := three hX.1; go_simp)⟩) ?_
      simp only [Act.put, List.setIfInBounds_toArray, List.set_cons_zero, List.set_cons_succ]
      refine Ht.takeN (i := 2) ⟨some 27, _, _, _, _, _⟩ (.slice (some ⟨w.heap.size + 1, 0, none⟩) 5 5) rfl (Nat.le_refl 13) (by kernel_rfl) (by kernel_rfl) (by kernel_rfl) (by kernel_rfl) hS0 (Or.inl ⟨by rfl, by (intro X hX; go_simp)⟩) ?_
      simp only [Act.put, List.setIfInBounds_toArray, List.set_cons_zero, List.set_cons_succ]
      refine Ht.takeN (i := 3) ⟨some 28, _, _, _, _, _⟩ (.int .i64 (m : Nat)) rfl (Nat.le_refl 13) (by kernel_rfl) (by kernel_rfl) (by kernel_rfl) (by kernel_rfl) hS0 (Or.inl ⟨by rfl, by (intro X hX; go_simp)⟩) ?_
      simp only [Act.put, List.setIfInBounds_toArray, List.set_cons_zero, List.set_cons_succ]
      refine Ht.takeN (i := 4) ⟨some 29, _, _, _, _, _⟩ (.pointer (some ⟨w.heap.size + 1, m, none⟩)) rfl (Nat.le_refl 13) (by kernel_rfl) (by kernel_rfl) (by kernel_rfl) (by kernel_rfl) hS0 (Or.inl ⟨by rfl, by (intro X hX; go_simp)⟩) ?_
      simp only [Act.put, List.setIfInBounds_toArray, List.set_cons_zero, List.set_cons_succ]
      refine Ht.takeN (i := 5) ⟨some 30, _, _, _, _, _⟩ (S x) rfl (Nat.le_refl 13) (by kernel_rfl) (by kernel_rfl) (by kernel_rfl) (by kernel_rfl) hS0 (Or.inl ⟨by rfl, by (intro X hX; have := row_cell hX.2 hx; go_simp)⟩) ?_
      simp only [Act.put, List.setIfInBounds_toArray, List.set_cons_zero, List.set_cons_succ]
      refine Ht.step (i := 6) ⟨some 31, _, _, _, _, _⟩ rfl (by kernel_rfl) (by rfl) (fun K hK => ?_)
      refine Ht.enter 102 #[fdv (fds m), S x] (by have hen := fun args w => enters_of (P := Tryz.prog) Tryz.func102 (by kernel_rfl) rfl args w; go_simp) (HF.out _ HG.out.2) ?_
      rintro e A1 ⟨rfl, hb1⟩
      have hS1' := And.intro (old_blk hb1 hS0.1) (old_blk hb1 hS0.2)
      have HB1 := Lib.hid hb1
      clear hb1
      refine ⟨_, rfl, hK _ _ (fun _ => hS1') (fun _ => ?_)⟩
      clear hK K
      simp only [Act.put, List.setIfInBounds_toArray, List.set_cons_zero, List.set_cons_succ]
      refine Ht.takeN (i := 7) ⟨some 24, _, _, _, _, _⟩ (.tuple #[u XV, .int .i64 (XE : Nat)]) rfl (Nat.le_refl 13) (by kernel_rfl) (by kernel_rfl) (by kernel_rfl) (by kernel_rfl) hS1' (Or.inl ⟨by rfl, by (intro X hX; go_simp)⟩) ?_
      simp only [Act.put, List.setIfInBounds_toArray, List.set_cons_zero, List.set_cons_succ]
      refine Ht.takeN (i := 8) ⟨some 32, _, _, _, _, _⟩ (u XV) rfl (Nat.le_refl 13) (by kernel_rfl) (by kernel_rfl) (by kernel_rfl) (by kernel_rfl) hS1' (Or.inl ⟨by rfl, by (intro X hX; go_simp)⟩) ?_
      simp only [Act.put, List.setIfInBounds_toArray, List.set_cons_zero, List.set_cons_succ]
      refine Ht.takeN (i := 9) ⟨some 33, _, _, _, _, _⟩ (.int .i64 (XE : Nat)) rfl (Nat.le_refl 13) (by kernel_rfl) (by kernel_rfl) (by kernel_rfl) (by kernel_rfl) hS1' (Or.inl ⟨by rfl, by (intro X hX; go_simp)⟩) ?_
      simp only [Act.put, List.setIfInBounds_toArray, List.set_cons_zero, List.set_cons_succ]
      refine Ht.takeN (i := 10) ⟨some 34, _, _, _, _, _⟩ (.pointer (some ⟨w.heap.size + 2, m, none⟩)) rfl (Nat.le_refl 13) (by kernel_rfl) (by kernel_rfl) (by kernel_rfl) (by kernel_rfl) hS1' (Or.inl ⟨by rfl, by (intro X hX; go_simp)⟩) ?_
      simp only [Act.put, List.setIfInBounds_toArray, List.set_cons_zero, List.set_cons_succ]
      refine Ht.step (i := 11) ⟨none, _, _, _, _, _⟩ rfl (by kernel_rfl) (by rfl) (fun K hK => ?_)
      have hz0 := (old_blk HB1.out (show A0.drew.heap[w.heap.size + 2]? = _ from HG.out.1.arr))
      have cA := arr_cell hz0 hlt
      have fA : A1.frozen? ⟨w.heap.size + 2, m, none⟩ = false := by simp [World.frozen?, hz0]
      have hne : w.heap.size + 2 ≠ wr.heap.size := by have := HP2.out.arr; have := (Array.getElem?_eq_some_iff.1 this).1; omega
      have HZ0 := Lib.hid hz0
      clear hz0
      go_simp
      have hS2 : (A1.setCell ⟨w.heap.size + 2, m, none⟩ (u XV)).heap[wr.heap.size]? = some (.cells #[.int .i64 ((fds m).lo : Nat), .int .i64 ((fds m).hi : Nat), S (fds m).nm] 164 (0, 0)) ∧ (A1.setCell ⟨w.heap.size + 2, m, none⟩ (u XV)).heap[w.heap.size + 1]? = some (.cells (ts.map fun l => S l).toArray 9 (0, 0)) :=
        ⟨(heap_setCell_other _ _ _ _ (by show wr.heap.size ≠ w.heap.size + 2; omega)).trans hS1'.1, (heap_setCell_other _ _ _ _ (by simp)).trans hS1'.2⟩
      refine hK _ _ (fun _ => hS2) (fun _ => ?_)
      clear hK K
      try simp only [Act.put, List.setIfInBounds_toArray, List.set_cons_zero, List.set_cons_succ]
      refine Ht.takeN (i := 12) ⟨some 8, _, _, _, _, _⟩ (.int .i64 (XE : Nat)) rfl (Nat.le_refl 13) (by kernel_rfl) (by kernel_rfl) (by kernel_rfl) (by kernel_rfl) hS2 (Or.inl ⟨by rfl, by (intro X hX; go_simp)⟩) ?_
      simp only [Act.put, List.setIfInBounds_toArray, List.set_cons_zero, List.set_cons_succ]
      refine done (by kernel_rfl) ?_
      -- END11
      have hb2 : Below wr.heap.size wr A0 := HX0.out
      have hpA1 : Pz w ts m A1 := HG.out.1.old (show Below A0.heap.size A0 A1 from (Below.refl _ _).drew.trans HB1.out)
      have hxv := HXV.out
      clear hS0 hS1' cA fA hne
      by_cases he : XE = 0
      · have hv : XV = fv m (ts.getD m []) := by rw [hxv.1, ← hxv.2, if_pos he]; simp [List.getD, hx]
        have hres : Pz w ts (m + 1) (A1.setCell ⟨w.heap.size + 2, m, none⟩ (u XV)) := by
          refine ⟨(heap_setCell_other _ _ _ _ (by simp)).trans hpA1.res, (heap_setCell_other _ _ _ _ (by simp)).trans hpA1.row, ?_, ?_, hpA1.bel.setCell (Nat.le_add_right _ _) _⟩
          · rw [heap_setCell_same A1 (w.heap.size + 2) m _ _ (u XV) hpA1.arr, hv, avC_next ts hlt]
          · intro j hj t ht
            by_cases hjm : j = m
            · subst hjm
              rw [hx] at ht
              obtain rfl := Option.some.inj ht
              rw [← hxv.2, he]
            · exact hpA1.ok j (by omega) t ht
        have HR := Lib.hid hres
        clear hres hpA1 hv hxv hb2
        subst he
        go_wp2_with fail
        go_roundw
        case rel => exact ⟨m + 1, by simp, by omega, HR.out⟩
        case measure => simp [RowKit.intOf]; omega
      · have heI : ((XE : Int) != 0) = true := by simp; omega
        obtain ⟨⟨c0, c1, c2, c3, c4, c5, c6⟩, f0, f1, f2, f3, f4, f5, f6⟩ := seven hpA1.res
        have hEE : EE = XE := HE.out.1.1.trans ((errs_at hpA1.ok hx (by rw [← hxv.2]; exact he)).trans hxv.2.symm)
        have hEV : EV = Ex.zero := by rw [HE.out.1.2, ← HE.out.1.1, hEE, if_neg he]
        have HX1 := Lib.hid (And.intro hpA1.bel (And.intro hEE hEV))
        clear hpA1 hxv hb2 he hEE hEV hx
        go_wp2_with fail
        refine bodyPost_ret (v := .tuple #[exv Ex.zero, .int .i64 (XE : Nat)]) ?_ rfl ⟨by rw [HX1.out.2.1, HX1.out.2.2], ?_⟩
        · rw [Ca.results_c2 rfl]
          go_simp
          exact ⟨rfl, rfl, rfl, rfl, rfl, rfl, rfl⟩
        · exact ((((((((HX1.out.1.setCell (p := ⟨w.heap.size + 2, m, none⟩) (Nat.le_add_right _ _) _).setCell (Nat.le_refl _) _).setCell (Nat.le_refl _) _).setCell (Nat.le_refl _) _).setCell (Nat.le_refl _) _).setCell (Nat.le_refl _) _).setCell (Nat.le_refl _) _).setCell (Nat.le_refl _) _)
    · have hm5 : m = 5 := by omega
      subst hm5
      obtain ⟨x2, hx2⟩ : ∃ x, ts[2]? = some x := by rw [List.getElem?_eq_getElem (by rw [HE.out.2.1]; decide)]; exact ⟨_, rfl⟩
      obtain ⟨x4, hx4⟩ : ∃ x, ts[4]? = some x := by rw [List.getElem?_eq_getElem (by rw [HE.out.2.1]; decide)]; exact ⟨_, rfl⟩
      have hEE : EE = 0 := HE.out.1.1.trans (errs_ok (by rw [HE.out.2.1]; exact HP2.out.ok))
      have hEV : EV = exOf ts := by rw [HE.out.1.2, ← HE.out.1.1, hEE, if_pos rfl]
      have h4 : av ts 5 4 = mk (setF (fds 4) (sp 44 (ts.getD 4 []))) := rfl
      have hfd := fun W => folded_any (setF (fds 4) (sp 44 (ts.getD 4 []))) W
      rw [← h4] at hfd
      have harr := HP2.out.arr
      obtain ⟨FV, hFV⟩ : ∃ v, v = mk (fold (setF (fds 4) (sp 44 (ts.getD 4 [])))) := ⟨_, rfl⟩
      obtain ⟨W0, hW0⟩ : ∃ v, v = av ts 5 0 := ⟨_, rfl⟩
      obtain ⟨W1, hW1⟩ : ∃ v, v = av ts 5 1 := ⟨_, rfl⟩
      obtain ⟨W2, hW2⟩ : ∃ v, v = av ts 5 2 := ⟨_, rfl⟩
      obtain ⟨W3, hW3⟩ : ∃ v, v = av ts 5 3 := ⟨_, rfl⟩
      obtain ⟨W4, hW4⟩ : ∃ v, v = av ts 5 4 := ⟨_, rfl⟩
      simp only [← hFV, ← hW4] at hfd
      simp only [avC, ← hW0, ← hW1, ← hW2, ← hW3, ← hW4] at harr
      have hE2 : exOf ts = ⟨W0, W1, W2, W3, FV, x2 == [42], x4 == [42]⟩ := by
        have e2 : ts.getD 2 [] = x2 := by simp [List.getD, hx2]
        have e4 : ts.getD 4 [] = x4 := by simp [List.getD, hx4]
        have a2 : av ts 5 2 = fv 2 x2 := by rw [← e2]; rfl
        unfold exOf
        rw [hW0, hW1, hW2, hW3, hFV, a2, e2, e4, beq_dec, beq_dec]
        rfl
      have HF := Lib.hid hfd
      have HA := Lib.hid (And.intro harr HP2.out.row)
      have HS1 := Lib.hid (show wr.drew.heap[w.heap.size + 2]? = some (.cells #[u W0, u W1, u W2, u W3, u W4] 162 (0, 0)) ∧ wr.drew.heap[w.heap.size + 1]? = some (.cells (ts.map fun l => S l).toArray 9 (0, 0)) from ⟨harr, HP2.out.row⟩)
      have HX1 := Lib.hid (And.intro HP2.out.bel (And.intro hEE (hEV.trans hE2)))
      clear hfd harr hEE hEV hE2 hFV hW0 hW1 hW2 hW3 hW4 h4
      go_wp2_with fail
      -- REGION15
      refine begin' 22 (fun Y => Y.heap[w.heap.size + 2]? = some (.cells #[u W0, u W1, u W2, u W3, u W4] 162 (0, 0)) ∧ Y.heap[w.heap.size + 1]? = some (.cells (ts.map fun l => S l).toArray 9 (0, 0))) hmix HS1.out (fun hS0 => ?_)
      refine Ht.takeN (i := 0) ⟨some 40, _, _, _, _, _⟩ (.pointer (some ⟨w.heap.size + 2, 0, none⟩)) rfl (Nat.le_refl 22) (by kernel_rfl) (by kernel_rfl) (by kernel_rfl) (by kernel_rfl) hS0 (Or.inl ⟨by rfl, by (intro X hX; go_simp)⟩) ?_
      simp only [Act.put, List.setIfInBounds_toArray, List.set_cons_zero, List.set_cons_succ]
      refine Ht.takeN (i := 1) ⟨some 41, _, _, _, _, _⟩ (u W0) rfl (Nat.le_refl 22) (by kernel_rfl) (by kernel_rfl) (by kernel_rfl) (by kernel_rfl) hS0 (Or.inl ⟨by rfl, by (intro X hX; obtain ⟨⟨h0, h1, h2, h3, h4⟩, _⟩ := five hX.1; go_simp)⟩) ?_
      simp only [Act.put, List.setIfInBounds_toArray, List.set_cons_zero, List.set_cons_succ]
      refine Ht.takeN (i := 2) ⟨some 42, _, _, _, _, _⟩ (.pointer (some ⟨w.heap.size + 2, 1, none⟩)) rfl (Nat.le_refl 22) (by kernel_rfl) (by kernel_rfl) (by kernel_rfl) (by kernel_rfl) hS0 (Or.inl ⟨by rfl, by (intro X hX; go_simp)⟩) ?_
      simp only [Act.put, List.setIfInBounds_toArray, List.set_cons_zero, List.set_cons_succ]
      refine Ht.takeN (i := 3) ⟨some 43, _, _, _, _, _⟩ (u W1) rfl (Nat.le_refl 22) (by kernel_rfl) (by kernel_rfl) (by kernel_rfl) (by kernel_rfl) hS0 (Or.inl ⟨by rfl, by (intro X hX; obtain ⟨⟨h0, h1, h2, h3, h4⟩, _⟩ := five hX.1; go_simp)⟩) ?_
      simp only [Act.put, List.setIfInBounds_toArray, List.set_cons_zero, List.set_cons_succ]
      refine Ht.takeN (i := 4) ⟨some 44, _, _, _, _, _⟩ (.pointer (some ⟨w.heap.size + 2, 2, none⟩)) rfl (Nat.le_refl 22) (by kernel_rfl) (by kernel_rfl) (by kernel_rfl) (by kernel_rfl) hS0 (Or.inl ⟨by rfl, by (intro X hX; go_simp)⟩) ?_
      simp only [Act.put, List.setIfInBounds_toArray, List.set_cons_zero, List.set_cons_succ]
      refine Ht.takeN (i := 5) ⟨some 45, _, _, _, _, _⟩ (u W2) rfl (Nat.le_refl 22) (by kernel_rfl) (by kernel_rfl) (by kernel_rfl) (by kernel_rfl) hS0 (Or.inl ⟨by rfl, by (intro X hX; obtain ⟨⟨h0, h1, h2, h3, h4⟩, _⟩ := five hX.1; go_simp)⟩) ?_
      simp only [Act.put, List.setIfInBounds_toArray, List.set_cons_zero, List.set_cons_succ]
      refine Ht.takeN (i := 6) ⟨some 46, _, _, _, _, _⟩ (.pointer (some ⟨w.heap.size + 2, 3, none⟩)) rfl (Nat.le_refl 22) (by kernel_rfl) (by kernel_rfl) (by kernel_rfl) (by kernel_rfl) hS0 (Or.inl ⟨by rfl, by (intro X hX; go_simp)⟩) ?_
      simp only [Act.put, List.setIfInBounds_toArray, List.set_cons_zero, List.set_cons_succ]
      refine Ht.takeN (i := 7) ⟨some 47, _, _, _, _, _⟩ (u W3) rfl (Nat.le_refl 22) (by kernel_rfl) (by kernel_rfl) (by kernel_rfl) (by kernel_rfl) hS0 (Or.inl ⟨by rfl, by (intro X hX; obtain ⟨⟨h0, h1, h2, h3, h4⟩, _⟩ := five hX.1; go_simp)⟩) ?_
      simp only [Act.put, List.setIfInBounds_toArray, List.set_cons_zero, List.set_cons_succ]
      refine Ht.takeN (i := 8) ⟨some 48, _, _, _, _, _⟩ (.pointer (some ⟨w.heap.size + 2, 4, none⟩)) rfl (Nat.le_refl 22) (by kernel_rfl) (by kernel_rfl) (by kernel_rfl) (by kernel_rfl) hS0 (Or.inl ⟨by rfl, by (intro X hX; go_simp)⟩) ?_
      simp only [Act.put, List.setIfInBounds_toArray, List.set_cons_zero, List.set_cons_succ]
      refine Ht.takeN (i := 9) ⟨some 49, _, _, _, _, _⟩ (u W4) rfl (Nat.le_refl 22) (by kernel_rfl) (by kernel_rfl) (by kernel_rfl) (by kernel_rfl) hS0 (Or.inl ⟨by rfl, by (intro X hX; obtain ⟨⟨h0, h1, h2, h3, h4⟩, _⟩ := five hX.1; go_simp)⟩) ?_
      simp only [Act.put, List.setIfInBounds_toArray, List.set_cons_zero, List.set_cons_succ]
      refine Ht.takeN (i := 11) ⟨some 51, _, _, _, _, _⟩ (.slice (some ⟨w.heap.size + 1, 0, none⟩) 5 5) rfl (Nat.le_refl 22) (by kernel_rfl) (by kernel_rfl) (by kernel_rfl) (by kernel_rfl) hS0 (Or.inl ⟨by rfl, by (intro X hX; go_simp)⟩) ?_
      simp only [Act.put, List.setIfInBounds_toArray, List.set_cons_zero, List.set_cons_succ]
      refine Ht.takeN (i := 12) ⟨some 52, _, _, _, _, _⟩ (.pointer (some ⟨w.heap.size + 1, 2, none⟩)) rfl (Nat.le_refl 22) (by kernel_rfl) (by kernel_rfl) (by kernel_rfl) (by kernel_rfl) hS0 (Or.inl ⟨by rfl, by (intro X hX; go_simp)⟩) ?_
      simp only [Act.put, List.setIfInBounds_toArray, List.set_cons_zero, List.set_cons_succ]
      refine Ht.takeN (i := 13) ⟨some 53, _, _, _, _, _⟩ (S x2) rfl (Nat.le_refl 22) (by kernel_rfl) (by kernel_rfl) (by kernel_rfl) (by kernel_rfl) hS0 (Or.inl ⟨by rfl, by (intro X hX; have := row_cell hX.2 hx2; go_simp)⟩) ?_
      simp only [Act.put, List.setIfInBounds_toArray, List.set_cons_zero, List.set_cons_succ]
      refine Ht.takeN (i := 14) ⟨some 54, _, _, _, _, _⟩ (.bool (x2 == [42])) rfl (Nat.le_refl 22) (by kernel_rfl) (by kernel_rfl) (by kernel_rfl) (by kernel_rfl) hS0 (Or.inl ⟨by rfl, by (intro X hX; go_simp)⟩) ?_
      simp only [Act.put, List.setIfInBounds_toArray, List.set_cons_zero, List.set_cons_succ]
      refine Ht.takeN (i := 15) ⟨some 55, _, _, _, _, _⟩ (.slice (some ⟨w.heap.size + 1, 0, none⟩) 5 5) rfl (Nat.le_refl 22) (by kernel_rfl) (by kernel_rfl) (by kernel_rfl) (by kernel_rfl) hS0 (Or.inl ⟨by rfl, by (intro X hX; go_simp)⟩) ?_
      simp only [Act.put, List.setIfInBounds_toArray, List.set_cons_zero, List.set_cons_succ]
      refine Ht.takeN (i := 16) ⟨some 56, _, _, _, _, _⟩ (.pointer (some ⟨w.heap.size + 1, 4, none⟩)) rfl (Nat.le_refl 22) (by kernel_rfl) (by kernel_rfl) (by kernel_rfl) (by kernel_rfl) hS0 (Or.inl ⟨by rfl, by (intro X hX; go_simp)⟩) ?_
      simp only [Act.put, List.setIfInBounds_toArray, List.set_cons_zero, List.set_cons_succ]
      refine Ht.takeN (i := 17) ⟨some 57, _, _, _, _, _⟩ (S x4) rfl (Nat.le_refl 22) (by kernel_rfl) (by kernel_rfl) (by kernel_rfl) (by kernel_rfl) hS0 (Or.inl ⟨by rfl, by (intro X hX; have := row_cell hX.2 hx4; go_simp)⟩) ?_
      simp only [Act.put, List.setIfInBounds_toArray, List.set_cons_zero, List.set_cons_succ]
      refine Ht.takeN (i := 18) ⟨some 58, _, _, _, _, _⟩ (.bool (x4 == [42])) rfl (Nat.le_refl 22) (by kernel_rfl) (by kernel_rfl) (by kernel_rfl) (by kernel_rfl) hS0 (Or.inl ⟨by rfl, by (intro X hX; go_simp)⟩) ?_
      simp only [Act.put, List.setIfInBounds_toArray, List.set_cons_zero, List.set_cons_succ]
      refine Ht.step (i := 10) ⟨some 50, _, _, _, _, _⟩ rfl (by kernel_rfl) (by rfl) (fun K hK => ?_)
      refine Ht.enter 103 #[u W4] (by have hen := fun args w => enters_of (P := Tryz.prog) Tryz.func103 (by kernel_rfl) rfl args w; go_simp) (HF.out _) ?_
      rintro e A1 ⟨rfl, rfl⟩
      refine ⟨_, rfl, hK _ _ (fun _ => hS0) (fun _ => ?_)⟩
      clear hK K
      simp only [Act.put, List.setIfInBounds_toArray, List.set_cons_zero, List.set_cons_succ]
      refine Ht.takeN (i := 19) ⟨some 59, _, _, _, _, _⟩ (.agg #[u W0, u W1, u W2, u W3, u FV, .bool (x2 == [42]), .bool (x4 == [42])]) rfl (Nat.le_refl 22) (by kernel_rfl) (by kernel_rfl) (by kernel_rfl) (by kernel_rfl) hS0 (Or.inl ⟨by rfl, by (intro X hX; go_simp)⟩) ?_
      simp only [Act.put, List.setIfInBounds_toArray, List.set_cons_zero, List.set_cons_succ]
      refine Ht.step (i := 20) ⟨none, _, _, _, _, _⟩ rfl (by kernel_rfl) (by rfl) (fun K hK => ?_)
      obtain ⟨⟨c0, c1, c2, c3, c4, c5, c6⟩, f0, f1, f2, f3, f4, f5, f6⟩ := seven HP2.out.res
      go_simp
      have hS2 : (fun Y => Y.heap[w.heap.size + 2]? = some (.cells #[u W0, u W1, u W2, u W3, u W4] 162 (0, 0)) ∧ Y.heap[w.heap.size + 1]? = some (.cells (ts.map fun l => S l).toArray 9 (0, 0))) ((res7 wr w.heap.size (u W0) (u W1) (u W2) (u W3) (u FV) (.bool (x2 == [42])) (.bool (x4 == [42]))).drew) := by
        exact ⟨res_drew wr _ _ _ _ _ _ _ (by omega) HA.out.1, res_drew wr _ _ _ _ _ _ _ (by omega) HA.out.2⟩
      refine hK _ _ (fun _ => hS2) (fun _ => ?_)
      clear hK K
      try simp only [Act.put, List.setIfInBounds_toArray, List.set_cons_zero, List.set_cons_succ]
      refine Ht.takeN (i := 21) ⟨some 3, _, _, _, _, _⟩ (.int .i64 0) rfl (Nat.le_refl 22) (by kernel_rfl) (by kernel_rfl) (by kernel_rfl) (by kernel_rfl) hS2 (Or.inl ⟨by rfl, by (intro X hX; go_simp)⟩) ?_
      simp only [Act.put, List.setIfInBounds_toArray, List.set_cons_zero, List.set_cons_succ]
      refine done (by kernel_rfl) ?_
      -- END15
      obtain ⟨⟨c0, c1, c2, c3, c4, c5, c6⟩, f0, f1, f2, f3, f4, f5, f6⟩ := seven HP2.out.res
      go_wp2_with fail
      refine bodyPost_ret (v := .tuple #[.agg #[u W0, u W1, u W2, u W3, u FV, .bool (x2 == [42]), .bool (x4 == [42])], .int .i64 0]) ?_ rfl ⟨by rw [HX1.out.2.1, HX1.out.2.2]; rfl, ?_⟩
      · rw [Ca.results_c2 rfl]
        go_simp
      · exact below_drewN (below_res7 HX1.out.1 _ _ _ _ _ _ _) 1
theorem parse_any (s : L) (w : World) (hg : Gl w) :
    Calls Tryz.prog 84 #[S s] w fun e w' => e = .returned (.tuple #[exv (parseV s), .int .i64 (parseE s : Nat)]) ∧ Below w.heap.size w w' := by
  by_cases h : 128 < s.length
  · exact parse_long s w h
  · by_cases hc : (sp 32 s).length = 5
    · exact parse_five s w (by omega) hc hg
    · exact parse_count s w (by omega) hc hg.mx
end Go.Proofs.YtcodjknhnhdkfaaGreatDoor.Cn
