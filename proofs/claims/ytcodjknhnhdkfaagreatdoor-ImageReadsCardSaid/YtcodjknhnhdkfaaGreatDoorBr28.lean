/- commands: which fields a kind has, and whether there is one -/
import Derived.Test.YtcodjknhnhdkfaaGreatDoorBr04
import Derived.Test.YtcodjknhnhdkfaaGreatDoorBr05
import Derived.Test.YtcodjknhnhdkfaaGreatDoorBr01
namespace Go.Proofs.YtcodjknhnhdkfaaGreatDoor.Cm
open Go.RowKit Go.Lib Wn Rf By
set_option linter.unusedVariables false
set_option maxRecDepth 20000
def flds (k : Int) : Value := .agg #[.bool (bS k), .bool (bW k), .bool (bN k), .bool (bT k), .bool (bV k)]
theorem results_c1 {fn : Func} {p : Tmp} {ty : TypeId} (h : fn.results = #[.cell p ty]) (tmps : Array Value) (P : Program) (w : World) :
    (results fn tmps).run P w = ((asAddr (tmps.getD p undef)).run P w).andThen fun a w₁ => (loadVar ty a).run P w₁ := by
  simp only [results, h]
  simp [Sem.run_bind, Result.andThen]
end Go.Proofs.YtcodjknhnhdkfaaGreatDoor.Cm
namespace Go.Proofs.YtcodjknhnhdkfaaGreatDoor.Cm
open Go.RowKit Go.Lib Wn Rf By
set_option linter.unusedVariables false
set_option maxRecDepth 20000
theorem info9 : (Tryz.prog.info? 9).map (fun i => (i.zero, i.size, i.bytes)) = some (some (.string ⟨#[]⟩), 1, 16) := by kernel_rfl
def RowS (w : World) (B : Nat) (v : Value) (xs : List ByteArray) : Prop := w.ownsRow B 9 1 v xs.length (xs.map Value.string)
/-- what Get answers -/
def GotS (rb m : Nat) (l : List UInt8) (er : Int) (w : World) (e : Ending) (w' : World) : Prop :=
  ∃ (v : Value) (xs : List ByteArray) (l' : List UInt8) (er' : Int), e = .returned v ∧ RowS w' w.heap.size v xs ∧ xs.length ≤ m ∧ Rd w' rb l' er' ∧ Ar rb w w' ∧
    (er' = 0 → er = 0 ∧ l = uvarint xs.length ++ (xs.flatMap textB ++ l')) ∧ (er' ≠ 0 → xs = []) ∧
    ∀ (ys : List ByteArray) t, er = 0 → ys.length ≤ m → (∀ y ∈ ys, ((fun _ => False) : ByteArray → Prop) y) → l = uvarint ys.length ++ (ys.flatMap textB ++ t) → er' = 0
/-- in the midst of it -/
structure GSS (w : World) (rb : Nat) (v : Value) (xs : List ByteArray) (wr : World) : Prop where
  b3 : wr.heap[w.heap.size]? = some (.cells #[.pointer (some ⟨rb, 0, none⟩)] 31 (0, 0))
  b6 : wr.heap[w.heap.size + 1]? = some (.cells #[v] 38 (0, 0))
  row : RowS wr (w.heap.size + 2) v xs
  ar : Ar rb w wr
theorem GSS.at {w : World} {rb : Nat} {v : Value} {xs : List ByteArray} {wr w' : World} (h : GSS w rb v xs wr) (hrb : rb < w.heap.size) (hA : At rb wr w') : GSS w rb v xs w' := by
  refine ⟨(hA.block _ (by omega)).trans h.b3, (hA.block _ (by omega)).trans h.b6, ?_, h.ar.trans hA.ar⟩
  obtain ⟨h1, h2⟩ := h.row
  refine ⟨h1, ?_⟩
  rcases h2 with q | ⟨g, cap, cur, q1, q2, q3, q4⟩
  · exact .inl q
  · exact .inr ⟨g, cap, cur, q1, q2, (hA.block g (by omega)).trans q3, q4⟩
/-- what one append and the store behind it do -/
theorem GSS.step {w : World} {rb : Nat} {v v' : Value} {xs ys : List ByteArray} {wr w0 w1 : World} (h : GSS w rb v xs wr) (hrb : rb < w.heap.size)
    (hown : w1.ownsRow (w.heap.size + 2) 9 1 v' ys.length (ys.map Value.string)) (h0 : Below wr.heap.size wr w0) (hg : w0.grownBy w1 v.ownBlock) {l : List UInt8} {e : Int} (hr : Rd wr rb l e) :
    GSS w rb v' ys (w1.setCell ⟨w.heap.size + 1, 0, none⟩ v') ∧ Rd (w1.setCell ⟨w.heap.size + 1, 0, none⟩ v') rb l e ∧ w1.cell? ⟨w.heap.size + 1, 0, none⟩ = some v ∧ w1.frozen? ⟨w.heap.size + 1, 0, none⟩ = false := by
  have hsz : w.heap.size + 1 < wr.heap.size := lt_of_block h.b6
  have s0 := h0.size
  have s1 := hg.size
  have hne : ∀ k, k < w.heap.size + 2 → some k ≠ v.ownBlock := fun k hk e => by have := (h.row.lt k e.symm).1; omega
  have hne' : ∀ k, k < w.heap.size + 2 → some k ≠ v'.ownBlock := fun k hk e => by have := (hown.lt k e.symm).1; omega
  have hold : ∀ k, k < wr.heap.size → some k ≠ v.ownBlock → w1.heap[k]? = wr.heap[k]? := fun k hk hn => (hg.block k (by omega) hn).trans (h0.block k hk)
  have b3 : w1.heap[w.heap.size]? = some (.cells #[.pointer (some ⟨rb, 0, none⟩)] 31 (0, 0)) := (hold _ (by omega) (hne _ (by omega))).trans h.b3
  have b6 : w1.heap[w.heap.size + 1]? = some (.cells #[v] 38 (0, 0)) := (hold _ (by omega) (hne _ (by omega))).trans h.b6
  have hc : ∀ k, k ≠ w.heap.size + 1 → (w1.setCell ⟨w.heap.size + 1, 0, none⟩ v').heap[k]? = w1.heap[k]? := fun k hk => Below.heap_setCell w1 ⟨w.heap.size + 1, 0, none⟩ v' k hk
  refine ⟨⟨(hc _ (by omega)).trans b3, one_setCell b6, ?_, ?_⟩, ?_, cell_of_one b6, free_of_one b6⟩
  · exact ownsRow_setCell_other hown (a := ⟨w.heap.size + 1, 0, none⟩) (fun e => hne' (w.heap.size + 1) (by omega) e.symm) v'
  · refine ⟨hg.os.trans (h0.os.trans h.ar.os), hg.tape.trans (h0.tape.trans h.ar.tape), hg.output.trans (h0.output.trans h.ar.output), by have := h.ar.size; simp [World.setCell]; omega, fun k hk hn => ?_⟩
    rw [hc k (by omega), hold k (by omega) (hne k (by omega))]
    exact h.ar.block k hk hn
  · refine hr.kept ((hc rb (by omega)).trans (hold rb (by omega) (hne rb (by omega)))) (fun g cur hg' => ?_)
    have hgl := lt_of_block hg'
    have h6 : g ≠ w.heap.size + 1 := by
      rintro rfl
      rw [h.b6] at hg'
      simp at hg'
    rw [hc g h6]
    refine hold g hgl (fun e => ?_)
    rcases h.row.2 with ⟨rfl, _⟩ | ⟨g', cap, cur', rfl, _, hgg, _⟩
    · simp [Value.ownBlock] at e
    · simp [Value.ownBlock] at e
      subst e
      rw [hgg] at hg'
      simp at hg'
set_option maxHeartbeats 2000000 in
theorem get_s (rb m : Nat) (l : List UInt8) (er : Int) (w : World) (h : Rd w rb l er) (hm : m ≤ 1000) :
    Calls Tryz.prog 52 #[.pointer (some ⟨rb, 0, none⟩), .int .i64 m, .func (.func 37) #[] #[]] w (GotS rb m l er w) := by
  obtain ⟨i0, hi, hz0, hz1, hz2⟩ := info_parts info9
  have hmf : ∀ (fn : Fn) (first cap : Array Value) (w : World), (Instr.makeFunc fn first cap).run Tryz.prog w = .ok (.func fn first cap) w := fun _ _ _ _ => rfl
  obtain ⟨V, hV⟩ : ∃ V, V = (w.alloc (.cells #[.pointer (some ⟨rb, 0, none⟩)] 31)).alloc (.cells #[.slice none 0 0] 38) := ⟨_, rfl⟩
  have hb : Below w.heap.size w V := by rw [hV]; exact ((Below.refl _ _).alloc (Nat.le_refl _) _).alloc (by simp) _
  have hrb := h.lt
  have g0 : GSS w rb (.slice none 0 0) [] V := by
    refine ⟨?_, ?_, World.ownsRow_nil _ _ _ _, Ar.ofBelow hb⟩
    · rw [hV]; exact ((Below.refl (w.heap.size + 1) _).alloc (by simp) _ |>.block _ (by omega)).trans (heap_alloc_new w _)
    · rw [hV]
      have := heap_alloc_new (w.alloc (.cells #[.pointer (some ⟨rb, 0, none⟩)] 31)) (.cells #[.slice none 0 0] 38)
      rwa [World.size_alloc] at this
  have hR := h.below hb
  have HC := Lib.hid (count_r rb l er m V hR (by omega))
  have HG := Lib.hid (And.intro g0 hrb)
  clear hR hb g0 h
  go_enter_defers Tryz.func52, Tryz.ntmps52
  go_wp2_with fail
  rw [← hV]
  have HV := Lib.hid hV
  clear hV
  refine HC.out.mono ?_
  rintro e w1 ⟨n, l1, er1, rfl, hn, hr1, hA1, hb1, hz1', hf1⟩
  have g1 := HG.out.1.at hrb hA1
  have H1 := Lib.hid (And.intro hb1 (And.intro hz1' hf1))
  clear hb1 hz1' hf1 hA1 HC
  go_wp2_with fail
  go_loopw [12] (fun s12 wr => ∃ (v : Value) (xs : List ByteArray) (lk : List UInt8), s12 = .int .i64 xs.length ∧ xs.length ≤ n ∧ GSS w rb v xs wr ∧ Rd wr rb lk er1 ∧ l1 = xs.flatMap textB ++ lk) (fun s12 _ => n - (RowKit.intOf s12).toNat)
  case atStart => exact ⟨_, [], l1, rfl, Nat.zero_le _, g1, hr1, rfl⟩
  case round =>
    obtain ⟨v, xs, lk, rfl, hk, gk, hrk, hlk⟩ := hrel
    have c3 := cell_of_one gk.b3
    have c6 := cell_of_one gk.b6
    have f6 := free_of_one gk.b6
    have hszr : w.heap.size + 1 < wr.heap.size := lt_of_block gk.b6
    have HL := Lib.hid hlk
    clear hlk g1 hr1
    by_cases hlt : xs.length < n
    · have he1 : er1 = 0 := Classical.byContradiction fun q => by have := H1.out.2.1 q; omega
      subst he1
      go_wp2_with fail
      refine (sptext_r rb lk 0 wr hrk).mono ?_
      rintro e w2 ⟨x, l2, er2, rfl, hr2, hA2, hb2, hf2⟩
      have g2 := gk.at hrb hA2
      have c3' := cell_of_one g2.b3
      have c6' := cell_of_one g2.b6
      have f6' := free_of_one g2.b6
      have HE := Lib.hid (err_any rb l2 er2 w2 hr2)
      have H2 := Lib.hid (And.intro hb2 hf2)
      clear hb2 hf2 hA2 c3 c6 f6 gk hrk hszr
      go_wp2_with fail
      refine HE.out.mono ?_
      rintro e w3 ⟨rfl, rfl⟩
      clear HE
      by_cases he2 : er2 = 0
      · subst he2
        have hlen : xs.length ≤ 1000 := by omega
        have hrow : w2.ownsRow (w.heap.size + 2) 9 1 v xs.length (xs.map Value.string) := g2.row
        have hsz2 : w.heap.size + 1 < w2.heap.size := lt_of_block g2.b6
        go_wp2_with (at_builtin; refine wpList_append_own _ rfl _ _ 38 rfl (w.heap.size + 2) 9 i0 (.string ⟨#[]⟩) 1 16 Tryz.underlying38 hi hz0 hz1 hz2 rfl (by decide) _ _ _ rfl (hrow.alloc _) ⟨w2.heap.size, 0, none⟩ 1 1 [.string x] rfl rfl ?c1 ?c2 ?c3 ?c4 ?c5 ?_)
        case c1 =>
          intro j u hj
          match j, hj with
          | 0, hj => simp at hj; subst hj; simp [Addr.add]
        case c2 => intro u hu; simp at hu; subst hu; rfl
        case c3 => unfold maxLen; omega
        case c4 => first | omega | (simp; omega)
        case c5 => first | omega | (simp; omega)
        · intro v' w4 hown' hgrow _
          obtain ⟨ao, cp, rfl⟩ := own_shape hown'
          have hown2 : w4.ownsRow (w.heap.size + 2) 9 1 (.slice ao (xs.length + 1) cp) (xs ++ [x]).length ((xs ++ [x]).map Value.string) := by
            rw [List.length_append, List.map_append]; exact hown'
          obtain ⟨g5, r5, c5, f5⟩ := g2.step hrb hown2 ((Below.refl _ _).alloc (Nat.le_refl _) _) hgrow hr2
          have HG5 := Lib.hid (And.intro g5 r5)
          clear hown' hown2 hgrow g5 r5 hrow g2 hr2 c3' c6' f6' hsz2
          go_wp2_with fail
          go_roundw
          case rel => exact ⟨_, xs ++ [x], l2, by simp, by simp; omega, HG5.out.1, HG5.out.2, by rw [List.flatMap_append, List.append_assoc, HL.out, (H2.out.1 (by first | rfl | trivial)).2]; simp⟩
          case measure => simp [RowKit.intOf]; omega
      · have HW : GotS rb m l er w (.returned (.slice none 0 0)) (w2.setCell ⟨w.heap.size + 1, 0, none⟩ (.slice none 0 0)) := by
          obtain ⟨g5, r5, c5, f5⟩ := g2.step (ys := []) hrb (World.ownsRow_nil _ _ _ _) (Below.refl _ _) ⟨rfl, rfl, rfl, Nat.le_refl _, fun _ _ _ => rfl⟩ hr2
          refine ⟨_, [], l2, er2, rfl, World.ownsRow_nil _ _ _ _, Nat.zero_le _, r5, g5.ar, fun q => absurd q he2, fun _ => rfl, ?_⟩
          intro ys t h0 hys hok hl
          exfalso
          have e1 := (H1.out.1 trivial).2
          rw [hl] at e1
          obtain ⟨e2, e3⟩ := uvr_inj _ _ _ _ e1
          rw [HL.out] at e3
          have e4 := flat_cut txr_inj xs ys lk t (by omega) e3.symm
          obtain ⟨y, r, hy⟩ : ∃ y r, ys.drop xs.length = y :: r := by
            cases hd : ys.drop xs.length with
            | nil => rw [List.drop_eq_nil_iff] at hd; omega
            | cons y r => exact ⟨y, r, rfl⟩
          rw [hy, List.flatMap_cons, List.append_assoc] at e4
          exact he2 (H2.out.2 y _ trivial (hok y (by have : y ∈ ys.drop xs.length := by rw [hy]; simp
                                                     exact List.mem_of_mem_drop this)) e4)
        have HW' := Lib.hid HW
        have hne : (er2 != 0) = true := by simpa using he2
        have c5 : (w2.setCell ⟨w.heap.size + 1, 0, none⟩ (.slice none 0 0)).cell? ⟨w.heap.size + 1, 0, none⟩ = some (.slice none 0 0) := cell_of_one (one_setCell g2.b6)
        clear HW g2 hr2 c3'
        go_wp2_with fail
        refine leaves_cons (f := 64) (args := #[.pointer (some ⟨w.heap.size, 0, none⟩), .pointer (some ⟨w.heap.size + 1, 0, none⟩)]) (by simp) (by simp [go_sem]) ?_
        refine (getSF_idle ⟨w.heap.size, 0, none⟩ ⟨w.heap.size + 1, 0, none⟩ _).mono ?_
        rintro e u' w'' ⟨rfl, rfl, rfl⟩
        simp [Leaves, settle, results, Tryz.results52, go_sem, c5]
        exact HW'.out
    · have hkn : xs.length = n := by omega
      have hnn : ¬ (xs.length : Int) < n := by omega
      have HW : GotS rb m l er w (.returned v) (wr.setCell ⟨w.heap.size + 1, 0, none⟩ v) := by
        obtain ⟨g5, r5, c5, f5⟩ := gk.step (ys := xs) hrb gk.row (Below.refl _ _) ⟨rfl, rfl, rfl, Nat.le_refl _, fun _ _ _ => rfl⟩ hrk
        obtain ⟨q1, q2⟩ := g5.row
        refine ⟨_, xs, lk, er1, rfl, ⟨q1, ?_⟩, by omega, r5, g5.ar, fun q => ?_, fun q => ?_, ?_⟩
        · rcases q2 with q | ⟨g, cap, cur, q1, q2, q3⟩
          · exact .inl q
          · exact .inr ⟨g, cap, cur, q1, by omega, q3⟩
        · obtain ⟨e0, e1⟩ := H1.out.1 q
          exact ⟨e0, by rw [hkn, ← HL.out]; exact e1⟩
        · have := H1.out.2.1 q
          exact List.length_eq_zero_iff.1 (by omega)
        · intro ys t h0 hys hok hl
          exact H1.out.2.2 _ _ h0 hys hl
      obtain ⟨ao, cp, hao⟩ := own_shape gk.row
      subst hao
      have c5 : (wr.setCell ⟨w.heap.size + 1, 0, none⟩ (.slice ao xs.length cp)).cell? ⟨w.heap.size + 1, 0, none⟩ = some (.slice ao xs.length cp) := cell_of_one (one_setCell gk.b6)
      rw [hkn] at HW c5
      have HW' := Lib.hid HW
      clear HW gk hrk
      go_wp2_with fail
      refine leaves_cons (f := 64) (args := #[.pointer (some ⟨w.heap.size, 0, none⟩), .pointer (some ⟨w.heap.size + 1, 0, none⟩)]) (by simp) (by simp [go_sem]) ?_
      refine (getSF_idle ⟨w.heap.size, 0, none⟩ ⟨w.heap.size + 1, 0, none⟩ _).mono ?_
      rintro e u' w'' ⟨rfl, rfl, rfl⟩
      simp [Leaves, settle, results, Tryz.results52, go_sem, c5]
      exact HW'.out
end Go.Proofs.YtcodjknhnhdkfaaGreatDoor.Cm
namespace Go.Proofs.YtcodjknhnhdkfaaGreatDoor.Cm
open Go.RowKit Go.Lib Wn Rf By
set_option linter.unusedVariables false
set_option maxRecDepth 20000
end Go.Proofs.YtcodjknhnhdkfaaGreatDoor.Cm
namespace Go.Proofs.YtcodjknhnhdkfaaGreatDoor.Cm
open Go.RowKit Go.Lib Wn Rf By
set_option linter.unusedVariables false
set_option maxRecDepth 20000
theorem info3 : (Tryz.prog.info? 3).map (fun i => (i.zero, i.size, i.bytes)) = some (some (.int .i64 0), 1, 8) := by kernel_rfl
def RowI (w : World) (B : Nat) (v : Value) (xs : List Nat) : Prop := w.ownsRow B 3 1 v xs.length (xs.map valI)
/-- what Get answers -/
def GotI (rb m : Nat) (l : List UInt8) (er : Int) (w : World) (e : Ending) (w' : World) : Prop :=
  ∃ (v : Value) (xs : List Nat) (l' : List UInt8) (er' : Int), e = .returned v ∧ RowI w' w.heap.size v xs ∧ xs.length ≤ m ∧ Rd w' rb l' er' ∧ Ar rb w w' ∧
    (er' = 0 → er = 0 ∧ l = uvarint xs.length ++ (xs.flatMap uvarint ++ l')) ∧ (er' ≠ 0 → xs = []) ∧
    ∀ (ys : List Nat) t, er = 0 → ys.length ≤ m → (∀ y ∈ ys, (U64 : Nat → Prop) y) → l = uvarint ys.length ++ (ys.flatMap uvarint ++ t) → er' = 0
end Go.Proofs.YtcodjknhnhdkfaaGreatDoor.Cm
namespace Go.Proofs.YtcodjknhnhdkfaaGreatDoor.Cm
open Go.RowKit Go.Lib Wn Rf By
set_option linter.unusedVariables false
set_option maxRecDepth 20000
/-- nodes that rise from above p on, none above 7 -/
def memR : Int → List Int → Bool
  | _, [] => true
  | p, n :: r => decide (p < n) && decide (n ≤ 7) && memR n r
def areM (l : List Int) : Bool := memR 0 l && decide (0 < l.length)
def memB (l : List Int) : List UInt8 := uvarint l.length ++ l.flatMap ie
theorem memR_all : ∀ {p : Int} {l : List Int}, memR p l = true → 0 ≤ p → ∀ x ∈ l, p < x ∧ x ≤ 7
  | p, [], _, _, x, hx => by simp at hx
  | p, n :: r, h, hp, x, hx => by
    simp only [memR, Bool.and_eq_true, decide_eq_true_eq] at h
    rcases List.mem_cons.1 hx with rfl | hx
    · exact h.1
    · have := memR_all h.2 (by omega) x hx
      omega
theorem memR_len : ∀ {p : Int} {l : List Int}, memR p l = true → 0 ≤ p → (l.length : Int) ≤ max (7 - p) 0
  | p, [], _, _ => by simp; omega
  | p, n :: r, h, hp => by
    simp only [memR, Bool.and_eq_true, decide_eq_true_eq] at h
    have := memR_len h.2 (by omega)
    simp only [List.length_cons]
    omega
theorem areM_len {l : List Int} (h : areM l = true) : l.length ≤ 7 ∧ 0 < l.length := by
  unfold areM at h
  simp only [Bool.and_eq_true, decide_eq_true_eq] at h
  have := memR_len h.1 (by omega)
  exact ⟨by omega, h.2⟩
theorem areM_all {l : List Int} (h : areM l = true) : ∀ x ∈ l, 0 < x ∧ x ≤ 7 := by
  unfold areM at h
  simp only [Bool.and_eq_true, decide_eq_true_eq] at h
  exact memR_all h.1 (by omega)
theorem drop_next {E : Type} {l : List E} {k : Nat} (h : k < l.length) : l.drop k = l[k] :: l.drop (k + 1) := List.drop_eq_getElem_cons h
theorem flat_small : ∀ {l : List Int}, (∀ x ∈ l, 0 < x ∧ x ≤ 7) → (l.flatMap ie).length = l.length
  | [], _ => rfl
  | x :: l, h => by
    have h1 := h x (by simp)
    have e : ie x = [x.toNat.toUInt8] := by unfold ie; exact uvarint_small (by omega)
    rw [List.flatMap_cons, e, List.length_append, flat_small (fun y hy => h y (by simp [hy]))]
    simp; omega
end Go.Proofs.YtcodjknhnhdkfaaGreatDoor.Cm
namespace Go.Proofs.YtcodjknhnhdkfaaGreatDoor.Cm
open Go.RowKit Go.Lib Wn Rf By
set_option linter.unusedVariables false
set_option maxRecDepth 20000
theorem ref_app (x y : List UInt8) : (⟨x.toArray⟩ : ByteArray) ++ ⟨y.toArray⟩ = ⟨(x ++ y).toArray⟩ := bytes_app x y
/-- a row of one's own may be read -/
theorem da_own {E : Type} {val : E → Value} {t : TypeId} {w : World} {B : Nat} {v : Value} {n : Nat} {xs : List E} (h : w.ownsRow B t 1 v n (xs.map val)) (hl : xs.length = n) : ∃ a c, v = .slice a n c ∧ Da val w a n xs := by
  rcases h.2 with ⟨rfl, h0⟩ | ⟨g, cap, cur, rfl, h2, h3, h4, h5, h6, h7⟩
  · exact ⟨none, 0, by rw [h0], ⟨hl, ⟨fun _ => h0, .inl h0⟩⟩⟩
  · refine ⟨some ⟨g, 0, none⟩, cap, rfl, ⟨hl, ⟨fun e => (by cases e), Or.inr ⟨g, 0, rfl, fun i hi => ?_⟩⟩⟩⟩
    have := h.cells rfl i (val xs[i]) (by simp [hi])
    rwa [Sp.addl] at this
theorem flat_inj {E : Type} {enc : E → List UInt8} (inj : ∀ x y s t, enc x ++ s = enc y ++ t → x = y ∧ s = t) : ∀ (xs ys : List E) (s t : List UInt8), xs.length = ys.length → xs.flatMap enc ++ s = ys.flatMap enc ++ t → xs = ys ∧ s = t
  | [], [], s, t, _, h => ⟨rfl, by simpa using h⟩
  | x :: xs, [], s, t, hl, h => by simp at hl
  | [], y :: ys, s, t, hl, h => by simp at hl
  | x :: xs, y :: ys, s, t, hl, h => by
    simp only [List.flatMap_cons, List.append_assoc] at h
    obtain ⟨rfl, h2⟩ := inj _ _ _ _ h
    obtain ⟨rfl, h3⟩ := flat_inj inj xs ys s t (by simpa using hl) h2
    exact ⟨rfl, h3⟩
def small (x : Nat) : Int := ((min x 8 : Nat) : Int)
theorem small_vals (xs : List Nat) : xs.map valI = (xs.map small).map iv := by rw [List.map_map]; rfl
theorem small_flat : ∀ (xs : List Nat), (∀ z ∈ xs.map small, 0 < z ∧ z ≤ 7) → xs.flatMap uvarint = (xs.map small).flatMap ie
  | [], _ => rfl
  | x :: xs, h => by
    have h1 := h (small x) (by simp)
    have h2 := small_flat xs (fun z hz => h z (by simp only [List.map_cons, List.mem_cons]; exact .inr hz))
    have e : ie (small x) = uvarint x := by
      unfold ie small at *
      rw [Int.toNat_natCast, Nat.min_eq_left (by omega)]
    simp only [List.flatMap_cons, List.map_cons, e, h2]
theorem nat_flat (ys : List Int) : (ys.map Int.toNat).flatMap uvarint = ys.flatMap ie := by
  rw [List.flatMap_map]; rfl
theorem small_nat : ∀ (ys : List Int), (∀ y ∈ ys, 0 < y ∧ y ≤ 7) → (ys.map Int.toNat).map small = ys
  | [], _ => rfl
  | y :: ys, h => by
    have h1 := h y (by simp)
    rw [List.map_cons, List.map_cons, small_nat ys (fun z hz => h z (by simp [hz]))]
    congr 1
    unfold small
    omega
/-- what MembersOf answers -/
def OfGot (l : List UInt8) (w : World) (e : Ending) (w' : World) : Prop :=
  ∃ (v : Value) (xs : List Int) (er : Int), e = .returned (.tuple #[v, .int .i64 er]) ∧ (er ≠ 0 → v = .slice none 0 0) ∧ (er = 0 → ∃ a c, v = .slice a xs.length c ∧ Da iv w' a xs.length xs ∧ areM xs = true ∧ l = memB xs) ∧
    (∀ ys, areM ys = true → l = memB ys → er = 0) ∧ Below w.heap.size w w'
end Go.Proofs.YtcodjknhnhdkfaaGreatDoor.Cm
namespace Go.Proofs.YtcodjknhnhdkfaaGreatDoor.Cm
open Go.RowKit Go.Lib Wn Rf By
set_option linter.unusedVariables false
set_option maxRecDepth 20000
/-- in the midst of Get: the result's block, the spec's block, the reader -/
structure Gs (w : World) (rb : Nat) (cs : Array Value) (W : World) (l : List UInt8) (e : Int) : Prop where
  rs : W.heap[w.heap.size]? = some (.cells #[.string ⟨#[]⟩, .string ⟨#[]⟩, .int .i64 0, .int .i64 0, .slice none 0 0, .int .i64 0, .int .i64 0, .int .i64 0, .int .i64 0, .string ⟨#[]⟩, .int .i64 0] 40 (0, 0))
  sb : W.heap[w.heap.size + 1]? = some (.cells cs 40 (0, 0))
  rd : Rd W rb l e
  ar : Ar rb w W
theorem Gs.call {w : World} {rb : Nat} {cs : Array Value} {W W' : World} {l l' : List UInt8} {e e' : Int} (h : Gs w rb cs W l e) (hrb : rb < w.heap.size) (hA : Ar rb W W') (hr : Rd W' rb l' e') : Gs w rb cs W' l' e' :=
  ⟨(hA.block _ (lt_of_block h.rs) (by omega)).trans h.rs, (hA.block _ (lt_of_block h.sb) (by omega)).trans h.sb, hr, h.ar.trans hA⟩
theorem Gs.set {w : World} {rb : Nat} {cs : Array Value} {W : World} {l : List UInt8} {e : Int} (h : Gs w rb cs W l e) (hrb : rb < w.heap.size) (i : Nat) (v : Value) : Gs w rb (cs.setIfInBounds i v) (W.setCell ⟨w.heap.size + 1, i, none⟩ v) l e := by
  have ho : ∀ k, k ≠ w.heap.size + 1 → (W.setCell ⟨w.heap.size + 1, i, none⟩ v).heap[k]? = W.heap[k]? := fun k hk => heap_setCell_other W ⟨w.heap.size + 1, i, none⟩ k v hk
  refine ⟨(ho _ (by omega)).trans h.rs, heap_setCell_same _ _ i _ _ v h.sb, h.rd.kept (ho _ (by omega)) (fun g cur hg => ho g ?_), ?_⟩
  · rintro rfl
    rw [h.sb] at hg
    simp at hg
  · refine ⟨h.ar.os, h.ar.tape, h.ar.output, by have := h.ar.size; simp [World.setCell]; omega, fun k hk hn => ?_⟩
    rw [ho k (by omega)]
    exact h.ar.block k hk hn
/-- what Get answers -/
def GotSp (rb : Nat) (l : List UInt8) (er : Int) (w : World) (e : Ending) (w' : World) : Prop :=
  ∃ (x : Sp.Spc) (l' : List UInt8) (er' : Int), e = .returned (.agg x.cells) ∧ x.wf ∧ Sp.Dp w' x.a x.n x.ds ∧ Rd w' rb l' er' ∧ Ar rb w w' ∧ (er' = 0 → er = 0 ∧ l = Sp.specB x ++ l') ∧ (er' ≠ 0 → x = zsp) ∧ x.n ≤ 255 ∧ (x.n = 0 ∨ ∃ g, x.a = some ⟨g, 0, none⟩ ∧ w.heap.size ≤ g)
theorem Gs.fin {w : World} {rb : Nat} {cs : Array Value} {U : World} {l : List UInt8} {e : Int} (h : Gs w rb cs U l e) (hrb : rb < w.heap.size) (vs : List Value) (hl : vs.length = 11) :
    (setAll w.heap.size 0 U vs).heap[w.heap.size]? = some (.cells vs.toArray 40 (0, 0)) ∧ Rd (setAll w.heap.size 0 U vs) rb l e ∧ Ar rb w (setAll w.heap.size 0 U vs) ∧ ∀ k, k ≠ w.heap.size → (setAll w.heap.size 0 U vs).heap[k]? = U.heap[k]? := by
  obtain ⟨h1, h2, h3, h4, h5⟩ := setAll_other (b := w.heap.size) vs 0 U
  refine ⟨setAll_all h.rs (by rw [hl]; rfl), h.rd.kept (h1 rb (by omega)) (fun g cur hg => h1 g ?_), ⟨h3.trans h.ar.os, h4.trans h.ar.tape, h5.trans h.ar.output, by rw [h2]; exact h.ar.size, fun k hk hn => (h1 k (by omega)).trans (h.ar.block k hk hn)⟩, h1⟩
  rintro rfl
  rw [h.rs] at hg
  simp at hg
theorem Gs.drop {w : World} {rb : Nat} {cs : Array Value} {W : World} {l : List UInt8} {e : Int} (h : Gs w rb cs W l e) (hrb : rb < w.heap.size) : rb ≠ w.heap.size ∧ rb ≠ w.heap.size + 1 := by omega
set_option maxHeartbeats 4000000 in
theorem spGet_any (rb : Nat) (l0 : List UInt8) (e0 : Int) (w : World) (h : Rd w rb l0 e0) :
    Calls Tryz.prog 36 #[.pointer (some ⟨rb, 0, none⟩)] w (GotSp rb l0 e0 w) := by
  have hrb := h.lt
  obtain ⟨U0, hV⟩ : ∃ V, V = (w.alloc (.cells #[.string ⟨#[]⟩, .string ⟨#[]⟩, .int .i64 0, .int .i64 0, .slice none 0 0, .int .i64 0, .int .i64 0, .int .i64 0, .int .i64 0, .string ⟨#[]⟩, .int .i64 0] 40)).alloc (.cells #[.string ⟨#[]⟩, .string ⟨#[]⟩, .int .i64 0, .int .i64 0, .slice none 0 0, .int .i64 0, .int .i64 0, .int .i64 0, .int .i64 0, .string ⟨#[]⟩, .int .i64 0] 40) := ⟨_, rfl⟩
  have hb : Below w.heap.size w U0 := by rw [hV]; exact ((Below.refl _ _).alloc (Nat.le_refl _) _).alloc (by simp) _
  have g0 : Gs w rb #[.string ⟨#[]⟩, .string ⟨#[]⟩, .int .i64 0, .int .i64 0, .slice none 0 0, .int .i64 0, .int .i64 0, .int .i64 0, .int .i64 0, .string ⟨#[]⟩, .int .i64 0] U0 l0 e0 := by
    refine ⟨?_, ?_, h.below hb, Ar.ofBelow hb⟩
    · rw [hV]; exact ((Below.refl (w.heap.size + 1) _).alloc (by simp) _ |>.block _ (by omega)).trans (heap_alloc_new w _)
    · rw [hV]
      have := heap_alloc_new (w.alloc (.cells #[.string ⟨#[]⟩, .string ⟨#[]⟩, .int .i64 0, .int .i64 0, .slice none 0 0, .int .i64 0, .int .i64 0, .int .i64 0, .int .i64 0, .string ⟨#[]⟩, .int .i64 0] 40)) (.cells #[.string ⟨#[]⟩, .string ⟨#[]⟩, .int .i64 0, .int .i64 0, .slice none 0 0, .int .i64 0, .int .i64 0, .int .i64 0, .int .i64 0, .string ⟨#[]⟩, .int .i64 0] 40)
      rwa [World.size_alloc] at this
  clear hb h
  go_enter Tryz.func36, Tryz.ntmps36
  have G0 := Lib.hid g0
  have HC := Lib.hid (sptext_r rb l0 e0 U0 G0.out.rd)
  clear g0
  go_wp2_with fail
  rw [← hV]
  have HV := Lib.hid hV
  clear hV
  refine HC.out.mono ?_
  rintro e W1 ⟨nm, l1, e1, rfl, hr, hA, hk, -⟩
  clear HC
  have hk2 := hk
  have hA' := hA.ar
  clear hk
  have g := G0.out.call hrb hA' hr
  obtain ⟨⟨c0, c1, c2, c3, c4, c5, c6, c7, c8, c9, c10⟩, fz⟩ := Sp.eleven g.sb
  have fz0 := fz 0
  clear fz hr hA
  have Hk0 := Lib.hid hk2
  have GG := Lib.hid g
  clear g hk2
  obtain ⟨U1, hU⟩ : ∃ U, U = W1.setCell ⟨w.heap.size + 1, 0, none⟩ (.string nm) := ⟨_, rfl⟩
  have g1 : Gs w rb #[.string nm, .string ⟨#[]⟩, .int .i64 0, .int .i64 0, .slice none 0 0, .int .i64 0, .int .i64 0, .int .i64 0, .int .i64 0, .string ⟨#[]⟩, .int .i64 0] U1 l1 e1 := by rw [hU]; exact GG.out.set hrb 0 _
  have UH1 := Lib.hid hU
  clear hU hA'
  have G1 := Lib.hid g1
  have HC := Lib.hid (sptext_r rb l1 e1 U1 G1.out.rd)
  clear g1
  go_wp2_with fail
  rw [← UH1.out]
  clear c0 c1 c2 c3 c4 c5 c6 c7 c8 c9 c10 fz0
  refine HC.out.mono ?_
  rintro e W2 ⟨tn, l2, e2, rfl, hr, hA, hk, -⟩
  clear HC
  have hk2 := hk
  have hA' := hA.ar
  clear hk
  have g := G1.out.call hrb hA' hr
  obtain ⟨⟨c0, c1, c2, c3, c4, c5, c6, c7, c8, c9, c10⟩, fz⟩ := Sp.eleven g.sb
  have fz1 := fz 1
  clear fz hr hA
  have Hk1 := Lib.hid hk2
  have GG := Lib.hid g
  clear g hk2
  obtain ⟨U2, hU⟩ : ∃ U, U = W2.setCell ⟨w.heap.size + 1, 1, none⟩ (.string tn) := ⟨_, rfl⟩
  have g2 : Gs w rb #[.string nm, .string tn, .int .i64 0, .int .i64 0, .slice none 0 0, .int .i64 0, .int .i64 0, .int .i64 0, .int .i64 0, .string ⟨#[]⟩, .int .i64 0] U2 l2 e2 := by rw [hU]; exact GG.out.set hrb 1 _
  have UH2 := Lib.hid hU
  clear hU hA'
  have G2 := Lib.hid g2
  have HC := Lib.hid (int_r rb l2 e2 U2 G2.out.rd)
  clear g2
  go_wp2_with fail
  rw [← UH2.out]
  clear c0 c1 c2 c3 c4 c5 c6 c7 c8 c9 c10 fz1
  refine HC.out.mono ?_
  rintro e W3 ⟨pr, l3, e3, rfl, wf2, hr, hA, hk⟩
  clear HC
  have hk2 := hk
  have hA' := hA.ar
  clear hk
  have g := G2.out.call hrb hA' hr
  obtain ⟨⟨c0, c1, c2, c3, c4, c5, c6, c7, c8, c9, c10⟩, fz⟩ := Sp.eleven g.sb
  have fz2 := fz 2
  clear fz hr hA
  have Hk2 := Lib.hid hk2
  have GG := Lib.hid g
  clear g hk2
  obtain ⟨U3, hU⟩ : ∃ U, U = W3.setCell ⟨w.heap.size + 1, 2, none⟩ (.int .i64 pr) := ⟨_, rfl⟩
  have g3 : Gs w rb #[.string nm, .string tn, .int .i64 pr, .int .i64 0, .slice none 0 0, .int .i64 0, .int .i64 0, .int .i64 0, .int .i64 0, .string ⟨#[]⟩, .int .i64 0] U3 l3 e3 := by rw [hU]; exact GG.out.set hrb 2 _
  have UH3 := Lib.hid hU
  clear hU hA'
  have G3 := Lib.hid g3
  have HC := Lib.hid (int_r rb l3 e3 U3 G3.out.rd)
  clear g3
  go_wp2_with fail
  rw [← UH3.out]
  clear c0 c1 c2 c3 c4 c5 c6 c7 c8 c9 c10 fz2
  refine HC.out.mono ?_
  rintro e W4 ⟨dl, l4, e4, rfl, wf3, hr, hA, hk⟩
  clear HC
  have hk2 := hk
  have hA' := hA.ar
  clear hk
  have g := G3.out.call hrb hA' hr
  obtain ⟨⟨c0, c1, c2, c3, c4, c5, c6, c7, c8, c9, c10⟩, fz⟩ := Sp.eleven g.sb
  have fz3 := fz 3
  clear fz hr hA
  have Hk3 := Lib.hid hk2
  have GG := Lib.hid g
  clear g hk2
  obtain ⟨U4, hU⟩ : ∃ U, U = W4.setCell ⟨w.heap.size + 1, 3, none⟩ (.int .i64 dl) := ⟨_, rfl⟩
  have g4 : Gs w rb #[.string nm, .string tn, .int .i64 pr, .int .i64 dl, .slice none 0 0, .int .i64 0, .int .i64 0, .int .i64 0, .int .i64 0, .string ⟨#[]⟩, .int .i64 0] U4 l4 e4 := by rw [hU]; exact GG.out.set hrb 3 _
  have UH4 := Lib.hid hU
  clear hU hA'
  have G4 := Lib.hid g4
  have HC := Lib.hid (get_s rb 255 l4 e4 U4 G4.out.rd (by decide))
  clear g4
  go_wp2_with fail
  rw [← UH4.out]
  clear c0 c1 c2 c3 c4 c5 c6 c7 c8 c9 c10 fz3
  refine HC.out.mono ?_
  rintro e W5 ⟨v, ds, l5, e5, rfl, hrow, hn, hr, hA, hk, -, -⟩
  clear HC
  obtain ⟨a, c, rfl, hd, hg⟩ := Sp.dp_own (n := ds.length) hrow rfl
  have hk2 : e5 = 0 → e4 = 0 ∧ l4 = (uvarint ds.length ++ ds.flatMap textB) ++ l5 := fun q => ⟨(hk q).1, by rw [List.append_assoc]; exact (hk q).2⟩
  have HD := Lib.hid (And.intro hd (And.intro hg hn))
  have hA' := hA
  clear hk hrow hd hg hn
  have g := G4.out.call hrb hA' hr
  obtain ⟨⟨c0, c1, c2, c3, c4, c5, c6, c7, c8, c9, c10⟩, fz⟩ := Sp.eleven g.sb
  have fz4 := fz 4
  clear fz hr hA
  have Hk4 := Lib.hid hk2
  have GG := Lib.hid g
  clear g hk2
  have K5 := Lib.hid (show ∀ k, w.heap.size + 2 ≤ k → W5.heap[k]? = W5.heap[k]? from fun _ _ => rfl)
  have hU4 := Lib.hid (show w.heap.size + 2 ≤ U4.heap.size from lt_of_block G4.out.sb)
  obtain ⟨U5, hU⟩ : ∃ U, U = W5.setCell ⟨w.heap.size + 1, 4, none⟩ (.slice a ds.length c) := ⟨_, rfl⟩
  have g5 : Gs w rb #[.string nm, .string tn, .int .i64 pr, .int .i64 dl, .slice a ds.length c, .int .i64 0, .int .i64 0, .int .i64 0, .int .i64 0, .string ⟨#[]⟩, .int .i64 0] U5 l5 e5 := by rw [hU]; exact GG.out.set hrb 4 _
  have KU5 := Lib.hid (show ∀ k, w.heap.size + 2 ≤ k → k < W5.heap.size → U5.heap[k]? = W5.heap[k]? from fun k hk hk5 => by rw [hU]; exact (heap_setCell_other W5 ⟨w.heap.size + 1, 4, none⟩ k _ (by show k ≠ w.heap.size + 1; omega)).trans rfl)
  have sz5 := Lib.hid (show W5.heap.size ≤ U5.heap.size by rw [hU]; simp [World.setCell])
  have UH5 := Lib.hid hU
  clear hU hA'
  have G5 := Lib.hid g5
  have HC := Lib.hid (int_r rb l5 e5 U5 G5.out.rd)
  clear g5
  go_wp2_with fail
  rw [← UH5.out]
  clear c0 c1 c2 c3 c4 c5 c6 c7 c8 c9 c10 fz4
  refine HC.out.mono ?_
  rintro e W6 ⟨bs, l6, e6, rfl, wf5, hr, hA, hk⟩
  clear HC
  have hk2 := hk
  have hA' := hA.ar
  clear hk
  have g := G5.out.call hrb hA' hr
  obtain ⟨⟨c0, c1, c2, c3, c4, c5, c6, c7, c8, c9, c10⟩, fz⟩ := Sp.eleven g.sb
  have fz5 := fz 5
  clear fz hr hA
  have Hk5 := Lib.hid hk2
  have GG := Lib.hid g
  clear g hk2
  have K6 := Lib.hid (show ∀ k, w.heap.size + 2 ≤ k → k < W5.heap.size → W6.heap[k]? = W5.heap[k]? from fun k hk hk5 => (hA'.block k (Nat.lt_of_lt_of_le hk5 sz5.out) (by omega)).trans (KU5.out k hk hk5))
  obtain ⟨U6, hU⟩ : ∃ U, U = W6.setCell ⟨w.heap.size + 1, 5, none⟩ (.int .i64 bs) := ⟨_, rfl⟩
  have g6 : Gs w rb #[.string nm, .string tn, .int .i64 pr, .int .i64 dl, .slice a ds.length c, .int .i64 bs, .int .i64 0, .int .i64 0, .int .i64 0, .string ⟨#[]⟩, .int .i64 0] U6 l6 e6 := by rw [hU]; exact GG.out.set hrb 5 _
  have KU6 := Lib.hid (show ∀ k, w.heap.size + 2 ≤ k → k < W5.heap.size → U6.heap[k]? = W5.heap[k]? from fun k hk hk5 => by rw [hU]; exact (heap_setCell_other W6 ⟨w.heap.size + 1, 5, none⟩ k _ (by show k ≠ w.heap.size + 1; omega)).trans (K6.out k hk hk5))
  have sz6 := Lib.hid (show W5.heap.size ≤ U6.heap.size by rw [hU]; have := sz5.out; have := hA'.size; simp [World.setCell]; omega)
  have UH6 := Lib.hid hU
  clear hU hA'
  have G6 := Lib.hid g6
  have HC := Lib.hid (int_r rb l6 e6 U6 G6.out.rd)
  clear g6
  go_wp2_with fail
  rw [← UH6.out]
  clear c0 c1 c2 c3 c4 c5 c6 c7 c8 c9 c10 fz5
  refine HC.out.mono ?_
  rintro e W7 ⟨cp, l7, e7, rfl, wf6, hr, hA, hk⟩
  clear HC
  have hk2 := hk
  have hA' := hA.ar
  clear hk
  have g := G6.out.call hrb hA' hr
  obtain ⟨⟨c0, c1, c2, c3, c4, c5, c6, c7, c8, c9, c10⟩, fz⟩ := Sp.eleven g.sb
  have fz6 := fz 6
  clear fz hr hA
  have Hk6 := Lib.hid hk2
  have GG := Lib.hid g
  clear g hk2
  have K7 := Lib.hid (show ∀ k, w.heap.size + 2 ≤ k → k < W5.heap.size → W7.heap[k]? = W5.heap[k]? from fun k hk hk5 => (hA'.block k (Nat.lt_of_lt_of_le hk5 sz6.out) (by omega)).trans (KU6.out k hk hk5))
  obtain ⟨U7, hU⟩ : ∃ U, U = W7.setCell ⟨w.heap.size + 1, 6, none⟩ (.int .i64 cp) := ⟨_, rfl⟩
  have g7 : Gs w rb #[.string nm, .string tn, .int .i64 pr, .int .i64 dl, .slice a ds.length c, .int .i64 bs, .int .i64 cp, .int .i64 0, .int .i64 0, .string ⟨#[]⟩, .int .i64 0] U7 l7 e7 := by rw [hU]; exact GG.out.set hrb 6 _
  have KU7 := Lib.hid (show ∀ k, w.heap.size + 2 ≤ k → k < W5.heap.size → U7.heap[k]? = W5.heap[k]? from fun k hk hk5 => by rw [hU]; exact (heap_setCell_other W7 ⟨w.heap.size + 1, 6, none⟩ k _ (by show k ≠ w.heap.size + 1; omega)).trans (K7.out k hk hk5))
  have sz7 := Lib.hid (show W5.heap.size ≤ U7.heap.size by rw [hU]; have := sz6.out; have := hA'.size; simp [World.setCell]; omega)
  have UH7 := Lib.hid hU
  clear hU hA'
  have G7 := Lib.hid g7
  have HC := Lib.hid (int_r rb l7 e7 U7 G7.out.rd)
  clear g7
  go_wp2_with fail
  rw [← UH7.out]
  clear c0 c1 c2 c3 c4 c5 c6 c7 c8 c9 c10 fz6
  refine HC.out.mono ?_
  rintro e W8 ⟨at', l8, e8, rfl, wf7, hr, hA, hk⟩
  clear HC
  have hk2 := hk
  have hA' := hA.ar
  clear hk
  have g := G7.out.call hrb hA' hr
  obtain ⟨⟨c0, c1, c2, c3, c4, c5, c6, c7, c8, c9, c10⟩, fz⟩ := Sp.eleven g.sb
  have fz7 := fz 7
  clear fz hr hA
  have Hk7 := Lib.hid hk2
  have GG := Lib.hid g
  clear g hk2
  have K8 := Lib.hid (show ∀ k, w.heap.size + 2 ≤ k → k < W5.heap.size → W8.heap[k]? = W5.heap[k]? from fun k hk hk5 => (hA'.block k (Nat.lt_of_lt_of_le hk5 sz7.out) (by omega)).trans (KU7.out k hk hk5))
  obtain ⟨U8, hU⟩ : ∃ U, U = W8.setCell ⟨w.heap.size + 1, 7, none⟩ (.int .i64 at') := ⟨_, rfl⟩
  have g8 : Gs w rb #[.string nm, .string tn, .int .i64 pr, .int .i64 dl, .slice a ds.length c, .int .i64 bs, .int .i64 cp, .int .i64 at', .int .i64 0, .string ⟨#[]⟩, .int .i64 0] U8 l8 e8 := by rw [hU]; exact GG.out.set hrb 7 _
  have KU8 := Lib.hid (show ∀ k, w.heap.size + 2 ≤ k → k < W5.heap.size → U8.heap[k]? = W5.heap[k]? from fun k hk hk5 => by rw [hU]; exact (heap_setCell_other W8 ⟨w.heap.size + 1, 7, none⟩ k _ (by show k ≠ w.heap.size + 1; omega)).trans (K8.out k hk hk5))
  have sz8 := Lib.hid (show W5.heap.size ≤ U8.heap.size by rw [hU]; have := sz7.out; have := hA'.size; simp [World.setCell]; omega)
  have UH8 := Lib.hid hU
  clear hU hA'
  have G8 := Lib.hid g8
  have HC := Lib.hid (int_r rb l8 e8 U8 G8.out.rd)
  clear g8
  go_wp2_with fail
  rw [← UH8.out]
  clear c0 c1 c2 c3 c4 c5 c6 c7 c8 c9 c10 fz7
  refine HC.out.mono ?_
  rintro e W9 ⟨ls, l9, e9, rfl, wf8, hr, hA, hk⟩
  clear HC
  have hk2 := hk
  have hA' := hA.ar
  clear hk
  have g := G8.out.call hrb hA' hr
  obtain ⟨⟨c0, c1, c2, c3, c4, c5, c6, c7, c8, c9, c10⟩, fz⟩ := Sp.eleven g.sb
  have fz8 := fz 8
  clear fz hr hA
  have Hk8 := Lib.hid hk2
  have GG := Lib.hid g
  clear g hk2
  have K9 := Lib.hid (show ∀ k, w.heap.size + 2 ≤ k → k < W5.heap.size → W9.heap[k]? = W5.heap[k]? from fun k hk hk5 => (hA'.block k (Nat.lt_of_lt_of_le hk5 sz8.out) (by omega)).trans (KU8.out k hk hk5))
  obtain ⟨U9, hU⟩ : ∃ U, U = W9.setCell ⟨w.heap.size + 1, 8, none⟩ (.int .i64 ls) := ⟨_, rfl⟩
  have g9 : Gs w rb #[.string nm, .string tn, .int .i64 pr, .int .i64 dl, .slice a ds.length c, .int .i64 bs, .int .i64 cp, .int .i64 at', .int .i64 ls, .string ⟨#[]⟩, .int .i64 0] U9 l9 e9 := by rw [hU]; exact GG.out.set hrb 8 _
  have KU9 := Lib.hid (show ∀ k, w.heap.size + 2 ≤ k → k < W5.heap.size → U9.heap[k]? = W5.heap[k]? from fun k hk hk5 => by rw [hU]; exact (heap_setCell_other W9 ⟨w.heap.size + 1, 8, none⟩ k _ (by show k ≠ w.heap.size + 1; omega)).trans (K9.out k hk hk5))
  have sz9 := Lib.hid (show W5.heap.size ≤ U9.heap.size by rw [hU]; have := sz8.out; have := hA'.size; simp [World.setCell]; omega)
  have UH9 := Lib.hid hU
  clear hU hA'
  have G9 := Lib.hid g9
  have HC := Lib.hid (sptext_r rb l9 e9 U9 G9.out.rd)
  clear g9
  go_wp2_with fail
  rw [← UH9.out]
  clear c0 c1 c2 c3 c4 c5 c6 c7 c8 c9 c10 fz8
  refine HC.out.mono ?_
  rintro e W10 ⟨cr, l10, e10, rfl, hr, hA, hk, -⟩
  clear HC
  have hk2 := hk
  have hA' := hA.ar
  clear hk
  have g := G9.out.call hrb hA' hr
  obtain ⟨⟨c0, c1, c2, c3, c4, c5, c6, c7, c8, c9, c10⟩, fz⟩ := Sp.eleven g.sb
  have fz9 := fz 9
  clear fz hr hA
  have Hk9 := Lib.hid hk2
  have GG := Lib.hid g
  clear g hk2
  have K10 := Lib.hid (show ∀ k, w.heap.size + 2 ≤ k → k < W5.heap.size → W10.heap[k]? = W5.heap[k]? from fun k hk hk5 => (hA'.block k (Nat.lt_of_lt_of_le hk5 sz9.out) (by omega)).trans (KU9.out k hk hk5))
  obtain ⟨U10, hU⟩ : ∃ U, U = W10.setCell ⟨w.heap.size + 1, 9, none⟩ (.string cr) := ⟨_, rfl⟩
  have g10 : Gs w rb #[.string nm, .string tn, .int .i64 pr, .int .i64 dl, .slice a ds.length c, .int .i64 bs, .int .i64 cp, .int .i64 at', .int .i64 ls, .string cr, .int .i64 0] U10 l10 e10 := by rw [hU]; exact GG.out.set hrb 9 _
  have KU10 := Lib.hid (show ∀ k, w.heap.size + 2 ≤ k → k < W5.heap.size → U10.heap[k]? = W5.heap[k]? from fun k hk hk5 => by rw [hU]; exact (heap_setCell_other W10 ⟨w.heap.size + 1, 9, none⟩ k _ (by show k ≠ w.heap.size + 1; omega)).trans (K10.out k hk hk5))
  have sz10 := Lib.hid (show W5.heap.size ≤ U10.heap.size by rw [hU]; have := sz9.out; have := hA'.size; simp [World.setCell]; omega)
  have UH10 := Lib.hid hU
  clear hU hA'
  have G10 := Lib.hid g10
  have HC := Lib.hid (int_r rb l10 e10 U10 G10.out.rd)
  clear g10
  go_wp2_with fail
  rw [← UH10.out]
  clear c0 c1 c2 c3 c4 c5 c6 c7 c8 c9 c10 fz9
  refine HC.out.mono ?_
  rintro e W11 ⟨ct, l11, e11, rfl, wf10, hr, hA, hk⟩
  clear HC
  have hk2 := hk
  have hA' := hA.ar
  clear hk
  have g := G10.out.call hrb hA' hr
  obtain ⟨⟨c0, c1, c2, c3, c4, c5, c6, c7, c8, c9, c10⟩, fz⟩ := Sp.eleven g.sb
  have fz10 := fz 10
  clear fz hr hA
  have Hk10 := Lib.hid hk2
  have GG := Lib.hid g
  clear g hk2
  have K11 := Lib.hid (show ∀ k, w.heap.size + 2 ≤ k → k < W5.heap.size → W11.heap[k]? = W5.heap[k]? from fun k hk hk5 => (hA'.block k (Nat.lt_of_lt_of_le hk5 sz10.out) (by omega)).trans (KU10.out k hk hk5))
  obtain ⟨U11, hU⟩ : ∃ U, U = W11.setCell ⟨w.heap.size + 1, 10, none⟩ (.int .i64 ct) := ⟨_, rfl⟩
  have g11 : Gs w rb #[.string nm, .string tn, .int .i64 pr, .int .i64 dl, .slice a ds.length c, .int .i64 bs, .int .i64 cp, .int .i64 at', .int .i64 ls, .string cr, .int .i64 ct] U11 l11 e11 := by rw [hU]; exact GG.out.set hrb 10 _
  have KU11 := Lib.hid (show ∀ k, w.heap.size + 2 ≤ k → k < W5.heap.size → U11.heap[k]? = W5.heap[k]? from fun k hk hk5 => by rw [hU]; exact (heap_setCell_other W11 ⟨w.heap.size + 1, 10, none⟩ k _ (by show k ≠ w.heap.size + 1; omega)).trans (K11.out k hk hk5))
  have sz11 := Lib.hid (show W5.heap.size ≤ U11.heap.size by rw [hU]; have := sz10.out; have := hA'.size; simp [World.setCell]; omega)
  have UH11 := Lib.hid hU
  clear hU hA'
  have HE := Lib.hid (err_any rb l11 e11 U11 g11.rd)
  have G11 := Lib.hid g11
  clear g11
  go_wp2_with fail
  rw [← UH11.out]
  clear c0 c1 c2 c3 c4 c5 c6 c7 c8 c9 c10 fz10
  refine HE.out.mono ?_
  rintro e W12 ⟨rfl, rfl⟩
  clear HE
  obtain ⟨⟨z0, z1, z2, z3, z4, z5, z6, z7, z8, z9, z10⟩, zf⟩ := Sp.eleven G11.out.rs
  have zf0 := zf 0
  have zf1 := zf 1
  have zf2 := zf 2
  have zf3 := zf 3
  have zf4 := zf 4
  have zf5 := zf 5
  have zf6 := zf 6
  have zf7 := zf 7
  have zf8 := zf 8
  have zf9 := zf 9
  have zf10 := zf 10
  clear zf
  by_cases he : e11 = 0
  · subst he
    obtain ⟨⟨c0, c1, c2, c3, c4, c5, c6, c7, c8, c9, c10⟩, _⟩ := Sp.eleven G11.out.sb
    go_wp2_with fail
    clear z0 z1 z2 z3 z4 z5 z6 z7 z8 z9 z10 zf0 zf1 zf2 zf3 zf4 zf5 zf6 zf7 zf8 zf9 zf10 c0 c1 c2 c3 c4 c5 c6 c7 c8 c9 c10
    obtain ⟨X, hX⟩ : ∃ X, X = setAll w.heap.size 0 U11 [.string nm, .string tn, .int .i64 pr, .int .i64 dl, .slice a ds.length c, .int .i64 bs, .int .i64 cp, .int .i64 at', .int .i64 ls, .string cr, .int .i64 ct] := ⟨_, rfl⟩
    have hX' := hX
    simp only [setAll, Nat.reduceAdd] at hX'
    rw [← hX']
    clear hX'
    obtain ⟨x1, x2, x3, x4⟩ := G11.out.fin hrb [.string nm, .string tn, .int .i64 pr, .int .i64 dl, .slice a ds.length c, .int .i64 bs, .int .i64 cp, .int .i64 at', .int .i64 ls, .string cr, .int .i64 ct] rfl
    rw [← hX] at x1 x2 x3 x4
    clear hX
    obtain ⟨⟨c0, c1, c2, c3, c4, c5, c6, c7, c8, c9, c10⟩, _⟩ := Sp.eleven x1
    refine bodyPost_ret (v := .agg #[.string nm, .string tn, .int .i64 pr, .int .i64 dl, .slice a ds.length c, .int .i64 bs, .int .i64 cp, .int .i64 at', .int .i64 ls, .string cr, .int .i64 ct]) ?_ rfl ?_
    · rw [results_c1 rfl]
      go_simp
    · refine ⟨⟨nm, tn, pr, dl, a, ds.length, c, ds, bs, cp, at', ls, cr, ct⟩, l11, 0, rfl, ⟨wf2, wf3, wf5, wf6, wf7, wf8, wf10⟩, ?_, x2, x3, fun _ => ?_, fun h => absurd rfl h, HD.out.2.2, ?_⟩
      · refine ⟨rfl, HD.out.1.2.1, ?_⟩
        rcases HD.out.2.1 with h0 | ⟨g, cur, rfl, hg, hcur, _⟩
        · exact .inl h0
        · have hgl := lt_of_block hcur
          have h2 := hU4.out
          have e1 : X.heap[g]? = W5.heap[g]? := (x4 g (by omega)).trans (KU11.out g (by omega) hgl)
          rcases HD.out.1.2.2 with h0 | ⟨b, o, h1, h3⟩
          · exact .inl h0
          · obtain ⟨rfl, rfl⟩ : g = b ∧ 0 = o := by simpa using h1
            exact .inr ⟨g, 0, rfl, fun i hi => (World.cell?_of_block (w := W5) (a := ⟨g, 0 + i, none⟩) e1).trans (h3 i hi)⟩
      · obtain ⟨q10, t10⟩ := Hk10.out (by first | rfl | trivial)
        obtain ⟨q9, t9⟩ := Hk9.out q10
        obtain ⟨q8, t8⟩ := Hk8.out q9
        obtain ⟨q7, t7⟩ := Hk7.out q8
        obtain ⟨q6, t6⟩ := Hk6.out q7
        obtain ⟨q5, t5⟩ := Hk5.out q6
        obtain ⟨q4, t4⟩ := Hk4.out q5
        obtain ⟨q3, t3⟩ := Hk3.out q4
        obtain ⟨q2, t2⟩ := Hk2.out q3
        obtain ⟨q1, t1⟩ := Hk1.out q2
        obtain ⟨q0, t0⟩ := Hk0.out q1
        refine ⟨q0, ?_⟩
        rw [t0, t1, t2, t3, t4, t5, t6, t7, t8, t9, t10]
        unfold Sp.specB Sp.headB Sp.tailB Sp.rowB
        simp only [List.append_assoc]
      · rcases HD.out.2.1 with h0 | ⟨g, cur, e, hg, _⟩
        · exact .inl h0
        · exact .inr ⟨g, e, by have := hU4.out; omega⟩
  · have hne : (e11 != 0) = true := by simpa using he
    go_wp2_with fail
    clear z0 z1 z2 z3 z4 z5 z6 z7 z8 z9 z10 zf0 zf1 zf2 zf3 zf4 zf5 zf6 zf7 zf8 zf9 zf10
    obtain ⟨X, hX⟩ : ∃ X, X = setAll w.heap.size 0 U11 [.string ⟨#[]⟩, .string ⟨#[]⟩, .int .i64 0, .int .i64 0, .slice none 0 0, .int .i64 0, .int .i64 0, .int .i64 0, .int .i64 0, .string ⟨#[]⟩, .int .i64 0] := ⟨_, rfl⟩
    have hX' := hX
    simp only [setAll, Nat.reduceAdd] at hX'
    rw [← hX']
    clear hX'
    obtain ⟨x1, x2, x3, x4⟩ := G11.out.fin hrb [.string ⟨#[]⟩, .string ⟨#[]⟩, .int .i64 0, .int .i64 0, .slice none 0 0, .int .i64 0, .int .i64 0, .int .i64 0, .int .i64 0, .string ⟨#[]⟩, .int .i64 0] rfl
    rw [← hX] at x1 x2 x3 x4
    clear hX
    obtain ⟨⟨c0, c1, c2, c3, c4, c5, c6, c7, c8, c9, c10⟩, _⟩ := Sp.eleven x1
    refine bodyPost_ret (v := .agg #[.string ⟨#[]⟩, .string ⟨#[]⟩, .int .i64 0, .int .i64 0, .slice none 0 0, .int .i64 0, .int .i64 0, .int .i64 0, .int .i64 0, .string ⟨#[]⟩, .int .i64 0]) ?_ rfl ?_
    · rw [results_c1 rfl]
      go_simp
    · exact ⟨zsp, l11, e11, rfl, by unfold zsp Sp.Spc.wf Sp.W64; decide, ⟨rfl, fun _ => rfl, .inl rfl⟩, x2, x3, fun h => absurd h he, fun _ => rfl, by decide, .inl rfl⟩
end Go.Proofs.YtcodjknhnhdkfaaGreatDoor.Cm
