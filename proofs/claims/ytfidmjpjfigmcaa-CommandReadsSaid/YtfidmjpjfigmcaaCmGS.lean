
/- rows that are read: Get, S -/
import Derived.Test.YtfidmjpjfigmcaaCm2
import Derived.Test.YtfidmjpjfigmcaaRs
namespace Go.Proofs.Ytfidmjpjfigmcaa.Cm
open Go.RowKit Go.Lib Wn Rf By
set_option linter.unusedVariables false
set_option maxRecDepth 20000
theorem info9 : (Try.prog.info? 9).map (fun i => (i.zero, i.size, i.bytes)) = some (some (.string ⟨#[]⟩), 1, 16) := by kernel_rfl
def RowS (w : World) (B : Nat) (v : Value) (xs : List ByteArray) : Prop := w.ownsRow B 9 1 v xs.length (xs.map Value.string)
/-- what Get answers -/
def GotS (rb m : Nat) (l : List UInt8) (er : Int) (w : World) (e : Ending) (w' : World) : Prop :=
  ∃ (v : Value) (xs : List ByteArray) (l' : List UInt8) (er' : Int), e = .returned v ∧ RowS w' w.heap.size v xs ∧ xs.length ≤ m ∧ Rd w' rb l' er' ∧ Ar rb w w' ∧
    (er' = 0 → er = 0 ∧ l = uvarint xs.length ++ (xs.flatMap textB ++ l')) ∧ (er' ≠ 0 → xs = []) ∧
    ∀ (ys : List ByteArray) t, er = 0 → ys.length ≤ m → (∀ y ∈ ys, ((fun _ => False) : ByteArray → Prop) y) → l = uvarint ys.length ++ (ys.flatMap textB ++ t) → er' = 0
/-- in the midst of it -/
structure GSS (w : World) (rb : Nat) (v : Value) (xs : List ByteArray) (wr : World) : Prop where
  b3 : wr.heap[w.heap.size]? = some (.cells #[.pointer (some ⟨rb, 0, none⟩)] 50 (0, 0))
  b6 : wr.heap[w.heap.size + 1]? = some (.cells #[v] 25 (0, 0))
  row : RowS wr (w.heap.size + 2) v xs
  ar : Ar rb w wr
theorem GSS.at {w : World} {rb : Nat} {v : Value} {xs : List ByteArray} {wr w' : World} (h : GSS w rb v xs wr) (hrb : rb < w.heap.size) (hA : At rb wr w') : GSS w rb v xs w' := by
  refine ⟨(hA.block _ (by omega)).trans h.b3, (hA.block _ (by omega)).trans h.b6, ?_, h.ar.trans hA.ar⟩
  obtain ⟨h1, h2⟩ := h.row
  refine ⟨h1, ?_⟩
  rcases h2 with q | ⟨g, cap, cur, q1, q2, q3, q4⟩
  · exact .inl q
  · exact .inr ⟨g, cap, cur, q1, q2, (hA.block g (by omega)).trans q3, q4⟩
/-- what one append and the store behind it do -/
theorem GSS.step {w : World} {rb : Nat} {v v' : Value} {xs ys : List ByteArray} {wr w0 w1 : World} (h : GSS w rb v xs wr) (hrb : rb < w.heap.size)
    (hown : w1.ownsRow (w.heap.size + 2) 9 1 v' ys.length (ys.map Value.string)) (h0 : Below wr.heap.size wr w0) (hg : w0.grownBy w1 v.ownBlock) {l : List UInt8} {e : Int} (hr : Rd wr rb l e) :
    GSS w rb v' ys (w1.setCell ⟨w.heap.size + 1, 0, none⟩ v') ∧ Rd (w1.setCell ⟨w.heap.size + 1, 0, none⟩ v') rb l e ∧ w1.cell? ⟨w.heap.size + 1, 0, none⟩ = some v ∧ w1.frozen? ⟨w.heap.size + 1, 0, none⟩ = false := by
  have hsz : w.heap.size + 1 < wr.heap.size := lt_of_block h.b6
  have s0 := h0.size
  have s1 := hg.size
  have hne : ∀ k, k < w.heap.size + 2 → some k ≠ v.ownBlock := fun k hk e => by have := (h.row.lt k e.symm).1; omega
  have hne' : ∀ k, k < w.heap.size + 2 → some k ≠ v'.ownBlock := fun k hk e => by have := (hown.lt k e.symm).1; omega
  have hold : ∀ k, k < wr.heap.size → some k ≠ v.ownBlock → w1.heap[k]? = wr.heap[k]? := fun k hk hn => (hg.block k (by omega) hn).trans (h0.block k hk)
  have b3 : w1.heap[w.heap.size]? = some (.cells #[.pointer (some ⟨rb, 0, none⟩)] 50 (0, 0)) := (hold _ (by omega) (hne _ (by omega))).trans h.b3
  have b6 : w1.heap[w.heap.size + 1]? = some (.cells #[v] 25 (0, 0)) := (hold _ (by omega) (hne _ (by omega))).trans h.b6
  have hc : ∀ k, k ≠ w.heap.size + 1 → (w1.setCell ⟨w.heap.size + 1, 0, none⟩ v').heap[k]? = w1.heap[k]? := fun k hk => Below.heap_setCell w1 ⟨w.heap.size + 1, 0, none⟩ v' k hk
  refine ⟨⟨(hc _ (by omega)).trans b3, one_setCell b6, ?_, ?_⟩, ?_, cell_of_one b6, free_of_one b6⟩
  · exact ownsRow_setCell_other hown (a := ⟨w.heap.size + 1, 0, none⟩) (fun e => hne' (w.heap.size + 1) (by omega) e.symm) v'
  · refine ⟨hg.os.trans (h0.os.trans h.ar.os), hg.tape.trans (h0.tape.trans h.ar.tape), hg.output.trans (h0.output.trans h.ar.output), by have := h.ar.size; simp [World.setCell]; omega, fun k hk hn => ?_⟩
    rw [hc k (by omega), hold k (by omega) (hne k (by omega))]
    exact h.ar.block k hk hn
  · refine hr.kept ((hc rb (by omega)).trans (hold rb (by omega) (hne rb (by omega)))) (fun g cur hg' => ?_)
    have hgl := lt_of_block hg'
    have h6 : g ≠ w.heap.size + 1 := by
      rintro rfl
      rw [h.b6] at hg'
      simp at hg'
    rw [hc g h6]
    refine hold g hgl (fun e => ?_)
    rcases h.row.2 with ⟨rfl, _⟩ | ⟨g', cap, cur', rfl, _, hgg, _⟩
    · simp [Value.ownBlock] at e
    · simp [Value.ownBlock] at e
      subst e
      rw [hgg] at hg'
      simp at hg'
set_option maxHeartbeats 2000000 in
theorem get_s (rb m : Nat) (l : List UInt8) (er : Int) (w : World) (h : Rd w rb l er) (hm : m ≤ 1000) :
    Calls Try.prog 53 #[.pointer (some ⟨rb, 0, none⟩), .int .i64 m, .func (.func 52) #[] #[]] w (GotS rb m l er w) := by
  obtain ⟨i0, hi, hz0, hz1, hz2⟩ := info_parts info9
  have hmf : ∀ (fn : Fn) (first cap : Array Value) (w : World), (Instr.makeFunc fn first cap).run Try.prog w = .ok (.func fn first cap) w := fun _ _ _ _ => rfl
  obtain ⟨V, hV⟩ : ∃ V, V = (w.alloc (.cells #[.pointer (some ⟨rb, 0, none⟩)] 50)).alloc (.cells #[.slice none 0 0] 25) := ⟨_, rfl⟩
  have hb : Below w.heap.size w V := by rw [hV]; exact ((Below.refl _ _).alloc (Nat.le_refl _) _).alloc (by simp) _
  have hrb := h.lt
  have g0 : GSS w rb (.slice none 0 0) [] V := by
    refine ⟨?_, ?_, World.ownsRow_nil _ _ _ _, Ar.ofBelow hb⟩
    · rw [hV]; exact ((Below.refl (w.heap.size + 1) _).alloc (by simp) _ |>.block _ (by omega)).trans (heap_alloc_new w _)
    · rw [hV]
      have := heap_alloc_new (w.alloc (.cells #[.pointer (some ⟨rb, 0, none⟩)] 50)) (.cells #[.slice none 0 0] 25)
      rwa [World.size_alloc] at this
  have hR := h.below hb
  have HC := Lib.hid (count_r rb l er m V hR (by omega))
  have HG := Lib.hid (And.intro g0 hrb)
  clear hR hb g0 h
  go_enter_defers Try.func53, Try.ntmps53
  go_wp2_with fail
  rw [← hV]
  have HV := Lib.hid hV
  clear hV
  refine HC.out.mono ?_
  rintro e w1 ⟨n, l1, er1, rfl, hn, hr1, hA1, hb1, hz1', hf1⟩
  have g1 := HG.out.1.at hrb hA1
  have H1 := Lib.hid (And.intro hb1 (And.intro hz1' hf1))
  clear hb1 hz1' hf1 hA1 HC
  go_wp2_with fail
  go_loopw [12] (fun s12 wr => ∃ (v : Value) (xs : List ByteArray) (lk : List UInt8), s12 = .int .i64 xs.length ∧ xs.length ≤ n ∧ GSS w rb v xs wr ∧ Rd wr rb lk er1 ∧ l1 = xs.flatMap textB ++ lk) (fun s12 _ => n - (RowKit.intOf s12).toNat)
  case atStart => exact ⟨_, [], l1, rfl, Nat.zero_le _, g1, hr1, rfl⟩
  case round =>
    obtain ⟨v, xs, lk, rfl, hk, gk, hrk, hlk⟩ := hrel
    have c3 := cell_of_one gk.b3
    have c6 := cell_of_one gk.b6
    have f6 := free_of_one gk.b6
    have hszr : w.heap.size + 1 < wr.heap.size := lt_of_block gk.b6
    have HL := Lib.hid hlk
    clear hlk g1 hr1
    by_cases hlt : xs.length < n
    · have he1 : er1 = 0 := Classical.byContradiction fun q => by have := H1.out.2.1 q; omega
      subst he1
      go_wp2_with fail
      refine (sptext_r rb lk 0 wr hrk).mono ?_
      rintro e w2 ⟨x, l2, er2, rfl, hr2, hA2, hb2, hf2⟩
      have g2 := gk.at hrb hA2
      have c3' := cell_of_one g2.b3
      have c6' := cell_of_one g2.b6
      have f6' := free_of_one g2.b6
      have HE := Lib.hid (err_any rb l2 er2 w2 hr2)
      have H2 := Lib.hid (And.intro hb2 hf2)
      clear hb2 hf2 hA2 c3 c6 f6 gk hrk hszr
      go_wp2_with fail
      refine HE.out.mono ?_
      rintro e w3 ⟨rfl, rfl⟩
      clear HE
      by_cases he2 : er2 = 0
      · subst he2
        have hlen : xs.length ≤ 1000 := by omega
        have hrow : w2.ownsRow (w.heap.size + 2) 9 1 v xs.length (xs.map Value.string) := g2.row
        have hsz2 : w.heap.size + 1 < w2.heap.size := lt_of_block g2.b6
        go_wp2_with (at_builtin; refine wpList_append_own _ rfl _ _ 25 rfl (w.heap.size + 2) 9 i0 (.string ⟨#[]⟩) 1 16 Try.underlying25 hi hz0 hz1 hz2 rfl (by decide) _ _ _ rfl (hrow.alloc _) ⟨w2.heap.size, 0, none⟩ 1 1 [.string x] rfl rfl ?c1 ?c2 ?c3 ?c4 ?c5 ?_)
        case c1 =>
          intro j u hj
          match j, hj with
          | 0, hj => simp at hj; subst hj; simp [Addr.add]
        case c2 => intro u hu; simp at hu; subst hu; rfl
        case c3 => unfold maxLen; omega
        case c4 => first | omega | (simp; omega)
        case c5 => first | omega | (simp; omega)
        · intro v' w4 hown' hgrow _
          obtain ⟨ao, cp, rfl⟩ := own_shape hown'
          have hown2 : w4.ownsRow (w.heap.size + 2) 9 1 (.slice ao (xs.length + 1) cp) (xs ++ [x]).length ((xs ++ [x]).map Value.string) := by
            rw [List.length_append, List.map_append]; exact hown'
          obtain ⟨g5, r5, c5, f5⟩ := g2.step hrb hown2 ((Below.refl _ _).alloc (Nat.le_refl _) _) hgrow hr2
          have HG5 := Lib.hid (And.intro g5 r5)
          clear hown' hown2 hgrow g5 r5 hrow g2 hr2 c3' c6' f6' hsz2
          go_wp2_with fail
          go_roundw
          case rel => exact ⟨_, xs ++ [x], l2, by simp, by simp; omega, HG5.out.1, HG5.out.2, by rw [List.flatMap_append, List.append_assoc, HL.out, (H2.out.1 (by first | rfl | trivial)).2]; simp⟩
          case measure => simp [RowKit.intOf]; omega
      · have HW : GotS rb m l er w (.returned (.slice none 0 0)) (w2.setCell ⟨w.heap.size + 1, 0, none⟩ (.slice none 0 0)) := by
          obtain ⟨g5, r5, c5, f5⟩ := g2.step (ys := []) hrb (World.ownsRow_nil _ _ _ _) (Below.refl _ _) ⟨rfl, rfl, rfl, Nat.le_refl _, fun _ _ _ => rfl⟩ hr2
          refine ⟨_, [], l2, er2, rfl, World.ownsRow_nil _ _ _ _, Nat.zero_le _, r5, g5.ar, fun q => absurd q he2, fun _ => rfl, ?_⟩
          intro ys t h0 hys hok hl
          exfalso
          have e1 := (H1.out.1 trivial).2
          rw [hl] at e1
          obtain ⟨e2, e3⟩ := uvr_inj _ _ _ _ e1
          rw [HL.out] at e3
          have e4 := flat_cut txr_inj xs ys lk t (by omega) e3.symm
          obtain ⟨y, r, hy⟩ : ∃ y r, ys.drop xs.length = y :: r := by
            cases hd : ys.drop xs.length with
            | nil => rw [List.drop_eq_nil_iff] at hd; omega
            | cons y r => exact ⟨y, r, rfl⟩
          rw [hy, List.flatMap_cons, List.append_assoc] at e4
          exact he2 (H2.out.2 y _ trivial (hok y (by have : y ∈ ys.drop xs.length := by rw [hy]; simp
                                                     exact List.mem_of_mem_drop this)) e4)
        have HW' := Lib.hid HW
        have hne : (er2 != 0) = true := by simpa using he2
        have c5 : (w2.setCell ⟨w.heap.size + 1, 0, none⟩ (.slice none 0 0)).cell? ⟨w.heap.size + 1, 0, none⟩ = some (.slice none 0 0) := cell_of_one (one_setCell g2.b6)
        clear HW g2 hr2 c3'
        go_wp2_with fail
        refine leaves_cons (f := 56) (args := #[.pointer (some ⟨w.heap.size, 0, none⟩), .pointer (some ⟨w.heap.size + 1, 0, none⟩)]) (by simp) (by simp [go_sem]) ?_
        refine (getSF_idle ⟨w.heap.size, 0, none⟩ ⟨w.heap.size + 1, 0, none⟩ _).mono ?_
        rintro e u' w'' ⟨rfl, rfl, rfl⟩
        simp [Leaves, settle, results, Try.results53, go_sem, c5]
        exact HW'.out
    · have hkn : xs.length = n := by omega
      have hnn : ¬ (xs.length : Int) < n := by omega
      have HW : GotS rb m l er w (.returned v) (wr.setCell ⟨w.heap.size + 1, 0, none⟩ v) := by
        obtain ⟨g5, r5, c5, f5⟩ := gk.step (ys := xs) hrb gk.row (Below.refl _ _) ⟨rfl, rfl, rfl, Nat.le_refl _, fun _ _ _ => rfl⟩ hrk
        obtain ⟨q1, q2⟩ := g5.row
        refine ⟨_, xs, lk, er1, rfl, ⟨q1, ?_⟩, by omega, r5, g5.ar, fun q => ?_, fun q => ?_, ?_⟩
        · rcases q2 with q | ⟨g, cap, cur, q1, q2, q3⟩
          · exact .inl q
          · exact .inr ⟨g, cap, cur, q1, by omega, q3⟩
        · obtain ⟨e0, e1⟩ := H1.out.1 q
          exact ⟨e0, by rw [hkn, ← HL.out]; exact e1⟩
        · have := H1.out.2.1 q
          exact List.length_eq_zero_iff.1 (by omega)
        · intro ys t h0 hys hok hl
          exact H1.out.2.2 _ _ h0 hys hl
      obtain ⟨ao, cp, hao⟩ := own_shape gk.row
      subst hao
      have c5 : (wr.setCell ⟨w.heap.size + 1, 0, none⟩ (.slice ao xs.length cp)).cell? ⟨w.heap.size + 1, 0, none⟩ = some (.slice ao xs.length cp) := cell_of_one (one_setCell gk.b6)
      rw [hkn] at HW c5
      have HW' := Lib.hid HW
      clear HW gk hrk
      go_wp2_with fail
      refine leaves_cons (f := 56) (args := #[.pointer (some ⟨w.heap.size, 0, none⟩), .pointer (some ⟨w.heap.size + 1, 0, none⟩)]) (by simp) (by simp [go_sem]) ?_
      refine (getSF_idle ⟨w.heap.size, 0, none⟩ ⟨w.heap.size + 1, 0, none⟩ _).mono ?_
      rintro e u' w'' ⟨rfl, rfl, rfl⟩
      simp [Leaves, settle, results, Try.results53, go_sem, c5]
      exact HW'.out
end Go.Proofs.Ytfidmjpjfigmcaa.Cm
