
/- quotas: Take -/
import Derived.Test.YthbpgdeaaadlbaaQt2
namespace Go.Proofs.Ythbpgdeaaadlbaa.Qt
open Go.RowKit Go.Lib Go.Maps Go.WideElems Go.ChangeMaps Go.MapKept Hp
set_option linter.unusedVariables false
set_option linter.unusedSectionVars false
set_option maxRecDepth 20000

/-- a ledger of which at most c have some -/
def Lv (S : Nat → Prop) (w : World) (lb : Nat) (ea : Int) (nm c : Nat) (M H : K → Option Int) : Prop := ∃ mo ho nh, Lq S w lb ea mo ho nm nh M H ∧ nh ≤ c
/-- a ledger has changed, and nothing else -/
def To (S : Nat → Prop) (w w' : World) (lb : Nat) (ea : Int) (nm c : Nat) (M H : K → Option Int) : Prop :=
  ∃ S', Lv S' w' lb ea nm c M H ∧ Fr S w w' ∧ ∀ k, S' k → S k ∨ w.heap.size ≤ k
section
variable {S : Nat → Prop} {w : World} {lb : Nat} {ea : Int} {mo ho : Option Nat} {nm nh c : Nat} {M H : K → Option Int}
theorem Lv.kept {Y : World} (h : Lv S w lb ea nm c M H) (hs : w.heap.size ≤ Y.heap.size) (e : ∀ k, S k → Y.heap[k]? = w.heap[k]?) : Lv S Y lb ea nm c M H := by
  obtain ⟨mo, ho, nh, h1, h2⟩ := h; exact ⟨mo, ho, nh, h1.kept hs e, h2⟩
theorem Lv.below {Y : World} {B : Nat} (h : Lv S w lb ea nm c M H) (b : Below B w Y) (hB : w.heap.size ≤ B) : Lv S Y lb ea nm c M H := by
  obtain ⟨mo, ho, nh, h1, h2⟩ := h; exact ⟨mo, ho, nh, h1.below b hB, h2⟩
theorem Lv.fr {S' : Nat → Prop} {Y : World} (h : Lv S w lb ea nm c M H) (e : Fr S' w Y) (hd : ∀ k, S k → ¬ S' k) : Lv S Y lb ea nm c M H := by
  obtain ⟨mo, ho, nh, h1, h2⟩ := h; exact ⟨mo, ho, nh, h1.fr e hd, h2⟩
theorem Lv.size (h : Lv S w lb ea nm c M H) : ∀ k, S k → k < w.heap.size := by obtain ⟨mo, ho, nh, h1, h2⟩ := h; exact h1.size
theorem Lv.own (h : Lv S w lb ea nm c M H) : S lb := by obtain ⟨mo, ho, nh, h1, h2⟩ := h; exact h1.own
theorem Lv.may_bd (h : Lv S w lb ea nm c M H) (k : K) : 0 ≤ may ea M k ∧ may ea M k ≤ 128 := by obtain ⟨mo, ho, nh, h1, h2⟩ := h; exact h1.may_bd k
theorem Lv.has_bd (h : Lv S w lb ea nm c M H) (k : K) : 0 ≤ Qt.has H k ∧ Qt.has H k ≤ 128 ∧ (0 < Qt.has H k → (H k).isSome = true) ∧ (Qt.has H k = 0 → H k = none) := by obtain ⟨mo, ho, nh, h1, h2⟩ := h; exact h1.has_bd k
theorem Lv.Has (h : Lv S w lb ea nm c M H) (k : K) (hk : wk k) : Calls Try.prog 13 #[.pointer (some ⟨lb, 0, none⟩), .string ⟨k.toArray⟩] w fun e w' => e = .returned (.int .i64 (has H k)) ∧ w' = w := by
  obtain ⟨mo, ho, nh, h1, h2⟩ := h; exact Has_any h1 k hk
theorem Lv.May (h : Lv S w lb ea nm c M H) (k : K) (hk : wk k) : Calls Try.prog 14 #[.pointer (some ⟨lb, 0, none⟩), .string ⟨k.toArray⟩] w fun e w' => e = .returned (.int .i64 (may ea M k)) ∧ w' = w := by
  obtain ⟨mo, ho, nh, h1, h2⟩ := h; exact May_any h1 k hk
/-- the world in which a ledger's map was made -/
def mkd (w : World) (lb i : Nat) : World := (w.alloc (.map #[] 0)).setCell ⟨lb, i, none⟩ (.map (some w.heap.size))
theorem mk_fr (h : Lq S w lb ea mo ho nm nh M H) (i : Nat) : Fr S w (mkd w lb i) := by
  refine ⟨rfl, rfl, rfl, by simp [mkd], fun k hk hn => ?_⟩
  rw [mkd, heap_setCell_other _ _ _ _ (fun e => hn (by rw [e]; exact h.own))]
  exact Below.heap_alloc w _ k hk
theorem mk_new (w : World) (lb i : Nat) (h : lb < w.heap.size) : (mkd w lb i).heap[w.heap.size]? = some (.map #[] 0) := by
  rw [mkd, heap_setCell_other _ _ _ _ (show w.heap.size ≠ lb by omega)]
  exact (MapKept.heap_alloc w _).1
theorem mk_row (h : Lq S w lb ea mo ho nm nh M H) (i : Nat) : (mkd w lb i).heap[lb]? = some (.cells ((#[.int .i64 ea, .map mo, .map ho] : Array Value).setIfInBounds i (.map (some w.heap.size))) 46 (0, 0)) := by
  have hl := h.size lb h.own
  have e : (w.alloc (.map #[] 0)).heap[lb]? = _ := (Below.heap_alloc w _ lb hl).trans h.row
  unfold mkd
  exact Lib.heap_setCell_same e _
theorem Lq.newH (h : Lq S w lb ea mo none nm nh M H) : Lq (fun k => S k ∨ k = w.heap.size) (mkd w lb 2) lb ea mo (some w.heap.size) nm 0 M H := by
  have hl := h.size lb h.own
  have hf := mk_fr h 2
  have hH : H = fun _ => none := by funext k; exact h.has.2 k
  have hk : ∀ k, S k → k ≠ lb → (mkd w lb 2).heap[k]? = w.heap[k]? := fun k hk e => by
    unfold mkd
    rw [heap_setCell_other _ _ _ _ e]
    exact Below.heap_alloc w _ k (h.size k hk)
  refine ⟨mk_row h 2, h.most.kept fun b hb => hk b (h.ownM b hb) (fun e => ?_), ?_, .inl h.own, fun b hb => .inl (h.ownM b hb), fun b hb => .inr (Option.some.inj hb).symm, fun b hb e => ?_, fun k hk => ?_, h.okE, h.okM, h.okH⟩
  · have := h.most; rw [hb] at this
    exact absurd e (Mv.Mp.ne this h.row)
  · rw [hH]
    exact Mv.Mp.kept (made w) ((mk_new w lb 2 hl).trans (MapKept.heap_alloc w _).1.symm)
  · have := h.size b (h.ownM b hb); have := Option.some.inj e; omega
  · rcases hk with hk | rfl
    · exact Nat.lt_of_lt_of_le (h.size k hk) hf.size
    · simp [mkd]
theorem Lq.newM (h : Lq S w lb ea none ho nm nh M H) : Lq (fun k => S k ∨ k = w.heap.size) (mkd w lb 1) lb ea (some w.heap.size) ho 0 nh M H := by
  have hl := h.size lb h.own
  have hf := mk_fr h 1
  have hM : M = fun _ => none := by funext k; exact h.most.2 k
  have hk : ∀ k, S k → k ≠ lb → (mkd w lb 1).heap[k]? = w.heap[k]? := fun k hk e => by
    unfold mkd
    rw [heap_setCell_other _ _ _ _ e]
    exact Below.heap_alloc w _ k (h.size k hk)
  refine ⟨mk_row h 1, ?_, h.has.kept fun b hb => hk b (h.ownH b hb) (fun e => ?_), .inl h.own, fun b hb => .inr (Option.some.inj hb).symm, fun b hb => .inl (h.ownH b hb), fun b hb e => ?_, fun k hk => ?_, h.okE, h.okM, h.okH⟩
  · rw [hM]
    exact Mv.Mp.kept (made w) ((mk_new w lb 1 hl).trans (MapKept.heap_alloc w _).1.symm)
  · have := h.has; rw [hb] at this
    exact absurd e (Mv.Mp.ne this h.row)
  · have := h.size b (h.ownH b e); have := Option.some.inj hb; omega
  · rcases hk with hk | rfl
    · exact Nat.lt_of_lt_of_le (h.size k hk) hf.size
    · simp [mkd]
/-- what one has is stored anew -/
theorem Lq.putH {b : Nat} (h : Lq S w lb ea mo (some b) nm nh M H) (hn : nh < maxLen) {k : K} (hk : wk k) {x : Int} (hx : 1 ≤ x ∧ x ≤ 128) :
    ∃ w2, (Instr.mapUpdate 29 (.map (some b)) (.string ⟨k.toArray⟩) (.int .i64 x)).run Try.prog w = .ok () w2 ∧ Lq S w2 lb ea mo (some b) nm (if (H k).isSome then nh else nh + 1) M (Hp.upd H k x) ∧ Fr S w w2 := by
  obtain ⟨w2, h1, h2, h3, h4⟩ := put h.has hn hk x
  have hb := h.ownH b rfl
  have hf : Fr S w w2 := Fr.grown h3 (.inl hb)
  have hk2 : ∀ k, S k → k ≠ b → w2.heap[k]? = w.heap[k]? := fun k hk e => h3.block k (h.size k hk) (fun e2 => e (Option.some.inj e2))
  refine ⟨w2, h1, ⟨(hk2 lb h.own (fun e => Mv.Mp.ne h.has h.row e.symm)).trans h.row, h.most.kept fun b2 hb2 => hk2 b2 (h.ownM b2 hb2) (fun e => h.apart b2 hb2 (by rw [e])), h2, h.own, h.ownM, h.ownH, h.apart, fun k hk => Nat.lt_of_lt_of_le (h.size k hk) hf.size, h.okE, h.okM, fun k' n e => ?_⟩, hf⟩
  unfold Hp.upd at e
  by_cases e2 : k' = k
  · rw [if_pos e2] at e
    cases e; exact hx
  · rw [if_neg e2] at e
    exact h.okH k' n e
/-- how many one may have is stored -/
theorem Lq.putM {b : Nat} (h : Lq S w lb ea (some b) ho nm nh M H) (hn : nm < maxLen) {k : K} (hk : wk k) {x : Int} (hx : 0 ≤ x ∧ x ≤ 128) :
    ∃ w2, (Instr.mapUpdate 29 (.map (some b)) (.string ⟨k.toArray⟩) (.int .i64 x)).run Try.prog w = .ok () w2 ∧ Lq S w2 lb ea (some b) ho (if (M k).isSome then nm else nm + 1) nh (Hp.upd M k x) H ∧ Fr S w w2 := by
  obtain ⟨w2, h1, h2, h3, h4⟩ := put h.most hn hk x
  have hb := h.ownM b rfl
  have hf : Fr S w w2 := Fr.grown h3 (.inl hb)
  have hk2 : ∀ k, S k → k ≠ b → w2.heap[k]? = w.heap[k]? := fun k hk e => h3.block k (h.size k hk) (fun e2 => e (Option.some.inj e2))
  refine ⟨w2, h1, ⟨(hk2 lb h.own (fun e => Mv.Mp.ne h.most h.row e.symm)).trans h.row, h2, h.has.kept fun b2 hb2 => hk2 b2 (h.ownH b2 hb2) (fun e => h.apart b rfl (by rw [hb2, e])), h.own, h.ownM, h.ownH, h.apart, fun k hk => Nat.lt_of_lt_of_le (h.size k hk) hf.size, h.okE, fun k' n e => ?_, h.okH⟩, hf⟩
  unfold Hp.upd at e
  by_cases e2 : k' = k
  · rw [if_pos e2] at e
    cases e; exact hx
  · rw [if_neg e2] at e
    exact h.okM k' n e
/-- one has none any more -/
theorem Lq.dropH {b : Nat} (h : Lq S w lb ea mo (some b) nm nh M H) {k : K} (hk : wk k) (hh : (H k).isSome = true) (ty : TypeId) :
    ∃ w2, (Builtin.delete_ #[29, 9] ty #[.map (some b), .string ⟨k.toArray⟩]).run Try.prog w = .ok (.tuple #[]) w2 ∧ Lq S w2 lb ea mo (some b) nm (nh - 1) M (Hp.del H k) ∧ Fr S w w2 := by
  obtain ⟨w2, h1, h2, h3⟩ := drop h.has hk hh ty
  have hb := h.ownH b rfl
  have hf : Fr S w w2 := Fr.grown h3 (.inl hb)
  have hk2 : ∀ k, S k → k ≠ b → w2.heap[k]? = w.heap[k]? := fun k hk e => h3.block k (h.size k hk) (fun e2 => e (Option.some.inj e2))
  refine ⟨w2, h1, ⟨(hk2 lb h.own (fun e => Mv.Mp.ne h.has h.row e.symm)).trans h.row, h.most.kept fun b2 hb2 => hk2 b2 (h.ownM b2 hb2) (fun e => h.apart b2 hb2 (by rw [e])), h2, h.own, h.ownM, h.ownH, h.apart, fun k hk => Nat.lt_of_lt_of_le (h.size k hk) hf.size, h.okE, h.okM, fun k' n e => ?_⟩, hf⟩
  unfold Hp.del at e
  by_cases e2 : k' = k
  · rw [if_pos e2] at e; cases e
  · rw [if_neg e2] at e
    exact h.okH k' n e
theorem To.refl (h : Lv S w lb ea nm c M H) : To S w w lb ea nm c M H := ⟨S, h, Fr.refl _ _, fun _ h => .inl h⟩
theorem Take_no (h : Lv S w lb ea nm c M H) (k : K) (hk : wk k) (hq : may ea M k ≤ has H k) : Calls Try.prog 10 #[.pointer (some ⟨lb, 0, none⟩), .string ⟨k.toArray⟩] w fun e w' => e = .returned (.int .i64 14) ∧ w' = w := by
  have h1 := h.Has k hk
  have h2 := h.May k hk
  clear h
  generalize has H k = x at *
  generalize may ea M k = y at *
  go_enter Try.func10, Try.ntmps10
  go_wp2_with fail
  refine h1.mono ?_
  rintro e w1 ⟨rfl, rfl⟩
  go_wp2_with fail
  refine h2.mono ?_
  rintro e w1 ⟨rfl, rfl⟩
  go_wp2_with fail
  go_ret
  exact ⟨rfl, rfl⟩
theorem Take_ok (h : Lv S w lb ea nm c M H) (k : K) (hk : wk k) (hq : has H k < may ea M k) (hc : c ≤ 1000000) : Calls Try.prog 10 #[.pointer (some ⟨lb, 0, none⟩), .string ⟨k.toArray⟩] w fun e w' => e = .returned (.int .i64 0) ∧
    To S w w' lb ea nm (c + 1) M (Hp.upd H k (has H k + 1)) := by
  have h1 := h.Has k hk
  have h2 := h.May k hk
  have hb := h.has_bd k
  have hm := h.may_bd k
  obtain ⟨mo, ho, nh, q, hn⟩ := h
  have c2 := q.cells.2.2
  have f2 := q.frozen 2
  cases ho with
  | none =>
    have qn := q.newH
    obtain ⟨w2, r2, q2, fr2⟩ := qn.putH (by unfold maxLen; omega) hk (x := has H k + 1) (by omega)
    have l2 : (Instr.lookup 29 (.map (some w.heap.size)) (.string ⟨k.toArray⟩) false).run Try.prog (mkd w lb 2) = .ok (.int .i64 (has H k)) (mkd w lb 2) := qn.has.look1 (fun _ _ => rfl) hk
    have fr1 := mk_fr q 2
    have c3 := qn.cells.2.2
    have HR := Lib.hid (And.intro q2 (And.intro fr1 (And.intro fr2 (And.intro hn hb))))
    have lbl := q.size lb q.own
    have cn : (w.alloc (.map #[] 0)).cell? ⟨lb, 2, none⟩ = some (.map none) := by
      have := Below.heap_alloc w (.map #[] 0) lb lbl
      unfold World.cell? at c2 ⊢; rw [this]; exact c2
    have fn : (w.alloc (.map #[] 0)).frozen? ⟨lb, 2, none⟩ = false := by
      have := Below.heap_alloc w (.map #[] 0) lb lbl
      unfold World.frozen? at f2 ⊢; rw [this]; exact f2
    unfold mkd at r2 l2 c3
    have b1 := hb.1
    have b2 := hb.2.1
    clear q q2 qn fr1 fr2 hn hb hm lbl
    generalize has H k = x at *
    generalize may ea M k = y at *
    have hw : wrap64 (x + 1) = x + 1 := by unfold wrap64; omega
    have he := eql_none
    have hmk := make_map
    go_enter Try.func10, Try.ntmps10
    go_wp2_with fail
    refine h1.mono ?_
    rintro e w1 ⟨rfl, rfl⟩
    go_wp2_with fail
    refine h2.mono ?_
    rintro e w1 ⟨rfl, rfl⟩
    go_wp2_with fail
    go_ret
    refine ⟨rfl, _, ⟨_, _, _, HR.out.1, ?_⟩, HR.out.2.1.trans HR.out.2.2.1 ?_, ?_⟩
    · split <;> omega
    · rintro y (hy | rfl)
      · exact .inl hy
      · exact .inr (Nat.le_refl _)
    · rintro y (hy | rfl)
      · exact .inl hy
      · exact .inr (Nat.le_refl _)
  | some b =>
    obtain ⟨w2, r2, q2, fr2⟩ := q.putH (by unfold maxLen; omega) hk (x := has H k + 1) (by omega)
    have l2 : (Instr.lookup 29 (.map (some b)) (.string ⟨k.toArray⟩) false).run Try.prog w = .ok (.int .i64 (has H k)) w := q.has.look1 (fun _ _ => rfl) hk
    have HR := Lib.hid (And.intro q2 (And.intro fr2 hn))
    have b1 := hb.1
    have b2 := hb.2.1
    clear q q2 fr2 hn hb hm
    generalize has H k = x at *
    generalize may ea M k = y at *
    have hw : wrap64 (x + 1) = x + 1 := by unfold wrap64; omega
    have he := eql_some b
    go_enter Try.func10, Try.ntmps10
    go_wp2_with fail
    refine h1.mono ?_
    rintro e w1 ⟨rfl, rfl⟩
    go_wp2_with fail
    refine h2.mono ?_
    rintro e w1 ⟨rfl, rfl⟩
    go_wp2_with fail
    go_ret
    refine ⟨rfl, _, ⟨_, _, _, HR.out.1, ?_⟩, HR.out.2.1, fun _ h => .inl h⟩
    have := HR.out.2.2
    split <;> omega
end
end Go.Proofs.Ythbpgdeaaadlbaa.Qt
