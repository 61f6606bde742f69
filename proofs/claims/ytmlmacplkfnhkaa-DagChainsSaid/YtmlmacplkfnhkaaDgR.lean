
/- dag: a tree of at most one key -/
import Derived.Test.YtmlmacplkfnhkaaDgQA
import Derived.Test.YtmlmacplkfnhkaaMx
namespace Go.Proofs.Ytmlmacplkfnhkaa.DgA
open Go.RowKit Go.Lib Hp Mv Dg Ht Ao
set_option linter.unusedVariables false
set_option maxRecDepth 20000
attribute [local go_sem] Oper.semAt_some
/-- a tree in its cell -/
structure Tr (B : Nat) (w : World) (tb : Nat) (v : Value) (l : List Int) : Prop where
  box : w.heap[tb]? = some (.cells #[v] 82 (0, 0))
  own : w.ownsRow B 3 1 v l.length (l.map kv)
theorem Tr.ne {B : Nat} {w : World} {tb : Nat} {v : Value} {l : List Int} (h : Tr B w tb v l) : v.ownBlock ≠ some tb := fun e => by
  obtain ⟨h0, h1 | ⟨g, cap, cur, e2, hB, h2, _⟩⟩ := h.own
  · rw [h1.1] at e; cases e
  · rw [e2] at e; cases e
    have h3 := h2.symm.trans h.box
    exact absurd (Obj.cells.inj (Option.some.inj h3)).2.1 (by decide)
theorem Tr.kept {B : Nat} {w Y : World} {tb : Nat} {v : Value} {l : List Int} (h : Tr B w tb v l) (e : ∀ k, (k = tb ∨ v.ownBlock = some k) → Y.heap[k]? = w.heap[k]?) : Tr B Y tb v l :=
  ⟨(e tb (.inl rfl)).trans h.box, own_kept h.own fun b hb => e b (.inr hb)⟩
theorem Tr.lt {B : Nat} {w : World} {tb : Nat} {v : Value} {l : List Int} (h : Tr B w tb v l) {k : Nat} (hk : k = tb ∨ v.ownBlock = some k) : k < w.heap.size := by
  rcases hk with rfl | hk
  · exact (Array.getElem?_eq_some_iff.1 h.box).1
  · exact (h.own.lt k hk).2
theorem push_t {Z : World} {B : Nat} {v : Value} {l : List Int} (y : Int) (hown : Z.ownsRow B 3 1 v l.length (l.map kv)) (hn : l.length ≤ 1000000) (ad : Addr) (hc : Z.cell? (ad.add 0) = some (kv y)) (hB : B ≤ Z.heap.size) (ty : TypeId) :
    ∃ v' w', (Builtin.append_ #[82, 82] ty #[v, .slice (some ad) 1 1]).run Try.prog Z = .ok v' w' ∧ w'.ownsRow B 3 1 v' (l ++ [y]).length ((l ++ [y]).map kv) ∧ Z.grownBy w' v.ownBlock ∧ (v'.ownBlock = v.ownBlock ∨ ∃ g, v'.ownBlock = some g ∧ Z.heap.size ≤ g) := by
  obtain ⟨i0, hi, hz0, hz1, hz2⟩ := info_parts infoK
  obtain ⟨v', w', hr, h1, h2, h3⟩ := run_append_own_new (P := Try.prog) Z B 82 ty 3 i0 (.int .i64 0) 1 8 Try.underlying82 hi hz0 hz1 hz2 rfl (by decide) v l.length (l.map kv) hown ad 1 1 [kv y] rfl
    (fun j u hu => by
      match j, hu with
      | 0, hu => simp at hu; rw [← hu]; exact hc
      | j + 1, hu => simp at hu) (fun u hu => by simp at hu; rw [hu]; rfl) (by unfold maxLen; omega) (by omega) hB
  refine ⟨v', w', hr, ?_, h2, h3⟩
  rw [List.map_append, show (l ++ [y]).length = l.length + 1 by simp]; exact h1
theorem grow_fr {S S' : Nat → Prop} {w w' : World} (h : Fr S w w') (hs : ∀ k, S k → S' k) : Fr S' w w' := h.mono fun k _ hk => hs k hk
/-- the first one -/
theorem push_any {B : Nat} {w : World} {tb : Nat} {v : Value} (h : Tr B w tb v []) (hB : B ≤ w.heap.size) (k : Int) : Calls Try.prog 32 #[.pointer (some ⟨tb, 0, none⟩), kv k] w fun e w' => e = .returned (.tuple #[]) ∧
    ∃ v', Tr B w' tb v' [k] ∧ Fr (fun j => j = tb ∨ v.ownBlock = some j) w w' ∧ (v'.ownBlock = v.ownBlock ∨ ∃ g, v'.ownBlock = some g ∧ w.heap.size ≤ g) := by
  have bU := below_new w (.cells #[kv k] 3)
  have cU : (w.alloc (.cells #[kv k] 3)).cell? ⟨w.heap.size, 0, none⟩ = some (kv k) := by
    have h := (MapKept.heap_alloc w (.cells #[kv k] 3)).1
    exact (cell_of_row _ _ 0 _ _ _ h).trans rfl
  have tU : Tr B (w.alloc (.cells #[kv k] 3)) tb v [] := h.kept fun j hj => bU.block j (h.lt hj)
  obtain ⟨v9, w9, hra, hv9, gZ, hb9⟩ := push_t k tU.own (by simp) ⟨w.heap.size, 0, none⟩ cU (Nat.le_trans hB bU.size) 82
  have f9 : Fr (fun j => v.ownBlock = some j) w w9 := (Fr.of_below bU).trans (Fr.grownN (S := fun j => v.ownBlock = some j) gZ (fun b e => .inl e)) (fun x e => .inl e)
  have b9 : w9.heap[tb]? = some (.cells #[v] 82 (0, 0)) := (f9.block tb (h.lt (.inl rfl)) h.ne).trans h.box
  have c9 : w9.cell? ⟨tb, 0, none⟩ = some v := by rw [cell_of_row w9 tb 0 _ _ _ b9]; rfl
  have z9 : w9.frozen? ⟨tb, 0, none⟩ = false := by simp [World.frozen?, b9]
  have c0 : w.cell? ⟨tb, 0, none⟩ = some v := by rw [cell_of_row w tb 0 _ _ _ h.box]; rfl
  obtain ⟨a9, d9, rfl⟩ := own_shape hv9
  rw [List.nil_append] at hra hv9 hb9
  have e1 : [k].length = 1 := rfl
  rw [e1] at hra hv9 hb9
  have hne9 : ∀ b, (Value.slice a9 1 d9).ownBlock = some b → b ≠ tb := fun b e e2 => by
    subst e2
    rcases hb9 with e3 | ⟨g, e3, hg⟩
    · exact h.ne (e3 ▸ e)
    · rw [e3] at e; cases e
      have := h.lt (.inl rfl)
      have := bU.size
      omega
  have tF : Tr B (w9.setCell ⟨tb, 0, none⟩ (.slice a9 1 d9)) tb (.slice a9 1 d9) [k] := by
    refine ⟨by rw [Lib.heap_setCell_same b9]; rfl, own_kept hv9 fun b hb => heap_setCell_other _ _ _ _ (hne9 b hb)⟩
  have fF : Fr (fun j => j = tb ∨ v.ownBlock = some j) w (w9.setCell ⟨tb, 0, none⟩ (.slice a9 1 d9)) :=
    ⟨f9.os, f9.tape, f9.output, by have := f9.size; simpa using this, fun j hj hn => (heap_setCell_other _ _ _ _ (by show j ≠ tb; intro e; exact hn (.inl e))).trans (f9.block j hj (fun e => hn (.inr e)))⟩
  have HF := Lib.hid (And.intro tF (And.intro fF (show (Value.slice a9 1 d9).ownBlock = v.ownBlock ∨ ∃ g, (Value.slice a9 1 d9).ownBlock = some g ∧ w.heap.size ≤ g from hb9.imp_right fun ⟨g, e, hg⟩ => ⟨g, e, Nat.le_trans bU.size hg⟩)))
  obtain ⟨a0, d0, rfl⟩ := own_shape h.own
  clear tF fF hne9 b9 f9 tU bU cU hv9 gZ hb9 h hB
  simp only [List.length_nil] at *
  unfold kv
  go_enter Try.func32, Try.ntmps32
  go_wp2_with (first
    | (at_builtin; refine BigFrame.wpList_want (by rfl) fun _ hK => wp_app _ _ rfl rfl rfl hra (hK _ _ ?_); clear hK)
    | go_in)
  obtain ⟨W, hW⟩ : ∃ W, W = w9.setCell ⟨tb, 0, none⟩ (.slice a9 1 d9) := ⟨_, rfl⟩
  rw [← hW] at HF ⊢
  clear hW hra c9 z9 c0 e1
  go_loopw [5] (fun iv wr => iv = .int .i64 0 ∧ wr = W) (fun _ _ => 0)
  case atStart => exact ⟨rfl, rfl⟩
  case round =>
    obtain ⟨rfl, hwr⟩ := hrel
    have HW := Lib.hid hwr
    clear hwr
    go_wp2_with fail
    go_end0
    rw [HW.out]
    exact ⟨by simp, _, HF.out.1, HF.out.2.1, HF.out.2.2⟩
/-- of none there is no lesser one -/
theorem least_any (w : World) (a : Option Addr) (c : Nat) : Calls Try.prog 49 #[.slice a 0 c, .int .i64 0] w fun e w' => e = .returned (.int .i64 1) ∧ Below w.heap.size w w' := by
  go_enter Try.func49, Try.ntmps49
  go_wp2_with fail
  go_quiet (fail)
  go_wp2_with fail
  go_ret
  exact ⟨by simp, below_drewN (Below.refl _ _) _⟩
/-- the last one -/
theorem pop_any {B : Nat} {w : World} {tb : Nat} {v : Value} {k : Int} (h : Tr B w tb v [k]) : Calls Try.prog 33 #[.pointer (some ⟨tb, 0, none⟩)] w fun e w' => e = .returned (kv k) ∧
    ∃ v', Tr B w' tb v' [] ∧ Fr (fun j => j = tb ∨ v.ownBlock = some j) w w' ∧ v'.ownBlock = v.ownBlock := by
  obtain ⟨g, c, cur, rfl, hc, hB, hg, hcm, hcs, hk⟩ : ∃ g c cur, v = .slice (some ⟨g, 0, none⟩) 1 c ∧ 1 ≤ c ∧ B ≤ g ∧ w.heap[g]? = some (.cells cur 3 (0, 0)) ∧ c ≤ maxLen ∧ cur.size = c * 1 ∧ cur[0]? = some (kv k) := by
    obtain ⟨h0, h1 | ⟨g, cap, cur, e, h1, h2, h3, h4, h5, h6⟩⟩ := h.own
    · have := h1.2; simp at this
    · refine ⟨g, cap, cur, by simpa using e, by simpa using h3, h1, h2, h4, h5, ?_⟩
      have h7 : (cur.toList.take ([k].length * 1))[0]? = ([k].map kv)[0]? := by rw [h6]
      rw [List.getElem?_take_of_lt (by simp), Array.getElem?_toList] at h7
      rw [h7]; rfl
  have c0 : w.cell? ⟨tb, 0, none⟩ = some (.slice (some ⟨g, 0, none⟩) 1 c) := by rw [cell_of_row w tb 0 _ _ _ h.box]; rfl
  have z0 : w.frozen? ⟨tb, 0, none⟩ = false := by simp [World.frozen?, h.box]
  have cg : w.cell? ⟨g, 0, none⟩ = some (kv k) := by rw [cell_of_row w g 0 _ _ _ hg]; exact hk
  have zg : w.frozen? ⟨g, 0, none⟩ = false := by simp [World.frozen?, hg]
  have ng : g ≠ tb := fun e => h.ne (by rw [← e]; rfl)
  have HT := Lib.hid (And.intro h (And.intro hg (And.intro hcm (And.intro hcs hB))))
  have hc1 : (1 : Nat) ≤ c := hc
  clear h hg hcm hcs hB hk
  unfold kv at *
  go_enter Try.func33, Try.ntmps33
  go_wp2_with fail
  obtain ⟨W, hW⟩ : ∃ W, W = w.setCell ⟨g, 0, none⟩ (.int .i64 k) := ⟨_, rfl⟩
  have hgl : g < w.heap.size := World.block_lt_of_cell? _ _ cg
  have sW : W.heap.size = w.heap.size := by rw [hW]; simp
  have oW : ∀ j, j ≠ g → W.heap[j]? = w.heap[j]? := fun j hj => by rw [hW]; exact heap_setCell_other _ _ _ _ hj
  have gW : W.heap[g]? = some (.cells (cur.setIfInBounds 0 (.int .i64 k)) 3 (0, 0)) := by rw [hW, Lib.heap_setCell_same HT.out.2.1]
  have fW : Fr (fun j => j = g) w W := ⟨by rw [hW]; rfl, by rw [hW]; rfl, by rw [hW]; rfl, by rw [sW]; exact Nat.le_refl _, fun j _ hj => oW j hj⟩
  have cW : W.cell? ⟨tb, 0, none⟩ = some (.slice (some ⟨g, 0, none⟩) 1 c) := by unfold World.cell? at c0 ⊢; rw [oW tb (fun e => ng e.symm)]; exact c0
  have bW : W.heap[tb]? = some (.cells #[.slice (some ⟨g, 0, none⟩) 1 c] 82 (0, 0)) := (oW tb (fun e => ng e.symm)).trans HT.out.1.box
  rw [← hW]
  clear hW c0 z0 cg zg
  have hl := least_any W (some ⟨g, 0, none⟩) c
  have HW := Lib.hid (And.intro hgl (And.intro sW (And.intro gW (And.intro fW bW))))
  clear hgl sW oW gW fW bW
  refine hl.mono ?_
  rintro e W2 ⟨rfl, hb2⟩
  have c2 : W2.cell? ⟨tb, 0, none⟩ = some (.slice (some ⟨g, 0, none⟩) 1 c) := bc hb2 cW
  have HB := Lib.hid hb2
  clear hb2 hl cW
  go_wp2_with fail
  go_loopw [6, 7] (fun a b wr => a = .int .i64 0 ∧ b = .int .i64 1 ∧ wr = W2) (fun _ _ _ => 0)
  case atStart => exact ⟨rfl, rfl, rfl⟩
  case round =>
    obtain ⟨rfl, rfl, hwr⟩ := hrel
    rw [hwr]
    clear hwr
    have b2 : W2.heap[tb]? = some (.cells #[.slice (some ⟨g, 0, none⟩) 1 c] 82 (0, 0)) := (HB.out.block tb (Array.getElem?_eq_some_iff.1 HW.out.2.2.2.2).1).trans HW.out.2.2.2.2
    have z2 : W2.frozen? ⟨tb, 0, none⟩ = false := by simp [World.frozen?, b2]
    clear b2
    go_wp2_with fail
    go_quiet (fail)
    go_wp2_with fail
    go_ret
    obtain ⟨hgl, sW, gW, fW, bW⟩ := HW.out
    have hb2 := HB.out
    have b2 : (W2.drewN nq).heap[tb]? = some (.cells #[.slice (some ⟨g, 0, none⟩) 1 c] 82 (0, 0)) := (hb2.block tb (Array.getElem?_eq_some_iff.1 bW).1).trans bW
    have g2 : (W2.drewN nq).heap[g]? = some (.cells (cur.setIfInBounds 0 (.int .i64 k)) 3 (0, 0)) := (hb2.block g (Array.getElem?_eq_some_iff.1 gW).1).trans gW
    have ot : ∀ j, j ≠ tb → ((W2.drewN nq).setCell ⟨tb, 0, none⟩ (.slice (some ⟨g, 0, none⟩) 0 c)).heap[j]? = W2.heap[j]? := fun j hj => heap_setCell_other _ _ _ _ hj
    have f2 : Fr (fun j => j = g) w W2 := fW.trans (Fr.of_below (S := fun _ => False) hb2) (fun _ e => e.elim)
    refine ⟨by simp, .slice (some ⟨g, 0, none⟩) 0 c, ⟨by rw [Lib.heap_setCell_same b2]; rfl, rfl, .inr ⟨g, c, _, rfl, HT.out.2.2.2.2, (ot g ng).trans g2, Nat.zero_le _, HT.out.2.2.1, by simpa using HT.out.2.2.2.1, by simp⟩⟩, ⟨f2.os, f2.tape, f2.output, by have := f2.size; simpa using this, fun j hj hn => (ot j (fun e => hn (.inl e))).trans (f2.block j hj (fun e => hn (.inr (by rw [e]; rfl))))⟩, rfl⟩
end Go.Proofs.Ytmlmacplkfnhkaa.DgA
