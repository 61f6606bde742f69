
/- heaps of string and uint64: Copy -/
import Derived.Test.YtomkefaakgodhaaHpLE
import Derived.Test.YtomkefaakgodhaaHpRE
import Derived.Test.YtomkefaakgodhaaHpLay
import Derived.Lib.SliceRun
namespace Go.Proofs.Ytomkefaakgodhaa.HpE
open Go.RowKit Go.Lib Go.Sort Hp Ht
set_option linter.unusedVariables false
set_option maxRecDepth 20000
section
variable {S : Nat → Prop} {w : World} {hb : Nat} {iv mv : Value} {l m : List (K × Int)} {f : K → Option Nat}
theorem eql_slice_nil (W : World) (a : Option Addr) (n c : Nat) : (binOp .eql 73 (.slice a n c) (.slice none 0 0)).run Try.prog W = .ok (.bool a.isNone) W := Lib.run_eql_slice_nil W _ _ a n c 0 0 Try.underlying73
theorem row_src (h : Row w iv l) : (iv = .slice none 0 0 ∧ l = []) ∨ ∃ a c, iv = .slice (some a) l.length c ∧ ∀ j u, (cs l)[j]? = some u → w.cell? (a.add j) = some u := by
  rcases h with ⟨rfl, p, rfl⟩ | ⟨g, cap, rfl, hB⟩
  · cases p with
    | none => exact .inl ⟨rfl, rfl⟩
    | some a => exact .inr ⟨a, 0, rfl, fun j u hu => by simp [cs] at hu⟩
  · exact .inr ⟨_, cap, rfl, (hB.own (Nat.zero_le g)).cells rfl⟩
theorem clone_any (h : Row w iv l) (hn : l.length ≤ 1000000) : Calls Try.prog 38 #[iv] w fun e w' => ∃ v, e = .returned v ∧ Row w' v l ∧ Below w.heap.size w w' ∧ ∀ b, blk v = some b → w.heap.size ≤ b := by
  have hq := eql_slice_nil
  obtain ⟨i0, hi, hz0, hz1, hz2⟩ := info_parts infoE
  rcases row_src h with ⟨rfl, rfl⟩ | ⟨a, c, rfl, hc⟩
  · go_enter Try.func38, Try.ntmps38
    go_wp2_with fail
    go_ret
    exact ⟨_, rfl, .inl ⟨rfl, none, by simp⟩, Below.refl _ _, fun b e => by simp [blk] at e⟩
  · have HH := Lib.hid (And.intro h hc)
    clear h hc
    obtain ⟨n, hln⟩ : ∃ n, n = l.length := ⟨_, rfl⟩
    rw [← hln] at hn ⊢
    have HL := Lib.hid hln
    clear hln
    go_enter Try.func38, Try.ntmps38
    go_wp2_with (at_builtin; refine wpList_append_own _ rfl _ _ 73 rfl w.heap.size 63 i0 (.agg #[.string ⟨#[]⟩, .int .u64 0]) 2 24 Try.underlying73 hi hz0 hz1 hz2 rfl (by decide) _ _ _ rfl (World.ownsRow_made w #[] 0 (Nat.le_refl _) (Nat.zero_le _) rfl) a n c (cs l) rfl ?qc1 ?qc2 ?qc3 ?qc4 ?qc5 ?qc6 ?_)
    case qc1 => rw [cs_len, HL.out]
    case qc2 =>
      intro j u hj
      exact Lib.cell?_alloc_some _ (HH.out.2 j u hj)
    case qc3 => exact cs_one l
    case qc4 => unfold maxLen; omega
    case qc5 => omega
    case qc6 => simp
    intro v' w1 hown hgrow hnil
    go_wp2
    go_ret
    rw [HL.out] at hown
    refine ⟨v', rfl, row_of_own hown, ((Below.refl _ w).alloc (Nat.le_refl _) _).grown hgrow (by simp) (by intro k hk; simp [Value.ownBlock] at hk; omega), fun b hb => ?_⟩
    rcases blk_own hb with h1 | h1
    · exact (hown.lt b h1).1
    · obtain ⟨ao, cp, h2⟩ := own_shape hown
      rw [h2] at h1; cases h1
theorem places_any {n : Nat} (h : (mv = .map none ∧ l = []) ∨ ∃ b, mv = .map (some b) ∧ Mq w b n f) : Calls Try.prog 39 #[mv] w fun e w' => ∃ v, e = .returned v ∧ ((mv = .map none ∧ l = [] ∧ v = .map none) ∨ ∃ b, v = .map (some b) ∧ w.heap.size ≤ b ∧ Mq w' b n f) ∧ Below w.heap.size w w' := by
  rcases h with ⟨rfl, rfl⟩ | ⟨b, rfl, D, hm, hs, hD⟩
  · have hc := AnyW.maps_Clone_nil Try.mpCloneE w
    change Calls Try.prog 39 _ _ _ at hc
    refine hc.mono ?_
    rintro e w' ⟨rfl, rfl⟩
    exact ⟨_, rfl, .inl ⟨rfl, rfl, rfl⟩, Below.refl _ _⟩
  · have hc := AnyW.maps_Clone_owns Try.mpCloneE 9 _ b n D w hm
    change Calls Try.prog 39 _ _ _ at hc
    refine hc.mono ?_
    rintro e w' ⟨rfl, h1, _, h2⟩
    exact ⟨_, rfl, .inr ⟨w.heap.size, rfl, Nat.le_refl _, D, h1, hs, hD⟩, h2⟩
theorem copy_any (h : Hv S w hb m) (hn : m.length ≤ 1000000) : Calls Try.prog 28 #[.pointer (some ⟨hb, 0, none⟩)] w fun e w' => ∃ c S', e = .returned (.pointer (some ⟨c, 0, none⟩)) ∧ Hv S' w' c m ∧ (∀ x, S' x → w.heap.size ≤ x) ∧ Below w.heap.size w w' := by
  have hmix : Try.prog.follows .mixedOrders = true := by kernel_rfl
  obtain ⟨iv, mv, l, f, hq, hh, hpm⟩ := h
  have hI := hq.items
  have hP := hq.places
  have hlt := hq.size hb hq.own
  have HH := Lib.hid (And.intro hq (And.intro hh (And.intro hpm hn)))
  clear hq hh hpm hn
  go_enter Try.func28, Try.ntmps28
  go_wp2_with fail
  refine begin' 99 (fun _ => True) hmix trivial (fun _ => ?_)
  refine later [9, 10, 11, 12] (fun X => X.cell? ⟨hb, 0, none⟩ = some iv ∧ X.cell? ⟨hb, 1, none⟩ = some mv) (⟨hI, hP⟩) (fun hS0 => ?_)
  refine Ht.takeS 10 (i := 0) ⟨some 5, _, _, _, _, _⟩ (.pointer (some ⟨hb, 0, none⟩)) rfl (by kernel_rfl) (by kernel_rfl) (by kernel_rfl) (by kernel_rfl) (by kernel_rfl) hS0 (Or.inl ⟨by rfl, by (intro X hX; go_simp)⟩) ?_
  simp only [Act.put, List.setIfInBounds_toArray, List.set_cons_zero, List.set_cons_succ]
  refine Ht.takeS 10 (i := 1) ⟨some 6, _, _, _, _, _⟩ (.pointer (some ⟨hb, 0, none⟩)) rfl (by kernel_rfl) (by kernel_rfl) (by kernel_rfl) (by kernel_rfl) (by kernel_rfl) hS0 (Or.inl ⟨by rfl, by (intro X hX; go_simp)⟩) ?_
  simp only [Act.put, List.setIfInBounds_toArray, List.set_cons_zero, List.set_cons_succ]
  refine Ht.takeS 10 (i := 2) ⟨some 7, _, _, _, _, _⟩ (.pointer (some ⟨hb, 0, none⟩)) rfl (by kernel_rfl) (by kernel_rfl) (by kernel_rfl) (by kernel_rfl) (by kernel_rfl) hS0 (Or.inl ⟨by rfl, by (intro X hX; go_simp)⟩) ?_
  simp only [Act.put, List.setIfInBounds_toArray, List.set_cons_zero, List.set_cons_succ]
  refine Ht.takeS 10 (i := 3) ⟨some 8, _, _, _, _, _⟩ (iv) rfl (by kernel_rfl) (by kernel_rfl) (by kernel_rfl) (by kernel_rfl) (by kernel_rfl) hS0 (Or.inl ⟨by rfl, by (intro X hX; have := hX.1; go_simp)⟩) ?_
  simp only [Act.put, List.setIfInBounds_toArray, List.set_cons_zero, List.set_cons_succ]
  refine Ht.takeS 10 (i := 5) ⟨some 10, _, _, _, _, _⟩ (.pointer (some ⟨hb, 0, none⟩)) rfl (by kernel_rfl) (by kernel_rfl) (by kernel_rfl) (by kernel_rfl) (by kernel_rfl) hS0 (Or.inl ⟨by rfl, by (intro X hX; go_simp)⟩) ?_
  simp only [Act.put, List.setIfInBounds_toArray, List.set_cons_zero, List.set_cons_succ]
  refine Ht.takeS 10 (i := 6) ⟨some 11, _, _, _, _, _⟩ (.pointer (some ⟨hb, 0, none⟩)) rfl (by kernel_rfl) (by kernel_rfl) (by kernel_rfl) (by kernel_rfl) (by kernel_rfl) hS0 (Or.inl ⟨by rfl, by (intro X hX; go_simp)⟩) ?_
  simp only [Act.put, List.setIfInBounds_toArray, List.set_cons_zero, List.set_cons_succ]
  refine Ht.takeS 10 (i := 7) ⟨some 12, _, _, _, _, _⟩ (.pointer (some ⟨hb, 1, none⟩)) rfl (by kernel_rfl) (by kernel_rfl) (by kernel_rfl) (by kernel_rfl) (by kernel_rfl) hS0 (Or.inl ⟨by rfl, by (intro X hX; go_simp)⟩) ?_
  simp only [Act.put, List.setIfInBounds_toArray, List.set_cons_zero, List.set_cons_succ]
  refine Ht.takeS 10 (i := 8) ⟨some 13, _, _, _, _, _⟩ (mv) rfl (by kernel_rfl) (by kernel_rfl) (by kernel_rfl) (by kernel_rfl) (by kernel_rfl) hS0 (Or.inl ⟨by rfl, by (intro X hX; have := hX.2; go_simp)⟩) ?_
  simp only [Act.put, List.setIfInBounds_toArray, List.set_cons_zero, List.set_cons_succ]
  refine Ht.stepS (i := 4) ⟨some 9, _, _, _, _, _⟩ rfl (by kernel_rfl) (by rfl) (fun K hK => ?_)
  refine Ht.enter 38 #[iv] (by have hen := fun args w => enters_of (P := Try.prog) Try.func38 (by kernel_rfl) rfl args w; go_simp) (clone_any (w := w.drew) (iv := iv) (l := l) (HH.out.1.row.kept fun _ _ => rfl) (by have := HH.out.2.2.1.length_eq; have := HH.out.2.2.2; omega)) ?_
  rintro e V ⟨v1, rfl, hrow, hb1, hnew⟩
  have c1 := (hb1.cell (p := ⟨hb, 0, none⟩) hlt).trans hS0.1
  have c2 := (hb1.cell (p := ⟨hb, 1, none⟩) hlt).trans hS0.2
  have hb1' : Below w.heap.size w V := ⟨hb1.os, hb1.tape, hb1.output, hb1.size, hb1.block⟩
  have HV := Lib.hid (And.intro hrow (And.intro hb1' hnew))
  clear hrow hb1 hnew hb1'
  refine ⟨_, rfl, hK _ _ (fun hn => ⟨c1, c2⟩) (fun hnx => ?_)⟩
  clear hK K hnx
  simp only [Act.put, List.setIfInBounds_toArray, List.set_cons_zero, List.set_cons_succ]
  refine Ht.stepS (i := 9) ⟨some 14, _, _, _, _, _⟩ rfl (by kernel_rfl) (by rfl) (fun K hK => ?_)
  refine Ht.enter 39 #[mv] (by have hen := fun args w => enters_of (P := Try.prog) Try.func39 (by kernel_rfl) rfl args w; go_simp) (places_any (w := V) (l := l) (f := f) (n := l.length) (by rcases HH.out.1.map with h | ⟨b, h1, h2⟩; exact .inl h; exact .inr ⟨b, h1, h2.kept (HV.out.2.1.block b (HH.out.1.size b (HH.out.1.ownM b (by rw [h1]; rfl))))⟩)) ?_
  rintro e V2 ⟨v2, rfl, hmap, hb2⟩
  have HW := Lib.hid (And.intro hmap hb2)
  clear hmap hb2
  refine ⟨_, rfl, hK _ _ (fun hn => absurd (by decide) hn) (fun hnx => ?_)⟩
  clear hK K hnx
  simp only [Act.put, List.setIfInBounds_toArray, List.set_cons_zero, List.set_cons_succ]
  obtain ⟨a1, n1, k1, rfl⟩ : ∃ a n c, v1 = .slice a n c := by
    rcases HV.out.1 with ⟨_, p, h⟩ | ⟨g, cp, h, _⟩
    · exact ⟨_, _, _, h⟩
    · exact ⟨_, _, _, h⟩
  obtain ⟨o, rfl⟩ : ∃ o, v2 = .map o := by
    rcases HW.out.1 with ⟨_, _, h⟩ | ⟨b, h, _⟩
    · exact ⟨_, h⟩
    · exact ⟨_, h⟩
  refine Ht.stepS (i := 10) ⟨some 15, _, _, _, _, _⟩ rfl (by kernel_rfl) (by rfl) (fun K hK => ?_)
  go_simp
  refine hK _ _ (fun hn => absurd (by decide) hn) (fun hnx => ?_)
  clear hK K hnx
  try simp only [Act.put, List.setIfInBounds_toArray, List.set_cons_zero, List.set_cons_succ]
  refine Ht.stepS (i := 11) ⟨some 16, _, _, _, _, _⟩ rfl (by kernel_rfl) (by rfl) (fun K hK => ?_)
  go_simp
  refine hK _ _ (fun hn => absurd (by decide) hn) (fun hnx => ?_)
  clear hK K hnx
  try simp only [Act.put, List.setIfInBounds_toArray, List.set_cons_zero, List.set_cons_succ]
  refine Ht.stepS (i := 12) ⟨some 2, _, _, _, _, _⟩ rfl (by kernel_rfl) (by rfl) (fun K hK => ?_)
  go_simp
  refine hK _ _ (fun hn => absurd (by decide) hn) (fun hnx => ?_)
  clear hK K hnx
  try simp only [Act.put, List.setIfInBounds_toArray, List.set_cons_zero, List.set_cons_succ]
  refine doneS (by kernel_rfl) ?_
  go_wp2_with fail
  go_ret
  obtain ⟨hq, hh, hpm, hn⟩ := HH.out
  obtain ⟨hrow, hb1, hnew⟩ := HV.out
  obtain ⟨hmap, hb2⟩ := HW.out
  obtain ⟨V3, hV3⟩ : ∃ X, X = V2.alloc (.cells #[.slice a1 n1 k1, .map o] 76) := ⟨_, rfl⟩
  rw [← hV3]
  have hb3 : Below V2.heap.size V2 V3 := by rw [hV3]; exact (Below.refl _ _).alloc (Nat.le_refl _) _
  have z1 := hb1.size
  have z2 := hb2.size
  have z3 : V3.heap.size = V2.heap.size + 1 := by rw [hV3]; simp
  have ho : V3.heap[V2.heap.size]? = some (.cells #[.slice a1 n1 k1, .map o] 76 (0, 0)) := by rw [hV3]; exact (MapKept.heap_alloc V2 _).1
  have hblt : ∀ b, blk (.slice a1 n1 k1) = some b → b < V.heap.size := fun b hb => hrow.lt hb
  refine ⟨V2.heap.size, fun x => x = V2.heap.size ∨ blk (.slice a1 n1 k1) = some x ∨ o = some x, by simp, ⟨.slice a1 n1 k1, .map o, l, f, ⟨ho, ?_, ?_, hq.pl, hq.keys, .inl rfl, fun b e => .inr (.inl e), fun b e => .inr (.inr e), ?_⟩, hh, hpm⟩, ?_, ?_⟩
  · exact hrow.kept fun b hb => (hb3.block b (by have := hblt b hb; omega)).trans (hb2.block b (hblt b hb))
  · rcases hmap with ⟨_, h1, h2⟩ | ⟨b, h1, h2, h3⟩
    · exact .inl ⟨h2, h1⟩
    · exact .inr ⟨b, h1, h3.kept (hb3.block b h3.lt)⟩
  · rintro x (h | h | h)
    · omega
    · have := hblt x h; omega
    · rcases hmap with ⟨_, h1, h2⟩ | ⟨b, h1, h2, h3⟩
      · rw [h] at h2; cases h2
      · rw [h] at h1; cases h1
        have := h3.lt; omega
  · rintro x (h | h | h)
    · omega
    · exact hnew x h
    · rcases hmap with ⟨_, h1, h2⟩ | ⟨b, h1, h2, h3⟩
      · rw [h] at h2; cases h2
      · rw [h] at h1; cases h1
        omega
  · exact (hb1.trans (hb2.mono z1)).trans (hb3.mono (by omega))
end
end Go.Proofs.Ytomkefaakgodhaa.HpE

