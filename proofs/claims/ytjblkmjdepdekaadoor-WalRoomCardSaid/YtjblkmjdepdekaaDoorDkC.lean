
/- disks: Copy -/
import Derived.Test.YtjblkmjdepdekaaDoorDk9
namespace Go.Proofs.YtjblkmjdepdekaaDoor.Dk
open Go.RowKit Go.Lib Go.Proofs.YtjblkmjdepdekaaDoor.By Go.Proofs.YtjblkmjdepdekaaDoor.Ht

theorem own_none_of (w : World) (e : TypeId) (k : Nat) : (w.alloc (.cells #[] e)).ownsRow w.heap.size e k (.slice (some ⟨w.heap.size, 0, none⟩) 0 0) 0 [] := World.ownsRow_made w #[] 0 (Nat.le_refl _) (Nat.zero_le _) (by simp)
/-- the cells of an own row that is there -/
theorem own_cells {w : World} {B n cap g k : Nat} {e : TypeId} {xs : List Value} (h : w.ownsRow B e k (.slice (some ⟨g, 0, none⟩) n cap) n xs) : ∀ j u, xs[j]? = some u → w.cell? ((⟨g, 0, none⟩ : Addr).add j) = some u := h.cells (g := g) rfl
set_option maxRecDepth 20000 in
set_option maxHeartbeats 1000000 in
theorem clone1_any {w : World} {B n cap g : Nat} {F : List UInt8} (h : w.ownsRow B 79 64 (.slice (some ⟨g, 0, none⟩) n cap) n (byteCells F)) (hn : 1 ≤ n ∧ n ≤ 4096) :
    Calls Tryd.prog 38 #[.slice (some ⟨g, 0, none⟩) n cap] w fun e w' => ∃ g' c', e = .returned (.slice (some ⟨g', 0, none⟩) n c') ∧ w'.ownsRow w.heap.size 79 64 (.slice (some ⟨g', 0, none⟩) n c') n (byteCells F) ∧ Below w.heap.size w w' := by
  have hl := h.1
  have hal : Below w.heap.size w (w.alloc (.cells #[] 79)) := (Below.refl _ _).alloc (Nat.le_refl _) _
  have o0 := own_none_of w 79 64
  have hcs := own_cells (own_below h hal (Nat.le_refl _))
  obtain ⟨is, his, his0, his1, his2⟩ := info_parts info79
  have HN := Lib.hid hn
  have hne := run_eql_slice_nil (P := Tryd.prog) (t := 60) (e := 79) (h := Tryd.underlying60)
  clear h
  go_enter Tryd.func38, Tryd.ntmps38
  go_wp2_with (at_builtin; refine wpList_append_own _ rfl _ _ 60 rfl w.heap.size 79 is _ 64 64 Tryd.underlying60 his his0 his1 his2 (by simp [Value.cells]) (by decide) _ _ _ rfl o0 ⟨g, 0, none⟩ n cap (byteCells F) rfl hl hcs (bytes_one F) ?c1 ?c2 ?c3 ?_)
  case c1 => have := HN.out.2; unfold maxLen; omega
  case c2 => have := HN.out.2; omega
  case c3 => simp
  · intro v' w3 hown' hg' _
    have hb : Below w.heap.size w w3 := hal.grown hg' (by simp) (fun j hj => (o0.lt j hj).1)
    have hsh : ∃ g' c', v' = .slice (some ⟨g', 0, none⟩) n c' := by
      rcases hown'.2 with ⟨_, h0⟩ | ⟨g', c', cur, h1, _⟩
      · have := HN.out.1; omega
      · exact ⟨g', c', h1⟩
    obtain ⟨g', c', rfl⟩ := hsh
    have HF := Lib.hid (And.intro hown' hb)
    clear hown' hb hg' hcs o0
    go_wp2_with fail
    go_ret
    exact ⟨g', c', rfl, HF.out.1, HF.out.2⟩
set_option maxRecDepth 20000 in
set_option maxHeartbeats 1000000 in
theorem clone2_any {w : World} {B : Nat} {vw : Value} {W : List Wr} (h : w.ownsRow B 81 65 vw W.length (wcells W)) (hWl : W.length ≤ 1000000) (hw : ∀ x ∈ W, x.2.length = 64) :
    Calls Tryd.prog 39 #[vw] w fun e w' => ∃ v', e = .returned v' ∧ w'.ownsRow w.heap.size 81 65 v' W.length (wcells W) ∧ Below w.heap.size w w' := by
  rcases id h.2 with ⟨rfl, h0⟩ | ⟨g, cap, cur, rfl, _⟩
  · have hW : W = [] := List.eq_nil_of_length_eq_zero h0
    subst hW
    have hne := run_eql_slice_nil (P := Tryd.prog) (t := 61) (e := 81) (h := Tryd.underlying61)
    clear h
    go_enter Tryd.func39, Tryd.ntmps39
    go_wp2_with fail
    go_ret
    exact ⟨_, rfl, World.ownsRow_nil _ _ _ _, Below.refl _ _⟩
  · have hl := h.1
    have hal : Below w.heap.size w (w.alloc (.cells #[] 81)) := (Below.refl _ _).alloc (Nat.le_refl _) _
    have o0 := own_none_of w 81 65
    have hcs := own_cells (own_below h hal (Nat.le_refl _))
    obtain ⟨is, his, his0, his1, his2⟩ := info_parts info81
    have hone : ∀ u ∈ wcells W, u.oneCell' = true := by
      intro u hu
      obtain ⟨x, hx, hxu⟩ := List.mem_flatMap.1 hu
      exact wcell_one x u hxu
    have HW := Lib.hid hWl
    have hne := run_eql_slice_nil (P := Tryd.prog) (t := 61) (e := 81) (h := Tryd.underlying61)
    clear h hw
    go_enter Tryd.func39, Tryd.ntmps39
    go_wp2_with (at_builtin; refine wpList_append_own _ rfl _ _ 61 rfl w.heap.size 81 is _ 65 72 Tryd.underlying61 his his0 his1 his2 (by simp [Value.cells, Zl]) (by decide) _ _ _ rfl o0 ⟨g, 0, none⟩ W.length cap (wcells W) rfl hl hcs hone ?c1 ?c2 ?c3 ?_)
    case c1 => have := HW.out; unfold maxLen; omega
    case c2 => have := HW.out; omega
    case c3 => simp
    · intro v' w3 hown' hg' _
      have hb : Below w.heap.size w w3 := hal.grown hg' (by simp) (fun j hj => (o0.lt j hj).1)
      have HF := Lib.hid (And.intro hown' hb)
      clear hown' hb hg' hcs o0
      go_wp2_with fail
      go_ret
      exact ⟨v', rfl, HF.out.1, HF.out.2⟩
section
variable {w : World} {B bd gs cs gn cn n : Nat} {vw : Value} {F G : List UInt8} {W : List Wr} {dn : Bool}
set_option maxRecDepth 20000 in
set_option maxHeartbeats 2000000 in
theorem copy_any (h : IsDk w B bd gs cs gn cn vw n F G W dn) (hWl : W.length ≤ 1000000) : Calls Tryd.prog 18 #[.pointer (some ⟨bd, 0, none⟩)] w fun e w' =>
    ∃ bd' gs' cs' gn' cn' vw', e = .returned (.pointer (some ⟨bd', 0, none⟩)) ∧ IsDk w' w.heap.size bd' gs' cs' gn' cn' vw' n F G W dn ∧ Below w.heap.size w w' := by
  have hS0 := h.blk
  have HH := Lib.hid h
  have hmix : Tryd.prog.follows .mixedOrders = true := by kernel_rfl
  clear h
  go_enter Tryd.func18, Tryd.ntmps18
  go_wp2_with fail
  refine begin' 21 (fun X => X.heap[bd]? = some (.cells #[.slice (some ⟨gs, 0, none⟩) n cs, .slice (some ⟨gn, 0, none⟩) n cn, vw, .bool dn] 63 (0, 0))) hmix hS0 (fun hS1 => ?_)
  refine Ht.take (i := 0) ⟨some 5, _, _, _, _, _⟩ (.pointer (some ⟨bd, 0, none⟩)) rfl (by kernel_rfl) (by kernel_rfl) (by decide) (by kernel_rfl) (by kernel_rfl) (by kernel_rfl) hS1 (Or.inl ⟨by rfl, by (intro X hX; go_simp)⟩) ?_
  simp only [Act.put, List.setIfInBounds_toArray, List.set_cons_zero, List.set_cons_succ]
  refine Ht.take (i := 1) ⟨some 6, _, _, _, _, _⟩ (.pointer (some ⟨bd, 0, none⟩)) rfl (by kernel_rfl) (by kernel_rfl) (by decide) (by kernel_rfl) (by kernel_rfl) (by kernel_rfl) hS1 (Or.inl ⟨by rfl, by (intro X hX; go_simp)⟩) ?_
  simp only [Act.put, List.setIfInBounds_toArray, List.set_cons_zero, List.set_cons_succ]
  refine Ht.take (i := 2) ⟨some 7, _, _, _, _, _⟩ (.pointer (some ⟨bd, 0, none⟩)) rfl (by kernel_rfl) (by kernel_rfl) (by decide) (by kernel_rfl) (by kernel_rfl) (by kernel_rfl) hS1 (Or.inl ⟨by rfl, by (intro X hX; go_simp)⟩) ?_
  simp only [Act.put, List.setIfInBounds_toArray, List.set_cons_zero, List.set_cons_succ]
  refine Ht.take (i := 3) ⟨some 8, _, _, _, _, _⟩ (.slice (some ⟨gs, 0, none⟩) n cs) rfl (by kernel_rfl) (by kernel_rfl) (by decide) (by kernel_rfl) (by kernel_rfl) (by kernel_rfl) hS1 (Or.inl ⟨by rfl, by (intro X hX; have := (four_cells hX).1.1; go_simp)⟩) ?_
  simp only [Act.put, List.setIfInBounds_toArray, List.set_cons_zero, List.set_cons_succ]
  refine Ht.take (i := 5) ⟨some 10, _, _, _, _, _⟩ (.pointer (some ⟨bd, 0, none⟩)) rfl (by kernel_rfl) (by kernel_rfl) (by decide) (by kernel_rfl) (by kernel_rfl) (by kernel_rfl) hS1 (Or.inl ⟨by rfl, by (intro X hX; go_simp)⟩) ?_
  simp only [Act.put, List.setIfInBounds_toArray, List.set_cons_zero, List.set_cons_succ]
  refine Ht.take (i := 6) ⟨some 11, _, _, _, _, _⟩ (.pointer (some ⟨bd, 0, none⟩)) rfl (by kernel_rfl) (by kernel_rfl) (by decide) (by kernel_rfl) (by kernel_rfl) (by kernel_rfl) hS1 (Or.inl ⟨by rfl, by (intro X hX; go_simp)⟩) ?_
  simp only [Act.put, List.setIfInBounds_toArray, List.set_cons_zero, List.set_cons_succ]
  refine Ht.take (i := 7) ⟨some 12, _, _, _, _, _⟩ (.pointer (some ⟨bd, 1, none⟩)) rfl (by kernel_rfl) (by kernel_rfl) (by decide) (by kernel_rfl) (by kernel_rfl) (by kernel_rfl) hS1 (Or.inl ⟨by rfl, by (intro X hX; go_simp)⟩) ?_
  simp only [Act.put, List.setIfInBounds_toArray, List.set_cons_zero, List.set_cons_succ]
  refine Ht.take (i := 8) ⟨some 13, _, _, _, _, _⟩ (.slice (some ⟨gn, 0, none⟩) n cn) rfl (by kernel_rfl) (by kernel_rfl) (by decide) (by kernel_rfl) (by kernel_rfl) (by kernel_rfl) hS1 (Or.inl ⟨by rfl, by (intro X hX; have := (four_cells hX).1.2.1; go_simp)⟩) ?_
  simp only [Act.put, List.setIfInBounds_toArray, List.set_cons_zero, List.set_cons_succ]
  refine Ht.take (i := 10) ⟨some 15, _, _, _, _, _⟩ (.pointer (some ⟨bd, 0, none⟩)) rfl (by kernel_rfl) (by kernel_rfl) (by decide) (by kernel_rfl) (by kernel_rfl) (by kernel_rfl) hS1 (Or.inl ⟨by rfl, by (intro X hX; go_simp)⟩) ?_
  simp only [Act.put, List.setIfInBounds_toArray, List.set_cons_zero, List.set_cons_succ]
  refine Ht.take (i := 11) ⟨some 16, _, _, _, _, _⟩ (.pointer (some ⟨bd, 0, none⟩)) rfl (by kernel_rfl) (by kernel_rfl) (by decide) (by kernel_rfl) (by kernel_rfl) (by kernel_rfl) hS1 (Or.inl ⟨by rfl, by (intro X hX; go_simp)⟩) ?_
  simp only [Act.put, List.setIfInBounds_toArray, List.set_cons_zero, List.set_cons_succ]
  refine Ht.take (i := 12) ⟨some 17, _, _, _, _, _⟩ (.pointer (some ⟨bd, 2, none⟩)) rfl (by kernel_rfl) (by kernel_rfl) (by decide) (by kernel_rfl) (by kernel_rfl) (by kernel_rfl) hS1 (Or.inl ⟨by rfl, by (intro X hX; go_simp)⟩) ?_
  simp only [Act.put, List.setIfInBounds_toArray, List.set_cons_zero, List.set_cons_succ]
  refine Ht.take (i := 13) ⟨some 18, _, _, _, _, _⟩ (vw) rfl (by kernel_rfl) (by kernel_rfl) (by decide) (by kernel_rfl) (by kernel_rfl) (by kernel_rfl) hS1 (Or.inl ⟨by rfl, by (intro X hX; have := (four_cells hX).1.2.2.1; go_simp)⟩) ?_
  simp only [Act.put, List.setIfInBounds_toArray, List.set_cons_zero, List.set_cons_succ]
  refine Ht.take (i := 15) ⟨some 20, _, _, _, _, _⟩ (.pointer (some ⟨bd, 0, none⟩)) rfl (by kernel_rfl) (by kernel_rfl) (by decide) (by kernel_rfl) (by kernel_rfl) (by kernel_rfl) hS1 (Or.inl ⟨by rfl, by (intro X hX; go_simp)⟩) ?_
  simp only [Act.put, List.setIfInBounds_toArray, List.set_cons_zero, List.set_cons_succ]
  refine Ht.take (i := 16) ⟨some 21, _, _, _, _, _⟩ (.pointer (some ⟨bd, 0, none⟩)) rfl (by kernel_rfl) (by kernel_rfl) (by decide) (by kernel_rfl) (by kernel_rfl) (by kernel_rfl) hS1 (Or.inl ⟨by rfl, by (intro X hX; go_simp)⟩) ?_
  simp only [Act.put, List.setIfInBounds_toArray, List.set_cons_zero, List.set_cons_succ]
  refine Ht.take (i := 17) ⟨some 22, _, _, _, _, _⟩ (.pointer (some ⟨bd, 3, none⟩)) rfl (by kernel_rfl) (by kernel_rfl) (by decide) (by kernel_rfl) (by kernel_rfl) (by kernel_rfl) hS1 (Or.inl ⟨by rfl, by (intro X hX; go_simp)⟩) ?_
  simp only [Act.put, List.setIfInBounds_toArray, List.set_cons_zero, List.set_cons_succ]
  refine Ht.take (i := 18) ⟨some 23, _, _, _, _, _⟩ (.bool dn) rfl (by kernel_rfl) (by kernel_rfl) (by decide) (by kernel_rfl) (by kernel_rfl) (by kernel_rfl) hS1 (Or.inl ⟨by rfl, by (intro X hX; have := (four_cells hX).1.2.2.2; go_simp)⟩) ?_
  simp only [Act.put, List.setIfInBounds_toArray, List.set_cons_zero, List.set_cons_succ]
  have hw0 : Below w.heap.size w w.drew := (Below.refl _ _).drew
  have hbd := lt_of_block HH.out.blk
  refine Ht.step (i := 4) ⟨some 9, _, _, _, _, _⟩ rfl (by kernel_rfl) (by rfl) (fun K hK => ?_)
  go_simp
  refine (clone1_any (w := w.drew) (own_below HH.out.os hw0 (Nat.le_refl _)) ⟨HH.out.n1, HH.out.n2⟩).mono ?_
  rintro e w1 ⟨g1, c1, rfl, o1, b1⟩
  have d1 : Below w.heap.size w w1 := hw0.trans b1
  have hS2 : w1.heap[bd]? = some (.cells #[.slice (some ⟨gs, 0, none⟩) n cs, .slice (some ⟨gn, 0, none⟩) n cn, vw, .bool dn] 63 (0, 0)) := (d1.block bd hbd).trans HH.out.blk
  refine hK _ _ (fun _ => hS2) (fun _ => ?_)
  clear hK K
  try simp only [Act.put, List.setIfInBounds_toArray, List.set_cons_zero, List.set_cons_succ]
  refine Ht.step (i := 9) ⟨some 14, _, _, _, _, _⟩ rfl (by kernel_rfl) (by rfl) (fun K hK => ?_)
  go_simp
  refine (clone1_any (own_below HH.out.on d1 (Nat.le_refl _)) ⟨HH.out.n1, HH.out.n2⟩).mono ?_
  rintro e w2 ⟨g2, c2, rfl, o2, b2⟩
  have d2 : Below w.heap.size w w2 := d1.trans (b2.mono d1.size)
  have hS3 : w2.heap[bd]? = some (.cells #[.slice (some ⟨gs, 0, none⟩) n cs, .slice (some ⟨gn, 0, none⟩) n cn, vw, .bool dn] 63 (0, 0)) := (d2.block bd hbd).trans HH.out.blk
  refine hK _ _ (fun _ => hS3) (fun _ => ?_)
  clear hK K
  try simp only [Act.put, List.setIfInBounds_toArray, List.set_cons_zero, List.set_cons_succ]
  refine Ht.step (i := 14) ⟨some 19, _, _, _, _, _⟩ rfl (by kernel_rfl) (by rfl) (fun K hK => ?_)
  go_simp
  refine (clone2_any (own_below HH.out.ow d2 (Nat.le_refl _)) hWl (fun x hx => (HH.out.hw x hx).2)).mono ?_
  rintro e w3 ⟨v3, rfl, o3, b3⟩
  have d3 : Below w.heap.size w w3 := d2.trans (b3.mono d2.size)
  have hS4 : w3.heap[bd]? = some (.cells #[.slice (some ⟨gs, 0, none⟩) n cs, .slice (some ⟨gn, 0, none⟩) n cn, vw, .bool dn] 63 (0, 0)) := (d3.block bd hbd).trans HH.out.blk
  refine hK _ _ (fun _ => hS4) (fun _ => ?_)
  clear hK K
  try simp only [Act.put, List.setIfInBounds_toArray, List.set_cons_zero, List.set_cons_succ]
  have o1w : w3.ownsRow w.heap.size 79 64 (.slice (some ⟨g1, 0, none⟩) n c1) n (byteCells F) := own_below (own_below (Joins.ownsRow_le o1 (Nat.le_refl _)) b2 (Nat.le_refl _)) b3 (Nat.le_refl _)
  have o2w : w3.ownsRow w.heap.size 79 64 (.slice (some ⟨g2, 0, none⟩) n c2) n (byteCells G) := own_below (Joins.ownsRow_le o2 d1.size) b3 (Nat.le_refl _)
  have o3w : w3.ownsRow w.heap.size 81 65 v3 W.length (wcells W) := Joins.ownsRow_le o3 d2.size
  have hne : g1 ≠ g2 := fun e => by
    have h1 := (o1.lt g1 rfl).2
    have h2 := (o2.lt g2 rfl).1
    omega
  obtain ⟨a3, c3, rfl⟩ := own_shape o3
  refine Ht.take (i := 19) ⟨some 24, _, _, _, _, _⟩ (.agg #[.slice (some ⟨g1, 0, none⟩) n c1, .slice (some ⟨g2, 0, none⟩) n c2, .slice a3 W.length c3, .bool dn]) rfl (by kernel_rfl) (by kernel_rfl) (by decide) (by kernel_rfl) (by kernel_rfl) (by kernel_rfl) hS4 (Or.inl ⟨by rfl, by (intro X hX; go_simp)⟩) ?_
  simp only [Act.put, List.setIfInBounds_toArray, List.set_cons_zero, List.set_cons_succ]
  refine Ht.step (i := 20) ⟨some 25, _, _, _, _, _⟩ rfl (by kernel_rfl) (by rfl) (fun K hK => ?_)
  go_simp
  have hb4 : Below w3.heap.size w3 (w3.alloc (.cells #[.slice (some ⟨g1, 0, none⟩) n c1, .slice (some ⟨g2, 0, none⟩) n c2, .slice a3 W.length c3, .bool dn] 63)) := (Below.refl _ _).alloc (Nat.le_refl _) _
  have hdk : IsDk (w3.alloc (.cells #[.slice (some ⟨g1, 0, none⟩) n c1, .slice (some ⟨g2, 0, none⟩) n c2, .slice a3 W.length c3, .bool dn] 63)) w.heap.size w3.heap.size g1 c1 g2 c2 (.slice a3 W.length c3) n F G W dn :=
    ⟨heap_alloc_new w3 _, own_below o1w hb4 (Nat.le_refl _), own_below o2w hb4 (Nat.le_refl _), own_below o3w hb4 (Nat.le_refl _), hne, HH.out.n1, HH.out.n2, HH.out.hw, d3.size⟩
  have HF := Lib.hid (And.intro hdk (d3.trans (hb4.mono d3.size)))
  refine hK _ _ (fun _ => (hb4.block bd (lt_of_block hS4)).trans hS4) (fun _ => ?_)
  clear hK K hb4 hdk
  try simp only [Act.put, List.setIfInBounds_toArray, List.set_cons_zero, List.set_cons_succ]
  refine Ht.step (i := 21) ⟨some 2, _, _, _, _, _⟩ rfl (by kernel_rfl) (by rfl) (fun K hK => ?_)
  go_simp
  refine hK _ _ (fun h => absurd rfl h) (fun _ => ?_)
  clear hK K
  refine done (by kernel_rfl) ?_
  clear hS4 hS3 hS2 hS1 hS0 o1 o2 o3 b1 b2 b3 d1 d2 d3 o1w o2w o3w
  go_wp2_with fail
  go_ret
  exact ⟨_, _, _, _, _, _, rfl, HF.out.1, HF.out.2⟩
end
end Go.Proofs.YtjblkmjdepdekaaDoor.Dk
