
/- disks: Sync -/
import Derived.Test.YtjblkmjdepdekaaDoorDk4
namespace Go.Proofs.YtjblkmjdepdekaaDoor.Dk
open Go.RowKit Go.Lib Go.Proofs.YtjblkmjdepdekaaDoor.By Go.Proofs.YtjblkmjdepdekaaDoor.Ht

theorem wcells_get : ∀ (W : List Wr) (_ : ∀ x ∈ W, (wcell x).length = 65) (k : Nat) (hk : k < W.length) (j : Nat) (_ : j < 65), (wcells W)[k * 65 + j]? = (wcell W[k])[j]?
  | x :: r, hw, 0, _, j, hj => by
    have h1 := hw x (by simp)
    simp only [wcells, List.flatMap_cons]
    rw [Nat.zero_mul, Nat.zero_add, List.getElem?_append_left (by omega)]
    rfl
  | x :: r, hw, k + 1, hk, j, hj => by
    have h1 := hw x (by simp)
    simp only [wcells, List.flatMap_cons]
    rw [List.getElem?_append_right (by omega), h1, show (k + 1) * 65 + j - 65 = k * 65 + j by omega]
    exact wcells_get r (fun y hy => hw y (by simp [hy])) k (by simpa using hk) j hj
theorem own_range {w : World} {B g n cap s o : Nat} {e : TypeId} {xs cs : List Value} (h : w.ownsRow B e s (.slice (some ⟨g, 0, none⟩) n cap) n xs) (hx : ∀ j, j < cs.length → xs[o + j]? = cs[j]?) : w.rangeAt g o cs := fun j v hv => by
  have hj : j < cs.length := (List.getElem?_eq_some_iff.1 hv).1
  have := h.cells (g := g) rfl (o + j) v ((hx j hj).trans hv)
  rwa [Addr.add_mid, Nat.zero_add] at this
theorem length_getS {F : List UInt8} {k n : Nat} (hF : F.length = 64 * n) (hk : k < n) : (getS F k).length = 64 := by unfold getS; simp [hF]; omega
theorem sector_range {w : World} {B g n cap k : Nat} {e : TypeId} {F : List UInt8} (h : w.ownsRow B e 64 (.slice (some ⟨g, 0, none⟩) n cap) n (byteCells F)) : w.rangeAt g (k * 64) (byteCells (getS F k)) :=
  own_range h fun j hj => by
    have hj2 : j < 64 := by have := List.length_take_le 64 (F.drop (64 * k)); simp only [byteCells, List.length_map, getS] at hj; omega
    unfold getS byteCells
    rw [List.getElem?_map, List.getElem?_map, List.getElem?_take_of_lt hj2, List.getElem?_drop, Nat.mul_comm 64 k]
theorem wcell_len {x : Wr} (h : x.2.length = 64) : (wcell x).length = 65 := by simp [wcell, byteCells, h]
theorem wcell_one (x : Wr) : ∀ v ∈ wcell x, v.oneCell' = true := by
  intro v hv
  rcases List.mem_cons.1 hv with rfl | hv
  · rfl
  · exact bytes_one _ v hv
section
variable {w : World} {B bd gs cs gn cn n : Nat} {vw : Value} {F G : List UInt8} {W : List Wr} {dn : Bool}
/-- what waits, one by one -/
theorem waits_range (h : IsDk w B bd gs cs gn cn vw n F G W dn) {k : Nat} (hk : k < W.length) : ∃ gw cw, vw = .slice (some ⟨gw, 0, none⟩) W.length cw ∧ W.length ≤ cw ∧ w.rangeAt gw (k * 65) (wcell W[k]) := by
  rcases h.ow.2 with ⟨_, h1⟩ | ⟨g, cap, cur, rfl, _, _, h4, _⟩
  · omega
  · exact ⟨g, cap, rfl, h4, own_range h.ow fun j hj => wcells_get W (fun x hx => wcell_len (h.hw x hx).2) k hk j (by rw [wcell_len (h.hw _ (List.getElem_mem hk)).2] at hj; exact hj)⟩
theorem size_writing {cs : List Value} (h : cs.length = 65) : (Tryd.prog.info? 81).map (·.size) = some cs.length := by
  obtain ⟨iw, hiw, _, hiw1, _⟩ := info_parts info81
  rw [hiw, Option.map_some, hiw1, h]
theorem size_sector {cs : List Value} (h : cs.length = 64) : (Tryd.prog.info? 79).map (·.size) = some cs.length := by
  obtain ⟨iw, hiw, _, hiw1, _⟩ := info_parts info79
  rw [hiw, Option.map_some, hiw1, h]
/-- a variable of a writing is made, and written whole -/
theorem var_made (w : World) (x : Wr) (hx : x.2.length = 64) : ∃ W1, (storeCells ⟨w.heap.size, 0, none⟩ (wcell x)).run Tryd.prog (w.alloc (.cells (Zl (.int .i64 0)).toArray 81)) = .ok () W1 ∧
    W1.heap[w.heap.size]? = some (.cells (wcell x).toArray 81 (0, 0)) ∧ Below w.heap.size w W1 := by
  refine ⟨(w.alloc (.cells (Zl (.int .i64 0)).toArray 81)).setRow w.heap.size (wcell x).toArray, ?_, setRow_heap _ _ _ _ _ _ (heap_alloc_new w _), below_setRow ((Below.refl _ _).alloc (Nat.le_refl _) _) (Nat.le_refl _) _⟩
  have := run_storeCells_from (P := Tryd.prog) w.heap.size 81 (wcell x) 0 (Zl (.int .i64 0)).toArray (w.alloc (.cells (Zl (.int .i64 0)).toArray 81)) (heap_alloc_new w _) (by rw [wcell_len hx]; simp [Zl]) (wcell_one x)
  simpa using this
end
/-- what a sync makes of the sectors -/
def syncF (G F : List UInt8) (W : List Wr) : List UInt8 := W.foldl (fun F x => setS F x.1 (getS G x.1)) F
theorem syncF_snoc (G F : List UInt8) (W : List Wr) (x : Wr) : syncF G F (W ++ [x]) = setS (syncF G F W) x.1 (getS G x.1) := by unfold syncF; rw [List.foldl_append]; rfl

theorem sync_nil (w : World) : Calls Tryd.prog 25 #[.pointer none] w fun e w' => e = .returned (.int .i64 19) ∧ w = w' := by
  have HD := Lib.hid (down_nil w)
  go_enter Tryd.func25, Tryd.ntmps25
  go_wp2_with (go_at_call 42; refine HD.out.mono ?_; rintro e w' ⟨rfl, rfl⟩)
  go_ret
  exact ⟨rfl, rfl⟩
section
variable {w : World} {B bd gs cs gn cn n : Nat} {vw : Value} {F G : List UInt8} {W : List Wr}
theorem sync_down (h : IsDk w B bd gs cs gn cn vw n F G W true) : Calls Tryd.prog 25 #[.pointer (some ⟨bd, 0, none⟩)] w fun e w' => e = .returned (.int .i64 19) ∧ w = w' := by
  have HD := Lib.hid (down_any h)
  clear h
  go_enter Tryd.func25, Tryd.ntmps25
  go_wp2_with (go_at_call 42; refine HD.out.mono ?_; rintro e w' ⟨rfl, rfl⟩)
  go_ret
  exact ⟨rfl, rfl⟩
set_option maxRecDepth 20000 in
set_option maxHeartbeats 2000000 in
theorem sync_ok (h : IsDk w B bd gs cs gn cn vw n F G W false) (hWl : W.length ≤ 1000000) : Calls Tryd.prog 25 #[.pointer (some ⟨bd, 0, none⟩)] w fun e w' =>
    e = .returned (.int .i64 0) ∧ IsDk w' B bd gs cs gn cn (.slice none 0 0) n (syncF G F W) G [] false ∧ Fr (Foot bd gs gn vw) w w' := by
  have HD := Lib.hid (down_any h)
  obtain ⟨aw, cw, rfl⟩ := own_shape h.ow
  have hz0 := zero_writing
  obtain ⟨Z, hZ⟩ : ∃ Z, Z = (Zl (.int .i64 0)).toArray := ⟨_, rfl⟩
  rw [← hZ] at hz0
  have HZ := Lib.hid hZ
  clear hZ
  obtain ⟨⟨c0, c1, c2, c3⟩, _⟩ := four_cells h.blk
  have HH := Lib.hid h
  clear h c0 c1 c3
  go_enter Tryd.func25, Tryd.ntmps25
  go_wp2_with (go_at_call 42; refine HD.out.mono ?_; rintro e w' ⟨rfl, rfl⟩)
  go_loopw [12] (fun kv wr => ∃ k : Nat, k ≤ W.length ∧ kv = .int .i64 k ∧ IsDk wr B bd gs cs gn cn (.slice aw W.length cw) n (syncF G F (W.take k)) G W false ∧ Fr (Foot bd gs gn (.slice aw W.length cw)) w wr) (fun kv _ => W.length - (intOf kv).toNat)
  case atStart => exact ⟨0, Nat.zero_le _, rfl, HH.out, Fr.refl _ _⟩
  case round =>
    obtain ⟨k, hk, rfl, hdk, hfr⟩ := hrel
    by_cases hlt : k < W.length
    · obtain ⟨gw, cw', hv, hcw, hrg⟩ := waits_range hdk hlt
      simp only [Value.slice.injEq, true_and] at hv
      obtain ⟨rfl, rfl⟩ := hv
      obtain ⟨x, hx⟩ : ∃ x, x = W[k] := ⟨_, rfl⟩
      rw [← hx] at hrg
      have hxw := hdk.hw x (by rw [hx]; exact List.getElem_mem hlt)
      obtain ⟨W1, hsc, hg1, hb1⟩ := var_made wr x hxw.2
      have hsz := size_writing (wcell_len hxw.2)
      have hYs : (wcell x).toArray.size = 65 := by simpa using wcell_len hxw.2
      obtain ⟨Y, hY⟩ : ∃ Y, Y = (wcell x).toArray := ⟨_, rfl⟩
      rw [show wcell x = Y.toList by rw [hY], ← HZ.out] at hsc
      rw [← hY] at hYs hg1
      have HRG := Lib.hid (And.intro hrg hsz)
      have HK := Lib.hid (And.intro hdk (And.intro hfr (And.intro hx (And.intro hxw (And.intro hg1 (And.intro hb1 hY))))))
      rw [show wcell x = Y.toList by rw [hY]] at HRG
      clear hdk hfr hx hxw hg1 hb1 hY hrg hsz
      have hkc : (k : Int) < (W.length : Int) := by omega
      have c2' := (four_cells HK.out.1.blk).1.2.2.1
      go_wp2_with (refine wpList_load_mid rfl 81 _ rfl gw (k * 65) rfl Y.toList _ HRG.out.1 Tryd.underlying81 rfl HRG.out.2 ?_)
      have hbd1 : W1.heap[bd]? = some (.cells #[.slice (some ⟨gs, 0, none⟩) n cs, .slice (some ⟨gn, 0, none⟩) n cn, .slice (some ⟨gw, 0, none⟩) W.length cw, .bool false] 63 (0, 0)) := (HK.out.2.2.2.2.2.1.block bd (lt_of_block HK.out.1.blk)).trans HK.out.1.blk
      have hon1 := own_other (w' := W1) HK.out.1.on (fun g hg => HK.out.2.2.2.2.2.1.block g (HK.out.1.on.lt g hg).2)
      have hos1 := own_other (w' := W1) HK.out.1.os (fun g hg => HK.out.2.2.2.2.2.1.block g (HK.out.1.os.lt g hg).2)
      have how1 := own_other (w' := W1) HK.out.1.ow (fun g hg => HK.out.2.2.2.2.2.1.block g (HK.out.1.ow.lt g hg).2)
      have hS1 : W1.heap[bd]? = some (.cells #[.slice (some ⟨gs, 0, none⟩) n cs, .slice (some ⟨gn, 0, none⟩) n cn, .slice (some ⟨gw, 0, none⟩) W.length cw, .bool false] 63 (0, 0)) ∧ W1.heap[wr.heap.size]? = some (.cells Y 81 (0, 0)) ∧ W1.rangeAt gn (x.1 * 64) (byteCells (getS G x.1)) := ⟨hbd1, HK.out.2.2.2.2.1, sector_range hon1⟩
      have hmix : Tryd.prog.follows .mixedOrders = true := by kernel_rfl
      have hGl : G.length = 64 * n := by have := hon1.1; simp only [byteCells, List.length_map] at this; omega
      have hgl := length_getS hGl HK.out.2.2.2.1.1
      have hat0 : (0 : Int) ≤ (x.1 : Int) := by omega
      have hat1 : (x.1 : Int) < (n : Int) := by have := HK.out.2.2.2.1.1; omega
      have hn4 := HK.out.1.n2
      have hyc : ∀ X : World, X.heap[wr.heap.size]? = some (.cells Y 81 (0, 0)) → X.cell? ⟨wr.heap.size, 0, none⟩ = some (.int .i64 (x.1 : Nat)) := fun X hX => by
        rw [cell_of_row X _ 0 Y _ _ hX, HK.out.2.2.2.2.2.2]; simp [wcell]
      have HHY := Lib.hid hyc
      have H1 := Lib.hid (And.intro hbd1 (And.intro hon1 (And.intro hos1 (And.intro how1 hgl))))
      have hrs := size_sector (cs := byteCells (getS G x.1)) (by simpa [byteCells] using hgl)
      have HRS := Lib.hid hrs
      clear hbd1 hon1 hos1 how1 hgl hGl hyc hrs c2'
      refine begin' 15 (fun X => X.heap[bd]? = some (.cells #[.slice (some ⟨gs, 0, none⟩) n cs, .slice (some ⟨gn, 0, none⟩) n cn, .slice (some ⟨gw, 0, none⟩) W.length cw, .bool false] 63 (0, 0)) ∧ X.heap[wr.heap.size]? = some (.cells Y 81 (0, 0)) ∧ X.rangeAt gn (x.1 * 64) (byteCells (getS G x.1))) hmix hS1 (fun hS0 => ?_)
      refine Ht.take (i := 0) ⟨some 16, _, _, _, _, _⟩ (.pointer (some ⟨bd, 0, none⟩)) rfl (by kernel_rfl) (by kernel_rfl) (by decide) (by kernel_rfl) (by kernel_rfl) (by kernel_rfl) hS0 (Or.inl ⟨by rfl, by (intro X hX; go_simp)⟩) ?_
      simp only [Act.put, List.setIfInBounds_toArray, List.set_cons_zero, List.set_cons_succ]
      refine Ht.take (i := 1) ⟨some 17, _, _, _, _, _⟩ (.pointer (some ⟨bd, 0, none⟩)) rfl (by kernel_rfl) (by kernel_rfl) (by decide) (by kernel_rfl) (by kernel_rfl) (by kernel_rfl) hS0 (Or.inl ⟨by rfl, by (intro X hX; go_simp)⟩) ?_
      simp only [Act.put, List.setIfInBounds_toArray, List.set_cons_zero, List.set_cons_succ]
      refine Ht.take (i := 2) ⟨some 18, _, _, _, _, _⟩ (.pointer (some ⟨bd, 0, none⟩)) rfl (by kernel_rfl) (by kernel_rfl) (by decide) (by kernel_rfl) (by kernel_rfl) (by kernel_rfl) hS0 (Or.inl ⟨by rfl, by (intro X hX; go_simp)⟩) ?_
      simp only [Act.put, List.setIfInBounds_toArray, List.set_cons_zero, List.set_cons_succ]
      refine Ht.take (i := 3) ⟨some 19, _, _, _, _, _⟩ (.slice (some ⟨gs, 0, none⟩) n cs) rfl (by kernel_rfl) (by kernel_rfl) (by decide) (by kernel_rfl) (by kernel_rfl) (by kernel_rfl) hS0 (Or.inl ⟨by rfl, by (intro X hX; have := (four_cells hX.1).1.1; go_simp)⟩) ?_
      simp only [Act.put, List.setIfInBounds_toArray, List.set_cons_zero, List.set_cons_succ]
      refine Ht.take (i := 4) ⟨some 20, _, _, _, _, _⟩ (.pointer (some ⟨wr.heap.size, 0, none⟩)) rfl (by kernel_rfl) (by kernel_rfl) (by decide) (by kernel_rfl) (by kernel_rfl) (by kernel_rfl) hS0 (Or.inl ⟨by rfl, by (intro X hX; go_simp)⟩) ?_
      simp only [Act.put, List.setIfInBounds_toArray, List.set_cons_zero, List.set_cons_succ]
      refine Ht.take (i := 5) ⟨some 21, _, _, _, _, _⟩ (.int .i64 (x.1 : Nat)) rfl (by kernel_rfl) (by kernel_rfl) (by decide) (by kernel_rfl) (by kernel_rfl) (by kernel_rfl) hS0 (Or.inl ⟨by rfl, by (intro X hX; have := HHY.out X hX.2.1; go_simp)⟩) ?_
      simp only [Act.put, List.setIfInBounds_toArray, List.set_cons_zero, List.set_cons_succ]
      refine Ht.take (i := 6) ⟨some 22, _, _, _, _, _⟩ (.pointer (some ⟨bd, 0, none⟩)) rfl (by kernel_rfl) (by kernel_rfl) (by decide) (by kernel_rfl) (by kernel_rfl) (by kernel_rfl) hS0 (Or.inl ⟨by rfl, by (intro X hX; go_simp)⟩) ?_
      simp only [Act.put, List.setIfInBounds_toArray, List.set_cons_zero, List.set_cons_succ]
      refine Ht.take (i := 7) ⟨some 23, _, _, _, _, _⟩ (.pointer (some ⟨bd, 0, none⟩)) rfl (by kernel_rfl) (by kernel_rfl) (by decide) (by kernel_rfl) (by kernel_rfl) (by kernel_rfl) hS0 (Or.inl ⟨by rfl, by (intro X hX; go_simp)⟩) ?_
      simp only [Act.put, List.setIfInBounds_toArray, List.set_cons_zero, List.set_cons_succ]
      refine Ht.take (i := 8) ⟨some 24, _, _, _, _, _⟩ (.pointer (some ⟨bd, 1, none⟩)) rfl (by kernel_rfl) (by kernel_rfl) (by decide) (by kernel_rfl) (by kernel_rfl) (by kernel_rfl) hS0 (Or.inl ⟨by rfl, by (intro X hX; go_simp)⟩) ?_
      simp only [Act.put, List.setIfInBounds_toArray, List.set_cons_zero, List.set_cons_succ]
      refine Ht.take (i := 9) ⟨some 25, _, _, _, _, _⟩ (.slice (some ⟨gn, 0, none⟩) n cn) rfl (by kernel_rfl) (by kernel_rfl) (by decide) (by kernel_rfl) (by kernel_rfl) (by kernel_rfl) hS0 (Or.inl ⟨by rfl, by (intro X hX; have := (four_cells hX.1).1.2.1; go_simp)⟩) ?_
      simp only [Act.put, List.setIfInBounds_toArray, List.set_cons_zero, List.set_cons_succ]
      refine Ht.take (i := 10) ⟨some 26, _, _, _, _, _⟩ (.pointer (some ⟨wr.heap.size, 0, none⟩)) rfl (by kernel_rfl) (by kernel_rfl) (by decide) (by kernel_rfl) (by kernel_rfl) (by kernel_rfl) hS0 (Or.inl ⟨by rfl, by (intro X hX; go_simp)⟩) ?_
      simp only [Act.put, List.setIfInBounds_toArray, List.set_cons_zero, List.set_cons_succ]
      refine Ht.take (i := 11) ⟨some 27, _, _, _, _, _⟩ (.int .i64 (x.1 : Nat)) rfl (by kernel_rfl) (by kernel_rfl) (by decide) (by kernel_rfl) (by kernel_rfl) (by kernel_rfl) hS0 (Or.inl ⟨by rfl, by (intro X hX; have := HHY.out X hX.2.1; go_simp)⟩) ?_
      simp only [Act.put, List.setIfInBounds_toArray, List.set_cons_zero, List.set_cons_succ]
      refine Ht.take (i := 12) ⟨some 28, _, _, _, _, _⟩ (.pointer (some ⟨gn, x.1 * 64, none⟩)) rfl (by kernel_rfl) (by kernel_rfl) (by decide) (by kernel_rfl) (by kernel_rfl) (by kernel_rfl) hS0 (Or.inl ⟨by rfl, by (intro X hX; go_simp)⟩) ?_
      simp only [Act.put, List.setIfInBounds_toArray, List.set_cons_zero, List.set_cons_succ]
      refine Ht.take (i := 13) ⟨some 29, _, _, _, _, _⟩ (.agg (byteCells (getS G x.1)).toArray) rfl (by kernel_rfl) (by kernel_rfl) (by decide) (by kernel_rfl) (by kernel_rfl) (by kernel_rfl) hS0 (yieldsIf_load_mid (by rfl) _ _ rfl gn (x.1 * 64) rfl (byteCells (getS G x.1)) _ (fun X hX => hX.2.2) Tryd.underlying79 rfl HRS.out) ?_
      simp only [Act.put, List.setIfInBounds_toArray, List.set_cons_zero, List.set_cons_succ]
      refine Ht.take (i := 14) ⟨some 30, _, _, _, _, _⟩ (.pointer (some ⟨gs, x.1 * 64, none⟩)) rfl (by kernel_rfl) (by kernel_rfl) (by decide) (by kernel_rfl) (by kernel_rfl) (by kernel_rfl) hS0 (Or.inl ⟨by rfl, by (intro X hX; go_simp)⟩) ?_
      simp only [Act.put, List.setIfInBounds_toArray, List.set_cons_zero, List.set_cons_succ]
      have hst := own_sector (k := x.1) (b := getS G x.1) (show W1.drew.ownsRow B 79 64 (.slice (some ⟨gs, 0, none⟩) n cs) n (byteCells (syncF G F (W.take k))) from own_other H1.out.2.2.1 (fun _ _ => rfl)) HK.out.2.2.2.1.1 H1.out.2.2.2.2
      have HST := Lib.hid hst
      clear hst
      refine Ht.step (i := 15) ⟨none, _, _, _, _, _⟩ rfl (by kernel_rfl) (by rfl) (fun K hK => ?_)
      refine wp_store_mid 79 _ _ rfl gs (x.1 * 64) (byteCells (getS G x.1)).toArray rfl rfl (by simpa [byteCells, H1.out.2.2.2.2] using HST.out.1) (by simpa using HRS.out) (all_oneCell_toArray (bytes_one _)) ?_
      refine hK _ _ (fun h => absurd rfl h) (fun _ => ?_)
      clear hK K
      refine done (by kernel_rfl) ?_
      dsimp only [Act.put]
      obtain ⟨W2, hW2⟩ : ∃ X, X = W1.drew.setCells gs (x.1 * 64) (byteCells (getS G x.1)) := ⟨_, rfl⟩
      have hk2 : ∀ j, j ≠ gs → W2.heap[j]? = W1.heap[j]? := fun j hj => by rw [hW2]; exact heap_setCells_other hj _ _ _
      have hgs : ∀ g, g = gs → ∃ cur, W1.heap[g]? = some (.cells cur 79 (0, 0)) := fun g hg => by obtain ⟨cur, hc⟩ := own_type (g := gs) H1.out.2.2.1 rfl; exact ⟨cur, by rw [hg]; exact hc⟩
      have hbg : bd ≠ gs := fun e => by
        obtain ⟨cur, hc⟩ := hgs bd e
        rw [H1.out.1] at hc
        simp at hc
      have htk : W.take (k + 1) = W.take k ++ [x] := by rw [List.take_succ_eq_append_getElem hlt, HK.out.2.2.1]
      have hdk2 : IsDk W2 B bd gs cs gn cn (.slice (some ⟨gw, 0, none⟩) W.length cw) n (syncF G F (W.take (k + 1))) G W false := by
        rw [htk, syncF_snoc]
        refine ⟨(hk2 bd hbg).trans H1.out.1, by rw [hW2]; exact HST.out.2, own_other H1.out.2.1 (fun g hg => hk2 g (fun e => HK.out.1.ne (by rw [← e]; simpa [Value.ownBlock] using hg.symm))), own_other H1.out.2.2.2.1 (fun g hg => hk2 g (fun e => ?_)), HK.out.1.ne, HK.out.1.n1, HK.out.1.n2, HK.out.1.hw, HK.out.1.hb⟩
        obtain ⟨cur, hc⟩ := hgs g e
        exact own_not H1.out.2.2.2.1 hc (by decide) g hg rfl
      have hfr2 : Fr (Foot bd gs gn (.slice (some ⟨gw, 0, none⟩) W.length cw)) w W2 := by
        rw [hW2]; exact ((HK.out.2.1.trans (Fr.of HK.out.2.2.2.2.2.1)).drew).setCells (.inl (.inr (.inl rfl))) _
      have H2 := Lib.hid (And.intro hdk2 hfr2)
      rw [← hW2]
      clear hW2 hk2 hgs hbg htk hdk2 hfr2 hS1 hS0
      go_wp2_with fail
      go_roundw
      case rel => exact ⟨k + 1, by omega, by go_num, H2.out.1, H2.out.2⟩
      case measure => simp [intOf]; omega
    · obtain rfl : k = W.length := by omega
      rw [List.take_length] at hdk
      obtain ⟨⟨_, _, c2', _⟩, _, _, f2, _⟩ := four_cells hdk.blk
      have HK := Lib.hid (And.intro hdk.nowait hfr)
      clear hdk hfr
      go_wp2_with fail
      go_ret
      exact ⟨rfl, HK.out.1, HK.out.2.setCell (.inl (.inl rfl)) _⟩
end
end Go.Proofs.YtjblkmjdepdekaaDoor.Dk
