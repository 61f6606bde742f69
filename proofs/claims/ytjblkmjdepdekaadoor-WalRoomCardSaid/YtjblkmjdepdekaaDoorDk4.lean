
/- disks: Write -/
import Derived.Test.YtjblkmjdepdekaaDoorDk3
import Derived.Test.YtjblkmjdepdekaaDoorAo
import Derived.Test.YtjblkmjdepdekaaDoorSc
import Derived.Laws.CopyOwn
import Derived.Great.BuildSlice
namespace Go.Proofs.YtjblkmjdepdekaaDoor.Dk
open Go.RowKit Go.Lib Go.Proofs.YtjblkmjdepdekaaDoor.By Go.Proofs.YtjblkmjdepdekaaDoor.Ht

/-- bytes, and the rest 0 -/
def full (l : List UInt8) : List UInt8 := l ++ List.replicate (64 - l.length) 0
theorem write_nil (w : World) (i : Int) (v : Value) : Calls Tryd.prog 24 #[.pointer none, .int .i64 i, v] w fun e w' => e = .returned (.int .i64 19) ∧ w = w' := by
  have HD := Lib.hid (down_nil w)
  go_enter Tryd.func24, Tryd.ntmps24
  go_wp2_with (go_at_call 42; refine HD.out.mono ?_; rintro e w' ⟨rfl, rfl⟩)
  go_ret
  exact ⟨rfl, rfl⟩
section
variable {w : World} {B bd gs cs gn cn n : Nat} {vw : Value} {F G : List UInt8} {W : List Wr}
theorem write_down (h : IsDk w B bd gs cs gn cn vw n F G W true) (i : Int) (v : Value) : Calls Tryd.prog 24 #[.pointer (some ⟨bd, 0, none⟩), .int .i64 i, v] w fun e w' => e = .returned (.int .i64 19) ∧ w = w' := by
  have HD := Lib.hid (down_any h)
  clear h
  go_enter Tryd.func24, Tryd.ntmps24
  go_wp2_with (go_at_call 42; refine HD.out.mono ?_; rintro e w' ⟨rfl, rfl⟩)
  go_ret
  exact ⟨rfl, rfl⟩
theorem write_range (h : IsDk w B bd gs cs gn cn vw n F G W false) (i : Int) (hi : i ≤ 9223372036854775807) (hb : hasB n i 1 = false) (v : Value) : Calls Tryd.prog 24 #[.pointer (some ⟨bd, 0, none⟩), .int .i64 i, v] w fun e w' => e = .returned (.int .i64 3) ∧ w = w' := by
  have HD := Lib.hid (down_any h)
  have HS := has_any h i 1 hi
  rw [hb] at HS
  have HS := Lib.hid HS
  clear h hb
  go_enter Tryd.func24, Tryd.ntmps24
  go_wp2_with (first | (go_at_call 42; refine HD.out.mono ?_; rintro e w' ⟨rfl, rfl⟩) | (go_at_call 43; refine HS.out.mono ?_; rintro e w' ⟨rfl, rfl⟩))
  go_ret
  exact ⟨rfl, rfl⟩
theorem has_one (i : Nat) (h : i < n) : hasB n i 1 = true := by unfold hasB; simp; omega
theorem write_long (h : IsDk w B bd gs cs gn cn vw n F G W false) (i : Nat) (hi : i < n) (a : Option Addr) (len cap : Nat) (hl : 64 < len) (hm : len ≤ maxLen) : Calls Tryd.prog 24 #[.pointer (some ⟨bd, 0, none⟩), .int .i64 (i : Nat), .slice a len cap] w fun e w' => e = .returned (.int .i64 15) ∧ w = w' := by
  have HD := Lib.hid (down_any h)
  have HS := has_any h i 1 (by have := h.n2; omega)
  rw [has_one i hi] at HS
  have HS := Lib.hid HS
  unfold maxLen at hm
  clear h
  go_enter Tryd.func24, Tryd.ntmps24
  go_wp2_with (first | (go_at_call 42; refine HD.out.mono ?_; rintro e w' ⟨rfl, rfl⟩) | (go_at_call 43; refine HS.out.mono ?_; rintro e w' ⟨rfl, rfl⟩))
  go_ret
  exact ⟨rfl, rfl⟩
/-- a writing of nothing -/
def Zl (v : Value) : List Value := v :: List.replicate 64 (.int .u8 0)
theorem info81 : (Tryd.prog.info? 81).map (fun i => (i.zero, i.size, i.bytes)) = some (some (.agg (Zl (.int .i64 0)).toArray), 65, 72) := by kernel_rfl
theorem zero_writing (w : World) : (zeroValue 81).run Tryd.prog w = .ok (.agg (Zl (.int .i64 0)).toArray) w := by
  obtain ⟨i0, hi, hz0, hz1, hz2⟩ := info_parts info81
  simp [zeroValue, typeInfo, hi, hz0]
theorem length_full {l : List UInt8} (h : l.length ≤ 64) : (full l).length = 64 := by unfold full; simp; omega
theorem splice_gen {v z : Value} {cs : List Value} (m : Nat) : splice (v :: List.replicate m z) 1 cs = v :: (cs ++ List.replicate (m - cs.length) z) := by
  unfold splice
  rw [List.take_succ_cons, List.take_zero, Nat.add_comm 1, List.drop_succ_cons, List.drop_replicate]
  rfl
theorem splice_full {v : Value} {l : List UInt8} : splice (Zl v) 1 (byteCells l) = v :: byteCells (full l) := by
  unfold Zl full
  rw [splice_gen]
  simp [byteCells, List.map_append, List.map_replicate]
theorem range_all' {w : World} {q m : Nat} {cs : List Value} {t : TypeId} {fr : Nat × Nat} (h : w.heap[q]? = some (.cells cs.toArray t fr)) (hm : cs.length = m) : w.rangeAt q 0 cs := by
  have := World.rangeAt_of_block h 0 m
  rwa [show (cs.toArray.extract 0 (0 + m)).toList = cs by simp [← hm]] at this
theorem range_tail {w : World} {q m : Nat} {v : Value} {cs : List Value} {t : TypeId} {fr : Nat × Nat} (h : w.heap[q]? = some (.cells (v :: cs).toArray t fr)) (hm : cs.length = m) : w.rangeAt q 1 cs := by
  have := World.rangeAt_of_block h 1 m
  rwa [show ((v :: cs).toArray.extract 1 (1 + m)).toList = cs by simp [← hm, List.take_of_length_le]] at this
theorem fill_one {cs : List Value} {Z : Array Value} (h : cs.length = 65) (hZ : Z.size = 65) : Instr.fill (fun i => some (i * 65, 65)) Z [(0, .agg cs.toArray)] = some cs.toArray := by
  have := Great.fill_whole (s := 65) (by decide) [.agg cs.toArray] Z (by intro v hv; obtain rfl := List.mem_singleton.1 hv; simpa [Value.cells] using h) (by simp [hZ])
  simpa [Value.cells] using this
/-- bytes are copied into a block, from its second cell on -/
theorem copy_into (W : World) {g len cap : Nat} {t : TypeId} {Yl : List Value} {a : Option Addr} {l : List UInt8} (hg : W.heap[g]? = some (.cells Yl.toArray t (0, 0))) (hY : Yl.length = 65) (hb : IsB W a len cap l) (hl : len ≤ 64) :
    ∃ W', (Builtin.copy_ #[32, 32] 3 #[.slice (some ⟨g, 1, none⟩) 64 64, .slice a len cap]).run Tryd.prog W = .ok (goInt len) W' ∧ W'.heap[g]? = some (.cells (splice Yl 1 (byteCells l)).toArray t (0, 0)) ∧
      (∀ B, B ≤ g → Below B W W') := by
  obtain ⟨i0, hi, hz0, hz1, hz2⟩ := info_parts info5
  obtain ⟨rfl, h2 | ⟨x, rfl, h3, h4, h5⟩⟩ := hb
  · obtain ⟨rfl, h3, rfl⟩ := h2
    have hl0 : l = [] := List.eq_nil_of_length_eq_zero h3
    subst hl0
    refine ⟨W, run_copy_none W _ _ _ 5 _ _ _ _ _ _ Tryd.underlying32 (by simp [hi, hz1]) (by simp), ?_, fun B _ => Below.refl _ _⟩
    rw [hg]; unfold splice; simp only [byteCells, List.map_nil, List.nil_append, List.length_nil, Nat.add_zero, List.take_append_drop]
  · have hr := run_copy_row (P := Tryd.prog) W 32 32 3 5 g 1 64 64 x l.length cap Yl.toArray t (byteCells l) Tryd.underlying32 (by simp [hi, hz1]) hg (by simp only [byteCells, List.length_map]; exact (Nat.min_eq_left hl).symm) h5 (by simp [byteCells, hY]; omega) (bytes_one l)
    refine ⟨W.setRow g (splice Yl 1 (byteCells l)).toArray, ?_, setRow_heap W g Yl.toArray _ t (0, 0) hg, fun B hB => below_setRow (Below.refl _ _) hB _⟩
    simpa [splice, byteCells] using hr
set_option maxRecDepth 20000 in
set_option maxHeartbeats 1000000 in
theorem write_ok (h : IsDk w B bd gs cs gn cn vw n F G W false) (i : Nat) (hi : i < n) (a : Option Addr) (len cap : Nat) (l : List UInt8) (hl : len ≤ 64) (hb : IsB w a len cap l) (hWl : W.length ≤ 1000000) : Calls Tryd.prog 24 #[.pointer (some ⟨bd, 0, none⟩), .int .i64 (i : Nat), .slice a len cap] w fun e w' =>
    e = .returned (.int .i64 0) ∧ (∃ vw', IsDk w' B bd gs cs gn cn vw' n F (setS G i (full l)) (W ++ [(i, full l)]) false ∧ (vw'.ownBlock = vw.ownBlock ∨ ∃ g, vw'.ownBlock = some g ∧ w.heap.size ≤ g)) ∧ Fr (Foot bd gs gn vw) w w' := by
  obtain rfl : l.length = len := hb.1
  have HD := Lib.hid (down_any h)
  have HS := has_any h i 1 (by have := h.n2; omega)
  rw [has_one i hi] at HS
  have HS2 := Lib.hid HS
  have hz0 := zero_writing
  obtain ⟨Z, hZ⟩ : ∃ Z, Z = (Zl (.int .i64 0)).toArray := ⟨_, rfl⟩
  rw [← hZ] at hz0
  have z1 : (Z = #[]) = False := by rw [hZ]; simp [Zl]
  obtain ⟨Y, hY⟩ : ∃ Y, Y = (Zl (.int .i64 (i : Nat))).toArray := ⟨_, rfl⟩
  have z2 : Z.setIfInBounds 0 (.int .i64 (i : Nat)) = Y := by rw [hZ, hY]; simp [Zl]
  have hst : ((w.alloc (.cells Z 81)).setRow w.heap.size Y).heap[w.heap.size]? = some (.cells Y 81 (0, 0)) := setRow_heap _ _ _ _ _ _ (heap_alloc_new w _)
  have hbs : Below w.heap.size w ((w.alloc (.cells Z 81)).setRow w.heap.size Y) := below_setRow ((Below.refl _ _).alloc (Nat.le_refl _) _) (Nat.le_refl _) _
  have hYs : Y.size = 65 := by rw [hY]; simp [Zl]
  have hsc : (storeCells ⟨w.heap.size, 0, none⟩ Y.toList).run Tryd.prog (w.alloc (.cells Z 81)) = .ok () ((w.alloc (.cells Z 81)).setRow w.heap.size Y) := by
    have := run_storeCells_from (P := Tryd.prog) w.heap.size 81 Y.toList 0 Z (w.alloc (.cells Z 81)) (heap_alloc_new w _) (by rw [hY, hZ]; simp [Zl]) (by
      rw [hY]; intro v hv; simp [Zl] at hv; rcases hv with rfl | ⟨_, rfl⟩ <;> rfl)
    simpa using this
  have HW0 := Lib.hid (And.intro hst (And.intro hbs (And.intro (heap_alloc_new w (.cells Z 81)) (And.intro hZ hY))))
  obtain ⟨W3, hcp, hg3, hb3⟩ := copy_into ((w.alloc (.cells Z 81)).setRow w.heap.size Y) (by rw [hst, hY]) (by simp [Zl]) (hb.old hbs) hl
  rw [splice_full] at hg3
  have HW3 := Lib.hid (And.intro hg3 (hbs.trans (hb3 _ (Nat.le_refl _))))
  have HH := Lib.hid (And.intro h hb)
  clear h hb HS hZ hY hst hbs hg3 hb3
  go_enter Tryd.func24, Tryd.ntmps24
  go_wp2_with (first | (go_at_call 42; refine HD.out.mono ?_; rintro e w' ⟨rfl, rfl⟩) | (go_at_call 43; refine HS2.out.mono ?_; rintro e w' ⟨rfl, rfl⟩))
  have hmix : Tryd.prog.follows .mixedOrders = true := by kernel_rfl
  have hbd3 : W3.heap[bd]? = w.heap[bd]? := HW3.out.2.block bd (lt_of_block HH.out.1.blk)
  obtain ⟨q, hq⟩ : ∃ q, q = w.heap.size := ⟨_, rfl⟩
  have hS3 : W3.heap[bd]? = some (.cells #[.slice (some ⟨gs, 0, none⟩) n cs, .slice (some ⟨gn, 0, none⟩) n cn, vw, .bool false] 63 (0, 0)) ∧ W3.heap[q]? = some (.cells (wcell (i, full l)).toArray 81 (0, 0)) := ⟨hbd3.trans HH.out.1.blk, by rw [hq]; exact HW3.out.1⟩
  rw [← hq]
  have HQ := Lib.hid hq
  have hun : Tryd.prog.underlying 81 = _ := Tryd.underlying81
  obtain ⟨iw, hiw, hiw0, hiw1, hiw2⟩ := info_parts info81
  have hlw : (wcell (i, full l)).length = 65 := by simp [wcell, byteCells, length_full hl]
  have HINF := Lib.hid (And.intro hiw (And.intro hiw0 (And.intro hiw1 (And.intro hiw2 hlw))))
  clear hbd3 hq hiw hiw0 hiw1 hiw2 hlw
  refine begin' 10 (fun X => X.heap[bd]? = some (.cells #[.slice (some ⟨gs, 0, none⟩) n cs, .slice (some ⟨gn, 0, none⟩) n cn, vw, .bool false] 63 (0, 0)) ∧ X.heap[q]? = some (.cells (wcell (i, full l)).toArray 81 (0, 0))) hmix hS3 (fun hS0 => ?_)
  refine take (i := 0) ⟨some 23, _, _, _, _, _⟩ (.pointer (some ⟨bd, 0, none⟩)) rfl (by kernel_rfl) (by kernel_rfl) (by decide) (by kernel_rfl) (by kernel_rfl) (by kernel_rfl) hS0 (Or.inl ⟨by rfl, by (intro X hX; go_simp)⟩) ?_
  simp only [Act.put, List.setIfInBounds_toArray, List.set_cons_zero, List.set_cons_succ]
  refine take (i := 1) ⟨some 24, _, _, _, _, _⟩ (.pointer (some ⟨bd, 0, none⟩)) rfl (by kernel_rfl) (by kernel_rfl) (by decide) (by kernel_rfl) (by kernel_rfl) (by kernel_rfl) hS0 (Or.inl ⟨by rfl, by (intro X hX; go_simp)⟩) ?_
  simp only [Act.put, List.setIfInBounds_toArray, List.set_cons_zero, List.set_cons_succ]
  refine take (i := 2) ⟨some 25, _, _, _, _, _⟩ (.pointer (some ⟨bd, 0, none⟩)) rfl (by kernel_rfl) (by kernel_rfl) (by decide) (by kernel_rfl) (by kernel_rfl) (by kernel_rfl) hS0 (Or.inl ⟨by rfl, by (intro X hX; go_simp)⟩) ?_
  simp only [Act.put, List.setIfInBounds_toArray, List.set_cons_zero, List.set_cons_succ]
  refine take (i := 3) ⟨some 26, _, _, _, _, _⟩ (.pointer (some ⟨bd, 2, none⟩)) rfl (by kernel_rfl) (by kernel_rfl) (by decide) (by kernel_rfl) (by kernel_rfl) (by kernel_rfl) hS0 (Or.inl ⟨by rfl, by (intro X hX; go_simp)⟩) ?_
  simp only [Act.put, List.setIfInBounds_toArray, List.set_cons_zero, List.set_cons_succ]
  refine take (i := 4) ⟨some 27, _, _, _, _, _⟩ (vw) rfl (by kernel_rfl) (by kernel_rfl) (by decide) (by kernel_rfl) (by kernel_rfl) (by kernel_rfl) hS0 (Or.inl ⟨by rfl, by (intro X hX; have := (four_cells hX.1).1.2.2.1; go_simp)⟩) ?_
  simp only [Act.put, List.setIfInBounds_toArray, List.set_cons_zero, List.set_cons_succ]
  refine take (i := 5) ⟨some 28, _, _, _, _, _⟩ (.agg (wcell (i, full l)).toArray) rfl (by kernel_rfl) (by kernel_rfl) (by decide) (by kernel_rfl) (by kernel_rfl) (by kernel_rfl) hS0 (yieldsIf_load_mid (by rfl) _ _ rfl q 0 rfl (wcell (i, full l)) _ (fun X hX => range_all' hX.2 HINF.out.2.2.2.2) hun rfl (by rw [HINF.out.1]; simp [HINF.out.2.2.1, HINF.out.2.2.2.2])) ?_
  simp only [Act.put, List.setIfInBounds_toArray, List.set_cons_zero, List.set_cons_succ]
  refine Go.Proofs.YtjblkmjdepdekaaDoor.Ht.step (i := 6) ⟨some 29, _, _, _, _, _⟩ rfl (by kernel_rfl) (by rfl) (fun K hK => ?_)
  refine wp_buildSlice 61 81 1 _ rfl (wcell (i, full l)).toArray iw _ Tryd.underlying61 HINF.out.1 HINF.out.2.1 (by rw [HINF.out.2.2.1]; decide) (by rw [HINF.out.2.2.1]; decide) ?fill ?_
  case fill =>
    rw [HINF.out.2.2.1]
    simp only [Array.toList_map, List.map_cons, List.map_nil]
    refine fill_one HINF.out.2.2.2.2 ?_
    rw [Array.size_map, Array.size_range]
  simp only [Act.put, List.setIfInBounds_toArray, List.set_cons_zero, List.set_cons_succ]
  have hq3 : q < W3.heap.size := lt_of_block hS3.2
  have hb4 : Below W3.heap.size W3 (W3.drew.alloc (.cells (wcell (i, full l)).toArray 81)) := (Below.refl _ W3).drew.alloc (by simp) _
  have hS4 : (W3.drew.alloc (.cells (wcell (i, full l)).toArray 81)).heap[bd]? = some (.cells #[.slice (some ⟨gs, 0, none⟩) n cs, .slice (some ⟨gn, 0, none⟩) n cn, vw, .bool false] 63 (0, 0)) ∧ (W3.drew.alloc (.cells (wcell (i, full l)).toArray 81)).heap[q]? = some (.cells (wcell (i, full l)).toArray 81 (0, 0)) :=
    ⟨(hb4.block bd (lt_of_block hS3.1)).trans hS3.1, (hb4.block q hq3).trans hS3.2⟩
  refine hK _ _ (fun _ => hS4) (fun _ => ?_)
  clear hK K
  have hown : (W3.drew.alloc (.cells (wcell (i, full l)).toArray 81)).ownsRow B 81 65 vw W.length (wcells W) :=
    own_other HH.out.1.ow (fun g hg => (hb4.block g (Nat.lt_of_lt_of_le (HH.out.1.ow.lt g hg).2 HW3.out.2.size)).trans (HW3.out.2.block g (HH.out.1.ow.lt g hg).2))
  refine Go.Proofs.YtjblkmjdepdekaaDoor.Ht.step (i := 7) ⟨some 30, _, _, _, _, _⟩ rfl (by kernel_rfl) (by rfl) (fun K hK => ?_)
  refine Ao.wp_append_own_new _ _ _ 61 rfl B 81 iw _ 65 72 Tryd.underlying61 HINF.out.1 HINF.out.2.1 HINF.out.2.2.1 HINF.out.2.2.2.1 (by simp [Value.cells, Zl]) (by decide) vw W.length (wcells W) rfl hown ⟨W3.drew.heap.size, 0, none⟩ 1 1 (wcell (i, full l)) rfl (by rw [HINF.out.2.2.2.2]) ?n1 ?n2 (by unfold maxLen; omega) (by omega) (by have := HH.out.1.hb; have := lt_of_block HH.out.1.blk; have := HW3.out.2.size; simp; omega) ?_
  case n1 =>
    intro j u hu
    rw [Addr.add_mid, Nat.zero_add]
    exact (cell_of_row _ _ j _ _ _ (heap_alloc_new W3.drew _)).trans (by simpa using hu)
  case n2 =>
    intro u hu
    rcases List.mem_cons.1 hu with rfl | hu
    · rfl
    · exact bytes_one _ u hu
  intro v5 W5 hown5 hg5 hnew5
  obtain ⟨a5, c5, rfl⟩ := own_shape hown5
  simp only [Act.put, List.setIfInBounds_toArray, List.set_cons_zero, List.set_cons_succ]
  have hS5 : W5.heap[bd]? = some (.cells #[.slice (some ⟨gs, 0, none⟩) n cs, .slice (some ⟨gn, 0, none⟩) n cn, vw, .bool false] 63 (0, 0)) ∧ W5.heap[q]? = some (.cells (wcell (i, full l)).toArray 81 (0, 0)) :=
    ⟨(hg5.block bd (lt_of_block hS4.1) (fun e => own_not hown hS4.1 (by decide) bd e.symm rfl)).trans hS4.1,
      (hg5.block q (lt_of_block hS4.2) (fun e => by have := (HH.out.1.ow.lt q e.symm).2; have := HQ.out; omega)).trans hS4.2⟩
  refine hK _ _ (fun _ => hS5) (fun _ => ?_)
  clear hK K
  refine take (i := 8) ⟨some 31, _, _, _, _, _⟩ (.pointer (some ⟨bd, 0, none⟩)) rfl (by kernel_rfl) (by kernel_rfl) (by decide) (by kernel_rfl) (by kernel_rfl) (by kernel_rfl) hS5 (Or.inl ⟨by rfl, by (intro X hX; go_simp)⟩) ?_
  simp only [Act.put, List.setIfInBounds_toArray, List.set_cons_zero, List.set_cons_succ]
  refine take (i := 9) ⟨some 32, _, _, _, _, _⟩ (.pointer (some ⟨bd, 2, none⟩)) rfl (by kernel_rfl) (by kernel_rfl) (by decide) (by kernel_rfl) (by kernel_rfl) (by kernel_rfl) hS5 (Or.inl ⟨by rfl, by (intro X hX; go_simp)⟩) ?_
  simp only [Act.put, List.setIfInBounds_toArray, List.set_cons_zero, List.set_cons_succ]
  refine Go.Proofs.YtjblkmjdepdekaaDoor.Ht.step (i := 10) ⟨none, _, _, _, _, _⟩ rfl (by kernel_rfl) (by rfl) (fun K hK => ?_)
  obtain ⟨⟨_, _, c2, _⟩, _, _, f2, _⟩ := four_cells hS5.1
  go_simp
  refine hK _ _ (fun h => absurd rfl h) (fun _ => ?_)
  clear hK K
  refine done (by kernel_rfl) ?_
  have hg6 : (W5.setCell ⟨bd, 2, none⟩ (.slice a5 (W.length + 1) c5)).heap[bd]? = some (.cells #[.slice (some ⟨gs, 0, none⟩) n cs, .slice (some ⟨gn, 0, none⟩) n cn, .slice a5 (W.length + 1) c5, .bool false] 63 (0, 0)) := by
    have := heap_setCell_same W5 bd 2 _ _ (.slice a5 (W.length + 1) c5) hS5.1
    simpa using this
  have hk6 : ∀ k, k ≠ bd → (W5.setCell ⟨bd, 2, none⟩ (.slice a5 (W.length + 1) c5)).heap[k]? = W5.heap[k]? := fun k hk => heap_setCell_other W5 _ k _ hk
  have hb6 : Below 0 W5 (W5.setCell ⟨bd, 2, none⟩ (.slice a5 (W.length + 1) c5)) := (Below.refl 0 _).setCell (p := ⟨bd, 2, none⟩) (Nat.zero_le _) _
  obtain ⟨W6, hW6⟩ : ∃ X, X = W5.setCell ⟨bd, 2, none⟩ (.slice a5 (W.length + 1) c5) := ⟨_, rfl⟩
  rw [← hW6] at hg6 hk6 hb6 ⊢
  have hqb : q ≠ bd := by have := lt_of_block HH.out.1.blk; have := HQ.out; omega
  have hown6 : W6.ownsRow B 81 65 (.slice a5 (W.length + 1) c5) (W.length + 1) (wcells W ++ wcell (i, full l)) :=
    own_other hown5 (fun g hg => hk6 g (own_not hown5 hS5.1 (by decide) g hg))
  have hq6 : W6.heap[q]? = some (.cells (wcell (i, full l)).toArray 81 (0, 0)) := (hk6 q hqb).trans hS5.2
  -- what lay there lies there
  have hold : ∀ g, g < w.heap.size → g ≠ bd → some g ≠ vw.ownBlock → W6.heap[g]? = w.heap[g]? := fun g h1 h2 h3 => by
    have h4 : g < W3.heap.size := Nat.lt_of_lt_of_le h1 HW3.out.2.size
    have h5 : g < (W3.drew.alloc (.cells (wcell (i, full l)).toArray 81)).heap.size := Nat.lt_of_lt_of_le h4 hb4.size
    exact (hk6 g h2).trans ((hg5.block g h5 h3).trans ((hb4.block g h4).trans (HW3.out.2.block g h1)))
  have hfr6 : Fr (Foot bd gs gn vw) w W6 := by
    refine ⟨hb6.os.trans (hg5.os.trans (hb4.os.trans HW3.out.2.os)), hb6.tape.trans (hg5.tape.trans (hb4.tape.trans HW3.out.2.tape)), hb6.output.trans (hg5.output.trans (hb4.output.trans HW3.out.2.output)), Nat.le_trans HW3.out.2.size (Nat.le_trans hb4.size (Nat.le_trans hg5.size hb6.size)), fun k h1 h2 => hold k h1 (fun e => h2 (.inl e)) (fun e => h2 (.inr (.inr (.inr e))))⟩
  have hon6 : W6.ownsRow B 79 64 (.slice (some ⟨gn, 0, none⟩) n cn) n (byteCells G) := own_other HH.out.1.on (fun g hg => hold g (HH.out.1.on.lt g hg).2 (own_not HH.out.1.on HH.out.1.blk (by decide) g hg) (fun e => by
    obtain ⟨cur, hc⟩ := own_type HH.out.1.ow e.symm
    exact own_not HH.out.1.on hc (by decide) g hg rfl))
  have hos6 : W6.ownsRow B 79 64 (.slice (some ⟨gs, 0, none⟩) n cs) n (byteCells F) := own_other HH.out.1.os (fun g hg => hold g (HH.out.1.os.lt g hg).2 (own_not HH.out.1.os HH.out.1.blk (by decide) g hg) (fun e => by
    obtain ⟨cur, hc⟩ := own_type HH.out.1.ow e.symm
    exact own_not HH.out.1.os hc (by decide) g hg rfl))
  have hnew : (Value.slice a5 (W.length + 1) c5).ownBlock = vw.ownBlock ∨ ∃ g, (Value.slice a5 (W.length + 1) c5).ownBlock = some g ∧ w.heap.size ≤ g := by
    rcases hnew5 with h | ⟨g, h, h2⟩
    · exact .inl h
    · exact .inr ⟨g, h, Nat.le_trans HW3.out.2.size (Nat.le_trans hb4.size h2)⟩
  have H6 := Lib.hid (And.intro hg6 (And.intro hown6 (And.intro hq6 (And.intro hfr6 (And.intro hon6 (And.intro hos6 hnew))))))
  clear hW6 hg6 hk6 hb6 hown6 hq6 hold hfr6 hon6 hos6 hnew hS5 hS4 hS3 hown hown5 hg5 hb4 hq3 hqb hnew5
  go_wp2_with fail
  have hS6 : W6.heap[bd]? = some (.cells #[.slice (some ⟨gs, 0, none⟩) n cs, .slice (some ⟨gn, 0, none⟩) n cn, .slice a5 (W.length + 1) c5, .bool false] 63 (0, 0)) ∧ W6.heap[q]? = some (.cells (wcell (i, full l)).toArray 81 (0, 0)) := ⟨H6.out.1, H6.out.2.2.1⟩
  have huns : Tryd.prog.underlying 79 = _ := Tryd.underlying79
  obtain ⟨is, his, his0, his1, his2⟩ := info_parts info79
  have HIS := Lib.hid (And.intro his (And.intro his0 (And.intro his1 his2)))
  have hbl : (byteCells (full l)).length = 64 := by simp [byteCells, length_full hl]
  have HBL := Lib.hid hbl
  have hin : (i : Int) < (n : Int) := by omega
  have hi0 : (0 : Int) ≤ (i : Int) := by omega
  have hn4 := HH.out.1.n2
  clear his his0 his1 his2 hbl
  refine begin' 8 (fun X => X.heap[bd]? = some (.cells #[.slice (some ⟨gs, 0, none⟩) n cs, .slice (some ⟨gn, 0, none⟩) n cn, .slice a5 (W.length + 1) c5, .bool false] 63 (0, 0)) ∧ X.heap[q]? = some (.cells (wcell (i, full l)).toArray 81 (0, 0))) hmix hS6 (fun hS0 => ?_)
  refine take (i := 0) ⟨some 33, _, _, _, _, _⟩ (.pointer (some ⟨bd, 0, none⟩)) rfl (by kernel_rfl) (by kernel_rfl) (by decide) (by kernel_rfl) (by kernel_rfl) (by kernel_rfl) hS0 (Or.inl ⟨by rfl, by (intro X hX; go_simp)⟩) ?_
  simp only [Act.put, List.setIfInBounds_toArray, List.set_cons_zero, List.set_cons_succ]
  refine take (i := 1) ⟨some 34, _, _, _, _, _⟩ (.pointer (some ⟨bd, 0, none⟩)) rfl (by kernel_rfl) (by kernel_rfl) (by decide) (by kernel_rfl) (by kernel_rfl) (by kernel_rfl) hS0 (Or.inl ⟨by rfl, by (intro X hX; go_simp)⟩) ?_
  simp only [Act.put, List.setIfInBounds_toArray, List.set_cons_zero, List.set_cons_succ]
  refine take (i := 2) ⟨some 35, _, _, _, _, _⟩ (.pointer (some ⟨bd, 1, none⟩)) rfl (by kernel_rfl) (by kernel_rfl) (by decide) (by kernel_rfl) (by kernel_rfl) (by kernel_rfl) hS0 (Or.inl ⟨by rfl, by (intro X hX; go_simp)⟩) ?_
  simp only [Act.put, List.setIfInBounds_toArray, List.set_cons_zero, List.set_cons_succ]
  refine take (i := 3) ⟨some 36, _, _, _, _, _⟩ (.slice (some ⟨gn, 0, none⟩) n cn) rfl (by kernel_rfl) (by kernel_rfl) (by decide) (by kernel_rfl) (by kernel_rfl) (by kernel_rfl) hS0 (Or.inl ⟨by rfl, by (intro X hX; have := (four_cells hX.1).1.2.1; go_simp)⟩) ?_
  simp only [Act.put, List.setIfInBounds_toArray, List.set_cons_zero, List.set_cons_succ]
  refine take (i := 4) ⟨some 37, _, _, _, _, _⟩ (.int .i64 (i : Nat)) rfl (by kernel_rfl) (by kernel_rfl) (by decide) (by kernel_rfl) (by kernel_rfl) (by kernel_rfl) hS0 (Or.inl ⟨by rfl, by (intro X hX; go_simp)⟩) ?_
  simp only [Act.put, List.setIfInBounds_toArray, List.set_cons_zero, List.set_cons_succ]
  refine take (i := 5) ⟨some 38, _, _, _, _, _⟩ (.pointer (some ⟨q, 1, none⟩)) rfl (by kernel_rfl) (by kernel_rfl) (by decide) (by kernel_rfl) (by kernel_rfl) (by kernel_rfl) hS0 (Or.inl ⟨by rfl, by (intro X hX; go_simp)⟩) ?_
  simp only [Act.put, List.setIfInBounds_toArray, List.set_cons_zero, List.set_cons_succ]
  refine take (i := 6) ⟨some 39, _, _, _, _, _⟩ (.agg (byteCells (full l)).toArray) rfl (by kernel_rfl) (by kernel_rfl) (by decide) (by kernel_rfl) (by kernel_rfl) (by kernel_rfl) hS0 (yieldsIf_load_mid (by rfl) _ _ rfl q 1 rfl (byteCells (full l)) _ (fun X hX => range_tail hX.2 HBL.out) huns rfl (by rw [HIS.out.1]; simp [HIS.out.2.2.1, HBL.out])) ?_
  simp only [Act.put, List.setIfInBounds_toArray, List.set_cons_zero, List.set_cons_succ]
  refine take (i := 7) ⟨some 40, _, _, _, _, _⟩ (.pointer (some ⟨gn, i * 64, none⟩)) rfl (by kernel_rfl) (by kernel_rfl) (by decide) (by kernel_rfl) (by kernel_rfl) (by kernel_rfl) hS0 (Or.inl ⟨by rfl, by (intro X hX; go_simp)⟩) ?_
  simp only [Act.put, List.setIfInBounds_toArray, List.set_cons_zero, List.set_cons_succ]
  have hon := own_sector (k := i) (b := full l) (show W6.drew.ownsRow B 79 64 (.slice (some ⟨gn, 0, none⟩) n cn) n (byteCells G) from own_other H6.out.2.2.2.2.1 (fun _ _ => rfl)) hi (length_full hl)
  have HON := Lib.hid hon
  clear hon
  refine Go.Proofs.YtjblkmjdepdekaaDoor.Ht.step (i := 8) ⟨none, _, _, _, _, _⟩ rfl (by kernel_rfl) (by rfl) (fun K hK => ?_)
  refine wp_store_mid 79 _ _ rfl gn (i * 64) (byteCells (full l)).toArray rfl rfl (by simpa [HBL.out] using HON.out.1) (by rw [HIS.out.1]; simp [HIS.out.2.2.1, HBL.out]) (all_oneCell_toArray (bytes_one _)) ?_
  refine hK _ _ (fun h => absurd rfl h) (fun _ => ?_)
  clear hK K
  refine done (by kernel_rfl) ?_
  dsimp only [Act.put]
  obtain ⟨W7, hW7⟩ : ∃ X, X = W6.drew.setCells gn (i * 64) (byteCells (full l)) := ⟨_, rfl⟩
  have hk7 : ∀ k, k ≠ gn → W7.heap[k]? = W6.heap[k]? := fun k hk => by rw [hW7]; exact heap_setCells_other hk _ _ _
  have hgn : (Value.slice (some ⟨gn, 0, none⟩) n cn).ownBlock = some gn := rfl
  have hbdg : bd ≠ gn := fun e => own_not HH.out.1.on HH.out.1.blk (by decide) gn rfl e.symm
  have hdk : IsDk W7 B bd gs cs gn cn (.slice a5 (W.length + 1) c5) n F (setS G i (full l)) (W ++ [(i, full l)]) false := by
    refine ⟨(hk7 bd hbdg).trans H6.out.1, own_other H6.out.2.2.2.2.2.1 (fun g hg => hk7 g (fun e => HH.out.1.ne (by simpa [Value.ownBlock, e] using hg))), by rw [hW7]; exact HON.out.2, ?_, HH.out.1.ne, HH.out.1.n1, HH.out.1.n2, ?_, HH.out.1.hb⟩
    · have h := own_other (w' := W7) H6.out.2.1 (fun g hg => hk7 g (fun e => by
        obtain ⟨cur, hc⟩ := own_type H6.out.2.2.2.2.1 hgn
        exact own_not H6.out.2.1 hc (by decide) g hg e))
      rw [List.length_append]
      simpa [wcells] using h
    · intro x hx
      rcases List.mem_append.1 hx with hx | hx
      · exact HH.out.1.hw x hx
      · obtain rfl := List.mem_singleton.1 hx
        exact ⟨hi, length_full hl⟩
  have hfr : Fr (Foot bd gs gn vw) w W7 := by rw [hW7]; exact (H6.out.2.2.2.1.drew).setCells (.inl (.inr (.inr (.inl rfl)))) _
  have HF := Lib.hid (And.intro hdk hfr)
  rw [← hW7]
  clear hW7 hk7 hgn hbdg hdk hfr
  go_wp2_with fail
  go_ret
  exact ⟨rfl, ⟨_, HF.out.1, H6.out.2.2.2.2.2.2⟩, HF.out.2⟩
end
end Go.Proofs.YtjblkmjdepdekaaDoor.Dk
