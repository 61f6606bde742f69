
/- disks: New -/
import Derived.Test.YtjblkmjdepdekaaDoorDk2
import Derived.Deep.RegionWith
namespace Go.Proofs.YtjblkmjdepdekaaDoor.Dk
open Go.RowKit Go.Lib Go.Proofs.YtjblkmjdepdekaaDoor.By Go.Proofs.YtjblkmjdepdekaaDoor.Ht

theorem info79 : (Tryd.prog.info? 79).map (fun i => (i.zero, i.size, i.bytes)) = some (some (.agg (Array.replicate 64 (.int .u8 0))), 64, 64) := by kernel_rfl
theorem zeros_made (n : Nat) : (madeCells (Array.replicate 64 (Value.int .u8 0)) (n * 64)).toList = byteCells (List.replicate (64 * n) 0) := by
  apply List.ext_getElem
  · simp [size_madeCells, byteCells]; omega
  · intro i h1 h2
    simp [madeCells, byteCells, List.getElem_map]
    have : i % 64 < 64 := Nat.mod_lt _ (by omega)
    rw [getElem!_pos _ _ (by simpa using this)]
    simp
theorem own_made {w : World} {B n : Nat} (hb : B ≤ w.heap.size) (hn : n ≤ 4096) :
    (w.alloc (.cells (madeCells (Array.replicate 64 (.int .u8 0)) (n * 64)) 79)).ownsRow B 79 64 (.slice (some ⟨w.heap.size, 0, none⟩) n n) n (byteCells (List.replicate (64 * n) 0)) := by
  refine ⟨by simp [byteCells]; omega, .inr ⟨_, _, _, rfl, hb, heap_alloc_new w _, Nat.le_refl _, by unfold maxLen; omega, size_madeCells _ _, ?_⟩⟩
  rw [zeros_made, List.take_of_length_le (by simp [byteCells]; omega)]
theorem make_sectors (w : World) {n : Nat} (hn : n ≤ 4096) : (Instr.makeSlice 60 (.int .i64 (n : Nat)) (.int .i64 (n : Nat))).run Tryd.prog w =
    .ok (.slice (some ⟨w.heap.size, 0, none⟩) n n) (w.alloc (.cells (madeCells (Array.replicate 64 (.int .u8 0)) (n * 64)) 79)) := by
  obtain ⟨i0, hi, hz0, hz1, hz2⟩ := info_parts info79
  have hr := run_make (P := Tryd.prog) w 60 79 i0 _ Tryd.underlying60 hi hz0 .i64 .i64 n n (by omega) (by omega) (by rw [hz2]; omega) (by omega)
  rw [hz1, Int.toNat_natCast] at hr
  exact hr

theorem new_bad (n : Int) (w : World) (h : n < 1 ∨ 4096 < n) : Calls Tryd.prog 9 #[.int .i64 n] w fun e w' => e = .returned (.tuple #[.pointer none, .int .i64 1]) ∧ w = w' := by
  by_cases h1 : n < 1
  · go_enter Tryd.func9, Tryd.ntmps9
    go_wp2_with fail
    go_ret2
    exact ⟨rfl, rfl⟩
  · have h2 : 4096 < n := by omega
    have e1 : decide (n > 4096) = true := by simpa using h2
    have e0 : decide (n < 1) = false := by simpa using h1
    clear h h1
    go_enter Tryd.func9, Tryd.ntmps9
    go_wp2_with fail
    go_ret2
    exact ⟨rfl, rfl⟩

/-- two rows and a box make a disk -/
theorem made_dk {w : World} {N n gs gn : Nat} {W2 : World} (hn : 1 ≤ n ∧ n ≤ 4096) (hN : N ≤ w.heap.size)
    (h : W2 = (w.alloc (.cells (madeCells (Array.replicate 64 (.int .u8 0)) (n * 64)) 79)).alloc (.cells (madeCells (Array.replicate 64 (.int .u8 0)) (n * 64)) 79))
    (hg : gs = w.heap.size ∧ gn = w.heap.size + 1 ∨ gs = w.heap.size + 1 ∧ gn = w.heap.size) :
    IsDk (W2.alloc (.cells #[.slice (some ⟨gs, 0, none⟩) n n, .slice (some ⟨gn, 0, none⟩) n n, .slice none 0 0, .bool false] 63)) N (w.heap.size + 2) gs n gn n (.slice none 0 0) n (List.replicate (64 * n) 0) (List.replicate (64 * n) 0) [] false ∧
      Below w.heap.size w (W2.alloc (.cells #[.slice (some ⟨gs, 0, none⟩) n n, .slice (some ⟨gn, 0, none⟩) n n, .slice none 0 0, .bool false] 63)) := by
  have hz : W2.heap.size = w.heap.size + 2 := by rw [h]; simp
  have o1 : W2.ownsRow N 79 64 (.slice (some ⟨w.heap.size, 0, none⟩) n n) n (byteCells (List.replicate (64 * n) 0)) := by
    rw [h]; exact (own_made hN hn.2).alloc _
  have o2 : W2.ownsRow N 79 64 (.slice (some ⟨w.heap.size + 1, 0, none⟩) n n) n (byteCells (List.replicate (64 * n) 0)) := by
    have := own_made (w := w.alloc (.cells (madeCells (Array.replicate 64 (.int .u8 0)) (n * 64)) 79)) (B := N) (n := n) (by simp; omega) hn.2
    rw [World.size_alloc] at this
    rw [h]; exact this
  refine ⟨⟨?_, ?_, ?_, World.ownsRow_nil _ _ _ _, ?_, hn.1, hn.2, by simp, by omega⟩, ?_⟩
  · have := heap_alloc_new W2 (.cells #[.slice (some ⟨gs, 0, none⟩) n n, .slice (some ⟨gn, 0, none⟩) n n, .slice none 0 0, .bool false] 63)
    rwa [hz] at this
  · rcases hg with ⟨rfl, rfl⟩ | ⟨rfl, rfl⟩
    · exact o1.alloc _
    · exact o2.alloc _
  · rcases hg with ⟨rfl, rfl⟩ | ⟨rfl, rfl⟩
    · exact o2.alloc _
    · exact o1.alloc _
  · rcases hg with ⟨rfl, rfl⟩ | ⟨rfl, rfl⟩ <;> omega
  · rw [h]; exact (((Below.refl _ _).alloc (Nat.le_refl _) _).alloc (by simp) _).alloc (by simp; omega) _
set_option maxHeartbeats 1000000 in
theorem new_any (n : Nat) (w : World) (hn : 1 ≤ n ∧ n ≤ 4096) : Calls Tryd.prog 9 #[.int .i64 (n : Nat)] w fun e w' =>
    ∃ bd gs gn, e = .returned (.tuple #[.pointer (some ⟨bd, 0, none⟩), .int .i64 0]) ∧ IsDk w' w.heap.size bd gs n gn n (.slice none 0 0) n (List.replicate (64 * n) 0) (List.replicate (64 * n) 0) [] false ∧ Below w.heap.size w w' := by
  have hmk := fun W => make_sectors W hn.2
  have e0 : decide ((n : Int) < 1) = false := by simp; omega
  have e1 : decide ((n : Int) > 4096) = false := by simp; omega
  have HN := Lib.hid hn
  clear hn
  obtain ⟨Z, hZ⟩ : ∃ z, z = madeCells (Array.replicate 64 (Value.int .u8 0)) (n * 64) := ⟨_, rfl⟩
  rw [← hZ] at hmk
  have HZ := Lib.hid hZ
  clear hZ
  go_enter Tryd.func9, Tryd.ntmps9
  go_wp2_with fail
  go_region_with fail
  all_goals
    go_wp2_with fail
    go_ret2
    rw [HZ.out]
    first
      | exact ⟨w.heap.size + 2, w.heap.size, w.heap.size + 1, rfl, (made_dk HN.out (Nat.le_refl _) rfl (.inl ⟨rfl, rfl⟩)).1.other (fun _ _ _ => rfl), (made_dk HN.out (Nat.le_refl _) rfl (.inl ⟨rfl, rfl⟩)).2.drew⟩
      | exact ⟨w.heap.size + 2, w.heap.size + 1, w.heap.size, rfl, (made_dk HN.out (Nat.le_refl _) rfl (.inr ⟨rfl, rfl⟩)).1.other (fun _ _ _ => rfl), (made_dk HN.out (Nat.le_refl _) rfl (.inr ⟨rfl, rfl⟩)).2.drew⟩
end Go.Proofs.YtjblkmjdepdekaaDoor.Dk
