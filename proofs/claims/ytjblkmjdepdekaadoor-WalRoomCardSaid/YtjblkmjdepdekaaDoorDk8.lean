
/- disks: Read -/
import Derived.Test.YtjblkmjdepdekaaDoorDk7
namespace Go.Proofs.YtjblkmjdepdekaaDoor.Dk
open Go.RowKit Go.Lib Go.Proofs.YtjblkmjdepdekaaDoor.By Go.Proofs.YtjblkmjdepdekaaDoor.Ht

theorem zero_sector (w : World) : (zeroValue 79).run Tryd.prog w = .ok (.agg (Array.replicate 64 (.int .u8 0))) w := by
  obtain ⟨i0, hi, hz0, hz1, hz2⟩ := info_parts info79
  simp [zeroValue, typeInfo, hi, hz0]
/-- a variable of a sector is made, and written whole -/
theorem sec_made (w : World) (b : List UInt8) (hb : b.length = 64) : ∃ W1, (storeCells ⟨w.heap.size, 0, none⟩ (byteCells b)).run Tryd.prog (w.alloc (.cells (Array.replicate 64 (.int .u8 0)) 79)) = .ok () W1 ∧
    IsB W1 (some ⟨w.heap.size, 0, none⟩) 64 64 b ∧ Below w.heap.size w W1 ∧ w.heap.size < W1.heap.size := by
  have hl : (byteCells b).length = 64 := by simpa [byteCells] using hb
  have hg := setRow_heap (w.alloc (.cells (Array.replicate 64 (.int .u8 0)) 79)) w.heap.size _ (byteCells b).toArray 79 (0, 0) (heap_alloc_new w _)
  refine ⟨(w.alloc (.cells (Array.replicate 64 (.int .u8 0)) 79)).setRow w.heap.size (byteCells b).toArray, ?_, ⟨hb, .inr ⟨_, rfl, Nat.le_refl _, by unfold maxLen; omega, fun j u hu => ?_⟩⟩, below_setRow ((Below.refl _ _).alloc (Nat.le_refl _) _) (Nat.le_refl _) _, lt_of_block hg⟩
  · have := run_storeCells_from (P := Tryd.prog) w.heap.size 79 (byteCells b) 0 (Array.replicate 64 (.int .u8 0)) (w.alloc (.cells (Array.replicate 64 (.int .u8 0)) 79)) (heap_alloc_new w _) (by rw [hl]; simp) (bytes_one b)
    simpa using this
  · rw [Addr.add_mid, Nat.zero_add, cell_of_row _ _ j _ _ _ hg]
    simpa using hu
theorem read_nil (i m : Int) (w : World) : Calls Tryd.prog 23 #[.pointer none, .int .i64 i, .int .i64 m] w fun e w' => e = .returned (.tuple #[.slice none 0 0, .int .i64 19]) ∧ w = w' := by
  have HD := Lib.hid (down_nil w)
  go_enter Tryd.func23, Tryd.ntmps23
  go_wp2_with (go_at_call 42; refine HD.out.mono ?_; rintro e w' ⟨rfl, rfl⟩)
  go_ret2
  exact ⟨rfl, rfl⟩
section
variable {w : World} {B bd gs cs gn cn n : Nat} {vw : Value} {F G : List UInt8} {W : List Wr}
theorem read_down (h : IsDk w B bd gs cs gn cn vw n F G W true) (i m : Int) : Calls Tryd.prog 23 #[.pointer (some ⟨bd, 0, none⟩), .int .i64 i, .int .i64 m] w fun e w' => e = .returned (.tuple #[.slice none 0 0, .int .i64 19]) ∧ w = w' := by
  have HD := Lib.hid (down_any h)
  clear h
  go_enter Tryd.func23, Tryd.ntmps23
  go_wp2_with (go_at_call 42; refine HD.out.mono ?_; rintro e w' ⟨rfl, rfl⟩)
  go_ret2
  exact ⟨rfl, rfl⟩
/-- m sectors' bytes from one on -/
def getM (G : List UInt8) (i m : Nat) : List UInt8 := (G.drop (64 * i)).take (64 * m)
theorem getM_succ (G : List UInt8) (i m : Nat) : getM G i (m + 1) = getM G i m ++ getS G (i + m) := by
  unfold getM getS
  rw [show 64 * (m + 1) = 64 * m + 64 by omega, List.take_add, List.drop_drop, show 64 * i + 64 * m = 64 * (i + m) by omega]
theorem length_getM {F : List UInt8} {i m n : Nat} (hF : F.length = 64 * n) (h : i + m ≤ n) : (getM F i m).length = 64 * m := by unfold getM; simp [hF]; omega
set_option maxRecDepth 20000 in
set_option maxHeartbeats 2000000 in
theorem read_ok (h : IsDk w B bd gs cs gn cn vw n F G W false) (i m : Nat) (hm : 1 ≤ m) (him : i + m ≤ n) : Calls Tryd.prog 23 #[.pointer (some ⟨bd, 0, none⟩), .int .i64 (i : Nat), .int .i64 (m : Nat)] w fun e w' =>
    ∃ ao cp, e = .returned (.tuple #[.slice ao (64 * m) cp, .int .i64 0]) ∧ IsB w' ao (64 * m) cp (getM G i m) ∧ w'.ownsRow w.heap.size 5 1 (.slice ao (64 * m) cp) (64 * m) (byteCells (getM G i m)) ∧ Below w.heap.size w w' := by
  have HD := Lib.hid (down_any h)
  have hn4 := h.n2
  have HS := has_any h i m (by omega)
  rw [show hasB n i m = true by unfold hasB; simp; omega] at HS
  have HS := Lib.hid HS
  have hz0 := zero_sector
  obtain ⟨Z, hZ⟩ : ∃ Z, Z = Array.replicate 64 (Value.int .u8 0) := ⟨_, rfl⟩
  rw [← hZ] at hz0
  have HZ := Lib.hid hZ
  obtain ⟨i0, hi, hz1, hz2, hz3⟩ := info_parts info5
  have hr := run_make (P := Tryd.prog) w 32 5 i0 _ Tryd.underlying32 hi hz1 .i64 .i64 0 ((m * 64 : Nat) : Int) (by omega) (by omega) (by rw [hz3]; omega) (by omega)
  rw [hz2, Nat.mul_one, Int.toNat_natCast] at hr
  obtain ⟨w1, hw1⟩ : ∃ X, X = w.alloc (.cells (madeCells (Value.int .u8 0).cells (m * 64)) 5) := ⟨_, rfl⟩
  have hown := World.ownsRow_made (base := w.heap.size) (size := 1) (e := 5) w (madeCells (Value.int .u8 0).cells (m * 64)) (m * 64) (Nat.le_refl _) (by unfold maxLen; omega) (by rw [size_madeCells]; omega)
  rw [← hw1] at hr hown
  have hb1 : Below w.heap.size w w1 := by rw [hw1]; exact (Below.refl _ _).alloc (Nat.le_refl _) _
  have hz : w.heap.size < w1.heap.size := by rw [hw1]; simp
  have hdk1 := h.old hb1
  obtain ⟨⟨_, c1, _, _⟩, _⟩ := four_cells hdk1.blk
  have hcn : n ≤ cn ∧ cn ≤ 9223372036854775807 := by
    rcases h.on.2 with ⟨h1, _⟩ | ⟨g', cap', cur, h1, h2, h3, h4, h5, _⟩
    · simp at h1
    · simp at h1; unfold maxLen at h5; omega
  have HH := Lib.hid (And.intro h (And.intro hdk1 (And.intro hown (And.intro hb1 hz))))
  clear h hw1 hown hb1 hz hdk1 hZ hi hz1 hz2 hz3
  have e1 : ((m * 64 : Nat) : Int) = (m : Int) * 64 := by omega
  rw [e1] at hr
  have k1 : (i : Int) + (m : Int) ≤ (cn : Int) := by omega
  have k2 : (i : Int) + (m : Int) ≤ 4096 := by omega
  have k3 : (m : Int) ≤ 4096 := by omega
  have k4 : ¬ cn = i := by omega
  clear e1
  go_enter Tryd.func23, Tryd.ntmps23
  go_wp2_with (first | (go_at_call 42; refine HD.out.mono ?_; rintro e w' ⟨rfl, rfl⟩) | (go_at_call 43; refine HS.out.mono ?_; rintro e w' ⟨rfl, rfl⟩))
  rw [show i + m - i = m by omega]
  go_loopw [8, 31] (fun bv kv wr => ∃ j : Nat, j ≤ m ∧ kv = .int .i64 j ∧ (∃ ao cp, bv = .slice ao (64 * j) cp ∧ wr.ownsRow w.heap.size 5 1 (.slice ao (64 * j) cp) (64 * j) (byteCells (getM G i j))) ∧ Below w.heap.size w wr ∧ w.heap.size < wr.heap.size) (fun _ kv _ => m - (intOf kv).toNat)
  case atStart => exact ⟨0, Nat.zero_le _, rfl, ⟨_, _, rfl, by have := HH.out.2.2.1; simpa [getM, byteCells] using this⟩, HH.out.2.2.2.1, HH.out.2.2.2.2⟩
  case round =>
    obtain ⟨j, hj, rfl, ⟨ao, cp, rfl, hown⟩, hb, hzr⟩ := hrel
    by_cases hlt : j < m
    · have hdk := HH.out.1.old hb
      have hgl := length_getS hdk.lenG (show i + j < n by omega)
      obtain ⟨W1, hsc, hib, hb1, hz1⟩ := sec_made wr (getS G (i + j)) hgl
      rw [← HZ.out] at hsc
      have hrg := sector_range (k := i + j) hdk.on
      have hYl : (byteCells (getS G (i + j))).length = 64 := by simpa [byteCells] using hgl
      have hrs := size_sector hYl
      obtain ⟨Y, hY⟩ : ∃ Y, Y = (byteCells (getS G (i + j))).toArray := ⟨_, rfl⟩
      have hYs : Y.size = 64 := by rw [hY]; simpa using hYl
      rw [show byteCells (getS G (i + j)) = Y.toList by rw [hY]] at hsc hrg hrs
      rw [show (i + j) * 64 = i * 64 + j * 64 by omega] at hrg
      have HRG := Lib.hid (And.intro hrg hrs)
      have hown1 := own_below hown hb1 (Nat.le_refl _)
      have HK := Lib.hid (And.intro hown1 (And.intro (hb.trans (hb1.mono hb.size)) (And.intro (show w.heap.size < W1.heap.size by omega) (And.intro (getM_succ G i j) hY))))
      have hkc : (j : Int) < (m : Int) := by omega
      have hzl : w.heap.size ≤ W1.heap.size := by omega
      clear hdk hgl hrg hYl hrs hY hown hb hb1 hz1 hzr
      go_wp2_with (first | (refine wpList_load_mid rfl 79 _ rfl gn (i * 64 + j * 64) rfl Y.toList _ HRG.out.1 Tryd.underlying79 rfl HRG.out.2 ?_) | (at_builtin; refine wpList_append_bytes rfl _ _ rfl w.heap.size _ (64 * j) (getM G i j) rfl HK.out.1 (some ⟨wr.heap.size, 0, none⟩) 64 64 (getS G (i + j)) rfl hib ?d1 hzl ?_))
      case d1 => omega
      · intro ao5 cp5 w5 hown5 hg5
        rw [← HK.out.2.2.2.1] at hown5
        have hb5 : Below w.heap.size w w5 := HK.out.2.1.grown hg5 hzl (fun g hg => (HK.out.1.lt g hg).1)
        have hz5 : w.heap.size < w5.heap.size := by have := hg5.size; have := HK.out.2.2.1; omega
        rw [show 64 * j + 64 = 64 * (j + 1) by omega] at hown5 ⊢
        have H5 := Lib.hid (And.intro hown5 (And.intro hb5 hz5))
        clear hown5 hg5 hb5 hz5 hib hown1
        go_wp2_with fail
        go_roundw
        case rel => exact ⟨j + 1, by omega, by go_num, ⟨ao5, cp5, rfl, H5.out.1⟩, H5.out.2.1, H5.out.2.2⟩
        case measure => simp [intOf]; omega
    · obtain rfl : j = m := by omega
      have hgl := length_getM HH.out.2.1.lenG him
      have hib : IsB wr ao (64 * j) cp (getM G i j) := by
        obtain ⟨x, y, hv, hi⟩ := isB_own (l := getM G i j) (by rw [hgl]; exact hown)
        rw [hgl] at hv hi
        simp only [Value.slice.injEq, true_and] at hv
        obtain ⟨rfl, rfl⟩ := hv
        exact hi
      have HK := Lib.hid (And.intro hib (And.intro hown hb))
      clear hgl hib hown hb
      go_wp2_with fail
      go_ret2
      exact ⟨ao, cp, rfl, HK.out.1, HK.out.2.1, HK.out.2.2⟩
end
end Go.Proofs.YtjblkmjdepdekaaDoor.Dk
