/- the walk of OctetSizes -/
import Derived.Test.YtfbohbcokggmpaaWr
namespace Go.Proofs.Ytfbohbcokggmpaa.Oc
open Go.RowKit Go.Lib

/-- so many bytes more, 0 of 0 -/
def lenR (z : Nat) : Nat := if z = 0 then 0 else (uvarint z).length
theorem lenR_zero : lenR 0 = 0 := rfl
theorem lenR_step {z : Nat} (h : 0 < z) : lenR z = 1 + lenR (z / 128) := by
  unfold lenR
  rw [if_neg (by omega)]
  by_cases h1 : z < 128
  · rw [uvarint_small h1, if_pos (by omega)]; rfl
  · rw [uvarint_big (by omega), if_neg (by omega), List.length_cons]; omega
theorem len_uv (x : Nat) : (uvarint x).length = 1 + lenR (x / 128) := by
  by_cases h1 : x < 128
  · rw [uvarint_small h1, show x / 128 = 0 by omega]; rfl
  · rw [uvarint_big (by omega), List.length_cons]; unfold lenR; rw [if_neg (by omega)]; omega
theorem lenR_le {z : Nat} (h : U64 z) : lenR z ≤ 10 := by
  unfold lenR; split
  · omega
  · exact uvarint_length64 h

theorem twice_pos {y : Int} (hy : (Lit.int .i64 y).wf = true) (h : 0 ≤ y) : IntKind.u64.wrap (IntKind.u64.wrap y * 2) = ((zigzag y : Nat) : Int) := by
  have hb : -9223372036854775808 ≤ y ∧ y ≤ 9223372036854775807 := by simpa [Lit.wf, IntKind.min, IntKind.max, IntKind.signed, IntKind.bits] using hy
  rw [zigzag_nonneg h, IntKind.wrap_u64, IntKind.wrap_u64]; omega

set_option maxHeartbeats 2000000 in
theorem sizes_walk (a0 : Int) (a1 : Int) (w0 : (Lit.int .u64 a0).wf = true) (w1 : (Lit.int .i64 a1).wf = true) (w : World) :
    Calls Try.prog 5 #[.int .u64 a0, .int .i64 a1] w fun e w' => e = .returned (.bool true) ∧ Below w.heap.size w w' := by
  obtain ⟨x, rfl⟩ : ∃ x : Nat, a0 = x := by
    have : 0 ≤ a0 ∧ a0 ≤ 18446744073709551615 := by simpa [Lit.wf, IntKind.min, IntKind.max, IntKind.signed, IntKind.bits] using w0
    exact ⟨a0.toNat, by omega⟩
  have hx : U64 x := by
    have : (x : Int) ≤ 18446744073709551615 := by simpa [Lit.wf, IntKind.min, IntKind.max, IntKind.signed, IntKind.bits] using w0
    unfold U64; omega
  clear w0
  have hz := zig_u64 w1
  go_enter Try.func5, Try.ntmps5
  go_wp2_with (first | (go_at_call 6; refine (lives_any _).mono ?_; rintro e wl ⟨rfl, hbl⟩))
  have h0 : ((wl.alloc (.cells #[.slice none 0 0] 27)).alloc (.cells #[.slice none 0 0] 27)).heap[wl.heap.size]? = some (.cells #[.slice none 0 0] 27 (0, 0)) := by
    rw [Below.heap_alloc _ _ _ (by simp)]; exact heap_alloc_new wl _
  have h1 : ((wl.alloc (.cells #[.slice none 0 0] 27)).alloc (.cells #[.slice none 0 0] 27)).heap[wl.heap.size + 1]? = some (.cells #[.slice none 0 0] 27 (0, 0)) := by
    have := heap_alloc_new (wl.alloc (.cells #[.slice none 0 0] 27)) (.cells #[.slice none 0 0] 27); simpa using this
  have hb0 : Below wl.heap.size wl ((wl.alloc (.cells #[.slice none 0 0] 27)).alloc (.cells #[.slice none 0 0] 27)) := ((Below.refl _ _).alloc (Nat.le_refl _) _).alloc (by simp) _
  have hs0 : ((wl.alloc (.cells #[.slice none 0 0] 27)).alloc (.cells #[.slice none 0 0] 27)).heap.size = wl.heap.size + 2 := by simp
  obtain ⟨W0, hW0⟩ : ∃ W0, W0 = (wl.alloc (.cells #[.slice none 0 0] 27)).alloc (.cells #[.slice none 0 0] 27) := ⟨_, rfl⟩
  rw [← hW0] at h0 h1 hb0 hs0 ⊢
  clear hW0
  refine (num_any (wl.heap.size + 2) wl.heap.size x [] W0 hx (by omega) (by omega) (wr_nil h0) (by simp)).mono ?_
  rintro e W1 ⟨rfl, hwx, hf1⟩
  rw [List.nil_append] at hwx
  have h1' : W1.heap[wl.heap.size + 1]? = some (.cells #[.slice none 0 0] 27 (0, 0)) := (hf1.block _ (by omega) (by omega)).trans h1
  have hs1 := hf1.size
  go_wp2_with fail
  refine (int_any W1.heap.size (wl.heap.size + 1) a1 [] W1 w1 (by omega) (Nat.le_refl _) (wr_nil h1') (by simp)).mono ?_
  rintro e W2 ⟨rfl, hwy, hf2⟩
  rw [List.nil_append] at hwy
  have hwx2 : Wr (wl.heap.size + 2) W2 wl.heap.size (uvarint x) := hwx.fr hf2 (by omega) (by omega) (by omega) (fun k _ h => h)
  have hbel : Below w.heap.size w W2 := (hbl.trans (hb0.mono hbl.size)).trans (((hf1.below (N := wl.heap.size) (by omega) (Nat.le_refl _)).mono hbl.size).trans ((hf2.below (N := wl.heap.size) (by omega) (by omega)).mono hbl.size))
  have hLx := uvarint_length64 hx
  have hLz := uvarint_length64 hz
  have hs2 := hf2.size
  have A := Lib.hid (And.intro hwx2 (And.intro hwy hbel))
  clear hwx hwx2 hwy hf1 hf2 h0 h1 h1' hb0 hbl hbel
  go_wp2_with fail
  go_loop [7, 8] (fun n z => ∃ m q : Nat, n = .int .i64 m ∧ z = .int .u64 q ∧ U64 q ∧ m + lenR q = (uvarint x).length) (fun _ z => (intOf z).toNat)
  case atStart => exact ⟨1, x / 128, rfl, rfl, hx.div _, (len_uv x).symm⟩
  case round =>
    obtain ⟨m, q, rfl, rfl, hq, he⟩ := hrel
    have hm : m ≤ 10 := by omega
    by_cases hp : 0 < q
    · have HE := Lib.hid he
      clear he
      go_wp2
      go_round
      case rel => exact ⟨m + 1, q / 128, by go_num, by go_num, hq.div _, by rw [← HE.out, lenR_step hp]; omega⟩
      case measure => simp [intOf]; omega
    · obtain rfl : q = 0 := by omega
      obtain rfl : m = (uvarint x).length := by rw [lenR_zero] at he; omega
      clear he
      have hb : -9223372036854775808 ≤ a1 ∧ a1 ≤ 9223372036854775807 := by simpa [Lit.wf, IntKind.min, IntKind.max, IntKind.signed, IntKind.bits] using w1
      have Z1 := Lib.hid (fun h : a1 < 0 => zigzag_neg hb.1 h)
      have Z2 := Lib.hid (fun h : 0 ≤ a1 => twice_pos w1 h)
      clear hb
      by_cases hneg : a1 < 0
      all_goals
        go_wp2_with fail
        go_loop [10, 11] (fun n z => ∃ m q : Nat, n = .int .i64 m ∧ z = .int .u64 q ∧ U64 q ∧ m + lenR q = (uvarint (zigzag a1)).length) (fun _ z => (intOf z).toNat)
        case atStart => first | exact ⟨1, zigzag a1 / 128, rfl, congrArg (Value.int .u64) (by rw [Z1.out hneg]; omega), hz.div _, (len_uv _).symm⟩ | exact ⟨1, zigzag a1 / 128, rfl, congrArg (Value.int .u64) (by rw [Z2.out hneg]; omega), hz.div _, (len_uv _).symm⟩
        case round =>
          obtain ⟨m, q, rfl, rfl, hq, he⟩ := hrel
          have hm : m ≤ 10 := by omega
          by_cases hp : 0 < q
          · have HE := Lib.hid he
            clear he
            go_wp2
            go_round
            case rel => exact ⟨m + 1, q / 128, by go_num, by go_num, hq.div _, by rw [← HE.out, lenR_step hp]; omega⟩
            case measure => simp [intOf]; omega
          · obtain rfl : q = 0 := by omega
            obtain rfl : m = (uvarint (zigzag a1)).length := by rw [lenR_zero] at he; omega
            clear he
            obtain ⟨hwx, hwy, hbel⟩ := A.out
            go_wp2_with fail
            refine (bytes_any _ _ _ _ hwx (by omega)).mono ?_
            rintro e W3 ⟨v3, rfl, ho3, hb3⟩
            have hwy3 := hwy.below hb3 (by omega) (fun _ h => h)
            obtain ⟨a3, c3, rfl⟩ := own_shape ho3
            clear hwx hwy ho3
            have hb3' := hb3.size
            go_wp2_with fail
            refine (bytes_any _ _ _ _ hwy3 (by omega)).mono ?_
            rintro e W4 ⟨v4, rfl, ho4, hb4⟩
            obtain ⟨a4, c4, rfl⟩ := own_shape ho4
            have hbel4 := (hbel.trans (hb3.mono hbel.size)).trans (hb4.mono (Nat.le_trans hbel.size hb3'))
            clear ho4 hwy3 hb4 hb3
            go_wp2
            go_ret
            exact ⟨rfl, hbel4⟩
end Go.Proofs.Ytfbohbcokggmpaa.Oc
