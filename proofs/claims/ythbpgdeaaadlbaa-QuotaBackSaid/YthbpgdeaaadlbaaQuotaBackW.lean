
/- QuotaBack, walked -/
import Derived.Test.YthbpgdeaaadlbaaQt6
import Derived.Test.YthbpgdeaaadlbaaQtPa
namespace Go.Proofs.Ythbpgdeaaadlbaa.Qt
open Go.RowKit Go.Lib Go.Maps Go.WideElems Go.ChangeMaps Go.MapKept Hp QtPa
set_option linter.unusedVariables false
set_option linter.unusedSectionVars false
set_option maxRecDepth 20000
/-- what a round begins with, and ends with -/
def Bk (w wr : World) (lb : Nat) (N : Int) (m : Nat) (H : K → Option Int) : Prop := Li w.heap.size w wr lb N 0 m (fun _ => none) H ∧ ∀ k, has H k ≤ N
theorem may_none (N : Int) (k : K) : may N (fun _ => none) k = N := rfl
theorem bk_take {w wr : World} {lb : Nat} {N : Int} {m : Nat} {H : K → Option Int} {k : K} (q : Li w.heap.size w wr lb N 0 (m + 1) (fun _ => none) (Hp.upd H k (has H k + 1))) (h : ∀ k, has H k ≤ N) (hlt : has H k < N) : Bk w wr lb N (m + 1) (Hp.upd H k (has H k + 1)) :=
  ⟨q, fun k' => by rw [has_upd]; split; omega; exact h k'⟩
theorem bk_give {w wr : World} {lb : Nat} {N : Int} {m : Nat} {H : K → Option Int} {k : K} (q : Li w.heap.size w wr lb N 0 (m + 1) (fun _ => none) (less (Hp.upd H k (has H k + 1)) k)) (h : ∀ k, has H k ≤ N) : Bk w wr lb N (m + 1) (less (Hp.upd H k (has H k + 1)) k) :=
  ⟨q, fun k' => by
    rw [has_less, has_upd, has_upd, if_pos rfl]
    split
    · have := h k; omega
    · exact h k'⟩
theorem Bk.more {w wr : World} {lb : Nat} {N : Int} {m : Nat} {H : K → Option Int} (h : Bk w wr lb N m H) {W : World} (b : Below wr.heap.size wr W) : Bk w W lb N (m + 1) H := by
  obtain ⟨⟨S, ⟨mo, ho, nh, q, hn⟩, h2, h3, h4⟩, h5⟩ := h
  exact ⟨⟨S, ⟨mo, ho, nh, q.below b (Nat.le_refl _), by omega⟩, h2, h3.trans (b.mono h4), Nat.le_trans h4 b.size⟩, h5⟩
set_option maxHeartbeats 1000000 in
theorem back_any (w : World) (x : Nat) (a : Option Addr) (n c : Nat) (hx : x < 256) (hi : InR w a n c) :
    Calls Try.prog 5 #[.int .u8 ((x : Nat) : Int), .slice a n c] w fun e w' => e = .returned (.bool true) ∧ Below w.heap.size w w' := by
  have hn1 := hi.1
  have hn2 := hi.2.1
  have HI := Lib.hid hi
  clear hi
  by_cases h60 : n ≤ 60
  · have h1x : ¬ ((n : Nat) : Int) > 60 := by omega
    have HNN := Lib.hid h60
    clear h60
    have q1 : ((x : Nat) : Int).tmod 129 = ((x % 129 : Nat) : Int) := by rw [Int.tmod_eq_emod_of_nonneg (by omega)]; omega
    have b1 : x % 129 < 129 := by omega
    go_enter Try.func5, Try.ntmps5
    go_wp2_with fail
    refine (lives13_any _).mono ?_
    rintro e w1 ⟨rfl, bl⟩
    have HB1 := Lib.hid bl
    clear bl
    generalize x % 129 = N0 at *
    obtain ⟨N, hN⟩ : ∃ N : Int, N = ((N0 : Nat) : Int) := ⟨_, rfl⟩
    rw [← hN] at q1
    have HNb := Lib.hid (show 0 ≤ N ∧ N ≤ 128 by omega)
    have wN : wrap64 N = N := by unfold wrap64; omega
    have uN : IntKind.u8.wrap N = N := IntWalk.u8_in _ (by omega)
    clear hN b1 hx
    generalize ((x : Nat) : Int) = X at *
    go_wp2_with fail
    refine (New_li N HNb.out w w1 HB1.out HB1.out.size).mono ?_
    rintro e w2 ⟨rfl, q⟩
    obtain ⟨lb, hlb⟩ : ∃ x, x = w1.heap.size := ⟨_, rfl⟩
    rw [← hlb] at q ⊢
    have HQ := Lib.hid q
    clear q hlb
    go_wp2_with fail
    go_loopw [33] (fun i wr => ∃ m : Nat, i = .int .i64 ((m : Nat) : Int) ∧ m ≤ n ∧ ∃ H, Bk w wr lb N m H) (fun i _ => n - (RowKit.intOf i).toNat)
    case atStart => exact ⟨0, rfl, Nat.zero_le _, _, HQ.out, fun k => by have := HNb.out; unfold has; simp; omega⟩
    case round =>
      obtain ⟨m, rfl, hm, H, hk⟩ := hrel
      by_cases hlt : m < n
      · have hmx : ((m : Nat) : Int) < ((n : Nat) : Int) := by omega
        obtain ⟨b, o, rfl, hcells⟩ : ∃ b o, a = some ⟨b, o, none⟩ ∧ ∀ i, i < n → ∃ m : Nat, m < 256 ∧ w.cell? ⟨b, o + i, none⟩ = some (.int .u8 ((m : Nat) : Int)) := by
          rcases HI.out.2.2 with h | h
          · omega
          · exact h
        obtain ⟨xm, hxm, hc⟩ := hcells m hlt
        have hcr := (hk.1.below.cell (World.block_lt_of_cell? _ _ hc)).trans hc
        have HL := Lib.hid (And.intro hlt (And.intro hxm hk.2))
        have HK := Lib.hid hk.1
        have hwm : wrap64 (((m : Nat) : Int) + 1) = ((m + 1 : Nat) : Int) := by have := HNN.out; unfold wrap64; omega
        have hm6 : m ≤ 60 := by have := HNN.out; omega
        have HM6 := Lib.hid hm6
        have hwk := nm13_wk xm
        clear hcells hc hlt hm hk hm6
        have hnam := fun W => name13_any xm hxm W
        have HNM := Lib.hid hnam
        clear hnam hxm
        obtain ⟨k, hkk⟩ : ∃ k, k = nm13 xm := ⟨_, rfl⟩
        rw [← hkk] at HNM hwk
        clear hkk
        have HWK := Lib.hid hwk
        clear hwk
        obtain ⟨y, hy⟩ : ∃ y, y = has H k := ⟨_, rfl⟩
        have hxm' : ((xm : Nat) : Int) < 256 := by have := HL.out.2.1; omega
        obtain ⟨xi, hxi⟩ : ∃ y : Int, y = ((xm : Nat) : Int) := ⟨_, rfl⟩
        rw [← hxi] at hcr HNM hxm'
        clear hxi
        by_cases hyN : y < N
        · by_cases h128 : 128 ≤ xi
          · have hgx : xi ≥ 128 := h128
            clear h128
            go_wp2_with fail
            refine (HNM.out _).mono ?_
            rintro e w3 ⟨rfl, b3⟩
            have HK3 := Lib.hid (HK.out.grow b3)
            clear b3
            have hHw4 := HK3.out.Has k HWK.out
            rw [← hy] at hHw4
            go_wp2_with fail
            refine hHw4.mono ?_
            rintro e w4 ⟨rfl, rfl⟩
            clear hHw4
            go_wp2_with fail
            refine (HNM.out _).mono ?_
            rintro e w5 ⟨rfl, b5⟩
            have HK5 := Lib.hid (HK3.out.grow b5)
            clear b5
            have hT := HK5.out.Take_ok k HWK.out (by rw [← hy]; exact hyN) (by have := HM6.out; omega)
            go_wp2_with fail
            refine hT.mono ?_
            rintro e w6 ⟨rfl, q6⟩
            have HK6 := Lib.hid q6
            clear q6 hT
            go_wp2_with fail
            refine (HNM.out _).mono ?_
            rintro e w7 ⟨rfl, b7⟩
            have HK7 := Lib.hid (HK6.out.grow b7)
            clear b7
            have hHw8 := HK7.out.Has k HWK.out
            rw [has_upd, if_pos rfl, ← hy] at hHw8
            go_wp2_with fail
            refine hHw8.mono ?_
            rintro e w8 ⟨rfl, rfl⟩
            clear hHw8
            go_wp2_with fail
            refine (HNM.out _).mono ?_
            rintro e w9 ⟨rfl, b9⟩
            have HK9 := Lib.hid (HK7.out.grow b9)
            clear b9
            have hG := HK9.out.Give_ok k HWK.out (by have := HK9.out.has_bd k; rw [has_upd, if_pos rfl]; have := HK3.out.has_bd k; omega) (by have := HM6.out; omega)
            go_wp2_with fail
            refine hG.mono ?_
            rintro e w10 ⟨rfl, q10⟩
            have HK10 := Lib.hid q10
            clear q10 hG
            go_wp2_with fail
            refine (HNM.out _).mono ?_
            rintro e w11 ⟨rfl, b11⟩
            have HK11 := Lib.hid (HK10.out.grow b11)
            clear b11
            have hH := HK11.out.Has k HWK.out
            rw [has_less, if_pos rfl, has_upd, if_pos rfl, ← hy, show y + 1 - 1 = y by omega] at hH
            go_wp2_with fail
            refine hH.mono ?_
            rintro e w12 ⟨rfl, rfl⟩
            clear hH
            go_wp2_with fail
            exact ⟨⟨m + 1, by first | rw [hwm] | rfl, by have := HL.out.1; omega, _, bk_give HK11.out HL.out.2.2⟩, by have := HL.out.1; (try rw [hwm]); simp [RowKit.intOf]; omega⟩

          · have hgx : ¬ xi ≥ 128 := h128
            clear h128
            go_wp2_with fail
            refine (HNM.out _).mono ?_
            rintro e w3 ⟨rfl, b3⟩
            have HK3 := Lib.hid (HK.out.grow b3)
            clear b3
            have hHw4 := HK3.out.Has k HWK.out
            rw [← hy] at hHw4
            go_wp2_with fail
            refine hHw4.mono ?_
            rintro e w4 ⟨rfl, rfl⟩
            clear hHw4
            go_wp2_with fail
            refine (HNM.out _).mono ?_
            rintro e w5 ⟨rfl, b5⟩
            have HK5 := Lib.hid (HK3.out.grow b5)
            clear b5
            have hT := HK5.out.Take_ok k HWK.out (by rw [← hy]; exact hyN) (by have := HM6.out; omega)
            go_wp2_with fail
            refine hT.mono ?_
            rintro e w6 ⟨rfl, q6⟩
            have HK6 := Lib.hid q6
            clear q6 hT
            go_wp2_with fail
            refine (HNM.out _).mono ?_
            rintro e w7 ⟨rfl, b7⟩
            have HK7 := Lib.hid (HK6.out.grow b7)
            clear b7
            have hHw8 := HK7.out.Has k HWK.out
            rw [has_upd, if_pos rfl, ← hy] at hHw8
            go_wp2_with fail
            refine hHw8.mono ?_
            rintro e w8 ⟨rfl, rfl⟩
            clear hHw8
            go_wp2_with fail
            exact ⟨⟨m + 1, by first | rw [hwm] | rfl, by have := HL.out.1; omega, _, bk_take HK7.out HL.out.2.2 (by rw [← hy]; exact hyN)⟩, by have := HL.out.1; (try rw [hwm]); simp [RowKit.intOf]; omega⟩

        · have hyN' : N ≤ y := by omega
          clear hyN
          go_wp2_with fail
          refine (HNM.out _).mono ?_
          rintro e w3 ⟨rfl, b3⟩
          have HK3 := Lib.hid (HK.out.grow b3)
          clear b3
          have hHw4 := HK3.out.Has k HWK.out
          rw [← hy] at hHw4
          go_wp2_with fail
          refine hHw4.mono ?_
          rintro e w4 ⟨rfl, rfl⟩
          clear hHw4
          go_wp2_with fail
          refine (HNM.out _).mono ?_
          rintro e w5 ⟨rfl, b5⟩
          have HK5 := Lib.hid (HK3.out.grow b5)
          clear b5
          have hT := HK5.out.Take_no k HWK.out (by rw [← hy]; exact hyN')
          go_wp2_with fail
          refine hT.mono ?_
          rintro e w6 ⟨rfl, rfl⟩
          clear hT
          have hyN2 : ¬ y > N := by have := HL.out.2.2 k; omega
          go_wp2_with fail
          refine (HNM.out _).mono ?_
          rintro e w7 ⟨rfl, b7⟩
          have HK7 := Lib.hid (HK5.out.grow b7)
          clear b7
          have hHw8 := HK7.out.Has k HWK.out
          rw [← hy] at hHw8
          go_wp2_with fail
          refine hHw8.mono ?_
          rintro e w8 ⟨rfl, rfl⟩
          clear hHw8
          go_wp2_with fail
          exact ⟨⟨m + 1, by first | rw [hwm] | rfl, by have := HL.out.1; omega, _, Bk.more ⟨HK7.out, HL.out.2.2⟩ (Below.refl _ _)⟩, by have := HL.out.1; (try rw [hwm]); simp [RowKit.intOf]; omega⟩

      · have hmx : ((n : Nat) : Int) ≤ ((m : Nat) : Int) := by omega
        have HB := Lib.hid hk.1.below
        clear hk hm hlt
        go_wp2_with fail
        go_ret
        exact ⟨rfl, HB.out⟩
  · have h1x : ((n : Nat) : Int) > 60 := by omega
    clear h60
    go_enter Try.func5, Try.ntmps5
    go_wp2_with fail
    refine (lives13_any _).mono ?_
    rintro e w1 ⟨rfl, bl⟩
    have HB1 := Lib.hid bl
    clear bl
    go_wp2_with fail
    refine (lives13_any _).mono ?_
    rintro e w2 ⟨rfl, bl⟩
    have HB2 := Lib.hid bl
    clear bl
    go_wp2_with fail
    go_ret
    exact ⟨rfl, HB1.out.trans (HB2.out.mono HB1.out.size)⟩
end Go.Proofs.Ythbpgdeaaadlbaa.Qt
