/- the walk of CrcLinear -/
import Derived.Test.YtdjondmhckoelaaDoorCr
import Derived.Test.YtdjondmhckoelaaDoorBk
namespace Go.Proofs.YtdjondmhckoelaaDoor.Cr
open Go.RowKit Go.Lib Go.Proofs.YtdjondmhckoelaaDoor.By

theorem below_drewN {B : Nat} {a w : World} (h : Below B a w) (n : Nat) : Below B a (w.drewN n) := ⟨h.os, h.tape, h.output, h.size, h.block⟩
theorem sum_quiet (a : Option Addr) (len cap : Nat) (l : List UInt8) (w : World) (n : Nat) (hl : IsB w a len cap l) (hn : Nibs w) :
    Calls Tryd.prog 8 #[.slice a len cap] (w.drewN n) fun e w' => e = .returned (.int .u32 (sum l : Nat)) ∧ w' = w.drewN n :=
  (sum_any a len cap l (w.drewN n) ⟨hl.1, hl.2⟩ hn).mono fun _ _ ⟨h1, h2⟩ => ⟨h1, h2.symm⟩
set_option maxHeartbeats 2000000 in
theorem linear_walk (a1 : Option Addr) (n1 c1 : Nat) (l1 : List UInt8) (a2 : Option Addr) (n2 c2 : Nat) (l2 : List UInt8) (a3 : Option Addr) (n3 c3 : Nat) (l3 : List UInt8) (w : World) (h1 : IsB w a1 n1 c1 l1) (h2 : IsB w a2 n2 c2 l2) (h3 : IsB w a3 n3 c3 l3) (hn : Nibs w) :
    Calls Tryd.prog 5 #[.slice a1 n1 c1, .slice a2 n2 c2, .slice a3 n3 c3] w fun e w' => e = .returned (.bool true) ∧ Below w.heap.size w w' := by
  have m1 := h1.le
  have m2 := h2.le
  have m3 := h3.le
  unfold maxLen at m1 m2 m3
  obtain rfl : l1.length = n1 := h1.1
  obtain rfl : l2.length = n2 := h2.1
  obtain rfl : l3.length = n3 := h3.1
  have HL := Lib.hid (lives_any w hn)
  have HN := Lib.hid hn
  have H1 := Lib.hid h1
  have H2 := Lib.hid h2
  have H3 := Lib.hid h3
  clear h1 h2 h3 hn
  by_cases b1 : 300 < l1.length ∨ l2.length < l1.length ∨ l3.length < l1.length
  · go_enter Tryd.func5, Tryd.ntmps5
    go_wp2_with fail
    refine HL.out.mono ?_
    rintro e wa ⟨rfl, hb⟩
    have HL2 := Lib.hid (lives_any wa (HN.out.old hb))
    have HB := Lib.hid hb
    clear hb
    rcases b1 with b | b | b
    · go_wp2_with fail
      refine HL2.out.mono ?_
      rintro e wb ⟨rfl, hb2⟩
      go_wp2
      go_ret
      exact ⟨rfl, HB.out.trans (hb2.mono HB.out.size)⟩
    · by_cases b0 : 300 < l1.length
      all_goals
        go_wp2_with fail
        refine HL2.out.mono ?_
        rintro e wb ⟨rfl, hb2⟩
        go_wp2
        go_ret
        exact ⟨rfl, HB.out.trans (hb2.mono HB.out.size)⟩
    · by_cases b0 : 300 < l1.length
      · go_wp2_with fail
        refine HL2.out.mono ?_
        rintro e wb ⟨rfl, hb2⟩
        go_wp2
        go_ret
        exact ⟨rfl, HB.out.trans (hb2.mono HB.out.size)⟩
      · by_cases b2 : l2.length < l1.length
        all_goals
          go_wp2_with fail
          refine HL2.out.mono ?_
          rintro e wb ⟨rfl, hb2⟩
          go_wp2
          go_ret
          exact ⟨rfl, HB.out.trans (hb2.mono HB.out.size)⟩
  · have g1 : ¬ 300 < l1.length := fun h => b1 (.inl h)
    have g2 : ¬ l2.length < l1.length := fun h => b1 (.inr (.inl h))
    have g3 : ¬ l3.length < l1.length := fun h => b1 (.inr (.inr h))
    clear b1
    go_enter Tryd.func5, Tryd.ntmps5
    go_wp2_with fail
    refine HL.out.mono ?_
    rintro e wa ⟨rfl, hb⟩
    have hmk := run_makeBytes wa (n := l1.length) (by omega)
    have hsz := hb.size
    have HB := Lib.hid (And.intro (Blk.made (w := wa) (n := l1.length)) (hb.alloc hb.size (.cells (madeCells #[.int .u8 0] l1.length) 5)))
    clear hb
    go_wp2_with fail
    obtain ⟨w1, hw1⟩ : ∃ w1, w1 = wa.alloc (.cells (madeCells #[.int .u8 0] l1.length) 5) := ⟨_, rfl⟩
    rw [← hw1] at HB ⊢
    clear hmk hw1
    go_loopw [36] (fun i wr => ∃ (k : Nat) (xs : List UInt8), k ≤ l1.length ∧ i = .int .i64 k ∧ xs.length = l1.length ∧ Blk wr wa.heap.size l1.length xs ∧ Below w.heap.size w wr ∧ ∀ j, j < k → xs.getD j 0 = l1.getD j 0 ^^^ l2.getD j 0 ^^^ l3.getD j 0) (fun i _ => l1.length - (intOf i).toNat)
    case atStart => exact ⟨0, _, by omega, rfl, by simp, HB.out.1, HB.out.2, fun j hj => by omega⟩
    case round =>
      obtain ⟨k, xs, hk, rfl, hxs, hblk, hbel, hall⟩ := hrel
      have HBL := Lib.hid hblk
      have HBE := Lib.hid hbel
      have HA := Lib.hid hall
      have HX := Lib.hid hxs
      by_cases hlt : k < l1.length
      · obtain ⟨x1, e1, q1⟩ := (H1.out.old hbel).at hlt
        obtain ⟨x2, e2, q2⟩ := (H2.out.old hbel).at (show k < l2.length by omega)
        obtain ⟨x3, e3, q3⟩ := (H3.out.old hbel).at (show k < l3.length by omega)
        subst e1 e2 e3
        obtain ⟨u1, hu1⟩ : ∃ u, u = l1[k] := ⟨_, rfl⟩
        obtain ⟨u2, hu2⟩ : ∃ u, u = l2[k] := ⟨_, rfl⟩
        obtain ⟨u3, hu3⟩ : ∃ u, u = l3[k] := ⟨_, rfl⟩
        rw [← hu1] at q1
        rw [← hu2] at q2
        rw [← hu3] at q3
        have hfree := hblk.free k
        have s1 := xor_u8 u1 u2
        have s2 := xor_u8 (u1 ^^^ u2) u3
        have HU : Hid (u1 ^^^ u2 ^^^ u3 = l1.getD k 0 ^^^ l2.getD k 0 ^^^ l3.getD k 0) := by
          show _ = _
          rw [hu1, hu2, hu3]; simp [List.getD, hlt, show k < l2.length by omega, show k < l3.length by omega]
        obtain ⟨v, hv⟩ : ∃ v, v = u1 ^^^ u2 := ⟨_, rfl⟩
        rw [← hv] at s1 s2 HU
        obtain ⟨v', hv'⟩ : ∃ v', v' = v ^^^ u3 := ⟨_, rfl⟩
        rw [← hv'] at s2 HU
        clear hu1 hu2 hu3 hv hv' hblk hbel hall hxs HB
        go_wp2
        have hlk : ((k : Int) < (l1.length : Int)) := by omega
        have hlk2 : ((k : Int) < (l2.length : Int)) := by omega
        have hlk3 : ((k : Int) < (l3.length : Int)) := by omega
        go_still_tail 17, (by kernel_rfl)
        have hf2 : wr.drew.frozen? ⟨wa.heap.size, k, none⟩ = false := hfree
        have hb2 : Blk wr.drew wa.heap.size l1.length xs := HBL.out
        have hl2 : Below w.heap.size w wr.drew := HBE.out.drew
        change wpList _ _ _ _ _ wr.drew
        obtain ⟨w2, hw2⟩ : ∃ w2, w2 = wr.drew := ⟨_, rfl⟩
        rw [← hw2] at hf2 hb2 hl2 ⊢
        have hc2 := hb2.cell (k := k) (by have := HX.out; omega)
        have HH := Lib.hid (And.intro (hb2.set k v' (v := (v'.toNat : Nat)) rfl) (hl2.setCell (p := ⟨wa.heap.size, k, none⟩) hsz (.int .u8 (v'.toNat : Nat))))
        clear hw2 hfree hb2 hl2 q1 q2 q3 s1
        go_wp2
        go_roundw
        case rel => exact ⟨k + 1, xs.set k v', by omega, by go_num, by simpa using HX.out, HH.out.1, HH.out.2, fun j hj => by
          have hx := HX.out
          by_cases e : j = k
          · subst e
            rw [← HU.out]; simp [List.getD, hx, hlt]
          · rw [← HA.out j (by omega)]
            simp only [List.getD, List.getElem?_set_ne (Ne.symm e)]⟩
        case measure => simp [intOf]; omega
      · obtain rfl : k = l1.length := by omega
        have hn := HN.out.old hbel
        have S0 := fun n => sum_quiet (some ⟨wa.heap.size, 0, none⟩) l1.length l1.length xs wr n (by have := hblk.isB (by unfold maxLen; omega); rwa [hxs] at this) hn
        have S1 := fun n => sum_quiet a1 l1.length c1 l1 wr n (H1.out.old hbel) hn
        have S2 := fun n => sum_quiet a2 l1.length c2 (l2.take l1.length) wr n ((H2.out.old hbel).take (by omega)) hn
        have S3 := fun n => sum_quiet a3 l1.length c3 (l3.take l1.length) wr n ((H3.out.old hbel).take (by omega)) hn
        have hx := sum_xor3 (a := l1) (b := l2.take l1.length) (c := l3.take l1.length) (x := xs) (by simp; omega) (by simp; omega) hxs (fun i hi => by
          rw [hall i hi]; simp [List.getD, hi])
        obtain ⟨s0, hs0⟩ : ∃ s, s = sum xs := ⟨_, rfl⟩
        obtain ⟨s1, hs1⟩ : ∃ s, s = sum l1 := ⟨_, rfl⟩
        obtain ⟨s2, hs2⟩ : ∃ s, s = sum (l2.take l1.length) := ⟨_, rfl⟩
        obtain ⟨s3, hs3⟩ : ∃ s, s = sum (l3.take l1.length) := ⟨_, rfl⟩
        have u1 : U32 s1 := by rw [hs1]; exact sum_u32 _
        have u2 : U32 s2 := by rw [hs2]; exact sum_u32 _
        have u3 : U32 s3 := by rw [hs3]; exact sum_u32 _
        rw [← hs0] at S0 hx
        rw [← hs1] at S1 hx
        rw [← hs2] at S2 hx
        rw [← hs3] at S3 hx
        have f1 := xor32 u1 u2
        have f2 := xor32 (u1.xor u2) u3
        rw [← hx] at f2
        obtain ⟨s4, hs4⟩ : ∃ s, s = s1 ^^^ s2 := ⟨_, rfl⟩
        rw [← hs4] at f1 f2
        have HS0 := Lib.hid S0
        have HS1 := Lib.hid S1
        have HS2 := Lib.hid S2
        have HS3 := Lib.hid S3
        clear S0 S1 S2 S3 hs0 hs1 hs2 hs3 hs4 hx hn hblk hbel hall hxs u1 u2 u3 HB
        have k2 : l2.length ≤ c2 := by
          rcases H2.out.2 with ⟨_, e, _⟩ | ⟨_, _, e, _⟩ <;> omega
        have k3 : l3.length ≤ c3 := by
          rcases H3.out.2 with ⟨_, e, _⟩ | ⟨_, _, e, _⟩ <;> omega
        have j2 : (l1.length : Int) ≤ (c2 : Int) := by omega
        have j3 : (l1.length : Int) ≤ (c3 : Int) := by omega
        have j0 : (0 : Int) ≤ (l1.length : Int) := by omega
        have i2 : l1.length ≤ c2 := by omega
        have i3 : l1.length ≤ c3 := by omega
        cases a2 <;> cases a3
        all_goals
          go_wp2
          go_quiet ((first | (go_at_call 8; exact Calls.quiet_of_same (HS0.out _)) | (go_at_call 8; exact Calls.quiet_of_same (HS1.out _)) | (go_at_call 8; exact Calls.quiet_of_same (HS2.out _)) | (go_at_call 8; exact Calls.quiet_of_same (HS3.out _))))
          go_wp2
          go_ret
          exact ⟨rfl, below_drewN HBE.out _⟩
end Go.Proofs.YtdjondmhckoelaaDoor.Cr
