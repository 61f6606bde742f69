/- the walk of CrcTurned -/
import Derived.Test.YtdjondmhckoelaaDoorCr
import Derived.Test.YtdjondmhckoelaaDoorBk
namespace Go.Proofs.YtdjondmhckoelaaDoor.Cr
open Go.RowKit Go.Lib Go.Proofs.YtdjondmhckoelaaDoor.By

theorem num16_of {a : Int} (h : (Lit.int .u16 a).wf = true) : ∃ n : Nat, a = n ∧ n ≤ 65535 := by
  have hw : 0 ≤ a ∧ a ≤ 65535 := by simpa [Lit.wf, IntKind.min, IntKind.max, IntKind.signed, IntKind.bits] using h
  exact ⟨a.toNat, by omega, by omega⟩
theorem num32_of {a : Int} (h : (Lit.int .u32 a).wf = true) : ∃ n : Nat, a = n ∧ U32 n := by
  have hw : 0 ≤ a ∧ a ≤ 4294967295 := by simpa [Lit.wf, IntKind.min, IntKind.max, IntKind.signed, IntKind.bits] using h
  exact ⟨a.toNat, by omega, by unfold U32; omega⟩
theorem bit_of32 {m : Nat} (hm : U32 m) (j : Nat) : bits .and .u32 ((m : Int) / 2 ^ j) 1 = (((m.testBit j).toNat : Nat) : Int) := by
  have e : (m : Int) / 2 ^ j = ((m / 2 ^ j : Nat) : Int) := by simp
  have h : U32 (m / 2 ^ j) := Nat.lt_of_le_of_lt (Nat.div_le_self _ _) hm
  rw [e, and1 h, Nat.testBit_eq_decide_div_mod_eq]
  have : m / 2 ^ j % 2 = 0 ∨ m / 2 ^ j % 2 = 1 := by omega
  rcases this with h | h <;> rw [h] <;> rfl
/-- one bit of a row is turned -/
def flip (l : List UInt8) (p : Nat) : List UInt8 := l.set (p / 8) (l.getD (p / 8) 0 ^^^ (2 ^ (p % 8)).toUInt8)
theorem pow_byte {r : Nat} (h : r < 8) : ((2 ^ r).toUInt8).toNat = 2 ^ r := byte_nat (Nat.lt_of_le_of_lt (Nat.pow_le_pow_right (by decide) (Nat.le_of_lt_succ h)) (by decide))
theorem bt_flip {l : List UInt8} {p : Nat} (hp : p < 8 * l.length) (i : Nat) : bt (flip l p) i = (bt l i ^^ decide (p = i)) := by
  unfold flip bt
  by_cases h : p / 8 = i / 8
  · rw [h]
    have hl : i / 8 < l.length := by omega
    have e : (l.set (i / 8) (l.getD (i / 8) 0 ^^^ (2 ^ (p % 8)).toUInt8)).getD (i / 8) 0 = l.getD (i / 8) 0 ^^^ (2 ^ (p % 8)).toUInt8 := by simp [List.getD, hl]
    rw [e, UInt8.toNat_xor, pow_byte (by omega), Nat.testBit_xor, Nat.testBit_two_pow]
    congr 1
    exact decide_eq_decide.2 (by omega)
  · have e : (l.set (p / 8) (l.getD (p / 8) 0 ^^^ (2 ^ (p % 8)).toUInt8)).getD (i / 8) 0 = l.getD (i / 8) 0 := by simp only [List.getD, List.getElem?_set_ne h]
    rw [e, decide_eq_false (by omega), Bool.xor_false]
theorem tb_yes {f m k i : Nat} (h : m.testBit k = true) (hi : i = i) : tb f m (k + 1) i = (tb f m k i ^^ decide (f + k = i)) := by
  unfold tb
  by_cases e : f + k = i
  · subst e
    rw [decide_eq_true (by omega), decide_eq_false (by omega), decide_eq_true rfl, Nat.add_sub_cancel_left, h]; rfl
  · rw [decide_eq_false e, Bool.xor_false]
    congr 1
    exact decide_eq_decide.2 (by omega)
theorem tb_no {f m k i : Nat} (h : m.testBit k = false) : tb f m (k + 1) i = tb f m k i := by
  unfold tb
  by_cases e : f + k = i
  · subst e
    rw [Nat.add_sub_cancel_left, h, Bool.and_false, Bool.and_false]
  · congr 1
    exact decide_eq_decide.2 (by omega)
theorem tb_none (f m i : Nat) : tb f m 0 i = false := by
  unfold tb; rw [decide_eq_false (by omega)]; rfl

set_option maxHeartbeats 2000000 in
theorem turned_walk (a1 : Option Addr) (n1 c1 : Nat) (l1 : List UInt8) (t m : Nat) (w : World) (h1 : IsB w a1 n1 c1 l1) (ht : t ≤ 65535) (hm : U32 m) (hn : Nibs w) :
    Calls Tryd.prog 4 #[.slice a1 n1 c1, .int .u16 t, .int .u32 m] w fun e w' => e = .returned (.bool true) ∧ Below w.heap.size w w' := by
  have m1 := h1.le
  unfold maxLen at m1
  obtain rfl : l1.length = n1 := h1.1
  have HL := Lib.hid (lives_any w hn)
  have HN := Lib.hid hn
  have H1 := Lib.hid h1
  have HM := Lib.hid hm
  clear h1 hn
  by_cases b1 : 300 < l1.length ∨ l1.length < 5 ∨ m = 0
  · clear hm
    go_enter Tryd.func4, Tryd.ntmps4
    go_wp2_with fail
    refine HL.out.mono ?_
    rintro e wa ⟨rfl, hb⟩
    have HL2 := Lib.hid (lives_any wa (HN.out.old hb))
    have HB := Lib.hid hb
    clear hb
    rcases b1 with b | b | b
    · go_wp2_with fail
      refine HL2.out.mono ?_
      rintro e wb ⟨rfl, hb2⟩
      go_wp2
      go_ret
      exact ⟨rfl, HB.out.trans (hb2.mono HB.out.size)⟩
    · have b0 : ¬ 300 < l1.length := by omega
      go_wp2_with fail
      refine HL2.out.mono ?_
      rintro e wb ⟨rfl, hb2⟩
      go_wp2
      go_ret
      exact ⟨rfl, HB.out.trans (hb2.mono HB.out.size)⟩
    · subst b
      by_cases b0 : 300 < l1.length
      · go_wp2_with fail
        refine HL2.out.mono ?_
        rintro e wb ⟨rfl, hb2⟩
        go_wp2
        go_ret
        exact ⟨rfl, HB.out.trans (hb2.mono HB.out.size)⟩
      · by_cases b2 : l1.length < 5
        all_goals
          go_wp2_with fail
          refine HL2.out.mono ?_
          rintro e wb ⟨rfl, hb2⟩
          go_wp2
          go_ret
          exact ⟨rfl, HB.out.trans (hb2.mono HB.out.size)⟩
  · have g1 : ¬ 300 < l1.length := fun h => b1 (.inl h)
    have g2 : ¬ l1.length < 5 := fun h => b1 (.inr (.inl h))
    have g3 : ¬ m = 0 := fun h => b1 (.inr (.inr h))
    have g3' : ((m : Int) == 0) = false := by simp; omega
    have hmm : m ≤ 4294967295 := by unfold U32 at hm; omega
    have G3 := Lib.hid g3
    clear b1 hm g3
    go_enter Tryd.func4, Tryd.ntmps4
    go_wp2_with fail
    refine HL.out.mono ?_
    rintro e wa ⟨rfl, hb⟩
    have hb1 : Below w.heap.size w (wa.alloc (.cells #[] 5)) := hb.alloc hb.size _
    have i1 := H1.out.old hb1
    have HB := Lib.hid (And.intro hb hb1)
    have hsz := hb.size
    clear hb hb1
    go_wp2_with (at_builtin; refine wpList_append_bytes rfl _ _ rfl wa.heap.size _ 0 [] rfl ?c0 a1 l1.length c1 l1 rfl i1 ?c1 ?c2 ?_)
    case c0 => exact World.ownsRow_made wa #[] 0 (Nat.le_refl _) (Nat.zero_le _) rfl
    case c1 => omega
    case c2 => simp
    · intro ao cp w1 hown hg
      have hb1 : Below w.heap.size w w1 := HB.out.2.grown hg (by simp; omega) (fun k hk => by simp [Value.ownBlock] at hk; omega)
      have HB1 := Lib.hid hb1
      cases ao with
      | none =>
        rcases hown.2 with ⟨_, h⟩ | ⟨_, _, _, h, _⟩
        · exact absurd h (by omega)
        · simp at h
      | some g =>
        obtain ⟨b, rfl, hbb, hblk, hcm⟩ := Blk.own hown rfl
        have HK := Lib.hid (And.intro hblk hcm)
        have hbw : w.heap.size ≤ b := by omega
        clear hblk hcm hown hg HB hb1 i1 hsz hbb
        have ef : ((t : Int) % (8 * (l1.length : Int) - 31)) = ((t % (8 * l1.length - 31) : Nat) : Int) := by
          rw [Int.natCast_emod]; congr 1; omega
        have hff : t % (8 * l1.length - 31) + 32 ≤ 8 * l1.length := by
          have := Nat.mod_lt t (show 0 < 8 * l1.length - 31 by omega); omega
        obtain ⟨f, hf⟩ : ∃ f, f = t % (8 * l1.length - 31) := ⟨_, rfl⟩
        rw [← hf] at ef hff
        clear hf
        have EF := Lib.hid ef
        clear ef
        go_wp2
        rw [EF.out]
        clear EF
        go_loopw [37] (fun i wr => ∃ (k : Nat) (xs : List UInt8), k ≤ 32 ∧ i = .int .i64 k ∧ xs.length = l1.length ∧ Blk wr b cp xs ∧ Below w.heap.size w wr ∧ ∀ j, j < 8 * l1.length → bt xs j = (bt l1 j ^^ tb f m k j)) (fun i _ => 32 - (intOf i).toNat)
        case atStart => exact ⟨0, l1, by omega, rfl, rfl, HK.out.1, HB1.out, fun j _ => by rw [tb_none, Bool.xor_false]⟩
        case round =>
          obtain ⟨k, xs, hk, rfl, hxs, hblk, hbel, hall⟩ := hrel
          by_cases hlt : k < 32
          · have q1 := bit_of32 HM.out k
            by_cases hbit : m.testBit k = true
            · rw [hbit] at q1
              have q1' : bits .and .u32 ((m : Int) / 2 ^ k) 1 = 1 := q1
              have hp : (f + k) / 8 < xs.length := by omega
              obtain ⟨p, hpp⟩ : ∃ p, p = f + k := ⟨_, rfl⟩
              have w1e : IntKind.i64.wrap ((f : Int) + (k : Int)) = (p : Int) := by rw [IntWalk.i64_in _ (by omega)]; omega
              have hflip : flip xs p = xs.set (p / 8) (xs.getD (p / 8) 0 ^^^ (2 ^ (p % 8)).toUInt8) := rfl
              have w2e : IntKind.i64.wrap ((p : Int) / 8) = ((p / 8 : Nat) : Int) := by rw [IntWalk.i64_in _ (by omega)]; omega
              have w3e : (p : Int).tmod 8 = ((p % 8 : Nat) : Int) := by rw [Int.tmod_eq_emod_of_nonneg (by omega)]; omega
              have hq : p / 8 < l1.length := by omega
              have hr : p % 8 < 8 := by omega
              obtain ⟨q, hqq⟩ : ∃ q, q = p / 8 := ⟨_, rfl⟩
              obtain ⟨r, hrr⟩ : ∃ r, r = p % 8 := ⟨_, rfl⟩
              rw [← hqq] at hflip w2e hq
              rw [← hrr] at hflip w3e hr
              clear hqq hrr
              have hfree := hblk.free q
              have hcel := hblk.cellD (k := q) (by omega)
              obtain ⟨u, hu⟩ : ∃ u, u = xs.getD q 0 := ⟨_, rfl⟩
              rw [← hu] at hflip
              have w4e : IntKind.u8.wrap (2 ^ r) = (((2 ^ r).toUInt8.toNat : Nat) : Int) := by
                rw [pow_byte hr, IntKind.wrap_u8]
                have : 2 ^ r ≤ 2 ^ 7 := Nat.pow_le_pow_right (by decide) (by omega)
                have e : (2 : Int) ^ r = ((2 ^ r : Nat) : Int) := by simp
                rw [e]; clear e; revert this; generalize (2 ^ r : Nat) = z; intro h; omega
              obtain ⟨d, hd⟩ : ∃ d, d = (2 ^ r).toUInt8 := ⟨_, rfl⟩
              rw [← hd] at w4e hflip
              have s1 := xor_u8 u d
              obtain ⟨v, hv⟩ : ∃ v, v = u ^^^ d := ⟨_, rfl⟩
              rw [← hv] at s1 hflip
              have HF := Lib.hid hflip
              have HTB := Lib.hid (fun i => tb_yes (f := f) (i := i) hbit rfl)
              clear hflip hd hv hbit
              rw [← hu] at hcel
              have HU := Lib.hid hu
              have hHB := Lib.hid hblk
              have hHL := Lib.hid hbel
              have HX := Lib.hid hxs
              have HA := Lib.hid hall
              have hlk : (q : Int) < (l1.length : Int) := by omega
              have HP := Lib.hid hpp
              clear q1 hxs hpp hall hblk hbel hu hp
              go_wp2
              go_still_tail 14, (by kernel_rfl)
              have hf2 : wr.drew.frozen? ⟨b, q, none⟩ = false := hfree
              have hc2 : wr.drew.cell? ⟨b, q, none⟩ = some (.int .u8 (u.toNat : Nat)) := hcel
              have hb2 : Blk wr.drew b cp xs := hHB.out
              have hl2 : Below w.heap.size w wr.drew := hHL.out.drew
              change wpList _ _ _ _ _ wr.drew
              obtain ⟨w2, hw2⟩ : ∃ w2, w2 = wr.drew := ⟨_, rfl⟩
              rw [← hw2] at hf2 hc2 hb2 hl2 ⊢
              have HH := Lib.hid (And.intro (hb2.set q v (v := (v.toNat : Nat)) rfl) (hl2.setCell (p := ⟨b, q, none⟩) hbw (.int .u8 (v.toNat : Nat))))
              clear hw2 hfree hcel hb2 hl2 s1 w1e w2e w3e w4e
              go_wp2
              go_roundw
              case rel => exact ⟨k + 1, xs.set q v, by omega, by go_num, by simpa using HX.out, HH.out.1, HH.out.2, fun j hj => by
                have hx := HX.out
                rw [← HF.out, bt_flip (by rw [hx, HP.out]; omega), HA.out j hj, HTB.out, HP.out, Bool.xor_assoc]⟩
              case measure => simp [intOf]; omega
            · have hb0 : m.testBit k = false := by simpa using hbit
              rw [hb0] at q1
              have q1' : bits .and .u32 ((m : Int) / 2 ^ k) 1 = 0 := q1
              have HTB := Lib.hid (fun i => tb_no (f := f) (i := i) hb0)
              have hHB := Lib.hid hblk
              have hHL := Lib.hid hbel
              have HX := Lib.hid hxs
              have HA := Lib.hid hall
              clear q1 hbit hb0 hxs hall hblk hbel
              go_wp2
              go_roundw
              case rel => exact ⟨k + 1, xs, by omega, by go_num, HX.out, hHB.out, hHL.out, fun j hj => by rw [HTB.out]; exact HA.out j hj⟩
              case measure => simp [intOf]; omega
          · obtain rfl : k = 32 := by omega
            have hn := HN.out.old hbel
            have hi := hblk.isB HK.out.2
            rw [hxs] at hi
            have HS0 := Lib.hid (sum_any _ _ _ _ wr hi hn)
            have HS1 := Lib.hid (sum_any a1 l1.length c1 l1 wr (H1.out.old hbel) hn)
            have hne := sum_turned hxs hff HM.out G3.out hall
            obtain ⟨s0, hs0⟩ : ∃ s, s = sum xs := ⟨_, rfl⟩
            obtain ⟨s1, hs1⟩ : ∃ s, s = sum l1 := ⟨_, rfl⟩
            rw [← hs0] at HS0 hne
            rw [← hs1] at HS1 hne
            have hne' : ((s0 : Int) != (s1 : Int)) = true := by simp; omega
            have HBE := Lib.hid hbel
            clear hn hi hblk hbel hall hxs hs0 hs1 hne
            go_wp2_with fail
            ((with_reducible refine HS0.out.mono ?_); rintro e w' ⟨rfl, rfl⟩)
            go_wp2_with fail
            ((with_reducible refine HS1.out.mono ?_); rintro e w' ⟨rfl, rfl⟩)
            go_wp2
            go_ret
            exact ⟨rfl, HBE.out⟩
end Go.Proofs.YtdjondmhckoelaaDoor.Cr
