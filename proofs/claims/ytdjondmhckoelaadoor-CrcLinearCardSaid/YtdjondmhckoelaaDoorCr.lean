/- the sums' contracts: More, Sum -/
import Derived.Test.YtdjondmhckoelaaDoorBy
import Derived.Test.YtdjondmhckoelaaDoorCrM
import Derived.Lib.SlBytesConst
namespace Go.Proofs.YtdjondmhckoelaaDoor.Cr
open Go.RowKit Go.Lib Go.Proofs.YtdjondmhckoelaaDoor.By

/-- the table lies where it was laid -/
def Nibs (w : World) : Prop := ∀ i, i < 16 → w.cell? ⟨0, i, none⟩ = some (.int .u32 (nib i : Nat))
theorem Nibs.old {w w' : World} (h : Nibs w) (hb : Below w.heap.size w w') : Nibs w' := fun i hi => (hb.cell (World.block_lt_of_cell? w _ (h i hi))).trans (h i hi)

theorem xor32 {a b : Nat} (ha : U32 a) (hb : U32 b) : bits .xor .u32 (a : Int) (b : Int) = ((a ^^^ b : Nat) : Int) := u32_xor_nat a b ha hb
theorem and15 {a : Nat} (ha : U32 a) : bits .and .u32 (a : Int) 15 = ((a % 16 : Nat) : Int) := by
  have h := u32_and_nat a 15 ha (by decide)
  rw [show a &&& 15 = a % 16 from Nat.and_two_pow_sub_one_eq_mod a 4] at h
  exact h
theorem not32 {a : Nat} (ha : U32 a) : bits .xor .u32 IntKind.u32.max (a : Int) = ((tn a : Nat) : Int) := by
  have h := u32_xor_nat 4294967295 a (by decide) ha
  rw [← tn_xor ha] at h
  exact h
theorem ret_int {k : IntKind} {a b : Int} (h : a = b) : Ending.returned (.int k a) = .returned (.int k b) := by rw [h]
theorem take_snoc {l : List UInt8} {k : Nat} (h : k < l.length) : l.take (k + 1) = l.take k ++ [l[k]] := by rw [List.take_succ_eq_append_getElem h]
theorem run_take {l : List UInt8} {k : Nat} (s : Nat) (h : k < l.length) : run s (l.take (k + 1)) = upd (run s (l.take k)) l[k] := by rw [take_snoc h, run_snoc]

set_option maxHeartbeats 1000000 in
theorem more_any (s : Nat) (a : Option Addr) (len cap : Nat) (l : List UInt8) (w : World) (hs : U32 s) (hl : IsB w a len cap l) (hn : Nibs w) :
    Calls Tryd.prog 10 #[.int .u32 s, .slice a len cap] w fun e w' => e = .returned (.int .u32 (more s l : Nat)) ∧ w = w' := by
  have hm := hl.le
  unfold maxLen at hm
  obtain rfl : l.length = len := hl.1
  have HL := Lib.hid hl
  have HN := Lib.hid hn
  have e0 := not32 hs
  have hts := tn_u32 s
  obtain ⟨t, ht⟩ : ∃ t, t = tn s := ⟨_, rfl⟩
  have HM : Hid (more s l = tn (run t l)) := by subst ht; exact rfl
  rw [← ht] at e0 hts
  have HT := Lib.hid hts
  clear hl hn ht hs hts
  go_enter Tryd.func10, Tryd.ntmps10
  go_wp2
  clear e0
  go_loop [0, 11] (fun u i => ∃ k r : Nat, k ≤ l.length ∧ i = .int .i64 k ∧ u = .int .u32 r ∧ U32 r ∧ r = run t (l.take k)) (fun _ i => l.length - (intOf i).toNat)
  case atStart => exact ⟨0, t, by omega, rfl, rfl, HT.out, rfl⟩
  case round =>
    obtain ⟨k, r, hk, rfl, rfl, hr, he⟩ := hrel
    by_cases hlt : k < l.length
    · obtain ⟨x, hx, hc⟩ := HL.out.at hlt
      subst hx
      have hstep := run_take t hlt
      rw [← he] at hstep
      obtain ⟨c, hcc⟩ : ∃ c, c = l[k] := ⟨_, rfl⟩
      rw [← hcc] at hc hstep
      have hb := c.toNat_lt
      have hcu : U32 c.toNat := U32.byte c
      have h1 := xor32 hr hcu
      have u1 := hr.xor hcu
      obtain ⟨r1, hr1⟩ : ∃ r1, r1 = r ^^^ c.toNat := ⟨_, rfl⟩
      rw [← hr1] at h1 u1
      have h2 := and15 u1
      have h3 : bits .xor .u32 ((r1 : Int) / 16) ((nib (r1 % 16) : Nat) : Int) = (((r1 / 16) ^^^ nib (r1 % 16) : Nat) : Int) := xor32 (u1.div 16) (nib_u32 _)
      rw [← four] at h3
      have n1 := HN.out (r1 % 16) (by omega)
      have u2 := u1.it 4
      obtain ⟨r2, hr2⟩ : ∃ r2, r2 = it 4 r1 := ⟨_, rfl⟩
      rw [← hr2] at h3 u2
      have h4 := and15 u2
      have h5 : bits .xor .u32 ((r2 : Int) / 16) ((nib (r2 % 16) : Nat) : Int) = (((r2 / 16) ^^^ nib (r2 % 16) : Nat) : Int) := xor32 (u2.div 16) (nib_u32 _)
      rw [← four] at h5
      have n2 := HN.out (r2 % 16) (by omega)
      have u3 := u2.it 4
      obtain ⟨r3, hr3⟩ : ∃ r3, r3 = it 4 r2 := ⟨_, rfl⟩
      rw [← hr3] at h5 u3
      have HE : Hid (r3 = run t (l.take (k + 1))) := by rw [hstep, upd_four, ← hr1, ← hr2, ← hr3]; exact rfl
      have HU := Lib.hid u3
      clear he hstep hcc hr hcu u1 u2 u3 hr1 hr2 hr3
      go_wp2
      go_round
      case rel => exact ⟨k + 1, r3, by omega, by go_num, rfl, HU.out, HE.out⟩
      case measure => simp [intOf]; omega
    · obtain rfl : k = l.length := by omega
      have h6 := not32 hr
      have HE : Hid (tn r = more s l) := by rw [HM.out, he, List.take_length]; exact rfl
      have HR : Hid (U32 r) := hr
      clear he hr
      go_wp2
      go_ret
      exact ⟨ret_int (by rw [HE.out]), rfl⟩

set_option maxHeartbeats 1000000 in
theorem sum_any (a : Option Addr) (len cap : Nat) (l : List UInt8) (w : World) (hl : IsB w a len cap l) (hn : Nibs w) :
    Calls Tryd.prog 8 #[.slice a len cap] w fun e w' => e = .returned (.int .u32 (sum l : Nat)) ∧ w = w' := by
  have H := Lib.hid (more_any 0 a len cap l w U32.zero hl hn)
  clear hl hn
  go_enter Tryd.func8, Tryd.ntmps8
  go_wp2_with (go_at_call 10; refine H.out.mono ?_; rintro e w' ⟨rfl, rfl⟩)
  go_ret
  exact ⟨rfl, rfl⟩
theorem isB_nil (w : World) : IsB w none 0 0 [] := ⟨rfl, .inl ⟨rfl, rfl, rfl⟩⟩

/-! ### the law's own words -/
theorem and1 {a : Nat} (ha : U32 a) : bits .and .u32 (a : Int) 1 = ((a % 2 : Nat) : Int) := by
  have h := u32_and_nat a 1 ha (by decide)
  rw [show a &&& 1 = a % 2 from Nat.and_two_pow_sub_one_eq_mod a 1] at h
  exact h

theorem bit_step (q b : Nat) (hb : b < 2) : st (q ^^^ b) = q / 2 ^^^ (if q % 2 ^^^ b = 1 then 3988292384 else 0) := by
  unfold st
  have h1 : (q ^^^ b) / 2 = q / 2 := by rw [Nat.xor_div_two, show b / 2 = 0 by omega, Nat.xor_zero]
  have h2 : (q ^^^ b) % 2 = q % 2 ^^^ b := by
    have := @Nat.xor_mod_two_pow q b 1
    simpa [Nat.mod_eq_of_lt hb] using this
  rw [h1, h2]
theorem bit_lt (b : Bool) : b.toNat < 2 := by cases b <;> decide
theorem bit_of (c : UInt8) (j : Nat) : bits .and .u32 ((c.toNat : Int) / 2 ^ j % 4294967296) 1 = (((c.toNat.testBit j).toNat : Nat) : Int) := by
  have hlt : c.toNat / 2 ^ j < 256 := Nat.lt_of_le_of_lt (Nat.div_le_self _ _) c.toNat_lt
  have e : (c.toNat : Int) / 2 ^ j % 4294967296 = ((c.toNat / 2 ^ j : Nat) : Int) := by
    have : ((c.toNat : Int) / 2 ^ j) = ((c.toNat / 2 ^ j : Nat) : Int) := by simp
    rw [this]; clear this; revert hlt; generalize c.toNat / 2 ^ j = n; intro hlt; omega
  rw [e, and1 (by unfold U32; omega), Nat.testBit_eq_decide_div_mod_eq]
  have : c.toNat / 2 ^ j % 2 = 0 ∨ c.toNat / 2 ^ j % 2 = 1 := by omega
  rcases this with h | h <;> rw [h] <;> rfl
set_option maxHeartbeats 2000000 in
theorem ref_any (a : Option Addr) (len cap : Nat) (l : List UInt8) (w : World) (hl : IsB w a len cap l) :
    Calls Tryd.prog 9 #[.slice a len cap] w fun e w' => e = .returned (.int .u32 (sum l : Nat)) ∧ w = w' := by
  have hm := hl.le
  unfold maxLen at hm
  obtain rfl : l.length = len := hl.1
  have HL := Lib.hid hl
  clear hl
  go_enter Tryd.func9, Tryd.ntmps9
  go_wp2
  go_loop [3, 10] (fun u i => ∃ k r : Nat, k ≤ l.length ∧ i = .int .i64 k ∧ u = .int .u32 r ∧ U32 r ∧ r = run 4294967295 (l.take k)) (fun _ i => l.length - (intOf i).toNat)
  case atStart => exact ⟨0, 4294967295, by omega, rfl, rfl, by unfold U32; decide, rfl⟩
  case round =>
    obtain ⟨k, r, hk, rfl, rfl, hr, he⟩ := hrel
    by_cases hlt : k < l.length
    · obtain ⟨x, hx, hc⟩ := HL.out.at hlt
      subst hx
      have hstep := run_take 4294967295 hlt
      rw [← he] at hstep
      obtain ⟨c, hcc⟩ : ∃ c, c = l[k] := ⟨_, rfl⟩
      rw [← hcc] at hc hstep
      have hb := c.toNat_lt
      have hcu : U32 c.toNat := U32.byte c
      have HE := Lib.hid hstep
      have HR := Lib.hid hr
      clear he hstep hcc hr hcu
      go_wp2
      go_loop [3, 14] (fun u i => ∃ j q : Nat, j ≤ 8 ∧ i = .int .i64 j ∧ u = .int .u32 q ∧ U32 q ∧ q = go r (fun i => c.toNat.testBit i) j) (fun _ i => 8 - (intOf i).toNat)
      case atStart => exact ⟨0, r, by omega, rfl, rfl, HR.out, rfl⟩
      case round =>
        obtain ⟨j, q, hj, rfl, rfl, hq, hg⟩ := hrel
        by_cases hlt2 : j < 8
        · have b1 := bit_of c j
          have hbl := bit_lt (c.toNat.testBit j)
          have hgs : go r (fun i => c.toNat.testBit i) (j + 1) = st (q ^^^ (c.toNat.testBit j).toNat) := by rw [hg]; rfl
          obtain ⟨b, hbb⟩ : ∃ b, b = (c.toNat.testBit j).toNat := ⟨_, rfl⟩
          rw [← hbb] at b1 hbl hgs
          rw [bit_step q b hbl] at hgs
          have hqq : q ≤ 4294967295 := by unfold U32 at hq; omega
          have b2 := and1 hq
          have b3 : bits .xor .u32 ((q % 2 : Nat) : Int) (b : Int) = ((q % 2 ^^^ b : Nat) : Int) := xor32 (by unfold U32; omega) (by unfold U32; omega)
          obtain ⟨d, hd⟩ : ∃ d, d = q % 2 ^^^ b := ⟨_, rfl⟩
          rw [← hd] at b3 hgs
          obtain ⟨m, hm2⟩ : ∃ m, m = q % 2 := ⟨_, rfl⟩
          rw [← hm2] at b2 b3
          have hq2 := hq.div 2
          have b4 : bits .xor .u32 ((q : Int) / 2) 3988292384 = ((q / 2 ^^^ 3988292384 : Nat) : Int) := xor32 hq2 (b := 3988292384) (by unfold U32; decide)
          have hq4 : U32 (q / 2 ^^^ 3988292384) := hq2.xor (by unfold U32; decide)
          obtain ⟨q', hq'⟩ : ∃ q', q' = q / 2 ^^^ 3988292384 := ⟨_, rfl⟩
          rw [← hq'] at b4 hq4
          have hg1 : d = 1 → go r (fun i => c.toNat.testBit i) (j + 1) = q' := fun e => by rw [hgs, if_pos e, hq']
          have hg0 : d ≠ 1 → go r (fun i => c.toNat.testBit i) (j + 1) = q / 2 := fun e => by rw [hgs, if_neg e, Nat.xor_zero]
          have HG := Lib.hid (And.intro hg1 hg0)
          have HQ := Lib.hid (And.intro hq2 hq4)
          clear hg hgs hq hq2 hq4 hbb hd hm2 hq' hg1 hg0
          by_cases h1 : d = 1
          · have hD : ((d : Int) == 1) = true := by simp; omega
            have HG1 := Lib.hid (HG.out.1 h1)
            clear h1
            go_wp2
            go_round
            case rel => exact ⟨j + 1, q', by omega, by go_num, rfl, HQ.out.2, HG1.out.symm⟩
            case measure => simp [intOf]; omega
          · have hD : ((d : Int) == 1) = false := by simp; omega
            have HG1 := Lib.hid (HG.out.2 h1)
            clear h1
            go_wp2
            go_round
            case rel => exact ⟨j + 1, q / 2, by omega, by go_num, by go_num, HQ.out.1, HG1.out.symm⟩
            case measure => simp [intOf]; omega
        · obtain rfl : j = 8 := by omega
          have HQ : Hid (U32 q ∧ q = run 4294967295 (l.take (k + 1))) := ⟨hq, by rw [HE.out, upd_go, hg]⟩
          clear hg hq
          go_wp2
          go_round
          case rel => exact ⟨k + 1, q, by omega, by go_num, rfl, HQ.out.1, HQ.out.2⟩
          case measure => simp [intOf]; omega
    · obtain rfl : k = l.length := by omega
      have HE : Hid (tn r = sum l) := by rw [he, List.take_length]; exact rfl
      have hrr : r ≤ 4294967295 := by unfold U32 at hr; omega
      clear he hr
      go_wp2
      go_ret
      exact ⟨ret_int (by rw [← HE.out]; unfold tn; omega), rfl⟩

def lit9 : Array Value := #[.int .u8 49, .int .u8 50, .int .u8 51, .int .u8 52, .int .u8 53, .int .u8 54, .int .u8 55, .int .u8 56, .int .u8 57]
theorem isB_lit (w : World) : IsB (w.alloc (.cells lit9 5 (9, 10))) (some ⟨w.heap.size, 0, none⟩) 9 9 [49, 50, 51, 52, 53, 54, 55, 56, 57] :=
  ⟨rfl, .inr ⟨_, rfl, by simp, by simp [maxLen], fun j u hu => by
    match j, hu with
    | 0, hu | 1, hu | 2, hu | 3, hu | 4, hu | 5, hu | 6, hu | 7, hu | 8, hu => simp [byteCells] at hu; subst hu; simp [Addr.add, lit9, World.cell?_alloc_mark]⟩⟩
set_option maxHeartbeats 1000000 in
theorem lives_any (w : World) (hn : Nibs w) :
    Calls Tryd.prog 7 #[] w fun e w' => e = .returned (.bool true) ∧ Below w.heap.size w w' := by
  have hb : Below w.heap.size w (w.alloc (.cells lit9 5 (9, 10))) := (Below.refl _ _).alloc (Nat.le_refl _) _
  have H := sum_any _ _ _ _ _ (isB_lit w) (hn.old hb)
  rw [sum_lives] at H
  have HH := Lib.hid H
  have kc := Lib.run_convert_bytes_const (P := Tryd.prog) w 22 5 #[.int .u8 49, .int .u8 50, .int .u8 51, .int .u8 52, .int .u8 53, .int .u8 54, .int .u8 55, .int .u8 56, .int .u8 57] 9 9 Tryd.underlying22 Tryd.underlying5
  clear H hn
  go_enter Tryd.func7, Tryd.ntmps7
  go_wp2_with fail
  refine HH.out.mono ?_
  rintro e w' ⟨rfl, rfl⟩
  go_wp2
  go_ret
  exact ⟨rfl, hb⟩
end Go.Proofs.YtdjondmhckoelaaDoor.Cr
