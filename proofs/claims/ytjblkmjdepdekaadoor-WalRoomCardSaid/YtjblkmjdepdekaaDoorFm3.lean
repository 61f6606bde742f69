
/- frames: the contracts of Size, same, data, Next -/
import Derived.Test.YtjblkmjdepdekaaDoorFm2
namespace Go.Proofs.YtjblkmjdepdekaaDoor.Fm
open Go.RowKit Go.Lib Go.Proofs.YtjblkmjdepdekaaDoor.By Go.Proofs.YtjblkmjdepdekaaDoor.Oc Go.Proofs.YtjblkmjdepdekaaDoor.Cr

set_option maxHeartbeats 1000000 in
theorem size_any (k : UInt8) (a : Option Addr) (len cap : Nat) (d : List UInt8) (w : World) (hd0 : IsB w a len cap d) (hl : len ≤ 1024) (hn : Nibs w) :
    Calls Tryd.prog 27 #[.agg #[.int .u8 (k.toNat : Nat), .slice a len cap]] w fun e w' => e = .returned (.int .i64 ((fb 0 k d).length : Nat)) ∧ Below w.heap.size w w' := by
  have hb0 : Below w.heap.size w (w.alloc (.cells #[.int .u8 (k.toNat : Nat), .slice a len cap] 34)) := (Below.refl _ _).alloc (Nat.le_refl _) _
  have H := Lib.hid (frBytes_ok 0 k a len cap d (w.alloc (.cells #[.int .u8 (k.toNat : Nat), .slice a len cap] 34)) U32.zero (hd0.old hb0) hl (hn.old hb0))
  clear hn hd0
  go_enter Tryd.func27, Tryd.ntmps27
  go_wp2_with fail
  refine H.out.mono ?_
  rintro e w' ⟨ao, cp, rfl, _, hb⟩
  have HB := Lib.hid (hb0.trans (hb.mono (by simp)))
  clear hb hb0 H
  go_wp2
  go_ret
  exact ⟨rfl, HB.out⟩

/-- where a slice that isn't empty lies -/
theorem isB_spot {w : World} {a : Option Addr} {len cap : Nat} {l : List UInt8} (h : IsB w a len cap l) (h0 : 0 < l.length) : ∃ g o, a = some ⟨g, o, none⟩ := by
  obtain ⟨x, rfl, hc⟩ := h.at h0
  obtain ⟨g, o, sp⟩ := x
  have : sp = none := by simpa [Addr.add] using World.cell?_spot hc
  subst this
  exact ⟨g, o, rfl⟩
/-- a piece of it -/
theorem IsB.sub {w : World} {g o len cap i j : Nat} {l : List UInt8} (h : IsB w (some ⟨g, o, none⟩) len cap l) (hi : i ≤ j) (hj : j ≤ len) : IsB w (some ⟨g, o + i, none⟩) (j - i) (cap - i) ((l.take j).drop i) := by
  obtain ⟨h1, ⟨h2, _⟩ | ⟨x, h2, h3, h4, h5⟩⟩ := h
  · cases h2
  · obtain rfl := Option.some.inj h2
    refine ⟨by simp; omega, .inr ⟨_, rfl, by omega, by omega, fun k u hu => ?_⟩⟩
    have hk : (byteCells l)[i + k]? = some u := by
      simp only [byteCells, List.map_drop, List.map_take, List.getElem?_drop, List.getElem?_take] at hu
      split at hu
      · exact hu
      · cases hu
    have := h5 _ u hk
    rw [add_lit'] at this ⊢
    rwa [← Nat.add_assoc] at this
theorem IsB.sub0 {w : World} {g o len cap j : Nat} {l : List UInt8} (h : IsB w (some ⟨g, o, none⟩) len cap l) (hj : j ≤ len) : IsB w (some ⟨g, o, none⟩) 0 0 ((l.take j).drop cap) := by
  obtain ⟨h1, ⟨h2, _⟩ | ⟨x, h2, h3, h4, h5⟩⟩ := h
  · cases h2
  · have e : (l.take j).drop cap = [] := by rw [List.drop_eq_nil_iff]; simp; omega
    rw [e]
    exact ⟨rfl, .inr ⟨_, rfl, by omega, by omega, fun k u hu => by simp [byteCells] at hu⟩⟩

theorem ret_data {a b c d e : Int} (h1 : a = c) (h2 : b = d) : Ending.returned (.tuple #[.int .i64 a, .int .i64 b, .int .i64 e]) = .returned (.tuple #[.int .i64 c, .int .i64 d, .int .i64 e]) := by rw [h1, h2]
set_option maxHeartbeats 2000000 in
theorem data_any (a : Option Addr) (len cap : Nat) (b : List UInt8) (w : World) (hb : IsB w a len cap b) :
    Calls Tryd.prog 64 #[.slice a len cap] w fun e w' => e = .returned (.tuple #[.int .i64 ((dat b).1 : Nat), .int .i64 ((dat b).2.1 : Nat), .int .i64 (dat b).2.2]) ∧ Below w.heap.size w w' := by
  obtain rfl : b.length = len := hb.1
  have hm := hb.le
  unfold maxLen at hm
  by_cases h0 : b.length = 0
  · have hD : dat b = (0, 0, 4) := by unfold dat; rw [if_neg (by omega), if_pos (by omega)]
    rw [hD]
    go_enter Tryd.func64, Tryd.ntmps64
    go_wp2
    go_ret3
    exact ⟨rfl, Below.refl _ _⟩
  · obtain ⟨g, o, rfl⟩ := isB_spot hb (by omega)
    have hc0 : w.cell? ⟨g, o, none⟩ = some (.int .u8 ((b.getD 0 0).toNat : Nat)) := by
      obtain ⟨x, hx, hc⟩ := hb.at (k := 0) (by omega)
      obtain rfl := Option.some.inj hx
      rw [add_lit', Nat.add_zero] at hc
      rw [hc]; simp [List.getD, show 0 < b.length by omega]
    have hlc : b.length ≤ cap ∧ cap ≤ 9223372036854775807 := by
      obtain ⟨h1, ⟨h2, _⟩ | ⟨x, h2, h3, h4, h5⟩⟩ := id hb
      · cases h2
      · exact ⟨h3, by unfold maxLen at h4; omega⟩
    by_cases h1 : b.getD 0 0 = 197
    · by_cases h2 : b.length < 2
      · have hD : dat b = (0, 0, 4) := by unfold dat; rw [if_neg (fun e => e.2 h1), if_pos (by omega)]
        rw [hD]
        have HB := Lib.hid hb
        clear hb
        rw [h1] at hc0
        go_enter Tryd.func64, Tryd.ntmps64
        go_wp2
        go_ret3
        exact ⟨rfl, Below.refl _ _⟩
      · have HB := Lib.hid hb
        clear hb
        rw [h1] at hc0
        go_enter Tryd.func64, Tryd.ntmps64
        have hql : ((b.take 12).drop 2).length ≤ 10 := by simp; omega
        have hqb : 2 + ((b.take 12).drop 2).length ≤ b.length := by simp; omega
        have hnl : (num b).2.1.length ≤ ((b.take 12).drop 2).length := cnt_len 1024 _
        have hnm : (num b).1 ≤ 1024 := cnt_le 1024 _
        have hD : dat b = if (num b).2.2 ≠ 0 then (0, 0, (num b).2.2) else if b.length - (2 + ((b.take 12).drop 2).length - (num b).2.1.length) < (num b).1 + 4 then (0, 0, 4) else (2 + ((b.take 12).drop 2).length - (num b).2.1.length, 2 + ((b.take 12).drop 2).length - (num b).2.1.length + (num b).1, 0) := by
          conv => lhs; unfold dat
          rw [if_neg (fun e => e.2 h1), if_neg h2]
        obtain ⟨D, hDD⟩ : ∃ D, D = dat b := ⟨_, rfl⟩
        rw [← hDD]
        have HDD := Lib.hid (hDD.trans hD)
        clear hDD
        obtain ⟨D1, D2, D3⟩ := D
        have hC : ∀ (rb : Nat) (W : World), Rd W rb ((b.take 12).drop 2) 0 → Calls Tryd.prog 67 #[.pointer (some ⟨rb, 0, none⟩), .int .i64 1024] W fun e w' => e = .returned (.int .i64 ((num b).1 : Nat)) ∧ Rd w' rb (num b).2.1 (num b).2.2 ∧ At rb W w' := fun rb W h => count_ok rb _ 1024 W h (by decide)
        have HC := Lib.hid hC
        have hbl2 : 2 ≤ b.length := by omega
        clear hD hC h1 h2
        obtain ⟨N, hN⟩ : ∃ N, N = num b := ⟨_, rfl⟩
        obtain ⟨q, hq⟩ : ∃ q, q = (b.take 12).drop 2 := ⟨_, rfl⟩
        rw [← hN] at HC hnl hnm HDD
        rw [← hq] at HC hnl hql hqb HDD
        have HQ := Lib.hid hq
        clear hN hq
        obtain ⟨N1, N2, N3⟩ := N
        simp only at HC hnl hnm HDD ⊢
        go_wp2_with fail
        · have hib : IsB w (some ⟨g, o, none⟩) (b.length - 2) 0 q := by
            have := IsB.sub0 HB.out (j := min b.length 12) (by omega)
            have h3 : b.length = 2 := by omega
            have e : q = (b.take (min b.length 12)).drop cap := by rw [HQ.out]; rw [List.drop_eq_nil_iff.2 (by simp; omega), List.drop_eq_nil_iff.2 (by simp; omega)]
            rw [e, show b.length - 2 = 0 by omega]; exact this
          have HI := Lib.hid hib
          clear hib
          refine (read_any _ _ _ q w HI.out (by omega)).mono ?_
          rintro e W1 ⟨rb, rfl, hrb, hR1, hb1⟩
          have H1 := Lib.hid (And.intro hR1 hb1)
          clear hR1 hb1
          go_wp2_with fail
          refine (left_any rb q 0 W1 H1.out.1).mono ?_
          rintro e W1' ⟨rfl, rfl⟩
          go_wp2_with fail
          refine (HC.out rb W1 H1.out.1).mono ?_
          rintro e W2 ⟨rfl, hR2, hA2⟩
          have H2 := Lib.hid (And.intro hR2 (H1.out.2.trans (hA2.below hrb)))
          clear hR2 hA2
          go_wp2_with fail
          refine (err_any rb N2 N3 W2 H2.out.1).mono ?_
          rintro e W2' ⟨rfl, rfl⟩
          by_cases hN3 : N3 = 0
          · subst hN3
            go_wp2_with fail
            refine (left_any rb N2 0 W2 H2.out.1).mono ?_
            rintro e W2' ⟨rfl, rfl⟩
            by_cases hsh : b.length - (2 + q.length - N2.length) < N1 + 4
            · go_wp2
              go_ret3
              have e := HDD.out
              rw [if_neg (by simp), if_pos hsh] at e
              obtain ⟨rfl, e2⟩ := Prod.mk.inj e
              obtain ⟨rfl, rfl⟩ := Prod.mk.inj e2
              exact ⟨rfl, H2.out.2⟩
            · go_wp2
          · have hne : (N3 != 0) = true := by simpa using hN3
            go_wp2
            go_ret3
            have e := HDD.out
            rw [if_pos hN3] at e
            obtain ⟨rfl, e2⟩ := Prod.mk.inj e
            obtain ⟨rfl, rfl⟩ := Prod.mk.inj e2
            exact ⟨rfl, H2.out.2⟩
        · have hib : IsB w (some ⟨g, o + 2, none⟩) 10 (cap - 2) q := by
            have := IsB.sub HB.out (i := 2) (j := 12) (by omega) (by omega)
            rw [HQ.out]; exact this
          have HI := Lib.hid hib
          clear hib
          refine (read_any _ _ _ q w HI.out (by omega)).mono ?_
          rintro e W1 ⟨rb, rfl, hrb, hR1, hb1⟩
          have H1 := Lib.hid (And.intro hR1 hb1)
          clear hR1 hb1
          go_wp2_with fail
          refine (left_any rb q 0 W1 H1.out.1).mono ?_
          rintro e W1' ⟨rfl, rfl⟩
          go_wp2_with fail
          refine (HC.out rb W1 H1.out.1).mono ?_
          rintro e W2 ⟨rfl, hR2, hA2⟩
          have H2 := Lib.hid (And.intro hR2 (H1.out.2.trans (hA2.below hrb)))
          clear hR2 hA2
          go_wp2_with fail
          refine (err_any rb N2 N3 W2 H2.out.1).mono ?_
          rintro e W2' ⟨rfl, rfl⟩
          by_cases hN3 : N3 = 0
          · subst hN3
            go_wp2_with fail
            refine (left_any rb N2 0 W2 H2.out.1).mono ?_
            rintro e W2' ⟨rfl, rfl⟩
            by_cases hsh : b.length - (2 + q.length - N2.length) < N1 + 4
            · go_wp2
              go_ret3
              have e := HDD.out
              rw [if_neg (by simp), if_pos hsh] at e
              obtain ⟨rfl, e2⟩ := Prod.mk.inj e
              obtain ⟨rfl, rfl⟩ := Prod.mk.inj e2
              exact ⟨rfl, H2.out.2⟩
            · go_wp2
              go_ret3
              have e := HDD.out
              rw [if_neg (by simp), if_neg hsh] at e
              obtain ⟨e1, e2⟩ := Prod.mk.inj e
              obtain ⟨e2, e3⟩ := Prod.mk.inj e2
              subst e3
              exact ⟨ret_data (by omega) (by omega), H2.out.2⟩
          · have hne : (N3 != 0) = true := by simpa using hN3
            go_wp2
            go_ret3
            have e := HDD.out
            rw [if_pos hN3] at e
            obtain ⟨rfl, e2⟩ := Prod.mk.inj e
            obtain ⟨rfl, rfl⟩ := Prod.mk.inj e2
            exact ⟨rfl, H2.out.2⟩
        · have hib : IsB w (some ⟨g, o + 2, none⟩) (b.length - 2) (cap - 2) q := by
            have := IsB.sub HB.out (i := 2) (j := b.length) (by omega) (by omega)
            rw [HQ.out, show b.take 12 = b.take b.length by rw [List.take_of_length_le (by omega), List.take_of_length_le (by omega)]]; exact this
          have HI := Lib.hid hib
          clear hib
          refine (read_any _ _ _ q w HI.out (by omega)).mono ?_
          rintro e W1 ⟨rb, rfl, hrb, hR1, hb1⟩
          have H1 := Lib.hid (And.intro hR1 hb1)
          clear hR1 hb1
          go_wp2_with fail
          refine (left_any rb q 0 W1 H1.out.1).mono ?_
          rintro e W1' ⟨rfl, rfl⟩
          go_wp2_with fail
          refine (HC.out rb W1 H1.out.1).mono ?_
          rintro e W2 ⟨rfl, hR2, hA2⟩
          have H2 := Lib.hid (And.intro hR2 (H1.out.2.trans (hA2.below hrb)))
          clear hR2 hA2
          go_wp2_with fail
          refine (err_any rb N2 N3 W2 H2.out.1).mono ?_
          rintro e W2' ⟨rfl, rfl⟩
          by_cases hN3 : N3 = 0
          · subst hN3
            go_wp2_with fail
            refine (left_any rb N2 0 W2 H2.out.1).mono ?_
            rintro e W2' ⟨rfl, rfl⟩
            by_cases hsh : b.length - (2 + q.length - N2.length) < N1 + 4
            · go_wp2
              go_ret3
              have e := HDD.out
              rw [if_neg (by simp), if_pos hsh] at e
              obtain ⟨rfl, e2⟩ := Prod.mk.inj e
              obtain ⟨rfl, rfl⟩ := Prod.mk.inj e2
              exact ⟨rfl, H2.out.2⟩
            · go_wp2
              go_ret3
              have e := HDD.out
              rw [if_neg (by simp), if_neg hsh] at e
              obtain ⟨e1, e2⟩ := Prod.mk.inj e
              obtain ⟨e2, e3⟩ := Prod.mk.inj e2
              subst e3
              exact ⟨ret_data (by omega) (by omega), H2.out.2⟩
          · have hne : (N3 != 0) = true := by simpa using hN3
            go_wp2
            go_ret3
            have e := HDD.out
            rw [if_pos hN3] at e
            obtain ⟨rfl, e2⟩ := Prod.mk.inj e
            obtain ⟨rfl, rfl⟩ := Prod.mk.inj e2
            exact ⟨rfl, H2.out.2⟩
    · have hD : dat b = (0, 0, 2) := by unfold dat; rw [if_pos ⟨by omega, h1⟩]
      rw [hD]
      have hne : (b.getD 0 0).toNat ≠ 197 := fun e => h1 (UInt8.toNat_inj.1 e)
      obtain ⟨c, hcc⟩ : ∃ c, c = (b.getD 0 0).toNat := ⟨_, rfl⟩
      rw [← hcc] at hc0 hne
      have hT : ((c : Int) == 197) = false := by simp; omega
      have HB := Lib.hid hb
      clear hb hcc
      go_enter Tryd.func64, Tryd.ntmps64
      go_wp2
      go_ret3
      exact ⟨rfl, Below.refl _ _⟩

end Go.Proofs.YtjblkmjdepdekaaDoor.Fm
