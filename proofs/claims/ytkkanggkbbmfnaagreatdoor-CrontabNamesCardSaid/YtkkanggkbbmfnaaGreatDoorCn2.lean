
/- expressions: a part that is read, its values -/
import Derived.Test.YtkkanggkbbmfnaaGreatDoorCn1
import Derived.Laws.BitsAllLaws
namespace Go.Proofs.YtkkanggkbbmfnaaGreatDoor.Cn
open Go.RowKit Go.Lib
set_option linter.unusedVariables false

theorem below_set3 {B b : Nat} {a w : World} (h : Below B a w) (hb : B ≤ b) (x y z : Value) : Below B a (((w.setCell ⟨b, 0, none⟩ x).setCell ⟨b, 1, none⟩ y).setCell ⟨b, 2, none⟩ z) :=
  ((h.setCell (p := ⟨b, 0, none⟩) hb _).setCell (p := ⟨b, 1, none⟩) hb _).setCell (p := ⟨b, 2, none⟩) hb _
theorem read_num {f : Fd} {s : L} {n : Nat} (h : numT f s = (n, true)) : readT f s = ((n, n, 1), true) := by unfold readT; rw [h]; rfl
theorem read_no {f : Fd} {s A B : L} {C : Bool} {n : Nat} {p : Pt} {ok : Bool} (h : numT f s = (n, false)) (hc : ct 47 s = (A, B, C)) (hp : spanT f A = (p, ok)) :
    readT f s = if ok && C then ((p.1, p.2.1, (dgT B).1), (dgT B).2) else (p, ok) := by
  unfold readT; rw [h, hc]; simp only [hp]; rfl
set_option maxRecDepth 20000 in
set_option maxHeartbeats 2000000 in
theorem read_any (f : Fd) (hf : FOk f) (s : L) (w : World) (hs : s.length ≤ 1000) (hm : Mx w) :
    Calls Tryz.prog 63 #[fdv f, S s] w fun e w' => e = .returned (.tuple #[ptv (readT f s).1, .bool (readT f s).2]) ∧ Below w.heap.size w w' := by
  obtain ⟨V, hV⟩ : ∃ V, V = (w.alloc (.cells #[.int .i64 (f.lo : Nat), .int .i64 (f.hi : Nat), S f.nm] 77)).alloc (.cells #[.int .i64 0, .int .i64 0, .int .i64 0] 104) := ⟨_, rfl⟩
  obtain ⟨b1, b2, b3, b4⟩ := two_new w #[.int .i64 (f.lo : Nat), .int .i64 (f.hi : Nat), S f.nm] 77 #[.int .i64 0, .int .i64 0, .int .i64 0] 104
  rw [← hV] at b1 b2 b3 b4
  have HV := Lib.hid (And.intro b1 (And.intro b2 (And.intro b3 (And.intro b4 (hm.old b1)))))
  have HW := Lib.hid hV
  clear b1 b2 b3 b4 hm hV
  have hN := number_any f hf s
  generalize hn : numT f s = nn at hN
  obtain ⟨n, okn⟩ := nn
  have HN := Lib.hid hN
  clear hN
  cases okn
  · have hc := fun W => cut_any s 47 W hs
    obtain ⟨l1, l2⟩ := ct_len 47 s
    generalize hct : ct 47 s = q at hc l1 l2
    obtain ⟨A, B, C⟩ := q
    simp only at l1 l2
    have hsp := fun W => span_any f hf A W (by omega)
    generalize hspt : spanT f A = q at hsp
    obtain ⟨⟨p0, p1, p2⟩, okp⟩ := q
    have hdg := fun W => digits_any B W
    rw [read_no hn hct hspt]
    generalize dgT B = q at hdg ⊢
    obtain ⟨d, okd⟩ := q
    have HC := Lib.hid (And.intro hc (And.intro hsp hdg))
    clear hc hsp hdg hn hct hspt l1 l2
    go_enter Tryz.func63, Tryz.ntmps63
    go_wp2_with fail
    rw [← HW.out]
    refine (HN.out V).mono ?_
    rintro e w1 ⟨rfl, hb1⟩
    have H1 := Lib.hid hb1
    clear hb1
    go_wp2_with fail
    refine (HC.out.1 w1 (HV.out.2.2.2.2.old H1.out)).mono ?_
    rintro e w0 ⟨rfl, m, rfl⟩
    obtain ⟨⟨c0, c1, c2⟩, _⟩ := three (w := w1.drewN m) (old_blk (below_drewN H1.out m) HV.out.2.1)
    go_wp2_with fail
    refine (HC.out.2.1 _ ((HV.out.2.2.2.2.old H1.out).old (below_drewN (Below.refl _ _) m))).mono ?_
    rintro e w2 ⟨rfl, hb2⟩
    have hb2' : Below V.heap.size V w2 := H1.out.trans (((below_drewN (Below.refl w1.heap.size w1) m).trans hb2).mono H1.out.size)
    obtain ⟨⟨r0, r1, r2⟩, z0, z1, z2⟩ := three (old_blk hb2' HV.out.2.2.1)
    have hlt : w.heap.size + 1 < w2.heap.size := by have := hb2'.size; have := HV.out.2.2.2.1; omega
    have H2 := Lib.hid (HV.out.1.trans (hb2'.mono HV.out.1.size))
    clear hb2 hb2' c0 c1 c2
    cases okp
    · go_wp2_with fail
      refine bodyPost_ret (v := .tuple #[ptv (p0, p1, p2), .bool false]) ?_ rfl ⟨rfl, ?_⟩
      · rw [Ca.results_c2 rfl]
        go_simp
      · exact (below_set3 H2.out (Nat.le_succ _) _ _ _).alloc (by simp; have := H2.out.size; omega) _
    · cases C
      · go_wp2_with fail
        refine bodyPost_ret (v := .tuple #[ptv (p0, p1, p2), .bool true]) ?_ rfl ⟨rfl, ?_⟩
        · rw [Ca.results_c2 rfl]
          go_simp
        · exact (below_set3 H2.out (Nat.le_succ _) _ _ _).alloc (by simp; have := H2.out.size; omega) _
      · go_wp2_with (go_at_call 89; refine (HC.out.2.2 _).mono ?_; rintro e w' ⟨rfl, rfl⟩)
        refine bodyPost_ret (v := .tuple #[ptv (p0, p1, d), .bool okd]) ?_ rfl ⟨rfl, ?_⟩
        · rw [Ca.results_c2 rfl]
          go_simp
        · exact (below_set3 H2.out (Nat.le_succ _) _ _ _).alloc (by simp; have := H2.out.size; omega) _
  · rw [read_num hn]
    go_enter Tryz.func63, Tryz.ntmps63
    go_wp2_with fail
    rw [← HW.out]
    refine (HN.out V).mono ?_
    rintro e w1 ⟨rfl, hb1⟩
    obtain ⟨⟨r0, r1, r2⟩, z0, z1, z2⟩ := three (old_blk hb1 HV.out.2.2.1)
    have H1 := Lib.hid hb1
    clear hb1
    go_wp2_with fail
    refine bodyPost_ret (v := .tuple #[ptv (n, n, 1), .bool true]) ?_ rfl ⟨rfl, ?_⟩
    · rw [Ca.results_c2 rfl]
      go_simp
    · exact (((HV.out.1.trans (H1.out.mono HV.out.1.size)).setCell (by simp) _).setCell (by simp) _).setCell (by simp) _

set_option maxRecDepth 20000 in
set_option maxHeartbeats 2000000 in
theorem may_any (f : Fd) (p : Pt) (w : World) :
    Calls Tryz.prog 64 #[fdv f, ptv p] w fun e w' => e = .returned (.bool (mayB f p)) ∧ Below w.heap.size w w' := by
  obtain ⟨p0, p1, p2⟩ := p
  obtain ⟨B, hB⟩ : ∃ B, B = mayB f (p0, p1, p2) := ⟨_, rfl⟩
  rw [← hB]
  go_enter Tryz.func64, Tryz.ntmps64
  have HB := Lib.hid hB
  clear hB
  go_wp2_with fail
  all_goals
    go_ret
    refine ⟨congrArg Ending.returned (congrArg Value.bool ?_), ((Below.refl _ _).alloc (Nat.le_refl _) _).alloc (by simp) _⟩
    rw [HB.out, Bool.eq_iff_iff]
    simp [mayB]
    omega
theorem nat_mk {n : Nat} (h : n < 18446744073709551616) : n = mk (fun x => n.testBit x) := mk_eq h fun x _ => rfl
theorem mk_or (p q : Nat → Bool) : mk p ||| mk q = mk (fun x => p x || q x) := by
  refine mk_eq (Nat.or_lt_two_pow (n := 64) (mk_lt p) (mk_lt q)) fun x hx => ?_
  rw [Nat.testBit_or, mk_bit, mk_bit]; simp [hx]
theorem two_mk {K : Nat} (h : K < 64) : 2 ^ K = mk (fun x => decide (x = K)) := by
  refine mk_eq (Nat.pow_lt_pow_right (by decide) h) fun x hx => ?_
  rw [Nat.testBit_two_pow]
  exact decide_eq_decide.2 eq_comm
theorem mk_none {p : Nat → Bool} (h : ∀ x, p x = false) : mk p = 0 := (mk_eq (by decide) fun x _ => by rw [h x]; exact Nat.zero_testBit x).symm
theorem inP_step {p0 p1 p2 k K : Nat} (hK : p0 + k * p2 = K) (hle : K ≤ p1) (h64 : p1 < 64) (h2 : 1 ≤ p2) :
    mk (fun x => inP (p0, p1, p2) x && decide (x < K)) ||| 2 ^ K = mk (fun x => inP (p0, p1, p2) x && decide (x < p0 + (k + 1) * p2)) := by
  rw [two_mk (by omega), mk_or]
  refine mk_congr fun x hx => ?_
  have hsucc : p0 + (k + 1) * p2 = K + p2 := by rw [Nat.add_mul]; omega
  rw [hsucc, Bool.eq_iff_iff]
  simp only [inP, Bool.or_eq_true, Bool.and_eq_true, decide_eq_true_eq]
  constructor
  · rintro (⟨h, h3⟩ | rfl)
    · exact ⟨h, by omega⟩
    · refine ⟨⟨⟨by omega, hle⟩, ?_⟩, by omega⟩
      rw [← hK, Nat.add_sub_cancel_left, Nat.mul_mod_left]
  · rintro ⟨⟨⟨h3, h4⟩, h5⟩, h6⟩
    by_cases hlt : x < K
    · exact .inl ⟨⟨⟨h3, h4⟩, h5⟩, hlt⟩
    · refine .inr ?_
      have e : x - p0 = k * p2 + (x - K) := by omega
      rw [e, Nat.add_comm, Nat.add_mul_mod_self_right, Nat.mod_eq_of_lt (by omega)] at h5
      omega
theorem inP_end {p0 p1 p2 K : Nat} (h : p1 < K) : mk (fun x => inP (p0, p1, p2) x && decide (x < K)) = mk (inP (p0, p1, p2)) := by
  refine mk_congr fun x _ => ?_
  rw [Bool.eq_iff_iff]
  simp only [inP, Bool.and_eq_true, decide_eq_true_eq]
  exact ⟨fun h => h.1, fun h => ⟨h, by omega⟩⟩
set_option maxRecDepth 20000 in
set_option maxHeartbeats 2000000 in
theorem values_any (p : Pt) (h0 : p.1 ≤ 99) (h1 : p.2.1 ≤ 59) (h2 : 1 ≤ p.2.2) (h3 : p.2.2 ≤ 60) (w : World) :
    Calls Tryz.prog 65 #[ptv p] w fun e w' => e = .returned (.int .u64 (mk (inP p) : Nat)) ∧ Below w.heap.size w w' := by
  obtain ⟨p0, p1, p2⟩ := p
  simp only at h0 h1 h2 h3
  obtain ⟨R, hR⟩ : ∃ R, R = mk (inP (p0, p1, p2)) := ⟨_, rfl⟩
  rw [← hR]
  obtain ⟨V, hV⟩ : ∃ V, V = w.alloc (.cells #[.int .i64 (p0 : Nat), .int .i64 (p1 : Nat), .int .i64 (p2 : Nat)] 104) := ⟨_, rfl⟩
  have hb : Below w.heap.size w V := by rw [hV]; exact (Below.refl _ _).alloc (Nat.le_refl _) _
  have hg : V.heap[w.heap.size]? = some (.cells #[.int .i64 (p0 : Nat), .int .i64 (p1 : Nat), .int .i64 (p2 : Nat)] 104 (0, 0)) := by rw [hV]; exact heap_alloc_new w _
  obtain ⟨⟨c0, c1, c2⟩, _⟩ := three hg
  have HV := Lib.hid (And.intro hV (And.intro hb hR))
  clear hV hb hg hR
  go_enter Tryz.func65, Tryz.ntmps65
  go_wp2_with fail
  rw [← HV.out.1]
  go_loopw [3, 4] (fun a n wr => ∃ k : Nat, a = .int .u64 (mk (fun x => inP (p0, p1, p2) x && decide (x < p0 + k * p2)) : Nat) ∧ n = .int .i64 ((p0 + k * p2 : Nat) : Int) ∧ p0 + k * p2 ≤ 160 ∧ wr = V) (fun _ n _ => 161 - (RowKit.intOf n).toNat)
  case atStart =>
    refine ⟨0, ?_, by simp, by omega, rfl⟩
    rw [mk_none (fun x => ?_)]
    · rfl
    · simp [inP]; omega
  case round =>
    obtain ⟨k, rfl, rfl, hk, rfl⟩ := hrel
    by_cases hlt : p0 + k * p2 ≤ p1
    · have hml := mk_lt (fun x => inP (p0, p1, p2) x && decide (x < p0 + k * p2))
      have hst := inP_step rfl hlt (by omega) h2
      have hsx : p0 + (k + 1) * p2 = p0 + k * p2 + p2 := by rw [Nat.add_mul]; omega
      generalize hM : mk (fun x => inP (p0, p1, p2) x && decide (x < p0 + k * p2)) = M at hml hst ⊢
      generalize hK : p0 + k * p2 = K at *
      have h5 : 2 ^ K < 2 ^ 64 := Nat.pow_lt_pow_right (by decide) (by omega)
      have e2 : (2 : Int) ^ K = ((2 ^ K : Nat) : Int) := by rw [Int.natCast_pow]; rfl
      have hpw : IntKind.u64.wrap ((2 : Int) ^ K) = (2 : Int) ^ K := by
        rw [e2]
        generalize 2 ^ K = Z at h5
        exact IntWalk.u64_in _ (by omega)
      have hor : bits .or .u64 (M : Int) ((2 : Int) ^ K) = ((M ||| 2 ^ K : Nat) : Int) := by rw [e2]; exact u64_or_nat _ _ hml h5
      clear h5 e2
      have HM := Lib.hid (And.intro hst (And.intro hsx hor))
      clear hM hst hsx hor
      go_wp2_with fail
      rw [HM.out.2.2]
      exact ⟨⟨k + 1, by rw [← HM.out.1], congrArg (Value.int .i64) (by rw [HM.out.2.1]; omega), by rw [HM.out.2.1]; omega, trivial⟩, by simp [RowKit.intOf]; omega⟩
    · have he := inP_end (p0 := p0) (p2 := p2) (p1 := p1) (K := p0 + k * p2) (by omega)
      rw [he, ← HV.out.2.2]
      generalize hK : p0 + k * p2 = K at *
      go_wp2_with fail
      go_ret
      exact ⟨rfl, HV.out.2.1⟩

theorem bit_at (n x : Nat) (hn : n < 18446744073709551616) : (bits .and .u64 ((n : Int) / 2 ^ (min x 64)) 1 == 1) = n.testBit x := by
  have e2 : (2 : Int) ^ (min x 64) = ((2 ^ (min x 64) : Nat) : Int) := by rw [Int.natCast_pow]; rfl
  have e3 : (n : Int) / ((2 ^ (min x 64) : Nat) : Int) = ((n / 2 ^ (min x 64) : Nat) : Int) := (Int.natCast_ediv _ _).symm
  have hle : n / 2 ^ (min x 64) < 18446744073709551616 := Nat.lt_of_le_of_lt (Nat.div_le_self _ _) hn
  rw [e2, e3, show (1 : Int) = ((1 : Nat) : Int) from rfl, u64_and_nat _ _ hle (by decide), nat_mask1, Nat.testBit_eq_decide_div_mod_eq]
  by_cases h : x ≤ 64
  · rw [Nat.min_eq_left h]
    generalize n / 2 ^ x % 2 = Z
    by_cases hz : Z = 1
    · subst hz; rfl
    · rw [decide_eq_false hz, beq_eq_false_iff_ne]; omega
  · have h64 : (2 : Nat) ^ 64 ≤ 2 ^ x := Nat.pow_le_pow_right (by decide) (by omega)
    rw [Nat.min_eq_right (by omega), Nat.div_eq_of_lt hn, Nat.div_eq_of_lt (Nat.lt_of_lt_of_le hn h64)]
    rfl
theorem has_any (n : Nat) (x : Int) (w : World) (hn : n < 18446744073709551616) (hx : x ≤ 9223372036854775807) (hx0 : -9223372036854775808 ≤ x) :
    Calls Tryz.prog 95 #[.int .u64 (n : Nat), .int .i64 x] w fun e w' => e = .returned (.bool (decide (0 ≤ x) && n.testBit x.toNat)) ∧ w' = w := by
  have hb := bit_at n x.toNat hn
  have HB := Lib.hid hb
  clear hb
  by_cases h0 : 0 ≤ x
  · have hd : decide (0 ≤ x) = true := decide_eq_true h0
    rw [hd, Bool.true_and]
    go_enter Tryz.func95, Tryz.ntmps95
    go_wp2_with fail
    go_ret
    exact ⟨by rw [HB.out]; rfl, rfl⟩
  · have hd : decide (0 ≤ x) = false := decide_eq_false h0
    rw [hd, Bool.false_and]
    go_enter Tryz.func95, Tryz.ntmps95
    go_wp2_with fail
    go_ret
    exact ⟨rfl, rfl⟩
theorem mk_and (p q : Nat → Bool) : mk p &&& mk q = mk (fun x => p x && q x) := by
  refine mk_eq (Nat.lt_of_le_of_lt Nat.and_le_left (mk_lt p)) fun x hx => ?_
  rw [Nat.testBit_and, mk_bit, mk_bit]; simp [hx]
theorem fold_bits (p : Nat → Bool) : (mk p &&& (18446744073709551615 - 128)) ||| (mk p / 128 &&& 1) = mk (fold p) := by
  have e1 : 18446744073709551615 - 128 = mk (fun x => !decide (x = 7)) := by decide +kernel
  have e2 : mk p / 128 &&& 1 = mk (fun x => decide (x = 0) && p 7) := by
    refine mk_eq (Nat.lt_of_le_of_lt Nat.and_le_right (by decide)) fun x hx => ?_
    rw [Nat.testBit_and, show (128 : Nat) = 2 ^ 7 from rfl, Nat.testBit_div_two_pow, mk_bit]
    by_cases h : x = 0
    · subst h; simp
    · have : (1 : Nat).testBit x = false := by rw [Nat.testBit_lt_two_pow]; exact Nat.one_lt_two_pow h
      rw [this]; simp [h]
  rw [e1, e2, mk_and, mk_or]
  rfl
theorem folded_any (p : Nat → Bool) (w : World) :
    Calls Tryz.prog 41 #[.int .u64 (mk p : Nat)] w fun e w' => e = .returned (.int .u64 (mk (fold p) : Nat)) ∧ w' = w := by
  have hl := mk_lt p
  have hf := fold_bits p
  have e1 : ((mk p : Nat) : Int) / 128 = ((mk p / 128 : Nat) : Int) := (Int.natCast_ediv _ _).symm
  have h1 : bits .andNot .u64 ((mk p : Nat) : Int) 128 = ((mk p &&& (18446744073709551615 - 128) : Nat) : Int) := u64_andNot_nat _ 128 hl (by decide)
  have h2 : bits .and .u64 ((mk p : Nat) : Int) 1 = ((mk p &&& 1 : Nat) : Int) := u64_and_nat _ 1 hl (by decide)
  have h3 : bits .and .u64 (((mk p : Nat) : Int) / 128) 1 = ((mk p / 128 &&& 1 : Nat) : Int) := by rw [e1]; exact u64_and_nat _ 1 (Nat.lt_of_le_of_lt (Nat.div_le_self _ _) hl) (by decide)
  have h4 : bits .or .u64 ((mk p &&& (18446744073709551615 - 128) : Nat) : Int) ((mk p / 128 &&& 1 : Nat) : Int) = ((mk (fold p) : Nat) : Int) := by
    rw [← hf]
    exact u64_or_nat _ _ (Nat.lt_of_le_of_lt Nat.and_le_left hl) (Nat.lt_of_le_of_lt Nat.and_le_right (by decide))
  have H := Lib.hid (And.intro h1 (And.intro h3 h4))
  clear h1 h2 h3 h4 e1 hf
  go_enter Tryz.func41, Tryz.ntmps41
  go_wp2_with fail
  go_ret
  refine ⟨?_, rfl⟩
  show Ending.returned (Value.int IntKind.u64 (bits BinOp.or IntKind.u64 (bits BinOp.andNot IntKind.u64 ((mk p : Nat) : Int) 128) (bits BinOp.and IntKind.u64 (((mk p : Nat) : Int) / 128) 1))) = _
  rw [H.out.1, H.out.2.1, H.out.2.2]
end Go.Proofs.YtkkanggkbbmfnaaGreatDoor.Cn
