
/- expressions: CronValues' walk -/
import Derived.Test.YtjbfpllkgaialaaDoorCnY
import Derived.Test.YtjbfpllkgaialaaDoorCn10
namespace Go.Proofs.YtjbfpllkgaialaaDoor.Cn
open Go.RowKit Go.Lib Go.Proofs.YtjbfpllkgaialaaDoor.Ht
set_option linter.unusedVariables false
set_option linter.unusedSimpArgs false

/-- what lies while a text is made -/
structure Vz (w : World) (e : Ex) (b : Nat) (W : World) : Prop where
  box : W.heap[w.heap.size]? = some (.cells (exC e) 25 (0, 0))
  row : W.heap[b]? = some (.cells #[u e.a, u e.b, u e.c, u e.d, u e.e] 23 (0, 0))
  bel : Below w.heap.size w W
theorem Vz.old {w : World} {e : Ex} {b : Nat} {W W' : World} (h : Vz w e b W) (hb : Below W.heap.size W W') : Vz w e b W' :=
  ⟨old_blk hb h.box, old_blk hb h.row, h.bel.trans (hb.mono h.bel.size)⟩
/-- a string of one byte -/
theorem one_str (w : World) (c : UInt8) (k : Int) (hk : k = (c.toNat : Nat)) :
    (convert 45 9 (.slice (some ⟨w.heap.size, 0, none⟩) 1 1)).run Tryd.prog (w.alloc (.cells #[.int .u8 k] 5)) = .ok (.string ⟨#[c]⟩) (w.alloc (.cells #[.int .u8 k] 5)) := by
  subst hk
  exact run_convert_bytes_back (w.alloc (.cells #[.int .u8 (c.toNat : Nat)] 5)) 45 9 5 ⟨w.heap.size, 0, none⟩ 1 [c] Tryd.underlying45 Tryd.underlying5 Tryd.underlying9 (fun j hj => by
    obtain rfl : j = 0 := by simpa using hj
    simp [Addr.add])
theorem app1 (Q : L) (c : UInt8) : (⟨Q.toArray⟩ : ByteArray) ++ ⟨#[c]⟩ = ⟨(Q ++ [c]).toArray⟩ := str_app Q [c]
theorem dig_val {k : Nat} (h : k ≤ 1000) : (48 + (k : Int) % 10) = ((UInt8.ofNat (48 + k % 10)).toNat : Nat) := by
  rw [UInt8.toNat_ofNat']; omega
theorem dig_val2 {k : Nat} (h : k ≤ 1000) (h2 : k < 100) : (48 + (k : Int) / 10) = ((UInt8.ofNat (48 + k / 10)).toNat : Nat) := by
  rw [UInt8.toNat_ofNat']; omega
theorem bit_zero (n x : Nat) (hn : n < 18446744073709551616) : (bits .and .u64 ((n : Int) / 2 ^ (min x 64)) 1 == 0) = !n.testBit x := by
  rw [← bit_at n x hn]
  have e2 : (2 : Int) ^ (min x 64) = ((2 ^ (min x 64) : Nat) : Int) := by rw [Int.natCast_pow]; rfl
  have e3 : (n : Int) / ((2 ^ (min x 64) : Nat) : Int) = ((n / 2 ^ (min x 64) : Nat) : Int) := (Int.natCast_ediv _ _).symm
  have hle : n / 2 ^ (min x 64) < 18446744073709551616 := Nat.lt_of_le_of_lt (Nat.div_le_self _ _) hn
  rw [e2, e3, show (1 : Int) = ((1 : Nat) : Int) from rfl, u64_and_nat _ _ hle (by decide), nat_mask1]
  generalize n / 2 ^ (min x 64) = Z
  have : Z % 2 = 0 ∨ Z % 2 = 1 := by omega
  rcases this with h | h <;> rw [h] <;> rfl
set_option maxRecDepth 20000 in
set_option maxHeartbeats 16000000 in
theorem values_walk (e : Ex) (he : ExOk e) (w : World) (hg : Gd w) :
    Calls Tryd.prog 5 #[exv e] w fun r w' => r = .returned (.bool true) ∧ Below w.heap.size w w' := by
  have hT := fun W hW => Text_any e he W hW
  obtain ⟨V, hV⟩ : ∃ V, V = w.alloc (.cells (exC e) 25) := ⟨_, rfl⟩
  obtain ⟨b1, b2, b3⟩ := cell_new w (exC e) 25
  rw [← hV] at b1 b2 b3
  have HV := Lib.hid (And.intro hV (And.intro b1 b2))
  have HG := Lib.hid hg
  have HT := Lib.hid hT
  have HE := Lib.hid he
  clear hV b1 b2 b3 hg hT he
  go_enter Tryd.func5, Tryd.ntmps5
  go_wp2_with fail
  rw [← HV.out.1]
  refine (lives07_any V (HG.out.old HV.out.2.1).gl).mono ?_
  rintro q w1 ⟨rfl, hb⟩
  have H1 := Lib.hid (And.intro (HV.out.2.1.trans (hb.mono HV.out.2.1.size)) (old_blk hb HV.out.2.2))
  clear hb
  obtain ⟨⟨c0, c1, c2, c3, c4, c5, c6⟩, _⟩ := seven H1.out.2
  go_wp2_with fail
  refine (HT.out w1 (HG.out.old H1.out.1)).mono ?_
  rintro q w2 ⟨rfl, hb⟩
  have hbx := old_blk hb H1.out.2
  clear c0 c1 c2 c3 c4 c5 c6
  obtain ⟨⟨c0, c1, c2, c3, c4, c5, c6⟩, _⟩ := seven hbx
  obtain ⟨n1, n2, n3⟩ := cell_new w2 #[u e.a, u e.b, u e.c, u e.d, u e.e] 23
  have hb2 := H1.out.1.trans (hb.mono H1.out.1.size)
  have H2 := Lib.hid (show Vz w e w2.heap.size (w2.alloc (.cells #[u e.a, u e.b, u e.c, u e.d, u e.e] 23)) from ⟨old_blk n1 hbx, n2, hb2.trans (n1.mono hb2.size)⟩)
  clear hb hbx n1 n2 n3 hb2
  go_wp2_with fail
  clear c0 c1 c2 c3 c4 c5 c6
  go_loopw [29, 4] (fun i t wr => ∃ m : Nat, i = .int .i64 (m : Nat) ∧ m ≤ 5 ∧ t = S (join (ft e m) [32]) ∧ Vz w e w2.heap.size wr) (fun i _ _ => 5 - (RowKit.intOf i).toNat)
  case atStart => exact ⟨0, rfl, Nat.zero_le _, rfl, H2.out⟩
  case round =>
    obtain ⟨m, rfl, hm, rfl, hz⟩ := hrel
    have HZ := Lib.hid hz
    clear hz
    by_cases hlt : m < 5
    · have hltI : ((m : Nat) : Int) < 5 := by omega
      have hcell := fe_cell HZ.out.row hlt
      have hn := fe_lt HE.out m
      have hbd := fun W => bounds_any m hlt W
      generalize hN : fe e m = n at hcell hn
      have HN := Lib.hid (And.intro hN (And.intro hbd hlt))
      clear hN hbd hlt
      go_wp2_with fail
      refine (HN.out.2.1 _).mono ?_
      rintro q w3 ⟨rfl, hb⟩
      have H3 := Lib.hid (HZ.out.old hb)
      clear hb
      obtain ⟨lo, hlo⟩ : ∃ x, x = (fds m).lo := ⟨_, rfl⟩
      obtain ⟨hi', hhi⟩ : ∃ x, x = (fds m).hi := ⟨_, rfl⟩
      rw [← hlo, ← hhi]
      have HL := Lib.hid (And.intro hlo hhi)
      clear hlo hhi
      go_wp2_with fail
      go_loopw [39, 9] (fun x a wr => ∃ k : Nat, x = .int .i64 (k : Nat) ∧ k ≤ 64 ∧ a = .bool (allP n lo hi' k) ∧ wr = w3) (fun x _ _ => 64 - (RowKit.intOf x).toNat)
      case atStart => exact ⟨0, rfl, Nat.zero_le _, rfl, rfl⟩
      case round =>
        obtain ⟨k, rfl, hk, rfl, rfl⟩ := hrel
        by_cases hk64 : k < 64
        · have hkI : ((k : Nat) : Int) < 64 := by omega
          have hbit := bit_at n k hn
          rw [Nat.min_eq_left (by omega)] at hbit
          have hnx : allP n lo hi' (k + 1) = (allP n lo hi' k && (n.testBit k == inR lo hi' k)) := rfl
          have HX := Lib.hid hnx
          clear hnx
          generalize hA : allP n lo hi' k = A at HX ⊢
          generalize hB : n.testBit k = B at hbit HX
          clear hA
          cases A
          · go_wp2_with fail
            exact ⟨⟨k + 1, by simp, by omega, by rw [HX.out]; rfl, trivial⟩, by simp [RowKit.intOf]; omega⟩
          · have hr : ((k : Nat) : Int) < ((lo : Nat) : Int) ∨ (((lo : Nat) : Int) ≤ (k : Nat) ∧ ((k : Nat) : Int) ≤ ((hi' : Nat) : Int)) ∨ (((lo : Nat) : Int) ≤ (k : Nat) ∧ ((hi' : Nat) : Int) < ((k : Nat) : Int)) := by omega
            rcases hr with hr | ⟨hr1, hr2⟩ | ⟨hr1, hr2⟩
            all_goals
              cases B
              all_goals
                go_wp2_with fail
                refine ⟨⟨k + 1, by simp, by omega, ?_, trivial⟩, by simp [RowKit.intOf]; omega⟩
                rw [HX.out]
                unfold inR
                refine congrArg Value.bool ?_
                rw [Bool.eq_iff_iff]
                simp
                try omega
        · have hk4 : k = 64 := by omega
          subst hk4
          clear hk64 hk
          have hall : allP n lo hi' 64 = decide (n = allM m) := by rw [HL.out.1, HL.out.2]; exact allP_all hn
          rw [hall]
          clear hall
          obtain ⟨st, hst⟩ : ∃ s, s = star e m := ⟨_, rfl⟩
          obtain ⟨P, hP⟩ : ∃ p, p = ahead e m := ⟨_, rfl⟩
          have hnext := ft_next e m
          rw [← hP, ← hst, HN.out.1] at hnext
          have hx2 : m = 2 → e.x = st := fun h => by rw [hst, h]; rfl
          have hx4 : m = 4 → e.y = st := fun h => by rw [hst, h]; rfl
          have hxd : m ≠ 2 → m ≠ 4 → decide (n = allM m) = st := fun h2 h4 => by
            have hm9 := HN.out.2.2
            rw [hst, ← HN.out.1]
            have : m = 0 ∨ m = 1 ∨ m = 3 := by omega
            rcases this with rfl | rfl | rfl <;> rfl
          have hP0 : m = 0 → join (ft e m) [32] = P := fun h => by rw [hP, h]; rfl
          have hP1 : m ≠ 0 → join (ft e m) [32] ++ [32] = P := fun h => by rw [hP]; unfold ahead; rw [if_neg h]
          obtain ⟨lP, lJ⟩ := ahead_len e m
          have hm5 := HN.out.2.2
          rw [← hP] at lP
          generalize hJ : join (ft e m) [32] = J at hP0 hP1 lJ ⊢
          have hzJ := size_S J
          have hzP := size_S P
          have lJ2 : J.length ≤ 1005 := by omega
          have lP2 : P.length ≤ 1005 := by omega
          clear lP lJ hm5
          have hsJ : m ≠ 0 → (⟨J.toArray⟩ : ByteArray) ++ ⟨#[32]⟩ = ⟨P.toArray⟩ := fun h => (str_app J [32]).trans (by rw [hP1 h])
          have hsP : (⟨P.toArray⟩ : ByteArray) ++ ⟨#[42]⟩ = ⟨(P ++ [42]).toArray⟩ := str_app P [42]
          have HJ := Lib.hid (And.intro hnext (And.intro hm (And.intro hn hP1)))
          clear hnext hP hst hP1 hJ hn
          obtain ⟨⟨c0, c1, c2, c3, c4, c5, c6⟩, _⟩ := seven H3.out.box
          rcases (show m = 0 ∨ (m ≠ 0 ∧ m ≠ 2 ∧ m ≠ 4) ∨ m = 2 ∨ m = 4 by omega) with h0 | ⟨h0, h2, h4⟩ | h2 | h4
          · have hd := hxd (by omega) (by omega)
            have hJP := hP0 h0
            subst hJP
            rw [hd]
            have m2 : (((m : Nat) : Int) == 2) = false := by simp; omega
            have m4 : (((m : Nat) : Int) == 4) = false := by simp; omega
            have m0 : ¬ (0 : Int) < ((m : Nat) : Int) := by omega
            clear hxd hx2 hx4 hP0 hsJ h0 hd
            cases st
            · go_wp2_with fail
              go_loopw [76, 4, 11] (fun x t sm wr => ∃ k : Nat, x = .int .i64 (k : Nat) ∧ k ≤ 64 ∧ t = S (J ++ list3 n k) ∧ sm = .bool (some3 n k) ∧ Vz w e w2.heap.size wr) (fun x _ _ _ => 64 - (RowKit.intOf x).toNat)
              case atStart => exact ⟨0, rfl, Nat.zero_le _, by rw [(list3_zero n).1, List.append_nil], rfl, H3.out⟩
              case round =>
                obtain ⟨k, rfl, hk, rfl, rfl, hv⟩ := hrel
                have HV2 := Lib.hid hv
                clear hv
                have l3 := list3_len n k hk
                generalize hQ : J ++ list3 n k = Q
                have lQ : Q.length ≤ 1205 := by rw [← hQ, List.length_append]; omega
                have hzQ := size_S Q
                have HQ := Lib.hid hQ
                clear hQ l3
                by_cases hk64 : k < 64
                · have hkI : ((k : Nat) : Int) < 64 := by omega
                  have hbz := bit_zero n k HJ.out.2.2.1
                  rw [Nat.min_eq_left (by omega)] at hbz
                  cases hB : n.testBit k
                  · rw [hB] at hbz
                    have hs := list3_skip hB
                    have HS3 := Lib.hid hs
                    clear hs hB
                    go_wp2_with fail
                    exact ⟨⟨k + 1, by simp, by omega, by rw [HS3.out.1, HQ.out], by rw [HS3.out.2], HV2.out⟩, by simp [RowKit.intOf]; omega⟩
                  · rw [hB] at hbz
                    have hs := list3_next hB
                    have HS3 := Lib.hid hs
                    clear hs hB
                    have hq1 : (⟨Q.toArray⟩ : ByteArray) ++ ⟨#[44]⟩ = ⟨(Q ++ [44]).toArray⟩ := str_app Q [44]
                    cases hS : some3 n k
                    · have HS4 := Lib.hid hS
                      clear hS
                      by_cases h9 : k ≤ 9
                      · have h9I : ¬ (9 : Int) < ((k : Nat) : Int) := by omega
                        have hcv := one_str wr (UInt8.ofNat (48 + k % 10)) (48 + (k : Int) % 10) (dig_val (by omega))
                        have hq2 := str_app Q [UInt8.ofNat (48 + k % 10)]
                        go_wp2_with fail
                        refine ⟨⟨k + 1, by simp, by omega, ?_, by rw [HS3.out.2], HV2.out.old ((Below.refl _ _).alloc (Nat.le_refl _) _)⟩, by simp [RowKit.intOf]; omega⟩
                        rw [HS3.out.1, HS4.out, ← List.append_assoc, HQ.out, decDigits_one (by omega)]
                        simp [Nat.mod_eq_of_lt (show k < 10 by omega)]; simp only [app1, List.append_assoc, List.cons_append, List.nil_append]
                      · have h9I : (9 : Int) < ((k : Nat) : Int) := by omega
                        have hcv := one_str wr (UInt8.ofNat (48 + k / 10)) (48 + (k : Int) / 10) (dig_val2 (by omega) (by omega))
                        have hcv2 := one_str (wr.alloc (.cells #[.int .u8 (48 + (k : Int) / 10)] 5)) (UInt8.ofNat (48 + k % 10)) (48 + (k : Int) % 10) (dig_val (by omega))
                        rw [World.size_alloc] at hcv2
                        have hq2 := str_app Q [UInt8.ofNat (48 + k / 10)]
                        have hq3 := str_app (Q ++ [UInt8.ofNat (48 + k / 10)]) [UInt8.ofNat (48 + k % 10)]
                        go_wp2_with fail
                        refine ⟨⟨k + 1, by simp, by omega, ?_, by rw [HS3.out.2], HV2.out.old (((Below.refl _ _).alloc (Nat.le_refl _) _).alloc (by simp) _)⟩, by simp [RowKit.intOf]; omega⟩
                        rw [HS3.out.1, HS4.out, ← List.append_assoc, HQ.out, decDigits_two (by omega) (by omega)]
                        simp; simp only [app1, List.append_assoc, List.cons_append, List.nil_append]
                    · have HS4 := Lib.hid hS
                      clear hS
                      have lQ4 : (Q ++ [44]).length ≤ 1206 := by rw [List.length_append, List.length_singleton]; omega
                      have hzQ4 := size_S (Q ++ [44])
                      generalize hQ4 : Q ++ [44] = Q4 at lQ4 hzQ4 hq1
                      have HQ4 := Lib.hid hQ4
                      clear hQ4
                      by_cases h9 : k ≤ 9
                      · have h9I : ¬ (9 : Int) < ((k : Nat) : Int) := by omega
                        have hcv := one_str wr (UInt8.ofNat (48 + k % 10)) (48 + (k : Int) % 10) (dig_val (by omega))
                        have hq2 := str_app Q4 [UInt8.ofNat (48 + k % 10)]
                        go_wp2_with fail
                        refine ⟨⟨k + 1, by simp, by omega, ?_, by rw [HS3.out.2], HV2.out.old ((Below.refl _ _).alloc (Nat.le_refl _) _)⟩, by simp [RowKit.intOf]; omega⟩
                        rw [HS3.out.1, HS4.out, ← List.append_assoc, HQ.out, decDigits_one (by omega)]
                        rw [← HQ4.out]; simp [Nat.mod_eq_of_lt (show k < 10 by omega)]; simp only [app1, List.append_assoc, List.cons_append, List.nil_append]
                      · have h9I : (9 : Int) < ((k : Nat) : Int) := by omega
                        have hcv := one_str wr (UInt8.ofNat (48 + k / 10)) (48 + (k : Int) / 10) (dig_val2 (by omega) (by omega))
                        have hcv2 := one_str (wr.alloc (.cells #[.int .u8 (48 + (k : Int) / 10)] 5)) (UInt8.ofNat (48 + k % 10)) (48 + (k : Int) % 10) (dig_val (by omega))
                        rw [World.size_alloc] at hcv2
                        have hq2 := str_app Q4 [UInt8.ofNat (48 + k / 10)]
                        have hq3 := str_app (Q4 ++ [UInt8.ofNat (48 + k / 10)]) [UInt8.ofNat (48 + k % 10)]
                        go_wp2_with fail
                        refine ⟨⟨k + 1, by simp, by omega, ?_, by rw [HS3.out.2], HV2.out.old (((Below.refl _ _).alloc (Nat.le_refl _) _).alloc (by simp) _)⟩, by simp [RowKit.intOf]; omega⟩
                        rw [HS3.out.1, HS4.out, ← List.append_assoc, HQ.out, decDigits_two (by omega) (by omega)]
                        rw [← HQ4.out]; simp; (try simp only [app1, List.append_assoc, List.cons_append, List.nil_append])
                · have hk4 : k = 64 := by omega
                  subst hk4
                  clear hk64 hk
                  have hend := list3_end HJ.out.2.2.1
                  have HE3 := Lib.hid hend
                  clear hend
                  have hq1 := str_app Q [45]
                  cases hS : some3 n 64
                  · have HS4 := Lib.hid hS
                    clear hS
                    go_wp2_with fail
                    refine ⟨⟨m + 1, by simp, by have := HJ.out.2.1; omega, ?_, HV2.out⟩, by have := HJ.out.2.1; simp [RowKit.intOf]; omega⟩
                    rw [HJ.out.1]
                    show _ = S (_ ++ listT n)
                    rw [HE3.out, HS4.out, ← HQ.out, List.append_assoc]; rfl
                  · have HS4 := Lib.hid hS
                    clear hS
                    go_wp2_with fail
                    refine ⟨⟨m + 1, by simp, by have := HJ.out.2.1; omega, ?_, HV2.out⟩, by have := HJ.out.2.1; simp [RowKit.intOf]; omega⟩
                    rw [HJ.out.1]
                    show _ = S (_ ++ listT n)
                    rw [HE3.out, HS4.out, ← HQ.out, if_pos rfl, List.append_nil]
            · go_wp2_with fail
              exact ⟨⟨m + 1, by simp, by have := HJ.out.2.1; omega, by rw [HJ.out.1]; rfl, H3.out⟩, by have := HJ.out.2.1; simp [RowKit.intOf]; omega⟩
          · as_aux_lemma =>
              have hd := hxd h2 h4
              rw [hd]
              have hs := hsJ h0
              have m2 : (((m : Nat) : Int) == 2) = false := by simp; omega
              have m4 : (((m : Nat) : Int) == 4) = false := by simp; omega
              have m0 : (0 : Int) < ((m : Nat) : Int) := by omega
              clear hxd hx2 hx4 hP0 hsJ h0 h2 h4 hd
              cases st
              · go_wp2_with fail
                go_loopw [76, 4, 11] (fun x t sm wr => ∃ k : Nat, x = .int .i64 (k : Nat) ∧ k ≤ 64 ∧ t = S (P ++ list3 n k) ∧ sm = .bool (some3 n k) ∧ Vz w e w2.heap.size wr) (fun x _ _ _ => 64 - (RowKit.intOf x).toNat)
                case atStart => exact ⟨0, rfl, Nat.zero_le _, by rw [(list3_zero n).1, List.append_nil], rfl, H3.out⟩
                case round =>
                  obtain ⟨k, rfl, hk, rfl, rfl, hv⟩ := hrel
                  have HV2 := Lib.hid hv
                  clear hv
                  have l3 := list3_len n k hk
                  generalize hQ : P ++ list3 n k = Q
                  have lQ : Q.length ≤ 1205 := by rw [← hQ, List.length_append]; omega
                  have hzQ := size_S Q
                  have HQ := Lib.hid hQ
                  clear hQ l3
                  by_cases hk64 : k < 64
                  · have hkI : ((k : Nat) : Int) < 64 := by omega
                    have hbz := bit_zero n k HJ.out.2.2.1
                    rw [Nat.min_eq_left (by omega)] at hbz
                    cases hB : n.testBit k
                    · rw [hB] at hbz
                      have hs := list3_skip hB
                      have HS3 := Lib.hid hs
                      clear hs hB
                      go_wp2_with fail
                      exact ⟨⟨k + 1, by simp, by omega, by rw [HS3.out.1, HQ.out], by rw [HS3.out.2], HV2.out⟩, by simp [RowKit.intOf]; omega⟩
                    · rw [hB] at hbz
                      have hs := list3_next hB
                      have HS3 := Lib.hid hs
                      clear hs hB
                      have hq1 : (⟨Q.toArray⟩ : ByteArray) ++ ⟨#[44]⟩ = ⟨(Q ++ [44]).toArray⟩ := str_app Q [44]
                      cases hS : some3 n k
                      · have HS4 := Lib.hid hS
                        clear hS
                        by_cases h9 : k ≤ 9
                        · have h9I : ¬ (9 : Int) < ((k : Nat) : Int) := by omega
                          have hcv := one_str wr (UInt8.ofNat (48 + k % 10)) (48 + (k : Int) % 10) (dig_val (by omega))
                          have hq2 := str_app Q [UInt8.ofNat (48 + k % 10)]
                          go_wp2_with fail
                          refine ⟨⟨k + 1, by simp, by omega, ?_, by rw [HS3.out.2], HV2.out.old ((Below.refl _ _).alloc (Nat.le_refl _) _)⟩, by simp [RowKit.intOf]; omega⟩
                          rw [HS3.out.1, HS4.out, ← List.append_assoc, HQ.out, decDigits_one (by omega)]
                          simp [Nat.mod_eq_of_lt (show k < 10 by omega)]; simp only [app1, List.append_assoc, List.cons_append, List.nil_append]
                        · have h9I : (9 : Int) < ((k : Nat) : Int) := by omega
                          have hcv := one_str wr (UInt8.ofNat (48 + k / 10)) (48 + (k : Int) / 10) (dig_val2 (by omega) (by omega))
                          have hcv2 := one_str (wr.alloc (.cells #[.int .u8 (48 + (k : Int) / 10)] 5)) (UInt8.ofNat (48 + k % 10)) (48 + (k : Int) % 10) (dig_val (by omega))
                          rw [World.size_alloc] at hcv2
                          have hq2 := str_app Q [UInt8.ofNat (48 + k / 10)]
                          have hq3 := str_app (Q ++ [UInt8.ofNat (48 + k / 10)]) [UInt8.ofNat (48 + k % 10)]
                          go_wp2_with fail
                          refine ⟨⟨k + 1, by simp, by omega, ?_, by rw [HS3.out.2], HV2.out.old (((Below.refl _ _).alloc (Nat.le_refl _) _).alloc (by simp) _)⟩, by simp [RowKit.intOf]; omega⟩
                          rw [HS3.out.1, HS4.out, ← List.append_assoc, HQ.out, decDigits_two (by omega) (by omega)]
                          simp; simp only [app1, List.append_assoc, List.cons_append, List.nil_append]
                      · have HS4 := Lib.hid hS
                        clear hS
                        have lQ4 : (Q ++ [44]).length ≤ 1206 := by rw [List.length_append, List.length_singleton]; omega
                        have hzQ4 := size_S (Q ++ [44])
                        generalize hQ4 : Q ++ [44] = Q4 at lQ4 hzQ4 hq1
                        have HQ4 := Lib.hid hQ4
                        clear hQ4
                        by_cases h9 : k ≤ 9
                        · have h9I : ¬ (9 : Int) < ((k : Nat) : Int) := by omega
                          have hcv := one_str wr (UInt8.ofNat (48 + k % 10)) (48 + (k : Int) % 10) (dig_val (by omega))
                          have hq2 := str_app Q4 [UInt8.ofNat (48 + k % 10)]
                          go_wp2_with fail
                          refine ⟨⟨k + 1, by simp, by omega, ?_, by rw [HS3.out.2], HV2.out.old ((Below.refl _ _).alloc (Nat.le_refl _) _)⟩, by simp [RowKit.intOf]; omega⟩
                          rw [HS3.out.1, HS4.out, ← List.append_assoc, HQ.out, decDigits_one (by omega)]
                          rw [← HQ4.out]; simp [Nat.mod_eq_of_lt (show k < 10 by omega)]; simp only [app1, List.append_assoc, List.cons_append, List.nil_append]
                        · have h9I : (9 : Int) < ((k : Nat) : Int) := by omega
                          have hcv := one_str wr (UInt8.ofNat (48 + k / 10)) (48 + (k : Int) / 10) (dig_val2 (by omega) (by omega))
                          have hcv2 := one_str (wr.alloc (.cells #[.int .u8 (48 + (k : Int) / 10)] 5)) (UInt8.ofNat (48 + k % 10)) (48 + (k : Int) % 10) (dig_val (by omega))
                          rw [World.size_alloc] at hcv2
                          have hq2 := str_app Q4 [UInt8.ofNat (48 + k / 10)]
                          have hq3 := str_app (Q4 ++ [UInt8.ofNat (48 + k / 10)]) [UInt8.ofNat (48 + k % 10)]
                          go_wp2_with fail
                          refine ⟨⟨k + 1, by simp, by omega, ?_, by rw [HS3.out.2], HV2.out.old (((Below.refl _ _).alloc (Nat.le_refl _) _).alloc (by simp) _)⟩, by simp [RowKit.intOf]; omega⟩
                          rw [HS3.out.1, HS4.out, ← List.append_assoc, HQ.out, decDigits_two (by omega) (by omega)]
                          rw [← HQ4.out]; simp; (try simp only [app1, List.append_assoc, List.cons_append, List.nil_append])
                  · have hk4 : k = 64 := by omega
                    subst hk4
                    clear hk64 hk
                    have hend := list3_end HJ.out.2.2.1
                    have HE3 := Lib.hid hend
                    clear hend
                    have hq1 := str_app Q [45]
                    cases hS : some3 n 64
                    · have HS4 := Lib.hid hS
                      clear hS
                      go_wp2_with fail
                      refine ⟨⟨m + 1, by simp, by have := HJ.out.2.1; omega, ?_, HV2.out⟩, by have := HJ.out.2.1; simp [RowKit.intOf]; omega⟩
                      rw [HJ.out.1]
                      show _ = S (_ ++ listT n)
                      rw [HE3.out, HS4.out, ← HQ.out, List.append_assoc]; rfl
                    · have HS4 := Lib.hid hS
                      clear hS
                      go_wp2_with fail
                      refine ⟨⟨m + 1, by simp, by have := HJ.out.2.1; omega, ?_, HV2.out⟩, by have := HJ.out.2.1; simp [RowKit.intOf]; omega⟩
                      rw [HJ.out.1]
                      show _ = S (_ ++ listT n)
                      rw [HE3.out, HS4.out, ← HQ.out, if_pos rfl, List.append_nil]
              · go_wp2_with fail
                exact ⟨⟨m + 1, by simp, by have := HJ.out.2.1; omega, by rw [HJ.out.1]; rfl, H3.out⟩, by have := HJ.out.2.1; simp [RowKit.intOf]; omega⟩
          · as_aux_lemma =>
              have hx := hx2 h2
              rw [hx] at c5
              have hs := hsJ (by omega)
              have m2 : (((m : Nat) : Int) == 2) = true := by simp; omega
              have m0 : (0 : Int) < ((m : Nat) : Int) := by omega
              clear hxd hx2 hx4 hP0 hsJ h2 hx
              cases st
              · go_wp2_with fail
                go_loopw [76, 4, 11] (fun x t sm wr => ∃ k : Nat, x = .int .i64 (k : Nat) ∧ k ≤ 64 ∧ t = S (P ++ list3 n k) ∧ sm = .bool (some3 n k) ∧ Vz w e w2.heap.size wr) (fun x _ _ _ => 64 - (RowKit.intOf x).toNat)
                case atStart => exact ⟨0, rfl, Nat.zero_le _, by rw [(list3_zero n).1, List.append_nil], rfl, H3.out⟩
                case round =>
                  obtain ⟨k, rfl, hk, rfl, rfl, hv⟩ := hrel
                  have HV2 := Lib.hid hv
                  clear hv
                  have l3 := list3_len n k hk
                  generalize hQ : P ++ list3 n k = Q
                  have lQ : Q.length ≤ 1205 := by rw [← hQ, List.length_append]; omega
                  have hzQ := size_S Q
                  have HQ := Lib.hid hQ
                  clear hQ l3
                  by_cases hk64 : k < 64
                  · have hkI : ((k : Nat) : Int) < 64 := by omega
                    have hbz := bit_zero n k HJ.out.2.2.1
                    rw [Nat.min_eq_left (by omega)] at hbz
                    cases hB : n.testBit k
                    · rw [hB] at hbz
                      have hs := list3_skip hB
                      have HS3 := Lib.hid hs
                      clear hs hB
                      go_wp2_with fail
                      exact ⟨⟨k + 1, by simp, by omega, by rw [HS3.out.1, HQ.out], by rw [HS3.out.2], HV2.out⟩, by simp [RowKit.intOf]; omega⟩
                    · rw [hB] at hbz
                      have hs := list3_next hB
                      have HS3 := Lib.hid hs
                      clear hs hB
                      have hq1 : (⟨Q.toArray⟩ : ByteArray) ++ ⟨#[44]⟩ = ⟨(Q ++ [44]).toArray⟩ := str_app Q [44]
                      cases hS : some3 n k
                      · have HS4 := Lib.hid hS
                        clear hS
                        by_cases h9 : k ≤ 9
                        · have h9I : ¬ (9 : Int) < ((k : Nat) : Int) := by omega
                          have hcv := one_str wr (UInt8.ofNat (48 + k % 10)) (48 + (k : Int) % 10) (dig_val (by omega))
                          have hq2 := str_app Q [UInt8.ofNat (48 + k % 10)]
                          go_wp2_with fail
                          refine ⟨⟨k + 1, by simp, by omega, ?_, by rw [HS3.out.2], HV2.out.old ((Below.refl _ _).alloc (Nat.le_refl _) _)⟩, by simp [RowKit.intOf]; omega⟩
                          rw [HS3.out.1, HS4.out, ← List.append_assoc, HQ.out, decDigits_one (by omega)]
                          simp [Nat.mod_eq_of_lt (show k < 10 by omega)]; simp only [app1, List.append_assoc, List.cons_append, List.nil_append]
                        · have h9I : (9 : Int) < ((k : Nat) : Int) := by omega
                          have hcv := one_str wr (UInt8.ofNat (48 + k / 10)) (48 + (k : Int) / 10) (dig_val2 (by omega) (by omega))
                          have hcv2 := one_str (wr.alloc (.cells #[.int .u8 (48 + (k : Int) / 10)] 5)) (UInt8.ofNat (48 + k % 10)) (48 + (k : Int) % 10) (dig_val (by omega))
                          rw [World.size_alloc] at hcv2
                          have hq2 := str_app Q [UInt8.ofNat (48 + k / 10)]
                          have hq3 := str_app (Q ++ [UInt8.ofNat (48 + k / 10)]) [UInt8.ofNat (48 + k % 10)]
                          go_wp2_with fail
                          refine ⟨⟨k + 1, by simp, by omega, ?_, by rw [HS3.out.2], HV2.out.old (((Below.refl _ _).alloc (Nat.le_refl _) _).alloc (by simp) _)⟩, by simp [RowKit.intOf]; omega⟩
                          rw [HS3.out.1, HS4.out, ← List.append_assoc, HQ.out, decDigits_two (by omega) (by omega)]
                          simp; simp only [app1, List.append_assoc, List.cons_append, List.nil_append]
                      · have HS4 := Lib.hid hS
                        clear hS
                        have lQ4 : (Q ++ [44]).length ≤ 1206 := by rw [List.length_append, List.length_singleton]; omega
                        have hzQ4 := size_S (Q ++ [44])
                        generalize hQ4 : Q ++ [44] = Q4 at lQ4 hzQ4 hq1
                        have HQ4 := Lib.hid hQ4
                        clear hQ4
                        by_cases h9 : k ≤ 9
                        · have h9I : ¬ (9 : Int) < ((k : Nat) : Int) := by omega
                          have hcv := one_str wr (UInt8.ofNat (48 + k % 10)) (48 + (k : Int) % 10) (dig_val (by omega))
                          have hq2 := str_app Q4 [UInt8.ofNat (48 + k % 10)]
                          go_wp2_with fail
                          refine ⟨⟨k + 1, by simp, by omega, ?_, by rw [HS3.out.2], HV2.out.old ((Below.refl _ _).alloc (Nat.le_refl _) _)⟩, by simp [RowKit.intOf]; omega⟩
                          rw [HS3.out.1, HS4.out, ← List.append_assoc, HQ.out, decDigits_one (by omega)]
                          rw [← HQ4.out]; simp [Nat.mod_eq_of_lt (show k < 10 by omega)]; simp only [app1, List.append_assoc, List.cons_append, List.nil_append]
                        · have h9I : (9 : Int) < ((k : Nat) : Int) := by omega
                          have hcv := one_str wr (UInt8.ofNat (48 + k / 10)) (48 + (k : Int) / 10) (dig_val2 (by omega) (by omega))
                          have hcv2 := one_str (wr.alloc (.cells #[.int .u8 (48 + (k : Int) / 10)] 5)) (UInt8.ofNat (48 + k % 10)) (48 + (k : Int) % 10) (dig_val (by omega))
                          rw [World.size_alloc] at hcv2
                          have hq2 := str_app Q4 [UInt8.ofNat (48 + k / 10)]
                          have hq3 := str_app (Q4 ++ [UInt8.ofNat (48 + k / 10)]) [UInt8.ofNat (48 + k % 10)]
                          go_wp2_with fail
                          refine ⟨⟨k + 1, by simp, by omega, ?_, by rw [HS3.out.2], HV2.out.old (((Below.refl _ _).alloc (Nat.le_refl _) _).alloc (by simp) _)⟩, by simp [RowKit.intOf]; omega⟩
                          rw [HS3.out.1, HS4.out, ← List.append_assoc, HQ.out, decDigits_two (by omega) (by omega)]
                          rw [← HQ4.out]; simp; (try simp only [app1, List.append_assoc, List.cons_append, List.nil_append])
                  · have hk4 : k = 64 := by omega
                    subst hk4
                    clear hk64 hk
                    have hend := list3_end HJ.out.2.2.1
                    have HE3 := Lib.hid hend
                    clear hend
                    have hq1 := str_app Q [45]
                    cases hS : some3 n 64
                    · have HS4 := Lib.hid hS
                      clear hS
                      go_wp2_with fail
                      refine ⟨⟨m + 1, by simp, by have := HJ.out.2.1; omega, ?_, HV2.out⟩, by have := HJ.out.2.1; simp [RowKit.intOf]; omega⟩
                      rw [HJ.out.1]
                      show _ = S (_ ++ listT n)
                      rw [HE3.out, HS4.out, ← HQ.out, List.append_assoc]; rfl
                    · have HS4 := Lib.hid hS
                      clear hS
                      go_wp2_with fail
                      refine ⟨⟨m + 1, by simp, by have := HJ.out.2.1; omega, ?_, HV2.out⟩, by have := HJ.out.2.1; simp [RowKit.intOf]; omega⟩
                      rw [HJ.out.1]
                      show _ = S (_ ++ listT n)
                      rw [HE3.out, HS4.out, ← HQ.out, if_pos rfl, List.append_nil]
              · go_wp2_with fail
                exact ⟨⟨m + 1, by simp, by have := HJ.out.2.1; omega, by rw [HJ.out.1]; rfl, H3.out⟩, by have := HJ.out.2.1; simp [RowKit.intOf]; omega⟩
          · as_aux_lemma =>
              have hx := hx4 h4
              rw [hx] at c6
              have hs := hsJ (by omega)
              have m2 : (((m : Nat) : Int) == 2) = false := by simp; omega
              have m4 : (((m : Nat) : Int) == 4) = true := by simp; omega
              have m0 : (0 : Int) < ((m : Nat) : Int) := by omega
              clear hxd hx2 hx4 hP0 hsJ h4 hx
              cases st
              · go_wp2_with fail
                go_loopw [76, 4, 11] (fun x t sm wr => ∃ k : Nat, x = .int .i64 (k : Nat) ∧ k ≤ 64 ∧ t = S (P ++ list3 n k) ∧ sm = .bool (some3 n k) ∧ Vz w e w2.heap.size wr) (fun x _ _ _ => 64 - (RowKit.intOf x).toNat)
                case atStart => exact ⟨0, rfl, Nat.zero_le _, by rw [(list3_zero n).1, List.append_nil], rfl, H3.out⟩
                case round =>
                  obtain ⟨k, rfl, hk, rfl, rfl, hv⟩ := hrel
                  have HV2 := Lib.hid hv
                  clear hv
                  have l3 := list3_len n k hk
                  generalize hQ : P ++ list3 n k = Q
                  have lQ : Q.length ≤ 1205 := by rw [← hQ, List.length_append]; omega
                  have hzQ := size_S Q
                  have HQ := Lib.hid hQ
                  clear hQ l3
                  by_cases hk64 : k < 64
                  · have hkI : ((k : Nat) : Int) < 64 := by omega
                    have hbz := bit_zero n k HJ.out.2.2.1
                    rw [Nat.min_eq_left (by omega)] at hbz
                    cases hB : n.testBit k
                    · rw [hB] at hbz
                      have hs := list3_skip hB
                      have HS3 := Lib.hid hs
                      clear hs hB
                      go_wp2_with fail
                      exact ⟨⟨k + 1, by simp, by omega, by rw [HS3.out.1, HQ.out], by rw [HS3.out.2], HV2.out⟩, by simp [RowKit.intOf]; omega⟩
                    · rw [hB] at hbz
                      have hs := list3_next hB
                      have HS3 := Lib.hid hs
                      clear hs hB
                      have hq1 : (⟨Q.toArray⟩ : ByteArray) ++ ⟨#[44]⟩ = ⟨(Q ++ [44]).toArray⟩ := str_app Q [44]
                      cases hS : some3 n k
                      · have HS4 := Lib.hid hS
                        clear hS
                        by_cases h9 : k ≤ 9
                        · have h9I : ¬ (9 : Int) < ((k : Nat) : Int) := by omega
                          have hcv := one_str wr (UInt8.ofNat (48 + k % 10)) (48 + (k : Int) % 10) (dig_val (by omega))
                          have hq2 := str_app Q [UInt8.ofNat (48 + k % 10)]
                          go_wp2_with fail
                          refine ⟨⟨k + 1, by simp, by omega, ?_, by rw [HS3.out.2], HV2.out.old ((Below.refl _ _).alloc (Nat.le_refl _) _)⟩, by simp [RowKit.intOf]; omega⟩
                          rw [HS3.out.1, HS4.out, ← List.append_assoc, HQ.out, decDigits_one (by omega)]
                          simp [Nat.mod_eq_of_lt (show k < 10 by omega)]; simp only [app1, List.append_assoc, List.cons_append, List.nil_append]
                        · have h9I : (9 : Int) < ((k : Nat) : Int) := by omega
                          have hcv := one_str wr (UInt8.ofNat (48 + k / 10)) (48 + (k : Int) / 10) (dig_val2 (by omega) (by omega))
                          have hcv2 := one_str (wr.alloc (.cells #[.int .u8 (48 + (k : Int) / 10)] 5)) (UInt8.ofNat (48 + k % 10)) (48 + (k : Int) % 10) (dig_val (by omega))
                          rw [World.size_alloc] at hcv2
                          have hq2 := str_app Q [UInt8.ofNat (48 + k / 10)]
                          have hq3 := str_app (Q ++ [UInt8.ofNat (48 + k / 10)]) [UInt8.ofNat (48 + k % 10)]
                          go_wp2_with fail
                          refine ⟨⟨k + 1, by simp, by omega, ?_, by rw [HS3.out.2], HV2.out.old (((Below.refl _ _).alloc (Nat.le_refl _) _).alloc (by simp) _)⟩, by simp [RowKit.intOf]; omega⟩
                          rw [HS3.out.1, HS4.out, ← List.append_assoc, HQ.out, decDigits_two (by omega) (by omega)]
                          simp; simp only [app1, List.append_assoc, List.cons_append, List.nil_append]
                      · have HS4 := Lib.hid hS
                        clear hS
                        have lQ4 : (Q ++ [44]).length ≤ 1206 := by rw [List.length_append, List.length_singleton]; omega
                        have hzQ4 := size_S (Q ++ [44])
                        generalize hQ4 : Q ++ [44] = Q4 at lQ4 hzQ4 hq1
                        have HQ4 := Lib.hid hQ4
                        clear hQ4
                        by_cases h9 : k ≤ 9
                        · have h9I : ¬ (9 : Int) < ((k : Nat) : Int) := by omega
                          have hcv := one_str wr (UInt8.ofNat (48 + k % 10)) (48 + (k : Int) % 10) (dig_val (by omega))
                          have hq2 := str_app Q4 [UInt8.ofNat (48 + k % 10)]
                          go_wp2_with fail
                          refine ⟨⟨k + 1, by simp, by omega, ?_, by rw [HS3.out.2], HV2.out.old ((Below.refl _ _).alloc (Nat.le_refl _) _)⟩, by simp [RowKit.intOf]; omega⟩
                          rw [HS3.out.1, HS4.out, ← List.append_assoc, HQ.out, decDigits_one (by omega)]
                          rw [← HQ4.out]; simp [Nat.mod_eq_of_lt (show k < 10 by omega)]; simp only [app1, List.append_assoc, List.cons_append, List.nil_append]
                        · have h9I : (9 : Int) < ((k : Nat) : Int) := by omega
                          have hcv := one_str wr (UInt8.ofNat (48 + k / 10)) (48 + (k : Int) / 10) (dig_val2 (by omega) (by omega))
                          have hcv2 := one_str (wr.alloc (.cells #[.int .u8 (48 + (k : Int) / 10)] 5)) (UInt8.ofNat (48 + k % 10)) (48 + (k : Int) % 10) (dig_val (by omega))
                          rw [World.size_alloc] at hcv2
                          have hq2 := str_app Q4 [UInt8.ofNat (48 + k / 10)]
                          have hq3 := str_app (Q4 ++ [UInt8.ofNat (48 + k / 10)]) [UInt8.ofNat (48 + k % 10)]
                          go_wp2_with fail
                          refine ⟨⟨k + 1, by simp, by omega, ?_, by rw [HS3.out.2], HV2.out.old (((Below.refl _ _).alloc (Nat.le_refl _) _).alloc (by simp) _)⟩, by simp [RowKit.intOf]; omega⟩
                          rw [HS3.out.1, HS4.out, ← List.append_assoc, HQ.out, decDigits_two (by omega) (by omega)]
                          rw [← HQ4.out]; simp; (try simp only [app1, List.append_assoc, List.cons_append, List.nil_append])
                  · have hk4 : k = 64 := by omega
                    subst hk4
                    clear hk64 hk
                    have hend := list3_end HJ.out.2.2.1
                    have HE3 := Lib.hid hend
                    clear hend
                    have hq1 := str_app Q [45]
                    cases hS : some3 n 64
                    · have HS4 := Lib.hid hS
                      clear hS
                      go_wp2_with fail
                      refine ⟨⟨m + 1, by simp, by have := HJ.out.2.1; omega, ?_, HV2.out⟩, by have := HJ.out.2.1; simp [RowKit.intOf]; omega⟩
                      rw [HJ.out.1]
                      show _ = S (_ ++ listT n)
                      rw [HE3.out, HS4.out, ← HQ.out, List.append_assoc]; rfl
                    · have HS4 := Lib.hid hS
                      clear hS
                      go_wp2_with fail
                      refine ⟨⟨m + 1, by simp, by have := HJ.out.2.1; omega, ?_, HV2.out⟩, by have := HJ.out.2.1; simp [RowKit.intOf]; omega⟩
                      rw [HJ.out.1]
                      show _ = S (_ ++ listT n)
                      rw [HE3.out, HS4.out, ← HQ.out, if_pos rfl, List.append_nil]
              · go_wp2_with fail
                exact ⟨⟨m + 1, by simp, by have := HJ.out.2.1; omega, by rw [HJ.out.1]; rfl, H3.out⟩, by have := HJ.out.2.1; simp [RowKit.intOf]; omega⟩
    · have hm5 : m = 5 := by omega
      subst hm5
      rw [ft_five]
      go_wp2_with fail
      go_ret
      exact ⟨rfl, HZ.out.bel⟩
end Go.Proofs.YtjbfpllkgaialaaDoor.Cn
