/- the document's Read of a number -/
import Derived.Test.YtadlfdjomcdpbaaDoorRm
import Derived.LoopN
namespace Go.Proofs.YtadlfdjomcdpbaaDoor.Fm
open Go.RowKit Go.Lib Go.Proofs.YtadlfdjomcdpbaaDoor.By Go.Proofs.YtadlfdjomcdpbaaDoor.Oc

/-- sevens of bits, the lowest first -/
def val : List UInt8 → Nat
  | [] => 0
  | c :: t => c.toNat % 128 + 128 * val t
theorem val_snoc : ∀ (a : List UInt8) (c : UInt8), val (a ++ [c]) = val a + c.toNat % 128 * 128 ^ a.length
  | [], c => by simp [val]
  | d :: a, c => by
    show d.toNat % 128 + 128 * val (a ++ [c]) = d.toNat % 128 + 128 * val a + c.toNat % 128 * 128 ^ (a.length + 1)
    rw [val_snoc a c, Nat.pow_succ, Nat.mul_add, Nat.add_assoc]
    congr 2
    rw [← Nat.mul_assoc, Nat.mul_comm 128, Nat.mul_assoc, Nat.mul_comm 128]
theorem val_lt : ∀ l : List UInt8, val l < 128 ^ l.length
  | [] => by simp [val]
  | c :: t => by
    have := val_lt t
    show c.toNat % 128 + 128 * val t < 128 ^ (t.length + 1)
    rw [Nat.pow_succ]; omega
theorem val_drop (l : List UInt8) : ∀ i, val (l.drop i) ≤ val l := by
  intro i
  induction i generalizing l with
  | zero => simp
  | succ i ih =>
    cases l with
    | nil => simp [val]
    | cons c t =>
      have := ih t
      show val (t.drop i) ≤ c.toNat % 128 + 128 * val t
      omega
theorem val_at {l : List UInt8} {i : Nat} (h : i < l.length) : val (l.drop i) = (l.getD i 0).toNat % 128 + 128 * val (l.drop (i + 1)) := by
  rw [List.drop_eq_getElem_cons h]
  show l[i].toNat % 128 + 128 * val (l.drop (i + 1)) = _
  simp [List.getD, h]

/-- what the document's Read tells -/
def rdr (l : List UInt8) : Nat × Nat × Int := if (dec 0 0 l).2.2 = 0 then ((dec 0 0 l).1, l.length - (dec 0 0 l).2.1.length, 0) else (0, 0, (dec 0 0 l).2.2)

set_option maxRecDepth 20000 in
set_option maxHeartbeats 2000000 in
theorem read_l (l : List UInt8) (w : World) (hm : l.length ≤ 1000000000000) :
    Calls Tryd.prog 25 #[.string ⟨l.toArray⟩] w fun e w' => e = .returned (.tuple #[.int .u64 ((rdr l).1 : Nat), .int .i64 ((rdr l).2.1 : Nat), .int .i64 (rdr l).2.2]) ∧ w = w' := by
  have hsz : (⟨l.toArray⟩ : ByteArray).size = l.length := bytes_size l
  obtain ⟨R, hR⟩ : ∃ R, R = rdr l := ⟨_, rfl⟩
  rw [← hR]
  obtain ⟨R1, R2, R3⟩ := R
  have HR := Lib.hid hR
  clear hR
  go_enter Tryd.func25, Tryd.ntmps25
  go_wp2
  go_loop [5] (fun p => ∃ k : Nat, k ≤ 9 ∧ k ≤ l.length ∧ p = .int .i64 ((k : Int) + 1) ∧ dec 0 0 l = dec k (val (l.take k)) (l.drop k)) (fun p => 10 - (intOf p).toNat)
  case atStart => exact ⟨0, by omega, by omega, rfl, by simp [val]⟩
  case round =>
    obtain ⟨k, hk9, hkl, rfl, hdec⟩ := hrel
    by_cases hlt : k < l.length
    · obtain ⟨c, hc⟩ : ∃ c, c = l.getD k 0 := ⟨_, rfl⟩
      have hcn := c.toNat_lt
      have hdr : l.drop k = c :: l.drop (k + 1) := by rw [List.drop_eq_getElem_cons hlt, hc]; simp [List.getD, hlt]
      rw [hdr] at hdec
      have HDE := Lib.hid (And.intro hdec hc)
      clear hdec hdr hc
      have hix : ∀ h, (⟨l.toArray⟩ : ByteArray)[k]'h = c := fun h => by rw [HDE.out.2]; simp [List.getD, hlt, ByteArray.getElem_eq_getElem_data]
      have hk1 : (k : Int) + 1 ≤ 10 := by omega
      have hk2 : (k : Int) + 1 ≤ (l.length : Int) := by omega
      by_cases hbad : (k = 9 ∧ 1 < c.toNat) ∨ (0 < k ∧ c.toNat = 0)
      · have hR3 : (R1, R2, R3) = (0, 0, 2) := by
          rw [HR.out]; unfold rdr; rw [HDE.out.1, dec_bad hbad]; simp
        obtain ⟨rfl, h2⟩ := Prod.mk.inj hR3
        obtain ⟨rfl, rfl⟩ := Prod.mk.inj h2
        clear hR3 h2 HR
        have HX := HDE
        clear HDE
        obtain ⟨n, hn⟩ : ∃ n : Nat, n = c.toNat := ⟨_, rfl⟩
        have hix2 : ∀ h, ((⟨l.toArray⟩ : ByteArray)[k]'h).toNat = n := fun h => by rw [hix, hn]
        rw [← hn] at hbad hcn
        clear hix HX hn
        rcases hbad with ⟨rfl, hb⟩ | ⟨h0, rfl⟩
        · by_cases hz : n = 0
          · omega
          · go_wp2
            all_goals (go_ret3; exact ⟨rfl, rfl⟩)
        · go_wp2
          all_goals (go_ret3; exact ⟨rfl, rfl⟩)
      · have hnb : ¬ (k = 9 ∧ 1 < c.toNat) ∧ ¬ (0 < k ∧ c.toNat = 0) := ⟨fun h => hbad (.inl h), fun h => hbad (.inr h)⟩
        by_cases hlast : c.toNat < 128
        · have hvs : val (l.take (k + 1)) = val (l.take k) + c.toNat % 128 * 128 ^ k := by
            rw [List.take_succ_eq_append_getElem hlt, val_snoc, List.length_take, Nat.min_eq_left hkl, HDE.out.2]
            simp [List.getD, hlt]
          have hR3 : (R1, R2, R3) = (val (l.take (k + 1)), k + 1, 0) := by
            rw [HR.out]; unfold rdr; rw [HDE.out.1, dec_last hbad hlast]; simp [hvs]; omega
          obtain ⟨rfl, h2⟩ := Prod.mk.inj hR3
          obtain ⟨rfl, rfl⟩ := Prod.mk.inj h2
          have hvl : val (l.take (k + 1)) < 18446744073709551616 := by
            by_cases h9 : k = 9
            · subst h9
              have h1 := val_lt (l.take 9)
              rw [List.length_take, Nat.min_eq_left hkl] at h1
              have h3 : c.toNat % 128 * 128 ^ 9 ≤ 1 * 128 ^ 9 := Nat.mul_le_mul_right _ (by omega)
              rw [hvs]; omega
            · have h1 := val_lt (l.take (k + 1))
              rw [List.length_take, Nat.min_eq_left (by omega)] at h1
              have h2 : 128 ^ (k + 1) ≤ 128 ^ 9 := Nat.pow_le_pow_right (by decide) (by omega)
              omega
          have HV := Lib.hid hvl
          clear hR3 h2 HR hvs hvl
          obtain ⟨n, hn⟩ : ∃ n : Nat, n = c.toNat := ⟨_, rfl⟩
          have hix2 : ∀ h, ((⟨l.toArray⟩ : ByteArray)[k]'h).toNat = n := fun h => by rw [hix, hn]
          rw [← hn] at hnb hcn hlast
          clear hix HDE hn hbad
          by_cases hz : n = 0
          · have hk0 : k = 0 := by omega
            subst hk0 hz
            go_wp2_with fail
            go_loop [7, 8] (fun x i => ∃ j : Nat, j ≤ 0 + 1 ∧ i = .int .i64 ((j : Int) - 1) ∧ x = .int .u64 (val ((l.take (0 + 1)).drop j) : Nat)) (fun _ i => ((intOf i) + 1).toNat)
            case atStart => exact ⟨0 + 1, Nat.le_refl _, by go_num, by rw [List.drop_of_length_le (by rw [List.length_take]; omega)]; rfl⟩
            case round =>
              obtain ⟨j, hj, rfl, rfl⟩ := hrel
              cases j with
              | zero =>
                go_wp2
                go_ret3
                exact ⟨by first | rfl | (simp only [List.drop_zero]; congr 3; go_num), rfl⟩
              | succ m =>
                have hmk : m < (l.take (0 + 1)).length := by rw [List.length_take]; omega
                have hml : m < l.length := by omega
                have hva := val_at hmk
                have hle := val_drop (l.take (0 + 1)) m
                have hv2 := HV.out
                obtain ⟨cm, hcm⟩ : ∃ cm : Nat, cm = (l.getD m 0).toNat := ⟨_, rfl⟩
                have hcb : cm < 256 := by rw [hcm]; exact (l.getD m 0).toNat_lt
                have hixm : ∀ h, ((⟨l.toArray⟩ : ByteArray)[m]'h).toNat = cm := fun h => by rw [hcm]; simp [List.getD, hml, ByteArray.getElem_eq_getElem_data]
                have hgd : ((l.take (0 + 1)).getD m 0).toNat = cm := by rw [hcm]; simp [List.getD, show m < 0 + 1 by omega, hml]
                rw [hgd] at hva
                obtain ⟨X, hX⟩ : ∃ X, X = val ((l.take (0 + 1)).drop (m + 1)) := ⟨_, rfl⟩
                obtain ⟨Y, hY⟩ : ∃ Y, Y = val ((l.take (0 + 1)).drop m) := ⟨_, rfl⟩
                rw [← hX, ← hY] at hva
                rw [← hY] at hle
                rw [← hX]
                have hj1 : ((m + 1 : Nat) : Int) - 1 = (m : Int) := by omega
                rw [hj1]
                have hfin : IntKind.u64.wrap (IntKind.u64.wrap ((X : Int) * 128) + (cm : Int) % 128) = (Y : Int) := by
                  rw [IntKind.wrap_u64, IntKind.wrap_u64]; omega
                have hw1 : IntKind.u64.wrap ((X : Int) * 128) = (X : Int) * 128 := by rw [IntKind.wrap_u64]; omega
                have HY := Lib.hid (And.intro hY (And.intro hfin hw1))
                clear hva hle hv2 hcm hgd hX hY hfin hw1
                go_wp2
                go_round
                case rel => exact ⟨m, by omega, by go_num, by rw [← HY.out.1, HY.out.2.1]⟩
                case measure => (simp [intOf] <;> omega)
          · by_cases h9 : k = 9
            · subst h9
              go_wp2_with fail
              go_loop [7, 8] (fun x i => ∃ j : Nat, j ≤ 9 + 1 ∧ i = .int .i64 ((j : Int) - 1) ∧ x = .int .u64 (val ((l.take (9 + 1)).drop j) : Nat)) (fun _ i => ((intOf i) + 1).toNat)
              case atStart => exact ⟨9 + 1, Nat.le_refl _, by go_num, by rw [List.drop_of_length_le (by rw [List.length_take]; omega)]; rfl⟩
              case round =>
                obtain ⟨j, hj, rfl, rfl⟩ := hrel
                cases j with
                | zero =>
                  go_wp2
                  go_ret3
                  exact ⟨by first | rfl | (simp only [List.drop_zero]; congr 3; go_num), rfl⟩
                | succ m =>
                  have hmk : m < (l.take (9 + 1)).length := by rw [List.length_take]; omega
                  have hml : m < l.length := by omega
                  have hva := val_at hmk
                  have hle := val_drop (l.take (9 + 1)) m
                  have hv2 := HV.out
                  obtain ⟨cm, hcm⟩ : ∃ cm : Nat, cm = (l.getD m 0).toNat := ⟨_, rfl⟩
                  have hcb : cm < 256 := by rw [hcm]; exact (l.getD m 0).toNat_lt
                  have hixm : ∀ h, ((⟨l.toArray⟩ : ByteArray)[m]'h).toNat = cm := fun h => by rw [hcm]; simp [List.getD, hml, ByteArray.getElem_eq_getElem_data]
                  have hgd : ((l.take (9 + 1)).getD m 0).toNat = cm := by rw [hcm]; simp [List.getD, show m < 9 + 1 by omega, hml]
                  rw [hgd] at hva
                  obtain ⟨X, hX⟩ : ∃ X, X = val ((l.take (9 + 1)).drop (m + 1)) := ⟨_, rfl⟩
                  obtain ⟨Y, hY⟩ : ∃ Y, Y = val ((l.take (9 + 1)).drop m) := ⟨_, rfl⟩
                  rw [← hX, ← hY] at hva
                  rw [← hY] at hle
                  rw [← hX]
                  have hj1 : ((m + 1 : Nat) : Int) - 1 = (m : Int) := by omega
                  rw [hj1]
                  have hfin : IntKind.u64.wrap (IntKind.u64.wrap ((X : Int) * 128) + (cm : Int) % 128) = (Y : Int) := by
                    rw [IntKind.wrap_u64, IntKind.wrap_u64]; omega
                  have hw1 : IntKind.u64.wrap ((X : Int) * 128) = (X : Int) * 128 := by rw [IntKind.wrap_u64]; omega
                  have HY := Lib.hid (And.intro hY (And.intro hfin hw1))
                  clear hva hle hv2 hcm hgd hX hY hfin hw1
                  go_wp2
                  go_round
                  case rel => exact ⟨m, by omega, by go_num, by rw [← HY.out.1, HY.out.2.1]⟩
                  case measure => (simp [intOf] <;> omega)
            · go_wp2_with fail
              go_loop [7, 8] (fun x i => ∃ j : Nat, j ≤ k + 1 ∧ i = .int .i64 ((j : Int) - 1) ∧ x = .int .u64 (val ((l.take (k + 1)).drop j) : Nat)) (fun _ i => ((intOf i) + 1).toNat)
              case atStart => exact ⟨k + 1, Nat.le_refl _, by go_num, by rw [List.drop_of_length_le (by rw [List.length_take]; omega)]; rfl⟩
              case round =>
                obtain ⟨j, hj, rfl, rfl⟩ := hrel
                cases j with
                | zero =>
                  go_wp2
                  go_ret3
                  exact ⟨by first | rfl | (simp only [List.drop_zero]; congr 3; go_num), rfl⟩
                | succ m =>
                  have hmk : m < (l.take (k + 1)).length := by rw [List.length_take]; omega
                  have hml : m < l.length := by omega
                  have hva := val_at hmk
                  have hle := val_drop (l.take (k + 1)) m
                  have hv2 := HV.out
                  obtain ⟨cm, hcm⟩ : ∃ cm : Nat, cm = (l.getD m 0).toNat := ⟨_, rfl⟩
                  have hcb : cm < 256 := by rw [hcm]; exact (l.getD m 0).toNat_lt
                  have hixm : ∀ h, ((⟨l.toArray⟩ : ByteArray)[m]'h).toNat = cm := fun h => by rw [hcm]; simp [List.getD, hml, ByteArray.getElem_eq_getElem_data]
                  have hgd : ((l.take (k + 1)).getD m 0).toNat = cm := by rw [hcm]; simp [List.getD, show m < k + 1 by omega, hml]
                  rw [hgd] at hva
                  obtain ⟨X, hX⟩ : ∃ X, X = val ((l.take (k + 1)).drop (m + 1)) := ⟨_, rfl⟩
                  obtain ⟨Y, hY⟩ : ∃ Y, Y = val ((l.take (k + 1)).drop m) := ⟨_, rfl⟩
                  rw [← hX, ← hY] at hva
                  rw [← hY] at hle
                  rw [← hX]
                  have hj1 : ((m + 1 : Nat) : Int) - 1 = (m : Int) := by omega
                  rw [hj1]
                  have hfin : IntKind.u64.wrap (IntKind.u64.wrap ((X : Int) * 128) + (cm : Int) % 128) = (Y : Int) := by
                    rw [IntKind.wrap_u64, IntKind.wrap_u64]; omega
                  have hw1 : IntKind.u64.wrap ((X : Int) * 128) = (X : Int) * 128 := by rw [IntKind.wrap_u64]; omega
                  have HY := Lib.hid (And.intro hY (And.intro hfin hw1))
                  clear hva hle hv2 hcm hgd hX hY hfin hw1
                  go_wp2
                  go_round
                  case rel => exact ⟨m, by omega, by go_num, by rw [← HY.out.1, HY.out.2.1]⟩
                  case measure => (simp [intOf] <;> omega)
        · have hvs : val (l.take (k + 1)) = val (l.take k) + c.toNat % 128 * 128 ^ k := by
            rw [List.take_succ_eq_append_getElem hlt, val_snoc, List.length_take, Nat.min_eq_left hkl, HDE.out.2]
            simp [List.getD, hlt]
          have hd2 : dec 0 0 l = dec (k + 1) (val (l.take (k + 1))) (l.drop (k + 1)) := by rw [HDE.out.1, dec_more hbad hlast, hvs]
          have HD2 := Lib.hid hd2
          have hk8 : k ≤ 8 := by omega
          clear hvs hd2
          obtain ⟨n, hn⟩ : ∃ n : Nat, n = c.toNat := ⟨_, rfl⟩
          have hix2 : ∀ h, ((⟨l.toArray⟩ : ByteArray)[k]'h).toNat = n := fun h => by rw [hix, hn]
          rw [← hn] at hnb hcn hlast
          clear hix HDE hn hbad hnb
          have hz : ¬ n = 0 := by omega
          have hk10 : ¬ (k : Int) + 1 = 10 := by omega
          go_wp2
          go_round
          case rel => exact ⟨k + 1, by omega, by omega, by go_num, HD2.out⟩
          case measure => simp [intOf]; omega
    · obtain rfl : k = l.length := by omega
      have hR3 : (R1, R2, R3) = (0, 0, 4) := by
        rw [HR.out]; unfold rdr; rw [hdec, List.drop_length]; simp [dec]
      obtain ⟨rfl, h2⟩ := Prod.mk.inj hR3
      obtain ⟨rfl, rfl⟩ := Prod.mk.inj h2
      clear hdec hR3 h2 HR
      go_wp2
      go_ret3
      exact ⟨rfl, rfl⟩
end Go.Proofs.YtadlfdjomcdpbaaDoor.Fm
