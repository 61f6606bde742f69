
/- fires: Count -/
import Derived.Test.YtheaimlfngaaoaaDoorFi12
namespace Go.Proofs.YtheaimlfngaaoaaDoor.Fi
open Go.RowKit Go.Lib Go.Proofs.YtheaimlfngaaoaaDoor.Cn Go.Proofs.YtheaimlfngaaoaaDoor.Rg Go.Proofs.YtheaimlfngaaoaaDoor.Ht
set_option linter.unusedVariables false

/-- what Count tells -/
noncomputable def ctd (e : Ex) (a t most : Int) : Int := if most ≤ 0 then 0 else min (cnt e (lo a) (up t) : Nat) most
theorem ctd_zero {e : Ex} {a t most : Int} (h : up t ≤ lo a ∨ most ≤ 0) : ctd e a t most = 0 := by
  unfold ctd
  split
  · rfl
  · rw [cnt_self e (by omega)]; omega
theorem lo_id {a : Int} (h : -1 ≤ a) : lo a = a := by unfold lo; omega
theorem up_id {a : Int} (h : a ≤ 1099511627776) : up a = a := by unfold up; omega
/-- by turns -/
theorem cnt_by (e : Ex) {a t : Int} {k : Nat} (ha : -1 ≤ a) (h1 : a ≤ t - 210379680 * k) : cnt e a t = cnt e a (t - 210379680 * k) + k * cnt e (t - 210379680 * k) (t - 210379680 * k + 210379680) := by
  have h := cnt_turns e (a := t - 210379680 * k) (by omega) k
  rw [show t - 210379680 * k + 210379680 * k = t by omega] at h
  rw [← h, cnt_add e h1 (by omega)]
theorem min_by {x y k M : Nat} (hk : 0 < k) : min (min x M + k * min y M) M = min (x + k * y) M := by
  by_cases hx : M ≤ x
  · rw [Nat.min_eq_right hx, Nat.min_eq_right (Nat.le_add_right _ _), Nat.min_eq_right (Nat.le_trans hx (Nat.le_add_right _ _))]
  · by_cases hy : M ≤ y
    · have h1 : M ≤ k * M := by have := Nat.mul_le_mul_right M hk; omega
      have h2 : M ≤ k * y := Nat.le_trans hy (by have := Nat.mul_le_mul_right y hk; omega)
      rw [Nat.min_eq_right hy, Nat.min_eq_right (by omega), Nat.min_eq_right (by omega)]
    · rw [Nat.min_eq_left (by omega : x ≤ M), Nat.min_eq_left (by omega : y ≤ M)]
set_option maxRecDepth 20000 in
set_option maxHeartbeats 8000000 in
theorem Count_any (e : Ex) (he : ExOk e) (a t most : Int) (ha : Ca.I64 a) (ht : Ca.I64 t) (hm : Ca.I64 most) (w : World) (hd : Db w) :
    Calls Tryd.prog 15 #[exv e, .int .i64 a, .int .i64 t, .int .i64 most] w fun r w' => r = .returned (.int .i64 (ctd e a t most)) ∧ Below w.heap.size w w' := by
  have hlo : -1 ≤ lo a ∧ lo a ≤ 9223372036854775807 := by unfold lo; unfold Ca.I64 at ha; omega
  have hup : -9223372036854775808 ≤ up t ∧ up t ≤ 1099511627776 := by unfold up; unfold Ca.I64 at ht; omega
  have hw := fun W => within_any a t ha ht W
  have hz := ctd_zero (e := e) (a := a) (t := t) (most := most)
  obtain ⟨V, hV⟩ : ∃ V, V = w.alloc (.cells (exC e) 26) := ⟨_, rfl⟩
  obtain ⟨b1, b2, b3⟩ := cell_new w (exC e) 26
  rw [← hV] at b1 b2 b3
  have hdV := hd.old b1
  have hct := fun c d (m : Nat) (h1 : -1 ≤ c ∧ c ≤ 1099511627776) (h2 : -1 ≤ d ∧ d ≤ 1099511627776) (h3 : 0 < m) (h4 : m ≤ 9223372036854775807) W hW => by
    have h := count_any e he c d m (by unfold Ca.I64; omega) (by unfold Ca.I64; omega) h3 h4 W hW
    rw [lo_id h1.1, up_id h2.2] at h
    exact h
  have hby := fun k => cnt_by e (a := lo a) (t := up t) (k := k) hlo.1
  have hC : ¬ most ≤ 0 → ctd e a t most = min ((cnt e (lo a) (up t) : Nat) : Int) most := fun h => by unfold ctd; rw [if_neg h]
  generalize ctd e a t most = C at hz hC ⊢
  generalize lo a = A at hw hlo hz hby hC
  generalize up t = T at hw hup hz hby hC
  have HV := Lib.hid (And.intro hV (And.intro b1 (And.intro b2 hdV)))
  have HC := Lib.hid (And.intro hw (And.intro hct (And.intro hby (And.intro hC hz))))
  unfold Ca.I64 at hm
  clear hw hct hby hC hz hV b1 b2 b3 hdV hd he ha ht
  by_cases hat : T ≤ A
  · obtain rfl := HC.out.2.2.2.2 (.inl hat)
    go_enter Tryd.func15, Tryd.ntmps15
    go_wp2_with fail
    rw [← HV.out.1]
    refine (HC.out.1 _).mono ?_
    rintro q w1 ⟨rfl, rfl⟩
    go_wp2_with fail
    go_ret
    exact ⟨rfl, HV.out.2.1⟩
  have hat' : A < T := by omega
  by_cases hm0 : most ≤ 0
  · obtain rfl := HC.out.2.2.2.2 (.inr hm0)
    go_enter Tryd.func15, Tryd.ntmps15
    go_wp2_with fail
    rw [← HV.out.1]
    refine (HC.out.1 _).mono ?_
    rintro q w1 ⟨rfl, rfl⟩
    go_wp2_with fail
    go_ret
    exact ⟨rfl, HV.out.2.1⟩
  have hm1 : 0 < most := by omega
  obtain ⟨M, rfl⟩ : ∃ M : Nat, most = (M : Nat) := ⟨most.toNat, by omega⟩
  obtain ⟨k, hk⟩ : ∃ k : Nat, (T - A) / 210379680 = (k : Nat) := ⟨((T - A) / 210379680).toNat, by omega⟩
  have hk2 : (T - A).tdiv 210379680 = (k : Nat) := by rw [Int.tdiv_eq_ediv_of_nonneg (by omega)]; exact hk
  have hk3 : A ≤ T - 210379680 * k ∧ T - 210379680 * k < A + 210379680 ∧ k ≤ 5300 := by omega
  rw [Int.mul_comm 210379680 (k : Int)] at hk3
  obtain ⟨Rr, hRr⟩ : ∃ R : Int, R = T - (k : Int) * 210379680 := ⟨_, rfl⟩
  have hCe := HC.out.2.2.2.1 hm0
  have hbyk := HC.out.2.2.1 k (by omega)
  rw [Int.mul_comm 210379680 (k : Int)] at hbyk
  rw [← hRr] at hbyk hk3
  have HR := Lib.hid (And.intro hCe hbyk)
  clear hCe hbyk
  go_enter Tryd.func15, Tryd.ntmps15
  go_wp2_with fail
  rw [← HV.out.1]
  refine (HC.out.1 _).mono ?_
  rintro q w1 ⟨rfl, rfl⟩
  obtain ⟨⟨c0, c1, c2, c3, c4, c5, c6⟩, _⟩ := seven HV.out.2.2.1
  go_wp2_with fail
  rw [← hRr]
  have hRT : (k : Int) = 0 ∧ Rr = T ∨ 0 < (k : Int) ∧ Rr + 210379680 ≤ T := by omega
  have hRb : -1 ≤ Rr ∧ Rr ≤ 1099511627776 := by omega
  refine (HC.out.2.1 A Rr M ⟨hlo.1, by omega⟩ hRb (by omega) (by omega) _ HV.out.2.2.2).mono ?_
  rintro q w2 ⟨rfl, hb⟩
  have hd2 := HV.out.2.2.2.old hb
  have hx2 := old_blk hb HV.out.2.2.1
  have H2 := Lib.hid (And.intro (HV.out.2.1.trans (hb.mono HV.out.2.1.size)) hd2)
  have hle1 := cnt_le e A Rr
  clear hb hd2 c0 c1 c2 c3 c4 c5 c6 hRr hk hk2
  obtain ⟨⟨c0, c1, c2, c3, c4, c5, c6⟩, _⟩ := seven hx2
  rcases hRT with ⟨hk0, hRT⟩ | ⟨hk0, hRT⟩
  · obtain rfl : k = 0 := by omega
    subst hRT
    have hCC : C = ((min (cnt e A Rr) M : Nat) : Int) := by rw [HR.out.1]; omega
    have hC2 := Lib.hid hCC
    clear hCC HR
    generalize cnt e A Rr = x at hle1 hC2 ⊢
    obtain ⟨y, hy⟩ : ∃ y, y = min x M := ⟨_, rfl⟩
    rw [← hy] at hC2 ⊢
    have hyM : y ≤ M := by omega
    clear hy
    go_wp2_with fail
    go_ret
    refine ⟨congrArg (fun z => Ending.returned (.int .i64 z)) ?_, H2.out.1⟩
    rw [hC2.out]; omega
  · go_wp2_with fail
    refine (HC.out.2.1 Rr (Rr + 210379680) M hRb ⟨by omega, by omega⟩ (by omega) (by omega) _ H2.out.2).mono ?_
    rintro q w3 ⟨rfl, hb⟩
    have H3 := Lib.hid (H2.out.1.trans (hb.mono H2.out.1.size))
    have hle2 := cnt_le e Rr (Rr + 210379680)
    have hmin := min_by (x := cnt e A Rr) (y := cnt e Rr (Rr + 210379680)) (k := k) (M := M) (by omega)
    have hCC : C = ((min (cnt e A T) M : Nat) : Int) := by rw [HR.out.1]; omega
    rw [HR.out.2, ← hmin] at hCC
    generalize cnt e A Rr = x at hle1 hCC ⊢
    generalize cnt e Rr (Rr + 210379680) = y at hle2 hCC ⊢
    obtain ⟨x', hx'⟩ : ∃ x', x' = min x M := ⟨_, rfl⟩
    obtain ⟨y', hy'⟩ : ∃ y', y' = min y M := ⟨_, rfl⟩
    rw [← hx', ← hy'] at hCC ⊢
    have hx9 : x' ≤ 210379680 := by omega
    have hy9 : y' ≤ 210379680 := by omega
    have hP0 : k * y' ≤ 5300 * 210379680 := Nat.mul_le_mul hk3.2.2 hy9
    obtain ⟨P, hP⟩ : ∃ P : Nat, P = k * y' := ⟨_, rfl⟩
    rw [← hP] at hCC hP0
    have hPI : (k : Int) * (y' : Int) = (P : Int) := by rw [hP]; simp
    have hmul : IntKind.i64.wrap ((k : Int) * (y' : Int)) = (P : Int) := by rw [hPI]; exact IntWalk.i64_in _ (by omega)
    have hC2 := Lib.hid hCC
    clear hb c0 c1 c2 c3 c4 c5 c6 hmin hCC hP hx' hy' hle1 hle2
    go_wp2_with fail
    go_ret
    refine ⟨congrArg (fun z => Ending.returned (.int .i64 z)) ?_, H3.out⟩
    rw [hC2.out]; omega
end Go.Proofs.YtheaimlfngaaoaaDoor.Fi
