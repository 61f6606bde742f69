
/- wheels: what a turn takes out -/
import Derived.Test.YtcafiehlhdoibaaWh7
namespace Go.Proofs.Ytcafiehlhdoibaa.Wh
open Go.RowKit Go.Lib Go.Sort Go.Maps Hp Ht
set_option linter.unusedVariables false
set_option maxRecDepth 20000
theorem run_index_arr (A : List Value) (hA : A.length = 64) (d : Nat) (hd : d < 64) (o : Option Nat) (hv : A[d]? = some (.map o)) (W : World) : (Instr.index 64 (.agg A.toArray) (.int .i64 ((d : Nat) : Int))).run Try.prog W = .ok (.map o) W := by
  have h1 : (0 : Int) ≤ ((d : Nat) : Int) ∧ ((d : Nat) : Int) < ((64 : Nat) : Int) := by omega
  have h2 : A[d]'(by omega) = .map o := by rw [List.getElem?_eq_getElem (by omega)] at hv; exact Option.some.inj hv
  have h3 : ¬ 64 ≤ d := by omega
  simp [Instr.index, run_underlying Try.underlying64, asIntOf, go_sem, part, Try.sizeOf63, Try.isAgg63, Result.andThen, hv, h3]
theorem wrap_up {m : Nat} (h : m ≤ 1000000) : wrap64 (((m : Nat) : Int) + 1) = ((m + 1 : Nat) : Int) := by unfold wrap64; omega
theorem pc_nat {a b : Nat} (h : ¬ b ≤ a) : pc ((a : Nat) : Int) ((b : Nat) : Int) = 1 + 64 * lv b a + dg b (lv b a) := by
  unfold pc pn
  rw [Int.toNat_natCast, Int.toNat_natCast, if_neg h]
section
variable {S : Nat → Prop} {w : World} {wb ab : Nat} {sv : Nat → Option Nat} {now : Int} {most n : Nat} {f h : K → Option Int}
theorem row_cells (q : Wq S w wb ab sv now most n f h) {l : Nat} (hl : l < 7) : ∃ A : List Value, A.length = 64 ∧ (∀ d, d < 64 → A[d]? = some (.map (sv (1 + 64 * l + d)))) ∧ w.rangeAt wb (4 + l * 64) A := by
  refine ⟨(List.range 64).map fun d => .map (sv (1 + 64 * l + d)), by simp, fun d hd => by simp [hd], fun j v hj => ?_⟩
  have hj2 : j < 64 := by
    have := (List.getElem?_eq_some_iff.1 hj).1
    simpa using this
  have := q.cell.2.2.2 (1 + 64 * l + j) (by omega)
  rw [show 3 + (1 + 64 * l + j) = 4 + l * 64 + j by omega] at this
  rw [this]
  simp [hj2] at hj
  rw [hj]
set_option maxHeartbeats 2000000 in
theorem passed_any (q : Wq S w wb ab sv now most n f h) (hn : n ≤ 400000) {to : Int} (hto : Tk to) (hle : now ≤ to) : Calls Try.prog 30 #[.pointer (some ⟨wb, 0, none⟩), .int .i64 to] w fun e w' =>
    ∃ v row, e = .returned v ∧ Ps S w wb ab sv now most n f h (pc now to + 1) w' v row := by
  have hmix : Try.prog.follows .mixedOrders = true := by kernel_rfl
  have hnt := q.tick
  have hl1 := hto.lt
  have hl2 := hnt.lt
  obtain ⟨tn, rfl⟩ : ∃ x : Nat, to = x := ⟨to.toNat, by have := hto.1; omega⟩
  obtain ⟨nn, rfl⟩ : ∃ x : Nat, now = x := ⟨now.toNat, by have := hnt.1; omega⟩
  rw [Int.toNat_natCast] at hl1 hl2
  have hT : ∀ {s : Nat} {X : World} {v : Value} {row : List (K × Int)} (p : Ps S w wb ab sv ((nn : Nat) : Int) most n f h s X v row) (hs : s < 449), Calls Try.prog 38 #[.map (sv s), v] X fun e X' => ∃ v' row', e = .returned v' ∧ Ps S w wb ab sv ((nn : Nat) : Int) most n f h (s + 1) X' v' row' :=
    fun p hs => p.take (fun k t e => q.sub k t e) q.size hs hn
  have p0 := Ps.start q
  have c3 := p0.q.cell.2.2.2 0 (by omega)
  have h0 := hT p0 (by omega)
  have HT := Lib.hid (fun s X v row p hs => @hT s X v row p hs)
  clear hT q hto hnt hn p0
  obtain ⟨P, hP⟩ : ∃ P, P = pc ((nn : Nat) : Int) ((tn : Nat) : Int) + 1 := ⟨_, rfl⟩
  rw [← hP]
  have HQ := Lib.hid hP
  clear hP
  go_enter Try.func30, Try.ntmps30
  go_wp2_with fail
  refine h0.mono ?_
  rintro e w1 ⟨v1, row1, rfl, p1⟩
  have c0 := p1.q.cell.1
  obtain ⟨a1, k1, rfl⟩ := own_shape p1.own
  by_cases hne : tn = nn
  · subst hne
    have HP := Lib.hid p1
    clear p1 h0 hle hl1 hl2 c3
    generalize row1.length = rn at *
    go_wp2_with fail
    go_ret
    exact ⟨_, row1, rfl, by rw [HQ.out, pc_self]; exact HP.out⟩
  · have hne2 : ((tn : Nat) : Int) ≠ ((nn : Nat) : Int) := by omega
    have hL := fun W => level_any tn nn W hl1 hl2 hne
    obtain ⟨_, _, h7⟩ := lv_spec (a := tn) (b := nn) hne hl1 hl2
    have hD := fun W => digit_any tn (lv tn nn) W hl1 h7
    have h64 := dg_lt tn (lv tn nn)
    have hpc := pc_nat (a := nn) (b := tn) (by omega)
    have hP2 := HQ.out
    rw [hpc] at hP2
    obtain ⟨d0, hd0⟩ : ∃ d, d = dg tn (lv tn nn) := ⟨_, rfl⟩
    rw [← hd0] at hD h64 hP2
    obtain ⟨top, htop⟩ : ∃ d, d = lv tn nn := ⟨_, rfl⟩
    rw [← htop] at hD h7 hL hP2
    have HP2 := Lib.hid hP2
    clear hP2 HQ
    have HP := Lib.hid p1
    clear hpc hd0 htop p1 h0 hle hl1 hl2 c3
    generalize hTN : ((tn : Nat) : Int) = T at *
    generalize hNN : ((nn : Nat) : Int) = N at *
    have HN := Lib.hid hNN
    clear hNN
    generalize row1.length = rn at *
    clear hTN
    go_wp2_with fail
    refine (hL _).mono ?_
    rintro e w1 ⟨rfl, rfl⟩
    clear hL c0
    have ht7 : ((top : Nat) : Int) < 7 := by omega
    go_wp2_with fail
    go_loopw [5, 31] (fun rv cv wr => ∃ v row l, v = rv ∧ cv = .int .i64 ((l : Nat) : Int) ∧ l ≤ top ∧ Ps S w wb ab sv N most n f h (1 + 64 * l) wr v row) (fun _ cv _ => top - (RowKit.intOf cv).toNat)
    case atStart => exact ⟨_, row1, 0, rfl, rfl, Nat.zero_le _, HP.out⟩
    case round =>
      obtain ⟨v, row, l, hrv, hcv, hlt, hp⟩ := hrel
      subst hrv hcv
      by_cases hlx : l < top
      · have hlc : ((l : Nat) : Int) < ((top : Nat) : Int) := by omega
        have hl7 : ((l : Nat) : Int) < 7 := by omega
        have hl0 : (0 : Int) ≤ ((l : Nat) : Int) := by omega
        obtain ⟨A, hA1, hA2, hA3⟩ := row_cells hp.q (l := l) (by omega)
        have HA := Lib.hid (And.intro hA1 (And.intro hA2 hA3))
        have HPl := Lib.hid hp
        have HL := Lib.hid (And.intro hlt hlx)
        clear hp hA1 hA2 hA3 hlt
        go_wp2_with (refine wpList_load_mid rfl 64 _ rfl wb (4 + l * 64) rfl A _ HA.out.2.2 Try.underlying64 rfl (by rw [HA.out.1]; kernel_rfl) ?_)
        go_loopw [5, 40] (fun rv cv wr => ∃ v row d, v = rv ∧ cv = .int .i64 ((d : Nat) : Int) ∧ d ≤ 64 ∧ Ps S w wb ab sv N most n f h (1 + 64 * l + d) wr v row) (fun _ cv _ => 64 - (RowKit.intOf cv).toNat)
        case atStart => exact ⟨_, row, 0, rfl, rfl, Nat.zero_le _, HPl.out⟩
        case round =>
          obtain ⟨v2, row2, d, hrv, hcv, hdt, hp2⟩ := hrel
          subst hrv hcv
          by_cases hdx : d < 64
          · have hdc : ((d : Nat) : Int) < 64 := by omega
            have hix := run_index_arr A HA.out.1 d hdx _ (HA.out.2.1 d hdx)
            have hcall := HT.out _ _ _ _ hp2 (by have := HL.out; omega)
            have hd1 := wrap_up (m := d) (by omega)
            generalize hsv : sv (1 + 64 * l + d) = o9 at *
            clear hsv
            have HE := Lib.hid (And.intro hdt hdx)
            clear hp2 hdt hd1
            go_wp2_with fail
            refine hcall.mono ?_
            rintro e w3 ⟨v3, row3, rfl, p3⟩
            have HZ := Lib.hid p3
            clear p3 hcall hix
            go_wp2_with fail
            go_roundw
            case rel => exact ⟨v3, row3, d + 1, rfl, by simp, HE.out.2, HZ.out⟩
            case measure => have := HE.out; simp [RowKit.intOf]; omega
          · have hde : d = 64 := by omega
            subst hde
            have HZ := Lib.hid hp2
            have hl1 := wrap_up (m := l) (by have := HL.out; omega)
            clear hp2 hl1
            go_wp2_with fail
            go_roundw
            case rel => exact ⟨_, row2, l + 1, rfl, by simp, HL.out.2, HZ.out⟩
            case measure => have := HL.out; simp [RowKit.intOf]; omega
      · have hle : l = top := by omega
        subst hle
        have HPt := Lib.hid hp
        have hd0 : (0 : Int) ≤ ((d0 : Nat) : Int) := by omega
        have hd9 : ((d0 : Nat) : Int) < 64 := by omega
        have hl0 : (0 : Int) ≤ ((l : Nat) : Int) := by omega
        have hw1 : IntKind.i64.wrap (((d0 : Nat) : Int) + 1) = ((d0 : Nat) : Int) + 1 := by rw [IntWalk.i64_in]; omega
        have hw0 : (0 : Int) ≤ ((d0 : Nat) : Int) + 1 := by omega
        have hw9 : ((d0 : Nat) : Int) + 1 ≤ 64 := by omega
        have hw2 : (((d0 : Nat) : Int) + 1).toNat = d0 + 1 := by omega
        clear hp hlx hlt
        go_wp2_with fail
        go_quiet ((go_at_call 40; exact Calls.quiet_of_same (hD _)))
        rename_i nq
        have hpq : Ps S w wb ab sv N most n f h (1 + 64 * l) (wr.drewN nq) v row := HPt.out.kept ⟨rfl, rfl, rfl, Nat.le_refl _, fun _ _ => rfl⟩
        obtain ⟨wq, hwq⟩ : ∃ X, X = wr.drewN nq := ⟨_, rfl⟩
        rw [← hwq] at hpq ⊢
        have HPq := Lib.hid hpq
        clear hpq hwq hD
        go_wp2_with fail
        go_loopw [5, 59] (fun rv cv wr => ∃ v row i, v = rv ∧ cv = .int .i64 ((i : Nat) : Int) ∧ i ≤ d0 + 1 ∧ Ps S w wb ab sv N most n f h (1 + 64 * l + i) wr v row) (fun _ cv _ => d0 + 1 - (RowKit.intOf cv).toNat)
        case atStart => exact ⟨_, row, 0, rfl, rfl, Nat.zero_le _, HPq.out⟩
        case round =>
          obtain ⟨v2, row2, i, hrv, hcv, hdt, hp2⟩ := hrel
          subst hrv hcv
          by_cases hdx : i < d0 + 1
          · have hdc : ((i : Nat) : Int) < ((d0 : Nat) : Int) + 1 := by omega
            have hi0 : (0 : Int) ≤ ((i : Nat) : Int) := by omega
            have hcl := hp2.q.cell.2.2.2 (1 + 64 * l + i) (by omega)
            rw [show 3 + (1 + 64 * l + i) = 4 + l * 64 + i by omega] at hcl
            have hcall := HT.out _ _ _ _ hp2 (by omega)
            generalize hsv : sv (1 + 64 * l + i) = o9 at *
            clear hsv
            have HE := Lib.hid (And.intro hdt hdx)
            clear hp2 hdt
            go_wp2_with fail
            refine hcall.mono ?_
            rintro e w3 ⟨v3, row3, rfl, p3⟩
            have HZ := Lib.hid p3
            clear p3 hcall hcl
            go_wp2_with fail
            go_roundw
            case rel => exact ⟨v3, row3, i + 1, rfl, by simp, HE.out.2, HZ.out⟩
            case measure => have := HE.out; simp [RowKit.intOf]; omega
          · have hde : i = d0 + 1 := by omega
            have hdc : ((d0 : Nat) : Int) + 1 ≤ ((i : Nat) : Int) := by omega
            have HZ := Lib.hid hp2
            have HE := Lib.hid hde
            obtain ⟨a2, k2, rfl⟩ := own_shape hp2.own
            clear hp2 hde
            go_wp2_with fail
            go_ret
            exact ⟨_, row2, rfl, by rw [HP2.out]; have := HZ.out; rw [HE.out, ← HN.out] at this; exact this⟩
end
end Go.Proofs.Ytcafiehlhdoibaa.Wh
