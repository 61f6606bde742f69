
/- fires: the ticks of a day, one by one: the walk -/
import Derived.Test.YtkkanggkbbmfnaaGreatDoorFi3
namespace Go.Proofs.YtkkanggkbbmfnaaGreatDoor.Fi
open Go.RowKit Go.Lib Go.Proofs.YtkkanggkbbmfnaaGreatDoor.Cn Go.Proofs.YtkkanggkbbmfnaaGreatDoor.Rg
attribute [local go_sem] Oper.semAt_some
set_option linter.unusedVariables false

theorem ticks_any (e : Ex) (F a : Int) (w : World) :
    Calls Tryz.prog 45 #[exv e, .int .i64 F, .int .i64 a] w fun r w' => r = .returned (.func (.func 72) #[] (tickB w.heap.size)) ∧
      w' = ((w.alloc (.cells (exC e) 57)).alloc (.cells #[.int .i64 F] 2)).alloc (.cells #[.int .i64 a] 2) := by
  have hmf : ∀ (fn : Fn) (first cap : Array Value) (w : World), (Instr.makeFunc fn first cap).run Tryz.prog w = .ok (.func fn first cap) w := fun _ _ _ _ => rfl
  go_enter Tryz.func45, Tryz.ntmps45
  go_wp2_with go_in
  go_ret
  exact ⟨rfl, rfl⟩
theorem band_next {n k c : Nat} (h3 : hi n k &&& (hi n k - 1) = hi n (c + 1)) : bits .and .u64 ((hi n k : Nat) : Int) (((hi n k - 1 : Nat)) : Int) = ((hi n (c + 1) : Nat) : Int) := by
  rw [← h3]; exact u64_and_nat _ _ (mk_lt _) (Nat.lt_of_le_of_lt (Nat.sub_le _ _) (mk_lt _))
set_option maxRecDepth 20000 in
set_option maxHeartbeats 8000000 in
theorem ticks_iter (n b : Nat) (e : Ex) (he : ExOk e) (F a : Int) (hF : 0 ≤ F ∧ F ≤ 1099511627776) (ha : -1 ≤ a ∧ a ≤ 1099511627776) (w : World) (ht : TB b e F a w) :
    SeqI Fence.wide n Tryz.prog 72 (tickB b) (tbox b) a (TG e F a) (TS e F) w := by
  intro own l J K W hW hown hJ hK hY hJ0
  have hmix : Tryz.prog.follows .mixedOrders = true := by kernel_rfl
  have hHm : bits .and .u64 ((e.b : Nat) : Int) 16777215 = ((hM e : Nat) : Int) := u64_and_nat _ 16777215 he.b (by decide)
  have hMm : bits .and .u64 ((e.a : Nat) : Int) 1152921504606846975 = ((mM e : Nat) : Int) := u64_and_nat _ 1152921504606846975 he.a (by decide)
  have HY := Lib.hid (And.intro hJ (And.intro hY hown))
  have HJ0 := Lib.hid hJ0
  have htW := ht.old hW
  have HW := Lib.hid (And.intro hW htW)
  obtain ⟨⟨c0, c1, c2, c3, c4, c5, c6⟩, _⟩ := seven htW.e
  clear hJ hK hY hJ0 hW ht hown htW
  refine callsIn_of_wp Tryz.func72 rfl trivial ?_ rfl
  simp only [Tryz.ntmps72, List.size_toArray, List.length_cons, List.length_nil, Nat.reduceAdd, Nat.reduceSub, Array.replicate_succ, Array.replicate_zero, List.push_toArray, List.append_toArray, List.nil_append, List.cons_append]
  gi_wp2_with fail
  clear c0 c1 c2 c3 c4 c5 c6
  gi_loopw [5] (fun x wr => ∃ (k : Nat) (p : Int), x = u (hi (hM e) k) ∧ k ≤ 64 ∧ Hp e F a k p ∧ J p wr ∧ TB b e F a wr ∧ W.heap.size ≤ wr.heap.size) (fun x _ => (RowKit.intOf x).toNat)
  case atStart => exact ⟨0, a, by rw [hi_zero (hM_lt e)], Nat.zero_le _, ⟨Int.le_refl _, fun u hu ht => by have := ht.1; omega, .inl rfl⟩, HJ0.out, HW.out.2, Nat.le_refl _⟩
  case round =>
    obtain ⟨k, p, rfl, hk, hp, hj, htb, hz⟩ := hrel
    by_cases hX : hi (hM e) k = 0
    · have hd := hp.done hX
      have HD := Lib.hid (And.intro hd hj)
      clear hd hj hp htb
      rw [hX]
      gi_wp2_with fail
      go_end0
      exact ⟨⟨_, rfl⟩, .inl ⟨p, HD.out.1, HD.out.2⟩⟩
    · obtain ⟨c1, c2, c3, c4, c5⟩ := hi_one (hM_lt e) hX hk
      have hl := fun n => least_any (hi (hM e) k) (mk_lt _) (wr.drewN n) (htb.d.keep rfl)
      have hband := band_next c3
      have hlt : hi (hM e) (lst (hi (hM e) k) + 1) < hi (hM e) k := by
        rw [← c3]
        have := Nat.and_le_right (n := hi (hM e) k) (m := hi (hM e) k - 1)
        omega
      have hml : hi (hM e) k < 18446744073709551616 := mk_lt _
      have i24 : lst (hi (hM e) k) < 24 := by rw [hM_bit, Bool.and_eq_true, decide_eq_true_eq] at c4; exact c4.2
      generalize lst (hi (hM e) k) = i at c1 c2 c3 c4 c5 hl hband hlt i24
      have hmh := hp.hour c2 c5
      have hsk := fun h => hp.skip c2 (i := i) h
      obtain ⟨Y, hY⟩ : ∃ Y, Y = hi (hM e) (i + 1) := ⟨_, rfl⟩
      rw [← hY] at hband hlt c3
      generalize hi (hM e) k = X at hX hml hl hband hlt c3 ⊢
      have hXI : ((X : Int) != 0) = true := by simp; omega
      have hsub : IntKind.u64.wrap ((X : Int) - 1) = ((X - 1 : Nat) : Int) := by rw [IntWalk.u64_in _ (by omega)]; omega
      obtain ⟨k1, _⟩ := one_cell htb.f
      obtain ⟨k2, _⟩ := one_cell htb.a
      have HP := Lib.hid (And.intro hmh (And.intro hsk (And.intro hlt (And.intro hY (And.intro c4 hp.ga)))))
      have HT := Lib.hid (And.intro htb hj)
      clear hmh hsk hlt hY c3 c4 c5 htb hj hp c1 c2
      gi_wp2_with fail
      refine wpIn_wide.2 ?_
      go_quiet ((go_at_call 68; exact Calls.quiet_of_same (hl _)))
      obtain ⟨V, hV⟩ : ∃ V, V = wr.drewN nq := ⟨_, rfl⟩
      have htV : TB b e F a V := by rw [hV]; exact HT.out.1.old (below_drewN (Below.refl _ _) nq)
      have hjV : J p V := by rw [hV]; exact HY.out.1 _ _ _ HT.out.2 (below_drewN (Below.refl _ _) nq)
      have hzV : W.heap.size ≤ V.heap.size := by rw [hV]; exact hz
      rw [← hV]
      clear hV k1 k2 hl HT
      obtain ⟨k2, _⟩ := one_cell htV.a
      obtain ⟨⟨e0, e1, e2, e3, e4, e5, e6⟩, _⟩ := seven htV.e
      have HV := Lib.hid (And.intro htV hjV)
      clear htV hjV
      by_cases hs : F + 60 * i + 60 ≤ a
      · gi_wp2_with fail
        refine ⟨⟨i + 1, p, by rw [HP.out.2.2.2.1], by omega, HP.out.2.1 hs, HV.out.2, HV.out.1, hzV⟩, ?_⟩
        simpa [RowKit.intOf] using HP.out.2.2.1
      · have hs' : a < F + 60 * i + 60 := by omega
        gi_wp2_with fail
        clear e0 e1 e2 e3 e4 e5 e6
        gi_loopw [7] (fun x wr => ∃ (j : Nat) (p : Int), x = u (hi (mM e) j) ∧ j ≤ 60 ∧ Mp e F a i j p ∧ J p wr ∧ TB b e F a wr ∧ W.heap.size ≤ wr.heap.size) (fun x _ => (RowKit.intOf x).toNat)
        case atStart => exact ⟨0, p, by rw [hi_zero (mM_lt e)], Nat.zero_le _, HP.out.1, HV.out.2, HV.out.1, hzV⟩
        case round =>
          clear HV hzV k2 hz
          obtain ⟨j, p, rfl, hj60, hmp, hj, htb, hz⟩ := hrel
          by_cases hZ : hi (mM e) j = 0
          · have hpd := hmp.hour hZ hj60
            have HD := Lib.hid (And.intro hpd (And.intro hj (And.intro htb hz)))
            clear hpd hj htb hmp hz
            rw [hZ]
            gi_wp2_with fail
            refine ⟨⟨i + 1, p, by rw [HP.out.2.2.2.1], by omega, HD.out.1, HD.out.2.1, HD.out.2.2.1, HD.out.2.2.2⟩, ?_⟩
            simpa [RowKit.intOf] using HP.out.2.2.1
          · obtain ⟨c1, c2, c3, c4, c5⟩ := hi_one (mM_lt e) hZ (by omega)
            have hl := least_any (hi (mM e) j) (mk_lt _) wr htb.d
            have hband2 := band_next c3
            have hlt2 : hi (mM e) (lst (hi (mM e) j) + 1) < hi (mM e) j := by
              rw [← c3]
              have := Nat.and_le_right (n := hi (mM e) j) (m := hi (mM e) j - 1)
              omega
            have hml2 : hi (mM e) j < 18446744073709551616 := mk_lt _
            have m60 : lst (hi (mM e) j) < 60 := by rw [mM_bit, Bool.and_eq_true, decide_eq_true_eq] at c4; exact c4.2
            generalize lst (hi (mM e) j) = m at c1 c2 c3 c4 c5 hl hband2 hlt2 m60
            have hmiss := fun h => hmp.miss c2 h
            have hhit := fun h => hmp.hit HP.out.2.2.2.2.1 c4 c2 c5 h
            obtain ⟨Y2, hY2⟩ : ∃ Y, Y = hi (mM e) (m + 1) := ⟨_, rfl⟩
            rw [← hY2] at hband2 hlt2 c3
            generalize hi (mM e) j = X2 at hZ hml2 hl hband2 hlt2 c3 ⊢
            have hXI2 : ((X2 : Int) != 0) = true := by simp; omega
            have hsub2 : IntKind.u64.wrap ((X2 : Int) - 1) = ((X2 - 1 : Nat) : Int) := by rw [IntWalk.u64_in _ (by omega)]; omega
            obtain ⟨k2, _⟩ := one_cell htb.a
            have HQ := Lib.hid (And.intro hmiss (And.intro hhit (And.intro hlt2 hY2)))
            have HT := Lib.hid (And.intro htb (And.intro hj hz))
            clear hmiss hhit hlt2 hY2 c3 c4 c5 htb hj hmp c1 c2 hz
            by_cases hta : F + 60 * i + m ≤ a
            · gi_wp2_with fail
              refine ⟨trivial, (fun h => by cases h), (callsIn_wide.2 hl).mono ?_⟩
              rintro q w1 ⟨rfl, rfl⟩
              gi_wp2_with fail
              refine ⟨(fun f h => by cases h), ?_⟩
              gi_wp2_with fail
              refine ⟨⟨m + 1, p, by rw [HQ.out.2.2.2], by omega, HQ.out.1 hta, HT.out.2.1, HT.out.1, HT.out.2.2⟩, ?_⟩
              simpa [RowKit.intOf] using HQ.out.2.2.1
            · have hta' : a < F + 60 * i + m := by omega
              obtain ⟨⟨g1, g2, g3⟩, g4⟩ := HQ.out.2.1 hta'
              obtain ⟨fn, tmps, assign, body, hy, hR⟩ := HY.out.2.1 p (F + 60 * i + m) wr HT.out.2.1 ⟨hta', g1, g2, g3⟩ HT.out.2.2
              have HG := Lib.hid g4
              clear g1 g2 g3 g4 hta
              gi_wp2_with fail
              refine ⟨trivial, (fun h => by cases h), (callsIn_wide.2 hl).mono ?_⟩
              rintro q w1 ⟨rfl, rfl⟩
              gi_wp2_with fail
              refine ⟨(fun h => by cases h), hR.mono ?_⟩
              rintro e' W3 (⟨rfl, hJ3, hm3⟩ | ⟨rfl, hK3, _⟩)
              · have ht3 := HT.out.1.keep hm3 (fun k hk => (HY.out.2.2 k hk).1)
                have hz3 := Nat.le_trans HT.out.2.2 hm3.size
                have HF := Lib.hid (And.intro hJ3 (And.intro ht3 hz3))
                clear hJ3 hm3 ht3 hz3 k2
                gi_wp2_with fail
                refine ⟨⟨m + 1, F + 60 * i + m, by rw [HQ.out.2.2.2], by omega, HG.out, HF.out.1, HF.out.2.1, HF.out.2.2⟩, ?_⟩
                simpa [RowKit.intOf] using HQ.out.2.2.1
              · gi_wp2_with fail
                refine bodyPost_ret (results_none rfl _ _ _) rfl ?_
                exact ⟨⟨_, rfl⟩, .inr ⟨_, hK3⟩⟩
end Go.Proofs.YtkkanggkbbmfnaaGreatDoor.Fi
