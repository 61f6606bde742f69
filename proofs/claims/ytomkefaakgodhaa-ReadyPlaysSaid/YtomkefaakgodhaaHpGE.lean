
/- heaps of string and uint64: settle -/
import Derived.Test.YtomkefaakgodhaaHpEE
namespace Go.Proofs.Ytomkefaakgodhaa.HpE
open Go.RowKit Go.Lib Go.Sort Hp
set_option linter.unusedVariables false
set_option maxRecDepth 20000
section
variable {S : Nat → Prop} {w : World} {hb : Nat} {iv mv : Value} {l : List (K × Int)} {f : K → Option Nat}
theorem Hq.old {Y : World} (h : Hq S w hb iv mv l f) (e : Below w.heap.size w Y) : Hq S Y hb iv mv l f := h.kept e.size fun k hk => e.block k (h.size k hk)
/-- settled all but for a place -/
structure Sx (S : Nat → Prop) (w : World) (hb : Nat) (iv mv : Value) (l : List (K × Int)) (wr : World) (l' : List (K × Int)) : Prop where
  hq : ∃ f', Hq S wr hb iv mv l' f'
  perm : l'.Perm l
  fr : Fr S w wr
theorem Sx.len {wr : World} {l' : List (K × Int)} (h : Sx S w hb iv mv l wr l') : l'.length = l.length := h.perm.length_eq
theorem Sx.old {wr Y : World} {l' : List (K × Int)} (h : Sx S w hb iv mv l wr l') (e : Below wr.heap.size wr Y) : Sx S w hb iv mv l Y l' :=
  ⟨h.hq.elim fun f' hf => ⟨f', hf.old e⟩, h.perm, h.fr.trans (Fr.of_below (S := S) e) fun x hx => .inl hx⟩
theorem Sx.ahead {wr : World} {l' : List (K × Int)} (h : Sx S w hb iv mv l wr l') {i j : Nat} (hi : i < l.length) (hj : j < l.length) (hn : l.length ≤ 1000000) :
    Calls Try.prog 44 #[.pointer (some ⟨hb, 0, none⟩), .int .i64 ((i : Nat) : Int), .int .i64 ((j : Nat) : Int)] wr fun e w' => e = .returned (.bool (ltp (el l' i) (el l' j))) ∧ Sx S w hb iv mv l w' l' := by
  obtain ⟨f', hf⟩ := h.hq
  refine (ahead_any hf (by rw [h.len]; exact hi) (by rw [h.len]; exact hj) (by rw [h.len]; exact hn)).mono ?_
  rintro e w1 ⟨rfl, hb1⟩
  exact ⟨rfl, h.old hb1⟩
theorem Sx.below {wr : World} {l' : List (K × Int)} (h : Sx S w hb iv mv l wr l') {i : Nat} (hi : i < l.length) (hn : l.length ≤ 1000000) :
    Calls Try.prog 47 #[.pointer (some ⟨hb, 0, none⟩), .int .i64 ((i : Nat) : Int)] wr fun e w' => e = .returned (.int .i64 ((kid ltp l' i : Nat) : Int)) ∧ Sx S w hb iv mv l w' l' := by
  obtain ⟨f', hf⟩ := h.hq
  refine (below_any hf (by rw [h.len]; exact hi) (by rw [h.len]; exact hn)).mono ?_
  rintro e w1 ⟨rfl, hb1⟩
  exact ⟨rfl, h.old hb1⟩
theorem Sx.swap {wr : World} {l' : List (K × Int)} (h : Sx S w hb iv mv l wr l') {i j : Nat} (hi : i < l.length) (hj : j < l.length) (hn : l.length ≤ 1000000) :
    Calls Try.prog 46 #[.pointer (some ⟨hb, 0, none⟩), .int .i64 ((i : Nat) : Int), .int .i64 ((j : Nat) : Int)] wr fun e w' => e = .returned (.tuple #[]) ∧ Sx S w hb iv mv l w' (sw l' i j) := by
  obtain ⟨f', hf⟩ := h.hq
  refine (swap_any hf (by rw [h.len]; exact hi) (by rw [h.len]; exact hj) (by rw [h.len]; exact hn)).mono ?_
  rintro e w1 ⟨rfl, h1, h2⟩
  exact ⟨rfl, h1, (sw_perm l' (by rw [h.len]; exact hi) (by rw [h.len]; exact hj)).trans h.perm, h.fr.trans h2 fun x hx => .inl hx⟩
theorem Sx.shape {wr : World} {l' : List (K × Int)} (h : Sx S w hb iv mv l wr l') : ∃ a cap, iv = .slice a l.length cap ∧ l.length ≤ cap ∧ wr.cell? ⟨hb, 0, none⟩ = some iv := by
  obtain ⟨f', hf⟩ := h.hq
  obtain ⟨a, cap, h1, h2⟩ := hf.shape
  rw [h.len] at h1 h2
  exact ⟨a, cap, h1, h2, hf.items⟩
set_option maxHeartbeats 1000000 in
theorem settle_any (h : Hq S w hb iv mv l f) {i : Nat} (hi : i < l.length) (hn : l.length ≤ 1000000) (ho : Okx ltp i l) :
    Calls Try.prog 36 #[.pointer (some ⟨hb, 0, none⟩), .int .i64 ((i : Nat) : Int)] w fun e w' => e = .returned (.tuple #[]) ∧ ∃ l', Sx S w hb iv mv l w' l' ∧ Hpd ltp l' := by
  have HQ := Lib.hid (And.intro (⟨⟨f, h⟩, List.Perm.refl _, Fr.refl S w⟩ : Sx S w hb iv mv l w l) ho)
  have HN := Lib.hid (And.intro hn hi)
  clear h ho hn hi
  go_enter Try.func36, Try.ntmps36
  go_wp2_with fail
  go_loopw [1] (fun i wr => ∃ (k : Nat) (q : List (K × Int)), i = .int .i64 ((k : Nat) : Int) ∧ Sx S w hb iv mv l wr q ∧ Okx ltp k q ∧ k < l.length) (fun i _ => (RowKit.intOf i).toNat)
  case atStart => exact ⟨i, l, rfl, HQ.out.1, HQ.out.2, HN.out.2⟩
  case round =>
    obtain ⟨k, q, rfl, hsx, hok, hk⟩ := hrel
    clear HQ
    by_cases h0 : 0 < k
    · have hU := fun W => above_any k W h0 (by have := HN.out.1; omega)
      have hA := hsx.ahead (i := k) (j := par k) hk (by have := par_lt h0; omega) HN.out.1
      have HR := Lib.hid (And.intro hsx (And.intro hok (And.intro hk h0)))
      obtain ⟨t, ht⟩ : ∃ t, t = ltp (el q k) (el q (par k)) := ⟨_, rfl⟩
      rw [← ht] at hA
      have HT := Lib.hid ht
      have HU := Lib.hid hU
      have h0x : (0 : Int) < ((k : Nat) : Int) := by omega
      clear hsx hok hk ht hU h0
      go_wp2_with fail
      refine (HU.out _).mono ?_
      rintro e w2 ⟨rfl, rfl⟩
      go_wp2_with fail
      refine hA.mono ?_
      rintro e w3 ⟨rfl, h3⟩
      clear hA
      cases t with
      | true =>
        have hS3 := h3.swap (i := k) (j := par k) HR.out.2.2.1 (by have := par_lt HR.out.2.2.2; have := HR.out.2.2.1; omega) HN.out.1
        have H3 := Lib.hid (And.intro h3 hS3)
        clear h3 hS3
        go_wp2_with fail
        refine (HU.out _).mono ?_
        rintro e w4 ⟨rfl, rfl⟩
        go_wp2_with fail
        refine H3.out.2.mono ?_
        rintro e w5 ⟨rfl, h5⟩
        have ho5 : Okx ltp (par k) (sw q k (par k)) := HR.out.2.1.up (swo Hp.tot_str) HR.out.2.2.2 (by rw [H3.out.1.len]; exact HR.out.2.2.1) HT.out.symm
        have H5 := Lib.hid (And.intro h5 ho5)
        clear h5 ho5 H3
        go_wp2_with fail
        refine (HU.out _).mono ?_
        rintro e w6 ⟨rfl, rfl⟩
        go_wp2_with fail
        exact ⟨⟨_, _, rfl, H5.out.1, H5.out.2, by have := par_lt HR.out.2.2.2; have := HR.out.2.2.1; omega⟩, by have := par_lt HR.out.2.2.2; simp [RowKit.intOf]; omega⟩
      | false =>
        have HX := Lib.hid (And.intro h3 (And.intro (HR.out.2.1.dn (.inr HT.out.symm)) (And.intro HR.out.2.2.1 True.intro)))
        clear h3 HR HT HU
        go_wp2_with fail
        refine (HX.out.1.below HX.out.2.2.1 HN.out.1).mono ?_
        rintro e w2 ⟨rfl, h2⟩
        have H2 := Lib.hid (And.intro h2 (And.intro HX.out.2.1 HX.out.2.2.1))
        clear h2 HX
        obtain ⟨m0, hm0⟩ : ∃ m, m = kid ltp q k := ⟨_, rfl⟩
        rw [← hm0]
        have HM0 := Lib.hid hm0
        clear hm0
        go_wp2_with fail
        go_loopw [1, 4] (fun i j wr => ∃ (k : Nat) (m : Nat) (q : List (K × Int)), i = .int .i64 ((k : Nat) : Int) ∧ j = .int .i64 ((m : Nat) : Int) ∧ m = kid ltp q k ∧ Sx S w hb iv mv l wr q ∧ Dn ltp k q ∧ k < l.length) (fun i _ _ => l.length - (RowKit.intOf i).toNat)
        case atStart => exact ⟨_, _, _, rfl, rfl, HM0.out, H2.out.1, H2.out.2.1, H2.out.2.2⟩
        case round =>
          obtain ⟨k, m, q, rfl, rfl, hm, hsx, hdn, hk⟩ := hrel
          obtain ⟨a, cap, hiv, hcap, hcell⟩ := hsx.shape
          rw [hiv] at hcell
          have hkm : k < m := by rw [hm]; exact kid_gt q k
          by_cases hlt : m < l.length
          · have hA := hsx.ahead hlt hk HN.out.1
            have HR := Lib.hid (And.intro hm (And.intro hsx (And.intro hdn (And.intro hk (And.intro hiv (And.intro hkm hlt))))))
            obtain ⟨t, ht⟩ : ∃ t, t = ltp (el q m) (el q k) := ⟨_, rfl⟩
            rw [← ht] at hA
            have HT := Lib.hid ht
            obtain ⟨n, hln⟩ : ∃ n, n = l.length := ⟨_, rfl⟩
            rw [← hln] at hcell hcap hlt
            have HLN := Lib.hid hln
            have hltx : ((m : Nat) : Int) < ((n : Nat) : Int) := by omega
            clear hm hsx hdn hk hiv ht hln hkm hlt
            go_wp2_with fail
            refine hA.mono ?_
            rintro e w3 ⟨rfl, h3⟩
            have hS3 := h3.swap (i := k) (j := m) HR.out.2.2.2.1 HR.out.2.2.2.2.2.2 HN.out.1
            have H3 := Lib.hid h3
            clear hA h3 hcell
            cases t with
            | true =>
              have HS3 := Lib.hid hS3
              clear hS3
              go_wp2_with fail
              refine HS3.out.mono ?_
              rintro e w4 ⟨rfl, h4⟩
              have hd4 : Dn ltp m (sw q k m) := by
                have hm := HR.out.1
                rw [hm]
                exact HR.out.2.2.1.down (swo Hp.tot_str) (by rw [← hm, H3.out.len]; exact HR.out.2.2.2.2.2.2) (by rw [← hm]; exact HT.out.symm)
              have hB4 := h4.below (i := m) HR.out.2.2.2.2.2.2 HN.out.1
              have H4 := Lib.hid hd4
              clear h4 hd4
              go_wp2_with fail
              refine hB4.mono ?_
              rintro e w5 ⟨rfl, h5⟩
              clear hB4
              have H5 := Lib.hid h5
              clear h5
              obtain ⟨m5, hm5⟩ : ∃ x, x = kid ltp (sw q k m) m := ⟨_, rfl⟩
              rw [← hm5]
              have HM5 := Lib.hid hm5
              clear hm5
              go_wp2_with fail
              exact ⟨⟨_, _, _, rfl, rfl, HM5.out, H5.out, H4.out, HR.out.2.2.2.2.2.2⟩, by have := HR.out.2.2.2.2.2; simp [RowKit.intOf]; omega⟩
            | false =>
              clear hS3
              go_wp2_with fail
              go_end0
              exact ⟨rfl, q, H3.out, HR.out.2.2.1.stop (swo Hp.tot_str) (.inr (by rw [← HR.out.1]; exact HT.out.symm))⟩
          · have HR := Lib.hid (And.intro hm (And.intro hsx (And.intro hdn (And.intro hk (And.intro hiv hlt)))))
            obtain ⟨n, hln⟩ : ∃ n, n = l.length := ⟨_, rfl⟩
            rw [← hln] at hcell hcap hlt
            have hltx : ((n : Nat) : Int) ≤ ((m : Nat) : Int) := by omega
            clear hm hsx hdn hk hiv hln hkm hlt
            go_wp2_with fail
            go_end0
            exact ⟨rfl, q, HR.out.2.1, HR.out.2.2.1.stop (swo Hp.tot_str) (.inl (by rw [← HR.out.1, HR.out.2.1.len]; have := HR.out.2.2.2.2.2; omega))⟩
    · have hk0 : k = 0 := by omega
      have HX := Lib.hid (And.intro hsx (And.intro (hok.dn (.inl hk0)) (And.intro hk True.intro)))
      have h0x : ((k : Nat) : Int) ≤ (0 : Int) := by omega
      clear hsx hok hk h0 hk0
      go_wp2_with fail
      refine (HX.out.1.below HX.out.2.2.1 HN.out.1).mono ?_
      rintro e w2 ⟨rfl, h2⟩
      have H2 := Lib.hid (And.intro h2 (And.intro HX.out.2.1 HX.out.2.2.1))
      clear h2 HX
      obtain ⟨m0, hm0⟩ : ∃ m, m = kid ltp q k := ⟨_, rfl⟩
      rw [← hm0]
      have HM0 := Lib.hid hm0
      clear hm0
      go_wp2_with fail
      go_loopw [1, 4] (fun i j wr => ∃ (k : Nat) (m : Nat) (q : List (K × Int)), i = .int .i64 ((k : Nat) : Int) ∧ j = .int .i64 ((m : Nat) : Int) ∧ m = kid ltp q k ∧ Sx S w hb iv mv l wr q ∧ Dn ltp k q ∧ k < l.length) (fun i _ _ => l.length - (RowKit.intOf i).toNat)
      case atStart => exact ⟨_, _, _, rfl, rfl, HM0.out, H2.out.1, H2.out.2.1, H2.out.2.2⟩
      case round =>
        obtain ⟨k, m, q, rfl, rfl, hm, hsx, hdn, hk⟩ := hrel
        obtain ⟨a, cap, hiv, hcap, hcell⟩ := hsx.shape
        rw [hiv] at hcell
        have hkm : k < m := by rw [hm]; exact kid_gt q k
        by_cases hlt : m < l.length
        · have hA := hsx.ahead hlt hk HN.out.1
          have HR := Lib.hid (And.intro hm (And.intro hsx (And.intro hdn (And.intro hk (And.intro hiv (And.intro hkm hlt))))))
          obtain ⟨t, ht⟩ : ∃ t, t = ltp (el q m) (el q k) := ⟨_, rfl⟩
          rw [← ht] at hA
          have HT := Lib.hid ht
          obtain ⟨n, hln⟩ : ∃ n, n = l.length := ⟨_, rfl⟩
          rw [← hln] at hcell hcap hlt
          have HLN := Lib.hid hln
          have hltx : ((m : Nat) : Int) < ((n : Nat) : Int) := by omega
          clear hm hsx hdn hk hiv ht hln hkm hlt
          go_wp2_with fail
          refine hA.mono ?_
          rintro e w3 ⟨rfl, h3⟩
          have hS3 := h3.swap (i := k) (j := m) HR.out.2.2.2.1 HR.out.2.2.2.2.2.2 HN.out.1
          have H3 := Lib.hid h3
          clear hA h3 hcell
          cases t with
          | true =>
            have HS3 := Lib.hid hS3
            clear hS3
            go_wp2_with fail
            refine HS3.out.mono ?_
            rintro e w4 ⟨rfl, h4⟩
            have hd4 : Dn ltp m (sw q k m) := by
              have hm := HR.out.1
              rw [hm]
              exact HR.out.2.2.1.down (swo Hp.tot_str) (by rw [← hm, H3.out.len]; exact HR.out.2.2.2.2.2.2) (by rw [← hm]; exact HT.out.symm)
            have hB4 := h4.below (i := m) HR.out.2.2.2.2.2.2 HN.out.1
            have H4 := Lib.hid hd4
            clear h4 hd4
            go_wp2_with fail
            refine hB4.mono ?_
            rintro e w5 ⟨rfl, h5⟩
            clear hB4
            have H5 := Lib.hid h5
            clear h5
            obtain ⟨m5, hm5⟩ : ∃ x, x = kid ltp (sw q k m) m := ⟨_, rfl⟩
            rw [← hm5]
            have HM5 := Lib.hid hm5
            clear hm5
            go_wp2_with fail
            exact ⟨⟨_, _, _, rfl, rfl, HM5.out, H5.out, H4.out, HR.out.2.2.2.2.2.2⟩, by have := HR.out.2.2.2.2.2; simp [RowKit.intOf]; omega⟩
          | false =>
            clear hS3
            go_wp2_with fail
            go_end0
            exact ⟨rfl, q, H3.out, HR.out.2.2.1.stop (swo Hp.tot_str) (.inr (by rw [← HR.out.1]; exact HT.out.symm))⟩
        · have HR := Lib.hid (And.intro hm (And.intro hsx (And.intro hdn (And.intro hk (And.intro hiv hlt)))))
          obtain ⟨n, hln⟩ : ∃ n, n = l.length := ⟨_, rfl⟩
          rw [← hln] at hcell hcap hlt
          have hltx : ((n : Nat) : Int) ≤ ((m : Nat) : Int) := by omega
          clear hm hsx hdn hk hiv hln hkm hlt
          go_wp2_with fail
          go_end0
          exact ⟨rfl, q, HR.out.2.1, HR.out.2.2.1.stop (swo Hp.tot_str) (.inl (by rw [← HR.out.1, HR.out.2.1.len]; have := HR.out.2.2.2.2.2; omega))⟩
end
end Go.Proofs.Ytomkefaakgodhaa.HpE

