
/- bytes cut into parts: Parts -/
import Derived.Test.YtcodjknhnhdkfaaDoorImA
import Derived.OwnWalk
import Derived.Lib.AppendZeros
import Derived.Deep.DeepCutAuto
namespace Go.Proofs.YtcodjknhnhdkfaaDoor.Im
open Go.RowKit Go.Lib By
set_option linter.unusedVariables false
set_option linter.unusedSectionVars false
set_option maxRecDepth 20000
/-- how the parts of bytes are -/
structure Cut (sz : Int) (l rest : List UInt8) (ps : List (List UInt8)) : Prop where
  all : ps.flatten ++ rest = l
  le : ∀ p ∈ ps, 0 < p.length ∧ ((p.length : Nat) : Int) ≤ sz
  full : ∀ (i : Nat) (p : List UInt8), ps[i]? = some p → (i + 1 < ps.length ∨ rest ≠ []) → ((p.length : Nat) : Int) = sz
theorem Cut.start (sz : Int) (l : List UInt8) : Cut sz l l [] := ⟨by simp, fun p hp => by simp at hp, fun i p hp => by simp at hp⟩
theorem Cut.next {sz : Int} {l rest : List UInt8} {ps : List (List UInt8)} (h : Cut sz l rest ps) (hr : rest ≠ []) {n : Nat} (h1 : 1 ≤ n) (h2 : n ≤ rest.length) (h3 : ((n : Nat) : Int) ≤ sz) (h4 : n < rest.length → ((n : Nat) : Int) = sz) : Cut sz l (rest.drop n) (ps ++ [rest.take n]) where
  all := by rw [List.flatten_append, List.append_assoc]; simp only [List.flatten_cons, List.flatten_nil, List.append_nil, List.take_append_drop]; exact h.all
  le p hp := by
    rcases List.mem_append.1 hp with hp | hp
    · exact h.le p hp
    · obtain rfl := List.mem_singleton.1 hp
      rw [List.length_take]
      have : min n rest.length = n := by omega
      rw [this]
      exact ⟨h1, h3⟩
  full i p hp hi := by
    by_cases e : i < ps.length
    · rw [List.getElem?_append_left e] at hp
      exact h.full i p hp (.inr hr)
    · have e2 : i = ps.length := by
        have := (List.getElem?_eq_some_iff.1 hp).1
        simp at this; omega
      subst e2
      rw [List.getElem?_append_right (Nat.le_refl _), Nat.sub_self] at hp
      simp at hp
      rcases hi with hi | hi
      · simp at hi
      · rw [← hp, List.length_take]
        have hl : n < rest.length := by
          rcases Nat.lt_or_ge n rest.length with q | q
          · exact q
          · exact absurd (List.drop_eq_nil_of_le q) hi
        have : min n rest.length = n := by omega
        rw [this]
        exact h4 hl
theorem Cut.count {sz : Int} {l rest : List UInt8} {ps : List (List UInt8)} (h : Cut sz l rest ps) : ps.length + rest.length ≤ l.length := by
  have h1 : ∀ qs : List (List UInt8), (∀ p ∈ qs, 0 < p.length) → qs.length ≤ qs.flatten.length := by
    intro qs
    induction qs with
    | nil => intro _; simp
    | cons q qs ih =>
      intro hq
      have := ih fun p hp => hq p (by simp [hp])
      have := hq q (by simp)
      simp only [List.flatten_cons, List.length_append, List.length_cons]
      omega
  have := h1 ps fun p hp => (h.le p hp).1
  rw [← h.all, List.length_append]
  omega
def lenV : Value → Nat
  | .slice _ n _ => n
  | _ => 0
def Spot (a : Option Addr) : Prop := a = none ∨ ∃ g o, a = some ⟨g, o, none⟩
/-- what Parts answers -/
def Parted (w : World) (sz : Int) (l : List UInt8) (e : Ending) (w' : World) : Prop :=
  ∃ v vs ps, e = .returned (.tuple #[v, .int .i64 0]) ∧ Pt w.heap.size w' v vs ps ∧ Cut sz l [] ps ∧ Below w.heap.size w w'
theorem Parts_bad (a : Option Addr) (n c : Nat) (sz : Int) (hs : sz < 1) (w : World) : Calls Tryd.prog 5 #[.slice a n c, .int .i64 sz] w fun e w' => e = .returned (.tuple #[.slice none 0 0, .int .i64 1]) ∧ w' = w := by
  go_enter Tryd.func5, Tryd.ntmps5
  go_wp2_with fail
  refine bodyPost_ret (results_tmp2 rfl _ _ _) rfl ?_
  exact ⟨rfl, rfl⟩
set_option maxHeartbeats 2000000 in
theorem Parts_any (a : Option Addr) (n c : Nat) (l : List UInt8) (sz : Int) (w : World) (hl : IsB w a n c l) (ha : Spot a) (hs : 1 ≤ sz) (hn : l.length ≤ 100000) : Calls Tryd.prog 5 #[.slice a n c, .int .i64 sz] w (Parted w sz l) := by
  have hn' := hl.1
  have HI := Lib.hid (And.intro hl (And.intro ha hn))
  have hs1 : ¬ sz < 1 := by omega
  clear hl ha hn
  go_enter Tryd.func5, Tryd.ntmps5
  go_wp2_with fail
  go_loopw [0, 6] (fun s0 s6 wr => ∃ (a : Option Addr) (c : Nat) (rest : List UInt8) (vs : List Value) (ps : List (List UInt8)), s0 = .slice a rest.length c ∧ IsB w a rest.length c rest ∧ Spot a ∧ Pt w.heap.size wr s6 vs ps ∧ Cut sz l rest ps ∧ Below w.heap.size w wr) (fun s0 _ _ => lenV s0)
  case atStart => exact ⟨a, c, l, [], [], by rw [hn'], by rw [hn']; exact HI.out.1, HI.out.2.1, Pt.nil _ _, Cut.start _ _, Below.refl _ _⟩
  case round =>
    obtain ⟨a, c, rest, vs, ps, rfl, hibw, hsp, hpt, hcut, hb⟩ := hrel
    have hib := hibw.old hb
    have hcnt := hcut.count
    obtain ⟨a6, c6, hs6⟩ := own_shape hpt.own
    subst hs6
    by_cases h0 : rest = []
    · subst h0
      have HZ := Lib.hid (And.intro hpt (And.intro hcut hb))
      clear hib hibw hsp hpt hcut hb hcnt
      go_wp2_with fail
      refine bodyPost_ret (results_tmp2 rfl _ _ _) rfl ?_
      exact ⟨_, vs, ps, rfl, HZ.out⟩
    · have hpos : 0 < rest.length := List.length_pos_iff.2 h0
      obtain ⟨g, o, rfl⟩ : ∃ g o, a = some ⟨g, o, none⟩ := by
        rcases hsp with rfl | h
        · obtain ⟨x, e, _⟩ := hib.at hpos
          cases e
        · exact h
      obtain ⟨L, hL⟩ : ∃ L, L = rest.length := ⟨_, rfl⟩
      have hLc : L ≤ c ∧ c ≤ maxLen := by
        obtain ⟨_, ⟨e, _⟩ | ⟨x, _, h3, h4, _⟩⟩ := hib
        · cases e
        · rw [hL]; exact ⟨h3, h4⟩
      obtain ⟨m, hm1, hm2, hm3, hm4, hmin⟩ : ∃ m : Nat, 1 ≤ m ∧ m ≤ L ∧ ((m : Nat) : Int) ≤ sz ∧ (m < L → ((m : Nat) : Int) = sz) ∧ min sz ((L : Nat) : Int) = ((m : Nat) : Int) := by
        by_cases e : sz < ((L : Nat) : Int)
        · exact ⟨sz.toNat, by omega, by omega, by omega, fun _ => by omega, by omega⟩
        · exact ⟨L, by omega, Nat.le_refl _, by omega, fun q => by omega, by omega⟩
      have hcl := Wn.clone_any (some ⟨g, o, none⟩) m c (rest.take m) wr (hib.take (by omega)) (by rw [List.length_take]; have := HI.out.2.2; have := Nat.min_le_right m rest.length; omega)
      have HK := Lib.hid (And.intro hibw (And.intro hpt (And.intro hcut (And.intro hb (And.intro h0 hcnt)))))
      have hL0 : (0 : Int) < ((L : Nat) : Int) := by omega
      rw [← hL]
      have HL := Lib.hid hL
      clear hib hibw hsp hpt hcut hb hcnt hL hpos h0 hs1
      go_wp2_with fail
      refine hcl.mono ?_
      rintro e w1 ⟨v1, rfl, hown, hb1⟩
      have hlt : (rest.take m).length = m := by rw [List.length_take, ← HL.out]; omega
      obtain ⟨hib, hpt, hcut, hb, h0, hcnt⟩ := HK.out
      have hvl := hpt.len
      obtain ⟨v', W5, hra, gw, fw⟩ := hpt.push hb.size hb1 (p := rest.take m) (v1 := v1) (by omega) hown (by have := HI.out.2.2; omega) 24
      obtain ⟨a7, c7, hs7⟩ := own_shape gw.own
      have hs7' : (vs ++ [v1]).length = vs.length + 1 := by simp
      rw [hs7'] at hs7
      subst hs7
      obtain ⟨a1, c1, hv1⟩ := own_shape hown
      subst hv1
      have hcut2 := hcut.next h0 (n := m) hm1 (by rw [← HL.out]; exact hm2) hm3 (by rw [← HL.out]; exact hm4)
      have hb5 : Below w.heap.size w W5 := by
        refine ⟨fw.os.trans hb.os, fw.tape.trans hb.tape, fw.output.trans hb.output, Nat.le_trans hb.size fw.size, fun k hk => ?_⟩
        exact (fw.block k (Nat.lt_of_lt_of_le hk hb.size) (fun e => by have := (pown_block hpt.own e).1; omega)).trans (hb.block k hk)
      rw [hlt] at hra gw
      clear hs7'
      have HM := Lib.hid (And.intro gw (And.intro hcut2 hb5))
      have hvl2 : vs.length + 1 ≤ 1000000 := by have := HI.out.2.2; omega
      have htl : (rest.take rest.length).drop m = rest.drop m := by rw [List.take_length]
      have hdl : (rest.drop m).length = L - m := by rw [List.length_drop, ← HL.out]
      have HS := Lib.hid (And.intro hib (And.intro htl (And.intro hdl hvl2)))
      clear gw hcut2 hb5 fw hib hpt hcut hb h0 hcnt hown hb1 hcl hvl htl hdl
      rw [hlt]
      have hml : ((m : Nat) : Int) ≤ ((L : Nat) : Int) := by omega
      have hmc : ((m : Nat) : Int) ≤ ((c : Nat) : Int) := by omega
      rcases Nat.lt_or_ge m c with e | e
      · go_wp2_with (at_builtin; refine Lib.wpList_append_run _ rfl _ _ _ _ rfl _ _ rfl rfl _ _ hra ?_)
        have hd := HS.out.2.2.1
        have hsub := IsB.sub HK.out.1 (i := m) (j := rest.length) (by rw [← HL.out]; exact hm2) (Nat.le_refl _)
        rw [HS.out.2.1, ← HL.out] at hsub
        refine ⟨⟨some ⟨g, o + m, none⟩, c - m, rest.drop m, _, _, by rw [hd], by rw [hd]; exact hsub, .inr ⟨g, o + m, rfl⟩, HM.out.1, HM.out.2.1, HM.out.2.2⟩, ?_⟩
        show L - m < L
        omega
      · obtain rfl : m = c := by omega
        obtain rfl : L = m := by omega
        go_wp2_with (at_builtin; refine Lib.wpList_append_run _ rfl _ _ _ _ rfl _ _ rfl rfl _ _ hra ?_)
        have hd : rest.drop L = [] := by rw [HL.out]; exact List.drop_length
        have hsub := IsB.sub0 HK.out.1
        have hq := HM.out.2.1
        rw [hd] at hq
        first
          | refine ⟨⟨some ⟨g, o, none⟩, 0, [], _, _, rfl, hsub, .inr ⟨g, o, rfl⟩, HM.out.1, hq, HM.out.2.2⟩, ?_⟩
          | refine ⟨⟨some ⟨g, o, none⟩, 0, [], _, _, by simp, hsub, .inr ⟨g, o, rfl⟩, HM.out.1, hq, HM.out.2.2⟩, ?_⟩
        first | (show 0 < L; omega) | (show L - L < L; omega)
end Go.Proofs.YtcodjknhnhdkfaaDoor.Im
