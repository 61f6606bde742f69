/- specs: which may be -/
import Derived.Test.YtcodjknhnhdkfaaGreatDoorBrSp7
import Derived.Test.YtcodjknhnhdkfaaGreatDoorBr26
namespace Go.Proofs.YtcodjknhnhdkfaaGreatDoor.Sp
open Go.RowKit Go.Lib Go.Sort Rf By
set_option linter.unusedVariables false
set_option linter.unusedSimpArgs false
set_option maxRecDepth 20000

/-- what is wrong with a template's own fields -/
def chkT (x : Spc) : Nat := if Cn.parseE x.cr.data.toList ≠ 0 then Cn.parseE x.cr.data.toList else if x.ct = 0 then 3 else if 0 < x.n ∨ x.dl ≠ 0 ∨ 16 < x.nm.size then 1 else 0
/-- what is wrong with a spec; 0: nothing -/
noncomputable def chkE (x : Spc) : Nat :=
  if (nmB x.nm.data.toList && nmB x.tn.data.toList && nmsB x.ds) = false then 16
  else if (inbB x && decide (x.n ≤ 8) && riseB x.ds) = false then 3
  else if x.cr.toList.isEmpty = true then (if x.ct ≠ 0 then 1 else 0) else chkT x
theorem str_S (s : ByteArray) : Value.string s = Cn.S s.data.toList := by cases s; simp [Cn.S]
/-- a spec that came, with texts that there may be -/
structure Okc (x : Spc) (w : World) : Prop where
  d : Dp w x.a x.n x.ds
  m : x.n ≤ 1000000000
  t : ∀ d ∈ x.ds, d.size ≤ 4611686018427387904
  nm : x.nm.size ≤ 4611686018427387904
  tn : x.tn.size ≤ 4611686018427387904
theorem Okc.old {x : Spc} {w w' : World} (h : Okc x w) (hb : Below w.heap.size w w') : Okc x w' := ⟨h.d.old hb, h.m, h.t, h.nm, h.tn⟩
set_option maxHeartbeats 4000000 in
theorem checkT_any (x : Spc) {w : World} (hk : Okc x w) (hg : Cn.Gl w) :
    Calls Tryz.prog 70 #[.agg x.cells] w fun e w' => e = .returned (.int .i64 (chkT x : Nat)) ∧ Below w.heap.size w w' := by
  have hd := hk.d
  have hm := hk.m
  clear hk
  obtain ⟨nm, tn, pr, dl, a, n, c, ds, bs, cp, at', ls, cr, ct⟩ := x
  simp only at hd hm
  obtain ⟨V, hV⟩ : ∃ V, V = w.alloc (.cells #[.string nm, .string tn, .int .i64 pr, .int .i64 dl, .slice a n c, .int .i64 bs, .int .i64 cp, .int .i64 at', .int .i64 ls, .string cr, .int .i64 ct] 40) := ⟨_, rfl⟩
  have hb1 : Below w.heap.size w V := by rw [hV]; exact (Below.refl _ w).alloc (Nat.le_refl _) _
  have hx0 : V.heap[w.heap.size]? = some (.cells #[.string nm, .string tn, .int .i64 pr, .int .i64 dl, .slice a n c, .int .i64 bs, .int .i64 cp, .int .i64 at', .int .i64 ls, .string cr, .int .i64 ct] 40 (0, 0)) := by rw [hV]; exact (MapKept.heap_alloc w _).1
  unfold Spc.cells chkT
  simp only
  obtain ⟨T, hT⟩ : ∃ T : Nat, T = (if Cn.parseE cr.data.toList ≠ 0 then Cn.parseE cr.data.toList else if ct = 0 then 3 else if 0 < n ∨ dl ≠ 0 ∨ 16 < nm.size then 1 else 0) := ⟨_, rfl⟩
  rw [← hT]
  have hp := Cn.parse_any cr.data.toList V (hg.old hb1)
  rw [← str_S] at hp
  obtain ⟨E, hE⟩ : ∃ E, E = Cn.parseE cr.data.toList := ⟨_, rfl⟩
  rw [← hE] at hT hp
  generalize Cn.parseV cr.data.toList = X at hp
  have HT := Lib.hid hT
  have HB := Lib.hid (And.intro hb1 (And.intro hV (And.intro hx0 hp)))
  obtain ⟨⟨l0, l1, l2, l3, l4, l5, l6, l7, l8, l9, l10⟩, _⟩ := eleven hx0
  clear hT hb1 hV hx0 hp hE hg hd
  go_enter Tryz.func70, Tryz.ntmps70
  go_wp2_with fail
  rw [← HB.out.2.1]
  refine HB.out.2.2.2.mono ?_
  rintro e w1 ⟨rfl, hb⟩
  obtain ⟨U, hU⟩ : ∃ U, U = w1.alloc (.cells (Cn.exC X) 146) := ⟨_, rfl⟩
  have hbU : Below w1.heap.size w1 U := by rw [hU]; exact (Below.refl _ w1).alloc (Nat.le_refl _) _
  have hx1 := old2 hb HB.out.2.2.1
  have HW := Lib.hid (show Below w.heap.size w (w1.alloc (.cells (Cn.exC X) 146)) by rw [← hU]; exact HB.out.1.trans ((hb.trans (hbU.mono hb.size)).mono HB.out.1.size))
  have hlt : w.heap.size < w1.heap.size := (Array.getElem?_eq_some_iff.1 hx1).1
  clear l0 l1 l2 l3 l4 l5 l6 l7 l8 l9 l10
  obtain ⟨⟨l0, l1, l2, l3, l4, l5, l6, l7, l8, l9, l10⟩, _⟩ := eleven hx1
  clear hb hU hbU hx1
  by_cases hE0 : E = 0
  · subst hE0
    have HT2 := Lib.hid (show T = if ct = 0 then 3 else if 0 < n ∨ dl ≠ 0 ∨ 16 < nm.size then 1 else 0 by rw [HT.out, if_neg (by simp)])
    clear HT
    by_cases hct : ct = 0
    · subst hct
      obtain rfl : T = 3 := by rw [HT2.out, if_pos rfl]
      go_wp2_with fail
      go_ret
      exact ⟨rfl, HW.out⟩
    · have i1 : (ct == 0) = false := beq_eq_false_iff_ne.2 hct
      have HT3 := Lib.hid (show T = if 0 < n ∨ dl ≠ 0 ∨ 16 < nm.size then 1 else 0 by rw [HT2.out, if_neg hct])
      by_cases h1 : 0 < n
      · have h1I : (0 : Int) < (n : Nat) := by omega
        obtain rfl : T = 1 := by rw [HT3.out, if_pos (.inl h1)]
        go_wp2_with fail
        go_ret
        exact ⟨rfl, HW.out⟩
      · have h1I : ¬ (0 : Int) < (n : Nat) := by omega
        by_cases h2 : dl = 0
        · subst h2
          by_cases h3 : 16 < nm.size
          · have h3I : (16 : Int) < (nm.size : Nat) := by omega
            obtain rfl : T = 1 := by rw [HT3.out, if_pos (.inr (.inr h3))]
            go_wp2_with fail
            go_ret
            exact ⟨rfl, HW.out⟩
          · have h3I : ¬ (16 : Int) < (nm.size : Nat) := by omega
            obtain rfl : T = 0 := by rw [HT3.out, if_neg (by simp only [ne_eq, not_true_eq_false, false_or, not_or]; exact ⟨h1, h3⟩)]
            go_wp2_with fail
            go_ret
            exact ⟨rfl, HW.out⟩
        · have i2 : (dl != 0) = true := by simpa using h2
          obtain rfl : T = 1 := by rw [HT3.out, if_pos (.inr (.inl h2))]
          go_wp2_with fail
          go_ret
          exact ⟨rfl, HW.out⟩
  · have i1 : (((E : Nat) : Int) != 0) = true := by simpa using hE0
    have HT2 := Lib.hid (show T = E by rw [HT.out, if_pos hE0])
    have hEI : ¬ ((E : Nat) : Int) = 0 := by omega
    clear HT hE0
    obtain rfl : T = E := by rw [HT2.out]
    go_wp2_with fail
    go_ret
    exact ⟨rfl, HW.out⟩
set_option maxHeartbeats 4000000 in
theorem Check_any (x : Spc) {w : World} (hk : Okc x w) (hg : Cn.Gl w) :
    Calls Tryz.prog 54 #[.agg x.cells] w fun e w' => e = .returned (.int .i64 (chkE x : Nat)) ∧ Below w.heap.size w w' := by
  have q1 := fun W => name_any x.nm hk.nm W
  have q2 := fun W => name_any x.tn hk.tn W
  have q3 := fun W (h : Okc x W) => areNames_any h.d h.m h.t (c := x.c)
  have q4 := fun W => inBounds_any x W
  have q5 := fun W (h : Okc x W) => rise_any h.d h.m (c := x.c)
  have q6 := fun W (h : Okc x W) hg => checkT_any x (w := W) h hg
  obtain ⟨R, hR⟩ : ∃ R, R = chkE x := ⟨_, rfl⟩
  rw [← hR]
  unfold chkE at hR
  generalize nmB x.nm.data.toList = B1 at q1 hR
  generalize nmB x.tn.data.toList = B2 at q2 hR
  generalize nmsB x.ds = B3 at q3 hR
  generalize inbB x = B4 at q4 hR
  generalize riseB x.ds = B5 at q5 hR
  generalize chkT x = T at q6 hR
  have HK := Lib.hid (fun W (h : Below w.heap.size w W) => hk.old h)
  have HG := Lib.hid hg
  have hd := hk.d
  have hm := hk.m
  clear hk hg
  obtain ⟨nm, tn, pr, dl, a, n, c, ds, bs, cp, at', ls, cr, ct⟩ := x
  simp only at hd hm
  obtain ⟨V, hV⟩ : ∃ V, V = w.alloc (.cells #[.string nm, .string tn, .int .i64 pr, .int .i64 dl, .slice a n c, .int .i64 bs, .int .i64 cp, .int .i64 at', .int .i64 ls, .string cr, .int .i64 ct] 40) := ⟨_, rfl⟩
  have hb1 : Below w.heap.size w V := by rw [hV]; exact (Below.refl _ w).alloc (Nat.le_refl _) _
  have hx0 : V.heap[w.heap.size]? = some (.cells #[.string nm, .string tn, .int .i64 pr, .int .i64 dl, .slice a n c, .int .i64 bs, .int .i64 cp, .int .i64 at', .int .i64 ls, .string cr, .int .i64 ct] 40 (0, 0)) := by rw [hV]; exact (MapKept.heap_alloc w _).1
  unfold Spc.cells at q4 q6 ⊢
  simp only at q1 q2 q3 q4 q5 q6 hR ⊢
  have HR := Lib.hid hR
  have HQ := Lib.hid (And.intro q1 (And.intro q2 (And.intro q3 (And.intro q4 (And.intro q5 q6)))))
  have HB := Lib.hid (And.intro hb1 (And.intro hV hx0))
  obtain ⟨⟨l0, l1, l2, l3, l4, l5, l6, l7, l8, l9, l10⟩, _⟩ := eleven hx0
  clear hR q1 q2 q3 q4 q5 q6 hb1 hV hx0 hd
  go_enter Tryz.func54, Tryz.ntmps54
  go_wp2_with fail
  rw [← HB.out.2.1]
  refine (HQ.out.1 _).mono ?_
  rintro e w1 ⟨rfl, hb⟩
  have H1 := Lib.hid (And.intro (HB.out.1.trans (hb.mono HB.out.1.size)) (old2 hb HB.out.2.2))
  clear hb l0 l1 l2 l3 l4 l5 l6 l7 l8 l9 l10
  obtain ⟨⟨l0, l1, l2, l3, l4, l5, l6, l7, l8, l9, l10⟩, _⟩ := eleven H1.out.2
  cases B1
  · obtain rfl : R = 16 := by rw [HR.out]; simp
    go_wp2_with fail
    go_ret
    exact ⟨rfl, H1.out.1⟩
  go_wp2_with fail
  refine (HQ.out.2.1 _).mono ?_
  rintro e w2 ⟨rfl, hb⟩
  have H2 := Lib.hid (And.intro (H1.out.1.trans (hb.mono H1.out.1.size)) (old2 hb H1.out.2))
  clear hb l0 l1 l2 l3 l4 l5 l6 l7 l8 l9 l10
  obtain ⟨⟨l0, l1, l2, l3, l4, l5, l6, l7, l8, l9, l10⟩, _⟩ := eleven H2.out.2
  cases B2
  · obtain rfl : R = 16 := by rw [HR.out]; simp
    go_wp2_with fail
    go_ret
    exact ⟨rfl, H2.out.1⟩
  go_wp2_with fail
  refine (HQ.out.2.2.1 _ (HK.out _ H2.out.1)).mono ?_
  rintro e w3 ⟨rfl, hb⟩
  have H3 := Lib.hid (And.intro (H2.out.1.trans (hb.mono H2.out.1.size)) (old2 hb H2.out.2))
  clear hb l0 l1 l2 l3 l4 l5 l6 l7 l8 l9 l10
  obtain ⟨⟨l0, l1, l2, l3, l4, l5, l6, l7, l8, l9, l10⟩, _⟩ := eleven H3.out.2
  cases B3
  · obtain rfl : R = 16 := by rw [HR.out]; simp
    go_wp2_with fail
    go_ret
    exact ⟨rfl, H3.out.1⟩
  go_wp2_with fail
  refine (HQ.out.2.2.2.1 _).mono ?_
  rintro e w4 ⟨rfl, hb⟩
  have H4 := Lib.hid (And.intro (H3.out.1.trans (hb.mono H3.out.1.size)) (old2 hb H3.out.2))
  clear hb l0 l1 l2 l3 l4 l5 l6 l7 l8 l9 l10
  obtain ⟨⟨l0, l1, l2, l3, l4, l5, l6, l7, l8, l9, l10⟩, _⟩ := eleven H4.out.2
  by_cases h8 : n ≤ 8
  · have h8I : ¬ (8 : Int) < (n : Nat) := by omega
    cases B4
    · obtain rfl : R = 3 := by rw [HR.out]; simp
      go_wp2_with fail
      go_ret
      exact ⟨rfl, H4.out.1⟩
    go_wp2_with fail
    refine (HQ.out.2.2.2.2.1 _ (HK.out _ H4.out.1)).mono ?_
    rintro e w5 ⟨rfl, hb⟩
    have H5 := Lib.hid (And.intro (H4.out.1.trans (hb.mono H4.out.1.size)) (old2 hb H4.out.2))
    clear hb l0 l1 l2 l3 l4 l5 l6 l7 l8 l9 l10
    obtain ⟨⟨l0, l1, l2, l3, l4, l5, l6, l7, l8, l9, l10⟩, _⟩ := eleven H5.out.2
    cases B5
    · obtain rfl : R = 3 := by rw [HR.out]; simp
      go_wp2_with fail
      go_ret
      exact ⟨rfl, H5.out.1⟩
    have HR2 := Lib.hid (show R = if cr.toList.isEmpty = true then (if ct ≠ 0 then 1 else 0) else T by rw [HR.out]; simp [h8])
    by_cases hcr : cr.toList.isEmpty = true
    · have HR3 := Lib.hid (show R = if ct ≠ 0 then 1 else 0 by rw [HR2.out, if_pos hcr])
      by_cases hct : ct = 0
      · subst hct
        obtain rfl : R = 0 := by rw [HR3.out, if_neg (by simp)]
        go_wp2_with fail
        go_ret
        exact ⟨rfl, H5.out.1⟩
      · have i1 : (ct != 0) = true := by simpa using hct
        obtain rfl : R = 1 := by rw [HR3.out, if_pos hct]
        go_wp2_with fail
        go_ret
        exact ⟨rfl, H5.out.1⟩
    · have HR3 := Lib.hid (show R = T by rw [HR2.out, if_neg hcr])
      have hcr' : cr.toList.isEmpty = false := by simpa using hcr
      clear hcr
      go_wp2_with fail
      refine (HQ.out.2.2.2.2.2 _ (HK.out _ H5.out.1) (HG.out.old H5.out.1)).mono ?_
      rintro e w6 ⟨rfl, hb⟩
      have H6 := Lib.hid (H5.out.1.trans (hb.mono H5.out.1.size))
      clear hb
      obtain rfl : R = T := by rw [HR3.out]
      go_wp2_with fail
      go_ret
      exact ⟨rfl, H6.out⟩
  · have h8I : (8 : Int) < (n : Nat) := by omega
    cases B4
    all_goals
      obtain rfl : R = 3 := by rw [HR.out]; simp [h8]
      go_wp2_with fail
      go_ret
      exact ⟨rfl, H4.out.1⟩
end Go.Proofs.YtcodjknhnhdkfaaGreatDoor.Sp
