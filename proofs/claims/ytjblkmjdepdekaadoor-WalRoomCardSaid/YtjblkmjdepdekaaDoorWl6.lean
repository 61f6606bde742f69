
/- logs: the current half -/
import Derived.Test.YtjblkmjdepdekaaDoorWl5
import Derived.Deep.QuietTactic
import Derived.BigQuiet
namespace Go.Proofs.YtjblkmjdepdekaaDoor.Wl
open Go.RowKit Go.Lib Go.Joins Go.Proofs.YtjblkmjdepdekaaDoor.By Go.Proofs.YtjblkmjdepdekaaDoor.Dk Go.Proofs.YtjblkmjdepdekaaDoor.Oc Go.Proofs.YtjblkmjdepdekaaDoor.Rg Go.Proofs.YtjblkmjdepdekaaDoor.Ht Go.Proofs.YtjblkmjdepdekaaDoor.Cr Go.Proofs.YtjblkmjdepdekaaDoor.Fm

/-- which half is the current one, whether there is one, its records -/
def pick2 (t1 t2 : Nat) (u1 u2 : List Rc × Bool) : Nat × Bool × List Rc := if u2.2 && (!u1.2 || decide (t1 < t2)) then (1, true, u2.1) else (0, u1.2, u1.1)
def half1 (b : List UInt8) (h : Nat) : List UInt8 := b.take (64 * h)
def half2 (b : List UInt8) (h : Nat) : List UInt8 := (b.take (64 * h + 64 * h)).drop (64 * h)
def Cur (b : List UInt8) (h : Nat) (x : Nat × Bool × List Rc) : Prop := ∃ L1 L2, Tells (cnt (half1 b h) h) L1 ∧ Tells (cnt (half2 b h) h) L2 ∧ x = pick2 (trn (half1 b h)) (trn (half2 b h)) (uf L1) (uf L2)
set_option maxRecDepth 20000 in
set_option maxHeartbeats 4000000 in
theorem current_any (g o cap n : Nat) (b : List UInt8) (w : World) (hb : IsB w (some ⟨g, o, none⟩) (64 * n) cap b) (hn4 : 4 ≤ n ∧ n ≤ 4096) (hn : Nibs w) :
    Calls Tryd.prog 40 #[.slice (some ⟨g, o, none⟩) (64 * n : Nat) cap] w fun e w' => ∃ x v rv, e = .returned (.tuple #[.int .i64 (x.1 : Nat), v, .bool x.2.1]) ∧ Cur b (n / 2) x ∧ IsRs w.heap.size w' v rv ∧ rv.map rc = x.2.2 ∧ Below w.heap.size w w' := by
  obtain ⟨h, hh⟩ : ∃ h, h = n / 2 := ⟨_, rfl⟩
  rw [← hh]
  have hcap : 64 * n ≤ cap ∧ cap ≤ 9223372036854775807 := by
    obtain ⟨h1, ⟨h2, _⟩ | ⟨x, h2, h3, h4, h5⟩⟩ := hb
    · cases h2
    · exact ⟨h3, by unfold maxLen at h4; omega⟩
  have h2 : 2 ≤ h ∧ h ≤ 2048 := by omega
  have hi1 : IsB w (some ⟨g, o, none⟩) (64 * h) cap (half1 b h) := hb.take (by rw [hb.1]; omega)
  have hi2 : IsB w (some ⟨g, o + 64 * h, none⟩) (64 * h) (cap - 64 * h) (half2 b h) := by
    have := Fm.IsB.sub hb (i := 64 * h) (j := 64 * h + 64 * h) (by omega) (by omega)
    rwa [Nat.add_sub_cancel] at this
  have hl1 : (half1 b h).length = 64 * h := hi1.1
  have hl2 : (half2 b h).length = 64 * h := hi2.1
  have HI := Lib.hid (And.intro hi1 (And.intro hi2 (And.intro hl1 (And.intro hl2 hn))))
  obtain ⟨q, hq⟩ : ∃ q, q = 64 * h := ⟨_, rfl⟩
  have hr1 := fun W (hW : Below w.heap.size w W) => records_any g o cap h (half1 b h) W (hi1.old hW) (by omega) (hn.old hW)
  have hr2 := fun W (hW : Below w.heap.size w W) => records_any g (o + 64 * h) (cap - 64 * h) h (half2 b h) W (hi2.old hW) (by omega) (hn.old hW)
  have ht1 := fun W (hW : Below w.heap.size w W) => turnOf_any _ _ _ (half1 b h) W (hi1.old hW) (by omega)
  have ht2 := fun W (hW : Below w.heap.size w W) => turnOf_any _ _ _ (half2 b h) W (hi2.old hW) (by omega)
  rw [← hq] at hr1 hr2 ht1 ht2
  have HR := Lib.hid (And.intro hr1 (And.intro hr2 (And.intro ht1 ht2)))
  obtain ⟨m, hm⟩ : ∃ m, m = 64 * n := ⟨_, rfl⟩
  rw [← hm]
  have e1 : ((m : Nat) : Int).tdiv 64 = (n : Int) := by rw [hm, Int.tdiv_eq_ediv_of_nonneg (by omega)]; omega
  have e2 : ((n : Nat) : Int).tdiv 2 = (h : Int) := by rw [Int.tdiv_eq_ediv_of_nonneg (by omega)]; omega
  have e3 : (h : Int) * 64 = (q : Int) := by omega
  have hqb : 2 * q ≤ m ∧ q < cap ∧ 2 * q ≤ cap := by omega
  have HQ := Lib.hid (And.intro hq (And.intro hm hh))
  clear hb hi1 hi2 hl1 hl2 hn hr1 hr2 ht1 ht2 hq hm hh
  go_enter Tryd.func40, Tryd.ntmps40
  go_wp2_with fail
  have z1 : IntKind.i64.wrap (2 * (q : Int)) = 2 * (q : Int) := IntWalk.i64_in _ (by omega)
  have z2 : (0 : Int) ≤ 2 * (q : Int) := by omega
  have z3 : 2 * (q : Int) ≤ (cap : Int) := by omega
  have z4 : (q : Int) ≤ max (2 * (q : Int)) 0 := by omega
  have z5 : (2 * (q : Int)).toNat - q = q := by omega
  have z6 : q ≤ cap := by omega
  have z7 : ¬ cap = q := by omega
  have z8 : (q : Int) ≤ 2 * (q : Int) := by omega
  clear e1 e2 e3 hqb h2 hcap hn4
  go_quiet (fail)
  go_wp2_with fail
  have hbd : Below w.heap.size w (w.drewN nq) := ⟨rfl, rfl, rfl, Nat.le_refl _, fun _ _ => rfl⟩
  refine (HR.out.1 _ hbd).mono ?_
  rintro e wa ⟨v1, L1, rv1, rfl, ht1, hs1, hm1, hba⟩
  have hbwa : Below w.heap.size w wa := hbd.trans hba
  have HA := Lib.hid (And.intro ht1 (And.intro hs1 (And.intro hm1 hbwa)))
  clear hbd ht1 hs1 hm1 hba hbwa
  go_wp2_with fail
  refine (HR.out.2.1 _ HA.out.2.2.2).mono ?_
  rintro e wb ⟨v2, L2, rv2, rfl, ht2, hs2, hm2, hbb⟩
  have hbwb : Below w.heap.size w wb := HA.out.2.2.2.trans (hbb.mono HA.out.2.2.2.size)
  have HL := Lib.hid (And.intro HA.out.1 ht2)
  have HF := Lib.hid (And.intro (HA.out.2.1.old hbb) (And.intro (⟨Joins.ownsRow_le hs2.own HA.out.2.2.2.size, fun x hx => Joins.ownsRow_le (hs2.data x hx) HA.out.2.2.2.size⟩ : IsRs w.heap.size wb v2 rv2) (And.intro HA.out.2.2.1 (And.intro hm2 hbwb))))
  have ht1 := HR.out.2.2.1 wb hbwb
  have ht2' := HR.out.2.2.2 wb hbwb
  have HT := Lib.hid (And.intro ht1 ht2')
  clear ht2 hs2 hm2 hbb hbwb ht1 ht2'
  obtain ⟨U1, hU1⟩ : ∃ U, U = uf L1 := ⟨_, rfl⟩
  obtain ⟨U2, hU2⟩ : ∃ U, U = uf L2 := ⟨_, rfl⟩
  rw [← hU1, ← hU2] at HF
  rw [← hU1, ← hU2]
  have HP : ∀ x, x = pick2 (trn (half1 b h)) (trn (half2 b h)) U1 U2 → Cur b h x := fun x hx => ⟨L1, L2, HL.out.1, HL.out.2, by rw [hx, hU1, hU2]⟩
  have HPH := Lib.hid HP
  obtain ⟨A1, s1⟩ := U1
  obtain ⟨A2, s2⟩ := U2
  obtain ⟨T1, hT1⟩ : ∃ T, T = trn (half1 b h) := ⟨_, rfl⟩
  obtain ⟨T2, hT2⟩ : ∃ T, T = trn (half2 b h) := ⟨_, rfl⟩
  rw [← hT1, ← hT2] at HT HPH
  clear hU1 hU2 HP HL HA hT1 hT2
  dsimp only at HF HPH ⊢
  cases s2
  · go_wp2_with fail
    go_ret3
    exact ⟨(0, s1, A1), v1, rv1, rfl, HPH.out _ (by simp [pick2]), HF.out.1, HF.out.2.2.1, HF.out.2.2.2.2⟩
  · cases s1
    · go_wp2_with fail
      go_ret3
      exact ⟨(1, true, A2), v2, rv2, rfl, HPH.out _ (by simp [pick2]), HF.out.2.1, HF.out.2.2.2.1, HF.out.2.2.2.2⟩
    · by_cases hlt : T1 < T2
      · have hltI : (T2 : Int) > (T1 : Int) := by omega
        go_wp2_with fail
        refine HT.out.2.mono ?_
        rintro e w' ⟨rfl, rfl⟩
        go_wp2_with fail
        refine HT.out.1.mono ?_
        rintro e w' ⟨rfl, rfl⟩
        go_wp2_with fail
        go_ret3
        exact ⟨(1, true, A2), v2, rv2, rfl, HPH.out _ (by simp [pick2, hlt]), HF.out.2.1, HF.out.2.2.2.1, HF.out.2.2.2.2⟩
      · have hltI : ¬ (T2 : Int) > (T1 : Int) := by omega
        go_wp2_with fail
        refine HT.out.2.mono ?_
        rintro e w' ⟨rfl, rfl⟩
        go_wp2_with fail
        refine HT.out.1.mono ?_
        rintro e w' ⟨rfl, rfl⟩
        go_wp2_with fail
        go_ret3
        exact ⟨(0, true, A1), v1, rv1, rfl, HPH.out _ (by simp [pick2, hlt]), HF.out.1, HF.out.2.2.1, HF.out.2.2.2.2⟩
set_option maxRecDepth 20000 in
theorem whole_nil (w : World) : Calls Tryd.prog 28 #[.pointer none] w fun e w' => e = .returned (.tuple #[.slice none 0 0, .int .i64 1]) ∧ w = w' := by
  have h := len_nil w
  go_enter Tryd.func28, Tryd.ntmps28
  go_wp2_with (go_at_call 22; (with_reducible refine h.mono ?_); rintro e w' ⟨rfl, rfl⟩)
  go_ret2
  exact ⟨rfl, rfl⟩
section
variable {w : World} {B bd gs cs gn cn n : Nat} {vw : Value} {F G : List UInt8} {W : List Wr}
set_option maxRecDepth 20000 in
theorem whole_small {dn : Bool} (h : IsDk w B bd gs cs gn cn vw n F G W dn) (hn : n < 4) : Calls Tryd.prog 28 #[.pointer (some ⟨bd, 0, none⟩)] w fun e w' => e = .returned (.tuple #[.slice none 0 0, .int .i64 1]) ∧ w = w' := by
  have h1 := len_any h
  have hI : (n : Int) < 4 := by omega
  clear h
  go_enter Tryd.func28, Tryd.ntmps28
  go_wp2_with (go_at_call 22; (with_reducible refine h1.mono ?_); rintro e w' ⟨rfl, rfl⟩)
  go_ret2
  exact ⟨rfl, rfl⟩
set_option maxRecDepth 20000 in
theorem whole_down (h : IsDk w B bd gs cs gn cn vw n F G W true) (hn : 4 ≤ n) : Calls Tryd.prog 28 #[.pointer (some ⟨bd, 0, none⟩)] w fun e w' => e = .returned (.tuple #[.slice none 0 0, .int .i64 19]) ∧ w = w' := by
  have h1 := len_any h
  have H := Lib.hid h
  have hI : ¬ (n : Int) < 4 := by omega
  clear h
  go_enter Tryd.func28, Tryd.ntmps28
  go_wp2_with (go_at_call 22; (with_reducible refine h1.mono ?_); rintro e w' ⟨rfl, rfl⟩)
  refine (read_down H.out 0 n).mono ?_
  rintro e w' ⟨rfl, rfl⟩
  go_wp2_with fail
  go_ret2
  exact ⟨rfl, rfl⟩
set_option maxRecDepth 20000 in
theorem whole_ok (h : IsDk w B bd gs cs gn cn vw n F G W false) (hn : 4 ≤ n) : Calls Tryd.prog 28 #[.pointer (some ⟨bd, 0, none⟩)] w fun e w' => ∃ g cp, e = .returned (.tuple #[.slice (some ⟨g, 0, none⟩) (64 * n : Nat) cp, .int .i64 0]) ∧ IsB w' (some ⟨g, 0, none⟩) (64 * n) cp G ∧ Below w.heap.size w w' := by
  have h1 := len_any h
  have H := Lib.hid h
  have hI : ¬ (n : Int) < 4 := by omega
  clear h
  go_enter Tryd.func28, Tryd.ntmps28
  go_wp2_with (go_at_call 22; (with_reducible refine h1.mono ?_); rintro e w' ⟨rfl, rfl⟩)
  refine (read_ok H.out 0 n (by omega) (by omega)).mono ?_
  rintro e w' ⟨ao, cp, rfl, hi, ho, hb⟩
  have hG : getM G 0 n = G := by unfold getM; rw [Nat.mul_zero, List.drop_zero, List.take_of_length_le (by rw [H.out.lenG]; exact Nat.le_refl _)]
  rw [hG] at hi ho
  obtain ⟨g, rfl⟩ : ∃ g, ao = some ⟨g, 0, none⟩ := by
    rcases ho.2 with ⟨h, _⟩ | ⟨g, c, cur, h, _⟩
    · simp at h; omega
    · simp at h; exact ⟨g, h.1⟩
  have HF := Lib.hid (And.intro hi hb)
  clear hi ho hb hG
  go_wp2_with fail
  go_ret2
  exact ⟨g, cp, rfl, HF.out⟩
end
end Go.Proofs.YtjblkmjdepdekaaDoor.Wl
