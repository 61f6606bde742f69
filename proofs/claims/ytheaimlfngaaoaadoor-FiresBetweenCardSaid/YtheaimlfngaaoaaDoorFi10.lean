
/- fires: Ever; the chapter's example; eras, plainly -/
import Derived.Test.YtheaimlfngaaoaaDoorFi9
namespace Go.Proofs.YtheaimlfngaaoaaDoor.Fi
open Go.RowKit Go.Lib Go.Proofs.YtheaimlfngaaoaaDoor.Cn Go.Proofs.YtheaimlfngaaoaaDoor.Rg Go.Proofs.YtheaimlfngaaoaaDoor.Ht
set_option linter.unusedVariables false

/-- is any tick named -/
def EverIs (e : Ex) (b : Bool) : Prop := ∃ x, NextIs e (-1) x b
theorem ever_any (e : Ex) (he : ExOk e) (w : World) (hd : Db w) :
    Calls Tryd.prog 16 #[exv e] w fun r w' => (∃ b, r = .returned (.bool b) ∧ EverIs e b) ∧ Below w.heap.size w w' := by
  obtain ⟨V, hV⟩ : ∃ V, V = w.alloc (.cells (exC e) 26) := ⟨_, rfl⟩
  obtain ⟨b1, b2, b3⟩ := cell_new w (exC e) 26
  rw [← hV] at b1 b2 b3
  have hn := next_any e he (-1) (by unfold Ca.I64; omega) V (hd.old b1)
  rw [show lo (-1) = -1 by decide] at hn
  have HV := Lib.hid (And.intro hV (And.intro b1 hn))
  clear hV b1 b2 b3 hn hd he
  go_enter Tryd.func16, Tryd.ntmps16
  go_wp2_with fail
  rw [← HV.out.1]
  refine HV.out.2.2.mono ?_
  rintro q w1 ⟨⟨x, ok, rfl, hx⟩, hb⟩
  have HX := Lib.hid (And.intro hx hb)
  clear hx hb
  go_wp2_with fail
  go_ret
  exact ⟨⟨ok, rfl, x, HX.out.1⟩, HV.out.2.1.trans (HX.out.2.mono HV.out.2.1.size)⟩
/-- the example's expression -/
def E0 : Ex := ⟨1, 1, 536870912, 4, 127, false, true⟩
theorem e0_parse : parseE [48, 32, 48, 32, 50, 57, 32, 50, 32, 42] = 0 ∧ parseV [48, 32, 48, 32, 50, 57, 32, 50, 32, 42] = E0 := by
  constructor
  · decide +kernel
  · kernel_rfl
theorem hb_one {k : Nat} {x : Int} (h : hb (2 ^ k) x = true) : x = k := by
  unfold hb at h
  rw [Bool.and_eq_true, decide_eq_true_eq, Nat.testBit_two_pow, decide_eq_true_eq] at h
  omega
theorem e0_nm {t : Int} (h : nm E0 t) : ∃ y wd, Ca.IsM t y 2 29 wd 0 0 := by
  obtain ⟨y, mo, d, wd, hh, mi, i, hn⟩ := h
  unfold namesB at hn
  have e : E0 = ⟨2 ^ 0, 2 ^ 0, 2 ^ 29, 2 ^ 2, 127, false, true⟩ := rfl
  rw [e] at hn
  simp only [Bool.and_eq_true] at hn
  obtain ⟨h1, h2, h3, h4⟩ := hn
  rw [if_pos (by decide)] at h4
  rw [Bool.and_eq_true] at h4
  obtain rfl := hb_one h1
  obtain rfl := hb_one h2
  obtain rfl := hb_one h3
  obtain rfl := hb_one h4.1
  exact ⟨y, wd, i⟩
theorem e0_at {t y wd : Int} (i : Ca.IsM t y 2 29 wd 0 0) : t = 1440 * (Ca.ah y + 59) ∧ 2000 ≤ y ∧ Ca.lp y = true := by
  have h1 := i.day; have h2 := i.h; have h3 := i.mi; have h4 := i.y0; have h5 := i.d2
  have e1 : Ca.mb y 2 = 31 := by unfold Ca.mb; simp
  refine ⟨by omega, h4, ?_⟩
  cases hl : Ca.lp y
  · exfalso
    unfold Ca.dm at h5
    rw [hl] at h5
    simp at h5
  · rfl
theorem e0_one : nx E0 0 84960 := by
  refine ⟨by omega, ⟨2000, 2, 29, 2, 0, 0, ⟨by decide, by decide, by decide, by decide, by decide, by decide, by decide, by decide, by decide⟩, by decide +kernel⟩, fun u h1 h2 hu => ?_⟩
  obtain ⟨y, wd, i⟩ := e0_nm hu
  obtain ⟨h3, h4, _⟩ := e0_at i
  have := Ca.ah_ge h4
  omega
theorem e0_two : nx E0 84960 2188800 := by
  refine ⟨by omega, ⟨2004, 2, 29, 0, 0, 0, ⟨by decide, by decide, by decide, by decide, by decide, by decide, by decide, by decide, by decide⟩, by decide +kernel⟩, fun u h1 h2 hu => ?_⟩
  obtain ⟨y, wd, i⟩ := e0_nm hu
  obtain ⟨h3, h4, h5⟩ := e0_at i
  rw [Ca.lp_iff (by omega)] at h5
  have h6 := Ca.ah_ge h4
  have h7 : y ≤ 2006 := by omega
  have h8 : y = 2000 ∨ y = 2004 := by omega
  rcases h8 with rfl | rfl
  · have : Ca.ah 2000 = 0 := by decide
    omega
  · have : Ca.ah 2004 = 1461 := by decide
    omega
theorem e0_ok : ExOk E0 := ⟨by decide, by decide, by decide, by decide, by decide⟩
theorem next_known {e : Ex} (he : ExOk e) {a x : Int} {ok : Bool} (ha : Ca.I64 a) (h : NextIs e (lo a) x ok) (w : World) (hd : Db w) :
    Calls Tryd.prog 10 #[exv e, .int .i64 a] w fun r w' => r = .returned (.tuple #[.int .i64 x, .bool ok]) ∧ Below w.heap.size w w' := by
  refine (next_any e he a ha w hd).mono ?_
  rintro r w' ⟨⟨y, q, rfl, hy⟩, hb⟩
  obtain ⟨rfl, rfl⟩ := hy.same h
  exact ⟨rfl, hb⟩

set_option maxRecDepth 20000 in
set_option maxHeartbeats 4000000 in
theorem lives08_any (w : World) (hg : Gd w) : Calls Tryd.prog 7 #[] w fun e w' => e = .returned (.bool true) ∧ Below w.heap.size w w' := by
  have hp := parse_any [48, 32, 48, 32, 50, 57, 32, 50, 32, 42] w hg.gl
  rw [e0_parse.1, e0_parse.2] at hp
  have k1 := fun W hW => next_known e0_ok (a := 0) (x := 84960) (ok := true) (by unfold Ca.I64; omega) (.inl ⟨rfl, e0_one, by omega⟩) W hW
  have k2 := fun W hW => next_known e0_ok (a := 84960) (x := 2188800) (ok := true) (by unfold Ca.I64; omega) (.inl ⟨rfl, e0_two, by omega⟩) W hW
  have hd : Db w := hg.db
  obtain ⟨e0, he0⟩ : ∃ e0, e0 = E0 := ⟨_, rfl⟩
  rw [← he0] at hp k1 k2
  have HP := Lib.hid hp
  have HK := Lib.hid (And.intro hd (And.intro k1 k2))
  clear hp k1 k2 hd hg he0
  go_enter Tryd.func7, Tryd.ntmps7
  go_wp2_with fail
  refine HP.out.mono ?_
  rintro e w1 ⟨rfl, hb⟩
  have HB := Lib.hid hb
  obtain ⟨a1, a2, a3⟩ := cell_new w1 (exC e0) 26
  have hd1 := (HK.out.1.old hb).old a1
  have H1 := Lib.hid (And.intro a1 (And.intro a2 hd1))
  clear hb a1 a2 a3 hd1
  go_wp2_with fail
  refine (HK.out.2.1 _ H1.out.2.2).mono ?_
  rintro e w2 ⟨rfl, hb⟩
  have H2 := Lib.hid (And.intro (old_blk hb H1.out.2.1) (And.intro (H1.out.1.trans (hb.mono H1.out.1.size)) (H1.out.2.2.old hb)))
  obtain ⟨⟨c0, c1, c2, c3, c4, c5, c6⟩, _⟩ := seven H2.out.1
  clear hb
  go_wp2_with fail
  refine (HK.out.2.2 _ H2.out.2.2).mono ?_
  rintro e w3 ⟨rfl, hb⟩
  have H3 := Lib.hid (H2.out.2.1.trans (hb.mono H2.out.2.1.size))
  clear hb c0 c1 c2 c3 c4 c5 c6
  go_wp2_with fail
  go_ret
  exact ⟨rfl, HB.out.trans (H3.out.mono HB.out.size)⟩

/-- whatever is named is named again behind any tick -/
theorem nm_again {e : Ex} {u : Int} (h : nm e u) : ∀ k : Nat, nm e (u + 210379680 * k)
  | 0 => by rw [show u + 210379680 * ((0 : Nat) : Int) = u by omega]; exact h
  | k + 1 => by
    have h0 := nm_nonneg h
    have := (nm_era (e := e) (t := u + 210379680 * k) (by omega)).2 (nm_again h k)
    rw [show u + 210379680 * ((k + 1 : Nat) : Int) = u + 210379680 * k + 210379680 by omega]
    exact this
theorem none_ever {e : Ex} {t : Int} (h0 : -1 ≤ t) (h1 : t + 210379680 ≤ 1099511627776) (h : BS e 1099511627776 t) : ∀ u, ¬ nm e u := fun u hu => by
  have hn := never (p := nm e) (a := t + 1) (fun v hv => (nm_era hv).1) (by omega) (fun v v1 v2 => h v (by omega) (by omega))
  have hu0 := nm_nonneg hu
  exact hn _ (by omega) (nm_again hu (t + 1).toNat)
theorem nx_era {e : Ex} {t a : Int} (h0 : 0 ≤ t) (h : nx e t a) : nx e (t + 210379680) (a + 210379680) ∧ a ≤ t + 210379680 := by
  have ha := nm_nonneg h.2.1
  refine ⟨⟨by have := h.1; omega, (nm_era ha).2 h.2.1, fun u h1 h2 hu => ?_⟩, ?_⟩
  · refine h.2.2 (u - 210379680) (by omega) (by omega) ((nm_era (by omega)).1 ?_)
    rw [show u - 210379680 + 210379680 = u by omega]; exact hu
  · by_cases hc : a ≤ t + 210379680
    · exact hc
    · exfalso
      refine h.2.2 (a - 210379680) (by omega) (by omega) ((nm_era (by omega)).1 ?_)
      rw [show a - 210379680 + 210379680 = a by omega]; exact h.2.1
theorem eras {e : Ex} {t a b : Int} {ok is ev : Bool} (h0 : 0 ≤ t) (h1 : t ≤ 4294967295) (ha : NextIs e t a ok) (hb : NextIs e (t + 210379680) b is) (hv : EverIs e ev) : is = ok ∧ ev = ok ∧ (ok = true → b = a + 210379680) := by
  obtain ⟨x, hv⟩ := hv
  rcases ha with ⟨rfl, a1, a2⟩ | ⟨rfl, rfl, a1⟩
  · obtain ⟨e1, e2⟩ := nx_era h0 a1
    obtain ⟨rfl, rfl⟩ := hb.same (.inl ⟨rfl, e1, by omega⟩)
    refine ⟨rfl, ?_, fun _ => rfl⟩
    rcases hv with ⟨rfl, _⟩ | ⟨rfl, _, h2⟩
    · rfl
    · exact absurd a1.2.1 (h2 a (by have := nm_nonneg a1.2.1; omega) a2)
  · have hn := none_ever (by omega) (by omega) a1
    refine ⟨?_, ?_, fun h => by cases h⟩
    · rcases hb with ⟨rfl, h2, _⟩ | ⟨rfl, _⟩
      · exact absurd h2.2.1 (hn _)
      · rfl
    · rcases hv with ⟨rfl, h2, _⟩ | ⟨rfl, _⟩
      · exact absurd h2.2.1 (hn _)
      · rfl
end Go.Proofs.YtheaimlfngaaoaaDoor.Fi
