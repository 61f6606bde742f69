
/- texts that build one behind the other: Wl6 Wl7 Hc Wl8 Hd Wl9 Wl10 Wl11 Wl12 Wl13 Wl14 Wl15 Wl16 Wl17 -/
import Derived.Test.YtjblkmjdepdekaaDoorWBas3
import Derived.Deep.QuietTactic
import Derived.BigQuiet
/- logs: the current half -/
namespace Go.Proofs.YtjblkmjdepdekaaDoor.Wl
open Go.RowKit Go.Lib Go.Joins Go.Proofs.YtjblkmjdepdekaaDoor.By Go.Proofs.YtjblkmjdepdekaaDoor.Dk Go.Proofs.YtjblkmjdepdekaaDoor.Oc Go.Proofs.YtjblkmjdepdekaaDoor.Rg Go.Proofs.YtjblkmjdepdekaaDoor.Ht Go.Proofs.YtjblkmjdepdekaaDoor.Cr Go.Proofs.YtjblkmjdepdekaaDoor.Fm

/-- which half is the current one, whether there is one, its records -/
def pick2 (t1 t2 : Nat) (u1 u2 : List Rc × Bool) : Nat × Bool × List Rc := if u2.2 && (!u1.2 || decide (t1 < t2)) then (1, true, u2.1) else (0, u1.2, u1.1)
def half1 (b : List UInt8) (h : Nat) : List UInt8 := b.take (64 * h)
def half2 (b : List UInt8) (h : Nat) : List UInt8 := (b.take (64 * h + 64 * h)).drop (64 * h)
def Cur (b : List UInt8) (h : Nat) (x : Nat × Bool × List Rc) : Prop := ∃ L1 L2, Tells (cnt (half1 b h) h) L1 ∧ Tells (cnt (half2 b h) h) L2 ∧ x = pick2 (trn (half1 b h)) (trn (half2 b h)) (uf L1) (uf L2)
set_option maxRecDepth 20000 in
set_option maxHeartbeats 4000000 in
theorem current_any (g o cap n : Nat) (b : List UInt8) (w : World) (hb : IsB w (some ⟨g, o, none⟩) (64 * n) cap b) (hn4 : 4 ≤ n ∧ n ≤ 4096) (hn : Nibs w) :
    Calls Tryd.prog 40 #[.slice (some ⟨g, o, none⟩) (64 * n : Nat) cap] w fun e w' => ∃ x v rv, e = .returned (.tuple #[.int .i64 (x.1 : Nat), v, .bool x.2.1]) ∧ Cur b (n / 2) x ∧ IsRs w.heap.size w' v rv ∧ rv.map rc = x.2.2 ∧ Below w.heap.size w w' := by
  obtain ⟨h, hh⟩ : ∃ h, h = n / 2 := ⟨_, rfl⟩
  rw [← hh]
  have hcap : 64 * n ≤ cap ∧ cap ≤ 9223372036854775807 := by
    obtain ⟨h1, ⟨h2, _⟩ | ⟨x, h2, h3, h4, h5⟩⟩ := hb
    · cases h2
    · exact ⟨h3, by unfold maxLen at h4; omega⟩
  have h2 : 2 ≤ h ∧ h ≤ 2048 := by omega
  have hi1 : IsB w (some ⟨g, o, none⟩) (64 * h) cap (half1 b h) := hb.take (by rw [hb.1]; omega)
  have hi2 : IsB w (some ⟨g, o + 64 * h, none⟩) (64 * h) (cap - 64 * h) (half2 b h) := by
    have := Fm.IsB.sub hb (i := 64 * h) (j := 64 * h + 64 * h) (by omega) (by omega)
    rwa [Nat.add_sub_cancel] at this
  have hl1 : (half1 b h).length = 64 * h := hi1.1
  have hl2 : (half2 b h).length = 64 * h := hi2.1
  have HI := Lib.hid (And.intro hi1 (And.intro hi2 (And.intro hl1 (And.intro hl2 hn))))
  obtain ⟨q, hq⟩ : ∃ q, q = 64 * h := ⟨_, rfl⟩
  have hr1 := fun W (hW : Below w.heap.size w W) => records_any g o cap h (half1 b h) W (hi1.old hW) (by omega) (hn.old hW)
  have hr2 := fun W (hW : Below w.heap.size w W) => records_any g (o + 64 * h) (cap - 64 * h) h (half2 b h) W (hi2.old hW) (by omega) (hn.old hW)
  have ht1 := fun W (hW : Below w.heap.size w W) => turnOf_any _ _ _ (half1 b h) W (hi1.old hW) (by omega)
  have ht2 := fun W (hW : Below w.heap.size w W) => turnOf_any _ _ _ (half2 b h) W (hi2.old hW) (by omega)
  rw [← hq] at hr1 hr2 ht1 ht2
  have HR := Lib.hid (And.intro hr1 (And.intro hr2 (And.intro ht1 ht2)))
  obtain ⟨m, hm⟩ : ∃ m, m = 64 * n := ⟨_, rfl⟩
  rw [← hm]
  have e1 : ((m : Nat) : Int).tdiv 64 = (n : Int) := by rw [hm, Int.tdiv_eq_ediv_of_nonneg (by omega)]; omega
  have e2 : ((n : Nat) : Int).tdiv 2 = (h : Int) := by rw [Int.tdiv_eq_ediv_of_nonneg (by omega)]; omega
  have e3 : (h : Int) * 64 = (q : Int) := by omega
  have hqb : 2 * q ≤ m ∧ q < cap ∧ 2 * q ≤ cap := by omega
  have HQ := Lib.hid (And.intro hq (And.intro hm hh))
  clear hb hi1 hi2 hl1 hl2 hn hr1 hr2 ht1 ht2 hq hm hh
  go_enter Tryd.func40, Tryd.ntmps40
  go_wp2_with fail
  have z1 : IntKind.i64.wrap (2 * (q : Int)) = 2 * (q : Int) := IntWalk.i64_in _ (by omega)
  have z2 : (0 : Int) ≤ 2 * (q : Int) := by omega
  have z3 : 2 * (q : Int) ≤ (cap : Int) := by omega
  have z4 : (q : Int) ≤ max (2 * (q : Int)) 0 := by omega
  have z5 : (2 * (q : Int)).toNat - q = q := by omega
  have z6 : q ≤ cap := by omega
  have z7 : ¬ cap = q := by omega
  have z8 : (q : Int) ≤ 2 * (q : Int) := by omega
  clear e1 e2 e3 hqb h2 hcap hn4
  go_quiet (fail)
  go_wp2_with fail
  have hbd : Below w.heap.size w (w.drewN nq) := ⟨rfl, rfl, rfl, Nat.le_refl _, fun _ _ => rfl⟩
  refine (HR.out.1 _ hbd).mono ?_
  rintro e wa ⟨v1, L1, rv1, rfl, ht1, hs1, hm1, hba⟩
  have hbwa : Below w.heap.size w wa := hbd.trans hba
  have HA := Lib.hid (And.intro ht1 (And.intro hs1 (And.intro hm1 hbwa)))
  clear hbd ht1 hs1 hm1 hba hbwa
  go_wp2_with fail
  refine (HR.out.2.1 _ HA.out.2.2.2).mono ?_
  rintro e wb ⟨v2, L2, rv2, rfl, ht2, hs2, hm2, hbb⟩
  have hbwb : Below w.heap.size w wb := HA.out.2.2.2.trans (hbb.mono HA.out.2.2.2.size)
  have HL := Lib.hid (And.intro HA.out.1 ht2)
  have HF := Lib.hid (And.intro (HA.out.2.1.old hbb) (And.intro (⟨Joins.ownsRow_le hs2.own HA.out.2.2.2.size, fun x hx => Joins.ownsRow_le (hs2.data x hx) HA.out.2.2.2.size⟩ : IsRs w.heap.size wb v2 rv2) (And.intro HA.out.2.2.1 (And.intro hm2 hbwb))))
  have ht1 := HR.out.2.2.1 wb hbwb
  have ht2' := HR.out.2.2.2 wb hbwb
  have HT := Lib.hid (And.intro ht1 ht2')
  clear ht2 hs2 hm2 hbb hbwb ht1 ht2'
  obtain ⟨U1, hU1⟩ : ∃ U, U = uf L1 := ⟨_, rfl⟩
  obtain ⟨U2, hU2⟩ : ∃ U, U = uf L2 := ⟨_, rfl⟩
  rw [← hU1, ← hU2] at HF
  rw [← hU1, ← hU2]
  have HP : ∀ x, x = pick2 (trn (half1 b h)) (trn (half2 b h)) U1 U2 → Cur b h x := fun x hx => ⟨L1, L2, HL.out.1, HL.out.2, by rw [hx, hU1, hU2]⟩
  have HPH := Lib.hid HP
  obtain ⟨A1, s1⟩ := U1
  obtain ⟨A2, s2⟩ := U2
  obtain ⟨T1, hT1⟩ : ∃ T, T = trn (half1 b h) := ⟨_, rfl⟩
  obtain ⟨T2, hT2⟩ : ∃ T, T = trn (half2 b h) := ⟨_, rfl⟩
  rw [← hT1, ← hT2] at HT HPH
  clear hU1 hU2 HP HL HA hT1 hT2
  dsimp only at HF HPH ⊢
  cases s2
  · go_wp2_with fail
    go_ret3
    exact ⟨(0, s1, A1), v1, rv1, rfl, HPH.out _ (by simp [pick2]), HF.out.1, HF.out.2.2.1, HF.out.2.2.2.2⟩
  · cases s1
    · go_wp2_with fail
      go_ret3
      exact ⟨(1, true, A2), v2, rv2, rfl, HPH.out _ (by simp [pick2]), HF.out.2.1, HF.out.2.2.2.1, HF.out.2.2.2.2⟩
    · by_cases hlt : T1 < T2
      · have hltI : (T2 : Int) > (T1 : Int) := by omega
        go_wp2_with fail
        refine HT.out.2.mono ?_
        rintro e w' ⟨rfl, rfl⟩
        go_wp2_with fail
        refine HT.out.1.mono ?_
        rintro e w' ⟨rfl, rfl⟩
        go_wp2_with fail
        go_ret3
        exact ⟨(1, true, A2), v2, rv2, rfl, HPH.out _ (by simp [pick2, hlt]), HF.out.2.1, HF.out.2.2.2.1, HF.out.2.2.2.2⟩
      · have hltI : ¬ (T2 : Int) > (T1 : Int) := by omega
        go_wp2_with fail
        refine HT.out.2.mono ?_
        rintro e w' ⟨rfl, rfl⟩
        go_wp2_with fail
        refine HT.out.1.mono ?_
        rintro e w' ⟨rfl, rfl⟩
        go_wp2_with fail
        go_ret3
        exact ⟨(0, true, A1), v1, rv1, rfl, HPH.out _ (by simp [pick2, hlt]), HF.out.1, HF.out.2.2.1, HF.out.2.2.2.2⟩
set_option maxRecDepth 20000 in
theorem whole_nil (w : World) : Calls Tryd.prog 28 #[.pointer none] w fun e w' => e = .returned (.tuple #[.slice none 0 0, .int .i64 1]) ∧ w = w' := by
  have h := len_nil w
  go_enter Tryd.func28, Tryd.ntmps28
  go_wp2_with (go_at_call 22; (with_reducible refine h.mono ?_); rintro e w' ⟨rfl, rfl⟩)
  go_ret2
  exact ⟨rfl, rfl⟩
section
variable {w : World} {B bd gs cs gn cn n : Nat} {vw : Value} {F G : List UInt8} {W : List Wr}
set_option maxRecDepth 20000 in
theorem whole_small {dn : Bool} (h : IsDk w B bd gs cs gn cn vw n F G W dn) (hn : n < 4) : Calls Tryd.prog 28 #[.pointer (some ⟨bd, 0, none⟩)] w fun e w' => e = .returned (.tuple #[.slice none 0 0, .int .i64 1]) ∧ w = w' := by
  have h1 := len_any h
  have hI : (n : Int) < 4 := by omega
  clear h
  go_enter Tryd.func28, Tryd.ntmps28
  go_wp2_with (go_at_call 22; (with_reducible refine h1.mono ?_); rintro e w' ⟨rfl, rfl⟩)
  go_ret2
  exact ⟨rfl, rfl⟩
set_option maxRecDepth 20000 in
theorem whole_down (h : IsDk w B bd gs cs gn cn vw n F G W true) (hn : 4 ≤ n) : Calls Tryd.prog 28 #[.pointer (some ⟨bd, 0, none⟩)] w fun e w' => e = .returned (.tuple #[.slice none 0 0, .int .i64 19]) ∧ w = w' := by
  have h1 := len_any h
  have H := Lib.hid h
  have hI : ¬ (n : Int) < 4 := by omega
  clear h
  go_enter Tryd.func28, Tryd.ntmps28
  go_wp2_with (go_at_call 22; (with_reducible refine h1.mono ?_); rintro e w' ⟨rfl, rfl⟩)
  refine (read_down H.out 0 n).mono ?_
  rintro e w' ⟨rfl, rfl⟩
  go_wp2_with fail
  go_ret2
  exact ⟨rfl, rfl⟩
set_option maxRecDepth 20000 in
theorem whole_ok (h : IsDk w B bd gs cs gn cn vw n F G W false) (hn : 4 ≤ n) : Calls Tryd.prog 28 #[.pointer (some ⟨bd, 0, none⟩)] w fun e w' => ∃ g cp, e = .returned (.tuple #[.slice (some ⟨g, 0, none⟩) (64 * n : Nat) cp, .int .i64 0]) ∧ IsB w' (some ⟨g, 0, none⟩) (64 * n) cp G ∧ Below w.heap.size w w' := by
  have h1 := len_any h
  have H := Lib.hid h
  have hI : ¬ (n : Int) < 4 := by omega
  clear h
  go_enter Tryd.func28, Tryd.ntmps28
  go_wp2_with (go_at_call 22; (with_reducible refine h1.mono ?_); rintro e w' ⟨rfl, rfl⟩)
  refine (read_ok H.out 0 n (by omega) (by omega)).mono ?_
  rintro e w' ⟨ao, cp, rfl, hi, ho, hb⟩
  have hG : getM G 0 n = G := by unfold getM; rw [Nat.mul_zero, List.drop_zero, List.take_of_length_le (by rw [H.out.lenG]; exact Nat.le_refl _)]
  rw [hG] at hi ho
  obtain ⟨g, rfl⟩ : ∃ g, ao = some ⟨g, 0, none⟩ := by
    rcases ho.2 with ⟨h, _⟩ | ⟨g, c, cur, h, _⟩
    · simp at h; omega
    · simp at h; exact ⟨g, h.1⟩
  have HF := Lib.hid (And.intro hi hb)
  clear hi ho hb hG
  go_wp2_with fail
  go_ret2
  exact ⟨g, cp, rfl, HF.out⟩
end
end Go.Proofs.YtjblkmjdepdekaaDoor.Wl

/- logs: the chain of some records -/
namespace Go.Proofs.YtjblkmjdepdekaaDoor.Wl
open Go.RowKit Go.Lib Go.Joins Go.Proofs.YtjblkmjdepdekaaDoor.By Go.Proofs.YtjblkmjdepdekaaDoor.Dk Go.Proofs.YtjblkmjdepdekaaDoor.Oc Go.Proofs.YtjblkmjdepdekaaDoor.Rg Go.Proofs.YtjblkmjdepdekaaDoor.Ht Go.Proofs.YtjblkmjdepdekaaDoor.Cr Go.Proofs.YtjblkmjdepdekaaDoor.Fm

/-- records that can be read in a slice, wherever -/
def RecIn (w : World) (g o i : Nat) (x : Rv) : Prop := w.cell? ⟨g, o + i * 2, none⟩ = some (.int .u8 (x.k.toNat : Nat)) ∧ w.cell? ⟨g, o + i * 2 + 1, none⟩ = some (.slice x.a x.d.length x.c) ∧ IsB w x.a x.d.length x.c x.d
def InRs (w : World) (a : Option Addr) (L : List Rv) : Prop := L = [] ∨ ∃ g o, a = some ⟨g, o, none⟩ ∧ ∀ i (h : i < L.length), RecIn w g o i L[i]
theorem RecIn.old {w w' : World} {g o i : Nat} {x : Rv} (h : RecIn w g o i x) (hb : Below w.heap.size w w') : RecIn w' g o i x := by
  obtain ⟨h1, h2, h3⟩ := h
  have hlt := World.block_lt_of_cell? w _ h1
  exact ⟨(hb.cell (p := ⟨g, o + i * 2, none⟩) hlt).trans h1, (hb.cell (p := ⟨g, o + i * 2 + 1, none⟩) hlt).trans h2, h3.old hb⟩
theorem InRs.old {w w' : World} {a : Option Addr} {L : List Rv} (h : InRs w a L) (hb : Below w.heap.size w w') : InRs w' a L := by
  rcases h with h | ⟨g, o, e, h⟩
  · exact .inl h
  · exact .inr ⟨g, o, e, fun i hi => (h i hi).old hb⟩
theorem rcvs_get : ∀ (L : List Rv) (i : Nat) (h : i < L.length), (rcvs L)[i * 2]? = some (.int .u8 (L[i].k.toNat : Nat)) ∧ (rcvs L)[i * 2 + 1]? = some (.slice L[i].a L[i].d.length L[i].c)
  | [], i, h => absurd h (Nat.not_lt_zero i)
  | x :: L, 0, _ => ⟨rfl, rfl⟩
  | x :: L, i + 1, h => by
    have := rcvs_get L i (by simpa using h)
    rw [show (i + 1) * 2 = i * 2 + 2 by omega, show i * 2 + 2 + 1 = i * 2 + 1 + 2 by omega]
    exact this
/-- a row of one's own can be read -/
theorem IsRs.inRs {B : Nat} {w : World} {a : Option Addr} {n c : Nat} {L : List Rv} (h : IsRs B w (.slice a n c) L) : InRs w a L := by
  rcases h.own.2 with ⟨_, h0⟩ | ⟨g, cap, cur, hv, _⟩
  · exact .inl (List.length_eq_zero_iff.1 h0)
  · have hv2 := hv
    simp only [Value.slice.injEq] at hv2
    obtain ⟨rfl, rfl, rfl⟩ := hv2
    have hc := h.own.cells (g := g) rfl
    refine .inr ⟨g, 0, rfl, fun i hi => ?_⟩
    have hg := rcvs_get L i hi
    have h1 := hc _ _ hg.1
    have h2 := hc _ _ hg.2
    rw [add_lit, Nat.zero_add] at h1 h2
    exact ⟨by rw [Nat.zero_add]; exact h1, by rw [Nat.zero_add]; exact h2, isB_of_own' (h.data _ (List.getElem_mem hi))⟩
def catR (L : List Rv) : List UInt8 := cat 0 (L.map rc)
def smR (L : List Rv) : Nat := sm 0 (L.map rc)
theorem catR_next {L : List Rv} {i : Nat} (h : i < L.length) : catR (L.take (i + 1)) = catR (L.take i) ++ fb (smR (L.take i)) L[i].k L[i].d ∧ smR (L.take (i + 1)) = fs (smR (L.take i)) L[i].k L[i].d := by
  have hm : i < (L.map rc).length := by rw [List.length_map]; exact h
  have := cat_next 0 hm
  unfold catR smR
  rw [List.map_take, List.map_take]
  rw [List.getElem_map] at this
  exact this
theorem catR_le {L : List Rv} (hd : ∀ x ∈ L, x.d.length ≤ 1024) : ∀ i, i ≤ L.length → (catR (L.take i)).length ≤ 1032 * i
  | 0, _ => Nat.le_refl _
  | i + 1, h => by
    have ih := catR_le hd i (by omega)
    have hf := fb_le (k := L[i].k) (smR (L.take i)) (hd _ (List.getElem_mem (by omega : i < L.length)))
    rw [(catR_next h).1, List.length_append]
    omega
set_option maxRecDepth 20000 in
set_option maxHeartbeats 4000000 in
theorem chain_any (a : Option Addr) (cap room : Nat) (L : List Rv) (w : World) (hL : InRs w a L) (hd : ∀ x ∈ L, x.d.length ≤ 1024) (hl : L.length ≤ 300000) (hr : room ≤ 300000) (hn : Nibs w) :
    Calls Tryd.prog 54 #[.slice a L.length cap, .int .i64 (room : Nat)] w fun e w' => Below w.heap.size w w' ∧
      (((catR L).length ≤ room ∧ ∃ ao cp, e = .returned (.tuple #[.slice ao (catR L).length cp, .int .u32 (smR L : Nat), .int .i64 0]) ∧ w'.ownsRow w.heap.size 5 1 (.slice ao (catR L).length cp) (catR L).length (byteCells (catR L))) ∨
        (room < (catR L).length ∧ e = .returned (.tuple #[.slice none 0 0, .int .u32 0, .int .i64 6]))) := by
  have HI := Lib.hid (And.intro hL (And.intro hd hn))
  clear hL hd hn
  go_enter Tryd.func54, Tryd.ntmps54
  go_wp2_with fail
  go_loopw [7, 8, 9, 17] (fun bv sv zv kv wr => ∃ (k : Nat) (ao : Option Addr) (n cp : Nat) (l : List UInt8), k ≤ L.length ∧ kv = .int .i64 k ∧ zv = .int .i64 ((catR (L.take k)).length : Nat) ∧ sv = .int .u32 (smR (L.take k) : Nat) ∧ bv = .slice ao n cp ∧ l.length = n ∧
      wr.ownsRow w.heap.size 5 1 (.slice ao n cp) n (byteCells l) ∧ ((catR (L.take k)).length ≤ room → l = catR (L.take k)) ∧ l.length ≤ room ∧ Below w.heap.size w wr) (fun _ _ _ kv _ => L.length - (intOf kv).toNat)
  case atStart => exact ⟨0, none, 0, 0, [], Nat.zero_le _, rfl, rfl, rfl, rfl, rfl, World.ownsRow_nil _ _ _ _, fun _ => rfl, Nat.zero_le _, Below.refl _ _⟩
  case round =>
    obtain ⟨k, ao, n, cp, l, hk, rfl, rfl, rfl, rfl, rfl, ho, hle, hlr, hb⟩ := hrel
    by_cases hlt : k < L.length
    · obtain ⟨x, hx⟩ : ∃ x, x = L[k] := ⟨_, rfl⟩
      obtain ⟨g, o, rfl, hrec⟩ : ∃ g o, a = some ⟨g, o, none⟩ ∧ RecIn wr g o k x := by
        rcases HI.out.1.old hb with h | ⟨g, o, e, h⟩
        · rw [h] at hlt; exact absurd hlt (Nat.not_lt_zero k)
        · exact ⟨g, o, e, by rw [hx]; exact h k hlt⟩
      have hxd : x.d.length ≤ 1024 := HI.out.2.1 x (by rw [hx]; exact List.getElem_mem hlt)
      obtain ⟨c0, c1, hib⟩ := hrec
      have hal : Below wr.heap.size wr (wr.alloc (.cells #[.int .u8 (x.k.toNat : Nat), .slice x.a x.d.length x.c] 34)) := (Below.refl _ _).alloc (Nat.le_refl _) _
      have hba := hb.trans (hal.mono hb.size)
      have hus : U32 (smR (L.take k)) := sm_u32 U32.zero _
      have hfr := frBytes_ok (smR (L.take k)) x.k x.a x.d.length x.c x.d _ hus (hib.old hal) hxd ((HI.out.2.2.old hb).old hal)
      have hnx := catR_next hlt
      rw [← hx] at hnx
      have hT := catR_le HI.out.2.1 k hk
      have hF := fb_le (k := x.k) (smR (L.take k)) hxd
      obtain ⟨Fr0, hFr⟩ : ∃ F, F = fb (smR (L.take k)) x.k x.d := ⟨_, rfl⟩
      obtain ⟨S1, hS1⟩ : ∃ F, F = fs (smR (L.take k)) x.k x.d := ⟨_, rfl⟩
      rw [← hFr, ← hS1] at hfr hnx
      rw [← hFr] at hF
      have hown0 := own_below ho hal (Nat.le_refl _)
      obtain ⟨T, hTe⟩ : ∃ T, T = (catR (L.take k)).length := ⟨_, rfl⟩
      have hTN : (catR (L.take (k + 1))).length = T + Fr0.length := by rw [hnx.1, List.length_append, hTe]
      rw [← hTe] at hle hT ⊢
      obtain ⟨S0, hS0⟩ : ∃ S, S = smR (L.take k) := ⟨_, rfl⟩
      rw [← hS0] at hfr ⊢
      have HN := Lib.hid (And.intro hnx (And.intro hTN hTe))
      have HO := Lib.hid (And.intro hown0 (And.intro hle (And.intro hlr hba)))
      have HC := Lib.hid hfr
      have hkc : (k : Int) < (L.length : Int) := by omega
      clear hb hib hal hba hus hfr hnx hown0 hTN hTe hle ho hFr hS1 hS0 hx
      go_wp2_with fail
      refine HC.out.mono ?_
      rintro e W1 ⟨af, cf, rfl, hof, hbf⟩
      have hown1 := own_below HO.out.1 hbf (Nat.le_refl _)
      have hb1 := HO.out.2.2.2.trans (hbf.mono HO.out.2.2.2.size)
      have hif := isB_of_own' hof
      have HW := Lib.hid (And.intro hown1 (And.intro hb1 hif))
      clear hown1 hb1 hif hof hbf HC
      by_cases hro : T + Fr0.length ≤ room
      · have hrI : (T : Int) + (Fr0.length : Int) ≤ (room : Int) := by omega
        have HLT := Lib.hid (HO.out.2.1 (by omega))
        have hlr := HO.out.2.2.1
        go_wp2_with (at_builtin; refine wpList_append_bytes rfl _ _ rfl w.heap.size (.slice ao l.length cp) l.length l rfl HW.out.1 af Fr0.length cf Fr0 rfl HW.out.2.2 (by omega) HW.out.2.1.size ?_; intro ao2 cp2 W2 hown2 hg2)
        have hb2 := HW.out.2.1.grown hg2 HW.out.2.1.size (fun j hj => (HW.out.1.lt j hj).1)
        have HZ := Lib.hid (And.intro hown2 hb2)
        clear hown2 hb2 hg2
        go_roundw
        case rel => exact ⟨k + 1, ao2, l.length + Fr0.length, cp2, l ++ Fr0, by omega, by go_num, by rw [HN.out.2.1]; go_num, by rw [HN.out.1.2], rfl, by rw [List.length_append], HZ.out.1, fun _ => by rw [HN.out.1.1, HLT.out], by rw [List.length_append]; have := HN.out.2.2; rw [HLT.out]; omega, HZ.out.2⟩
        case measure => simp [intOf]; omega
      · have hrI : ¬ (T : Int) + (Fr0.length : Int) ≤ (room : Int) := by omega
        go_wp2_with fail
        go_roundw
        case rel => exact ⟨k + 1, ao, l.length, cp, l, by omega, by go_num, by rw [HN.out.2.1]; go_num, by rw [HN.out.1.2], rfl, rfl, HW.out.1, fun h => absurd h (by rw [HN.out.2.1]; exact hro), HO.out.2.2.1, HW.out.2.1⟩
        case measure => simp [intOf]; omega
    · obtain rfl : k = L.length := by omega
      rw [List.take_length] at hle ⊢
      have hT := catR_le HI.out.2.1 L.length (Nat.le_refl _)
      rw [List.take_length] at hT
      obtain ⟨T, hTe⟩ : ∃ T, T = (catR L).length := ⟨_, rfl⟩
      rw [← hTe] at hle hT ⊢
      have HF := Lib.hid (And.intro hTe (And.intro ho (And.intro hle (And.intro hlr hb))))
      clear hTe ho hle hlr hb
      by_cases hgt : T ≤ room
      · have hg : ¬ (T : Int) > (room : Int) := by omega
        go_wp2_with fail
        go_ret3
        have hl2 := HF.out.2.2.1 hgt
        have ho := HF.out.2.1
        subst hl2
        rw [HF.out.1]
        exact ⟨HF.out.2.2.2.2, .inl ⟨by have := HF.out.1; omega, ao, cp, rfl, ho⟩⟩
      · have hg : (T : Int) > (room : Int) := by omega
        go_wp2_with fail
        go_ret3
        exact ⟨HF.out.2.2.2.2, .inr ⟨by have := HF.out.1; omega, rfl⟩⟩
end Go.Proofs.YtjblkmjdepdekaaDoor.Wl

/- a call that leaves the world alone is taken first in a region that draws (of no program) -/
namespace Go.Proofs.YtjblkmjdepdekaaDoor.Ht
open Go.RowKit Go.Sort
variable {P : Program} {md : Region.Mode} {ops : Array Oper} {Q : Exit → Act → World → Prop} {S : World → Prop} {L : Nat}

/-- in every world that meets S the call gives v and leaves the world as it is -/
def YieldsC (P : Program) (ops : Array Oper) (S : World → Prop) (o : Oper) (v : Value) (a : Act) : Prop :=
  Region.wanted o (yielded ops a.tmps) = true ∧ ∀ w, S w → ∃ f args, (execOp a.eval o).run P w = .ok (.enter f args) w ∧ Calls P f args w fun e w' => e = .returned v ∧ w' = w
theorem YieldsC.of_same {o : Oper} {v : Value} {a a' : Act} (hy : YieldsC P ops S o v a) (he : execOp a'.eval o = execOp a.eval o) (hw : Region.wanted o (yielded ops a'.tmps) = Region.wanted o (yielded ops a.tmps)) : YieldsC P ops S o v a' := by
  unfold YieldsC at *; rw [he, hw]; exact hy
theorem YieldsC.wpOp {i : Nat} {o : Oper} {v : Value} {a : Act} (hi : ops[i]? = some o) (hy : YieldsC P ops S o v a) {K : Act → World → Prop} {w : World} (hS : S w) (h : K (a.put o.dst v) w) : wpOp P ops Q i K a w := by
  unfold Go.wpOp
  simp only [hi, hy.1, if_true]
  obtain ⟨f, args, hr, hc⟩ := hy.2 w hS
  refine .inl ?_
  unfold Oper.wp
  rw [hr]
  exact hc.mono fun e w' ⟨he, hw⟩ => by subst he hw; exact h
/-- another operation goes as well with the call's value laid already -/
theorem wpOp_putC {j : Nat} {oi oj : Oper} {v : Value} (hj : ops[j]? = some oj) (hap : oi.apart ops oj = true) (hsi : ∀ cs b, oi.op ≠ .select cs b) (hsj : ∀ cs b, oj.op ≠ .select cs b)
    (hQ : ∀ c a w, Q (.panic c) (a.put oi.dst v) w → Q (.panic c) a w) {K : Act → World → Prop} {a : Act} {w : World} (hy : YieldsC P ops S oi v a) (h : wpOp P ops Q j K (a.put oi.dst v) w) :
    wpOp P ops Q j (fun a' w' => YieldsC P ops S oi v a' ∧ K (a'.put oi.dst v) w') a w := by
  obtain ⟨h1, h2, h3⟩ := Oper.apart_spec hap
  have kp : ∀ u, YieldsC P ops S oi v (a.put oj.dst u) := fun u => hy.of_same (execOp_put oi hsi a oj.dst u h3) (wanted_put oi a oj.dst u h3)
  have cm : ∀ u, (a.put oi.dst v).put oj.dst u = (a.put oj.dst u).put oi.dst v := fun u => Act.put_comm a v u h2
  have ex := execOp_put oj hsj a oi.dst v h1
  have wt := wanted_put oj a oi.dst v h1 (ops := ops)
  unfold wpOp at h ⊢
  simp only [hj] at h ⊢
  rw [wt] at h
  by_cases hw : Region.wanted oj (yielded ops a.tmps) = true
  · simp only [hw, if_true] at h ⊢
    rcases h with h | ⟨ha, hl⟩
    · refine .inl ?_
      unfold Oper.wp at h ⊢
      rw [ex] at h
      generalize (execOp a.eval oj).run P w = r at h ⊢
      cases r with
      | ok n w' =>
        cases n <;> simp only [Oper.upon] at h ⊢
        case value u => exact ⟨kp u, by rw [← cm]; exact h⟩
        case skip => exact ⟨kp _, by rw [← cm]; exact h⟩
        case defer d =>
          have kd : YieldsC P ops S oi v { a with defers := d :: a.defers } := hy.of_same rfl rfl
          refine ⟨kd.of_same (execOp_put oi hsi _ oj.dst undef h3) (wanted_put oi _ oj.dst undef h3), ?_⟩
          rw [← Act.put_comm _ v undef h2, ← Act.put_defers]
          exact h
        case enter f args =>
          refine Calls.mono h fun e w2 he => ?_
          cases e with
          | returned u => exact ⟨kp u, by rw [← cm]; exact he⟩
          | panicked c => exact hQ _ _ _ he
          | outgrown => exact he
        case row r args => exact Rows.mono h fun u w2 he => ⟨kp u, by rw [← cm]; exact he⟩
      | halt x w' =>
        cases x <;> simp only [Oper.upon] at h ⊢
        case panic u => exact hQ _ _ _ h
    · exact .inr ⟨by unfold Oper.asks at *; rw [ex] at ha; exact ha, hl⟩
  · rw [if_neg hw] at h ⊢
    exact ⟨kp _, by rw [← cm]; exact h⟩
theorem ahead_call {i : Nat} {oi : Oper} {v : Value} (hlast : last md ops L = true) (hiL : i ≠ L) (hi : ops[i]? = some oi) (hsel : Region.noSelect ops = true)
    (hQ : ∀ c a w, Q (.panic c) (a.put oi.dst v) w → Q (.panic c) a w) : ∀ (f : Nat) (listed : Array Bool) (a : Act) (w : World), Closed md ops listed →
      (∀ j oj, ops[j]? = some oj → j ≠ i → listed.getD j true = false → (∀ e ∈ oj.after, Region.binds md e = true → e.on ≠ i) → oi.apart ops oj = true) →
      i ∈ Region.ready md ops listed → YieldsC P ops S oi v a → S w →
      Ahead P md ops Q S L f (listed.setIfInBounds i true) (a.put oi.dst v) w → Ahead P md ops Q S L (f + 1) listed a w
  | f, listed, a, w, hcl, hfree, hr, hy, hS, H => by
    refine ⟨fun h => absurd hr (by rw [h]; simp), fun j hj => ?_⟩
    by_cases hji : j = i
    · subst hji; exact hy.wpOp hi hS ⟨fun _ => hS, H⟩
    have hjL : j ≠ L := fun e => hiL (last_spec hlast hcl hr (e ▸ hj))
    cases f with
    | zero =>
      have := ready_mono hj hji
      rw [H.1] at this
      cases this
    | succ f =>
      obtain ⟨hjun, oj, hoj, hall⟩ := mem_ready.1 hj
      have hnot : ∀ e ∈ oj.after, Region.binds md e = true → e.on ≠ i := fun e he hb heq => by
        have h1 := hall e he hb
        have h0 := (mem_ready.1 hr).1
        rw [heq] at h1
        rcases Nat.lt_or_ge i listed.size with h' | h'
        · simp [h'] at h0 h1; rw [h0] at h1; cases h1
        · simp [Array.getElem?_eq_none h'] at h1
      have h2 := wpOp_putC hoj (hfree j oj hoj hji hjun hnot) (fun cs b => Region.noSelect_spec hsel i oi cs b hi) (fun cs b => Region.noSelect_spec hsel j oj cs b hoj) hQ hy (H.2 j (ready_mono hj hji))
      refine wpOp_mono (fun a' w' h3 => ⟨h3.2.1, ahead_call hlast hiL hi hsel hQ f (listed.setIfInBounds j true) a' w' (hcl.next hj) ?_ (ready_mono hr (Ne.symm hji)) h3.1 (h3.2.1 hjL) ?_⟩) h2
      · intro k ok hk hki hun hno
        refine hfree k ok hk hki ?_ hno
        by_cases hjk : j = k
        · subst hjk; exact hjun
        · rwa [getD_set_ne true hjk] at hun
      · rw [Array.setIfInBounds_comm _ _ hji]
        exact h3.2.2
theorem takeC {i : Nat} (oi : Oper) (v : Value) {f : Nat} {listed : Array Bool} {a : Act} {w : World} (hi : ops[i]? = some oi) (hlast : last md ops L = true) (hcl : closedB md ops listed = true) (hiL : i ≠ L)
    (hs : Region.noSelect ops = true) (hf : Region.free md ops listed i = true) (hr : (Region.ready md ops listed).contains i = true) (hS : S w) (hy : YieldsC P ops S oi v a)
    (h : Ahead P md ops (Nrm Q) S L f (listed.setIfInBounds i true) (a.put oi.dst v) w) : Ahead P md ops (Nrm Q) S L (f + 1) listed a w :=
  ahead_call hlast hiL hi hs (fun _ _ _ h => h.elim) f listed a w (closed_spec hcl) (Region.free_spec hi hf) (by simpa using hr) hy hS h
end Go.Proofs.YtjblkmjdepdekaaDoor.Ht

/- logs in memory; Room, Turn, sectors, Sync, seals -/
namespace Go.Proofs.YtjblkmjdepdekaaDoor.Wl
open Go.RowKit Go.Lib Go.Joins Go.Proofs.YtjblkmjdepdekaaDoor.By Go.Proofs.YtjblkmjdepdekaaDoor.Dk Go.Proofs.YtjblkmjdepdekaaDoor.Oc Go.Proofs.YtjblkmjdepdekaaDoor.Rg Go.Proofs.YtjblkmjdepdekaaDoor.Ht Go.Proofs.YtjblkmjdepdekaaDoor.Cr Go.Proofs.YtjblkmjdepdekaaDoor.Fm

/-- a log's cells -/
def lgc (bd hf t z s : Nat) (last : List UInt8) : List Value := [.pointer (some ⟨bd, 0, none⟩), .int .i64 (hf : Nat), .int .u64 (t : Nat), .int .i64 (z : Nat), .int .u32 (s : Nat)] ++ byteCells last
structure IsLg (w : World) (bl bd hf t z s : Nat) (last : List UInt8) : Prop where
  blk : w.heap[bl]? = some (.cells (lgc bd hf t z s last).toArray 73 (0, 0))
  len : last.length = 55
  hf1 : hf ≤ 1
  ut : U64 t
  us : U32 s
theorem lgc_len {bd hf t z s : Nat} {last : List UInt8} (h : last.length = 55) : (lgc bd hf t z s last).length = 60 := by simp [lgc, byteCells, h]
section
variable {w w' : World} {bl bd hf t z s : Nat} {last : List UInt8}
theorem IsLg.cells (h : IsLg w bl bd hf t z s last) : w.cell? ⟨bl, 0, none⟩ = some (.pointer (some ⟨bd, 0, none⟩)) ∧ w.cell? ⟨bl, 1, none⟩ = some (.int .i64 (hf : Nat)) ∧ w.cell? ⟨bl, 2, none⟩ = some (.int .u64 (t : Nat)) ∧ w.cell? ⟨bl, 3, none⟩ = some (.int .i64 (z : Nat)) ∧ w.cell? ⟨bl, 4, none⟩ = some (.int .u32 (s : Nat)) := by
  refine ⟨?_, ?_, ?_, ?_, ?_⟩ <;> (rw [cell_of_block h.blk]; simp [lgc])
theorem IsLg.free (h : IsLg w bl bd hf t z s last) (k : Nat) : w.frozen? ⟨bl, k, none⟩ = false := unfrozen_of_block h.blk k
theorem IsLg.lastB (h : IsLg w bl bd hf t z s last) : IsB w (some ⟨bl, 5, none⟩) 55 55 last :=
  ⟨h.len, .inr ⟨_, rfl, Nat.le_refl _, by unfold maxLen; omega, fun j u hu => by
    rw [add_lit, cell_of_block h.blk]
    have : (lgc bd hf t z s last)[5 + j]? = some u := by
      unfold lgc
      rw [List.getElem?_append_right (by simp)]
      simpa using hu
    simpa using this⟩⟩
theorem IsLg.same (h : IsLg w bl bd hf t z s last) (hb : w'.heap[bl]? = w.heap[bl]?) : IsLg w' bl bd hf t z s last := ⟨hb.trans h.blk, h.len, h.hf1, h.ut, h.us⟩
theorem IsLg.old (h : IsLg w bl bd hf t z s last) (hb : Below w.heap.size w w') : IsLg w' bl bd hf t z s last := h.same (hb.block _ (lt_of_block h.blk))
/-- a log is none of a disk's blocks -/
theorem IsLg.apart {B gs cs gn cn n : Nat} {vw : Value} {F G : List UInt8} {W : List Wr} {dn : Bool} {bd' : Nat} (h : IsLg w bl bd hf t z s last) (hd : IsDk w B bd' gs cs gn cn vw n F G W dn) : ¬ Foot bd' gs gn vw bl :=
  hd.not_foot h.blk (by decide) (by decide) (by decide)
theorem IsLg.fr {B gs cs gn cn n : Nat} {vw : Value} {F G : List UInt8} {W : List Wr} {dn : Bool} {bd' : Nat} (h : IsLg w bl bd hf t z s last) (hd : IsDk w B bd' gs cs gn cn vw n F G W dn) (hf' : Fr (Foot bd' gs gn vw) w w') : IsLg w' bl bd hf t z s last :=
  h.same (hf'.block _ (lt_of_block h.blk) (h.apart hd))
variable {B gs cs gn cn n : Nat} {vw : Value} {F G : List UInt8} {W : List Wr} {dn : Bool}
theorem sectors_any (h : IsLg w bl bd hf t z s last) (hd : IsDk w B bd gs cs gn cn vw n F G W dn) : Calls Tryd.prog 44 #[.pointer (some ⟨bl, 0, none⟩)] w fun e w' => e = .returned (.int .i64 ((n / 2 : Nat) : Int)) ∧ w = w' := by
  obtain ⟨c0, _⟩ := h.cells
  have h1 := len_any hd
  have hn := hd.n2
  have e2 : wrap64 ((n : Int) / 2) = ((n / 2 : Nat) : Int) := by unfold wrap64; omega
  clear h hd hn
  go_enter Tryd.func44, Tryd.ntmps44
  go_wp2_with (go_at_call 22; (with_reducible refine h1.mono ?_); rintro e w' ⟨rfl, rfl⟩)
  go_ret
  exact ⟨by first | rfl | (rw [← e2]; rfl), rfl⟩
theorem turn_any (h : IsLg w bl bd hf t z s last) : Calls Tryd.prog 13 #[.pointer (some ⟨bl, 0, none⟩)] w fun e w' => e = .returned (.int .u64 (t : Nat)) ∧ w = w' := by
  obtain ⟨_, _, c2, _⟩ := h.cells
  clear h
  go_enter Tryd.func13, Tryd.ntmps13
  go_wp2_with fail
  go_ret
  exact ⟨rfl, rfl⟩
theorem turn_nil (w : World) : Calls Tryd.prog 13 #[.pointer none] w fun e w' => e = .returned (.int .u64 0) ∧ w = w' := by
  go_enter Tryd.func13, Tryd.ntmps13
  go_wp2_with fail
  go_ret
  exact ⟨rfl, rfl⟩
theorem room_nil (w : World) : Calls Tryd.prog 26 #[.pointer none] w fun e w' => e = .returned (.int .i64 0) ∧ w = w' := by
  go_enter Tryd.func26, Tryd.ntmps26
  go_wp2_with fail
  go_ret
  exact ⟨rfl, rfl⟩
theorem wsync_nil (w : World) : Calls Tryd.prog 12 #[.pointer none] w fun e w' => e = .returned (.int .i64 1) ∧ w = w' := by
  go_enter Tryd.func12, Tryd.ntmps12
  go_wp2_with fail
  go_ret
  exact ⟨rfl, rfl⟩
theorem wsync_any (h : IsLg w bl bd hf t z s last) (hd : IsDk w B bd gs cs gn cn vw n F G W false) (hWl : W.length ≤ 1000000) : Calls Tryd.prog 12 #[.pointer (some ⟨bl, 0, none⟩)] w fun e w' =>
    e = .returned (.int .i64 0) ∧ IsDk w' B bd gs cs gn cn (.slice none 0 0) n (syncF G F W) G [] false ∧ Fr (Foot bd gs gn vw) w w' := by
  obtain ⟨c0, _⟩ := h.cells
  have h1 := Lib.hid (sync_ok hd hWl)
  clear h hd
  go_enter Tryd.func12, Tryd.ntmps12
  go_wp2_with fail
  refine h1.out.mono ?_
  rintro e w' ⟨rfl, hd2, hf2⟩
  have HF := Lib.hid (And.intro hd2 hf2)
  clear hd2 hf2
  go_wp2_with fail
  go_ret
  exact ⟨rfl, HF.out⟩
set_option maxRecDepth 20000 in
set_option maxHeartbeats 2000000 in
theorem room_any (h : IsLg w bl bd hf t z s last) (hd : IsDk w B bd gs cs gn cn vw n F G W dn) (hz : z ≤ 55 * (n / 2)) : Calls Tryd.prog 26 #[.pointer (some ⟨bl, 0, none⟩)] w fun e w' => e = .returned (.int .i64 ((55 * (n / 2) - z : Nat) : Int)) ∧ ∃ q, w' = w.drewN q := by
  have hs := fun q => sectors_any (show IsLg (w.drewN q) bl bd hf t z s last from h.same rfl) (show IsDk (w.drewN q) B bd gs cs gn cn vw n F G W dn from hd.other fun _ _ _ => rfl)
  obtain ⟨_, _, _, c3, _⟩ := h.cells
  have hn := hd.n2
  obtain ⟨m, hm⟩ : ∃ m, m = n / 2 := ⟨_, rfl⟩
  rw [← hm] at hs hz ⊢
  have z1 : IntKind.i64.wrap ((m : Int) * 55) = (m : Int) * 55 := IntWalk.i64_in _ (by omega)
  have z2 : IntKind.i64.wrap ((m : Int) * 55 - (z : Int)) = ((55 * m - z : Nat) : Int) := by rw [IntKind.wrap_i64]; omega
  have HS := Lib.hid hs
  have hc : ∀ q, (w.drewN q).cell? ⟨bl, 3, none⟩ = some (.int .i64 (z : Nat)) := fun q => c3
  clear h hd hs hn hm
  go_enter Tryd.func26, Tryd.ntmps26
  go_wp2_with fail
  have q1 : ∀ q, Calls Tryd.prog 44 #[.pointer (some ⟨bl, 0, none⟩)] (w.drewN q) fun e w' => e = .returned (.int .i64 (m : Nat)) ∧ w' = w.drewN q := fun q => (HS.out q).mono fun _ _ h => ⟨h.1, h.2.symm⟩
  go_quiet ((go_at_call 44; exact Calls.quiet_of_same (q1 _)))
  go_wp2_with fail
  go_ret
  exact ⟨rfl, nq, rfl⟩
theorem seals_any (k : UInt8) (v : Value) (w : World) : Calls Tryd.prog 31 #[.agg #[.int .u8 (k.toNat : Nat), v]] w fun e w' => e = .returned (.bool (decide (k = 255))) ∧ Below w.heap.size w w' := by
  by_cases hk : k = 255
  · subst hk
    go_enter Tryd.func31, Tryd.ntmps31
    go_wp2_with fail
    go_ret
    exact ⟨rfl, (Below.refl _ _).alloc (Nat.le_refl _) _⟩
  · have hk0 : ¬ (k.toNat : Int) = 255 := fun h => hk (UInt8.toNat_inj.1 (show k.toNat = 255 by omega))
    have hkd : decide (k = 255) = false := by simp [hk]
    rw [hkd]
    clear hk hkd
    go_enter Tryd.func31, Tryd.ntmps31
    go_wp2_with fail
    go_ret
    exact ⟨by simp [hk0], (Below.refl _ _).alloc (Nat.le_refl _) _⟩
end
end Go.Proofs.YtjblkmjdepdekaaDoor.Wl

/- as Ht.take, where the last operation waits for others by many between (of no program) -/
namespace Go.Proofs.YtjblkmjdepdekaaDoor.Ht
open Go.RowKit Go.Sort
variable {P : Program} {md : Region.Mode} {ops : Array Oper} {Q : Exit → Act → World → Prop} {S : World → Prop} {L : Nat}

def lastD (k : Nat) (md : Region.Mode) (ops : Array Oper) (L : Nat) : Bool := (List.range ops.size).all fun i => i == L || waits md ops k L i
theorem lastD_spec {k : Nat} (h : lastD k md ops L = true) (listed : Array Bool) (hc : Closed md ops listed) {i : Nat} (hi : i ∈ Region.ready md ops listed) (hL : L ∈ Region.ready md ops listed) : i = L := by
  obtain ⟨h0, o, ho, _⟩ := mem_ready.1 hi
  have hlt : i < ops.size := (Array.getElem?_eq_some_iff.1 ho).1
  have := List.all_eq_true.1 h i (List.mem_range.2 hlt)
  rcases Bool.or_eq_true_iff.1 this with h1 | h1
  · exact beq_iff_eq.1 h1
  · exfalso
    have := waits_spec hc k L i (fun m hm => ready_direct hL hm) h1
    rcases Nat.lt_or_ge i listed.size with h' | h'
    · simp [h'] at h0 this; rw [h0] at this; cases this
    · simp [Array.getElem?_eq_none h'] at this
theorem ahead_deep {i : Nat} {oi : Oper} {v : Value} (hlast : ∀ listed, Closed md ops listed → ∀ {i}, i ∈ Region.ready md ops listed → L ∈ Region.ready md ops listed → i = L) (hiL : i ≠ L) (hi : ops[i]? = some oi) (hsel : Region.noSelect ops = true)
    (hQ : ∀ c a w, Q (.panic c) (a.put oi.dst v) w → Q (.panic c) a w) : ∀ (f : Nat) (listed : Array Bool) (a : Act) (w : World), Closed md ops listed →
      (∀ j oj, ops[j]? = some oj → j ≠ i → listed.getD j true = false → (∀ e ∈ oj.after, Region.binds md e = true → e.on ≠ i) → oi.apart ops oj = true) →
      i ∈ Region.ready md ops listed → YieldsIf P ops S oi v a → S w →
      Ahead P md ops Q S L f (listed.setIfInBounds i true) (a.put oi.dst v) w → Ahead P md ops Q S L (f + 1) listed a w
  | f, listed, a, w, hcl, hfree, hr, hy, hS, H => by
    refine ⟨fun h => absurd hr (by rw [h]; simp), fun j hj => ?_⟩
    by_cases hji : j = i
    · subst hji; exact hy.wpOp hi hS ⟨fun _ => hS, H⟩
    have hjL : j ≠ L := fun e => hiL (hlast _ hcl hr (e ▸ hj))
    cases f with
    | zero =>
      have := ready_mono hj hji
      rw [H.1] at this
      cases this
    | succ f =>
      obtain ⟨hjun, oj, hoj, hall⟩ := mem_ready.1 hj
      have hnot : ∀ e ∈ oj.after, Region.binds md e = true → e.on ≠ i := fun e he hb heq => by
        have h1 := hall e he hb
        have h0 := (mem_ready.1 hr).1
        rw [heq] at h1
        rcases Nat.lt_or_ge i listed.size with h' | h'
        · simp [h'] at h0 h1; rw [h0] at h1; cases h1
        · simp [Array.getElem?_eq_none h'] at h1
      have h2 := wpOp_putIf hoj (hfree j oj hoj hji hjun hnot) (fun cs b => Region.noSelect_spec hsel i oi cs b hi) (fun cs b => Region.noSelect_spec hsel j oj cs b hoj) hQ hy (H.2 j (ready_mono hj hji))
      refine wpOp_mono (fun a' w' h3 => ⟨h3.2.1, ahead_deep hlast hiL hi hsel hQ f (listed.setIfInBounds j true) a' w' (hcl.next hj) ?_ (ready_mono hr (Ne.symm hji)) h3.1 (h3.2.1 hjL) ?_⟩) h2
      · intro k ok hk hki hun hno
        refine hfree k ok hk hki ?_ hno
        by_cases hjk : j = k
        · subst hjk; exact hjun
        · rwa [getD_set_ne true hjk] at hun
      · rw [Array.setIfInBounds_comm _ _ hji]
        exact h3.2.2
theorem takeD (k : Nat) {i : Nat} (oi : Oper) (v : Value) {f : Nat} {listed : Array Bool} {a : Act} {w : World} (hi : ops[i]? = some oi) (hlast : lastD k md ops L = true) (hcl : closedB md ops listed = true) (hiL : i ≠ L)
    (hs : Region.noSelect ops = true) (hf : Region.free md ops listed i = true) (hr : (Region.ready md ops listed).contains i = true) (hS : S w) (hy : YieldsIf P ops S oi v a)
    (h : Ahead P md ops (Nrm Q) S L f (listed.setIfInBounds i true) (a.put oi.dst v) w) : Ahead P md ops (Nrm Q) S L (f + 1) listed a w :=
  ahead_deep (lastD_spec hlast) hiL hi hs (fun _ _ _ h => h.elim) f listed a w (closed_spec hcl) (Region.free_spec hi hf) (by simpa using hr) hy hS h
/-- .. where S holds behind every operation: no operation is the last one -/
theorem takeN {i : Nat} (oi : Oper) (v : Value) {f : Nat} {listed : Array Bool} {a : Act} {w : World} (hi : ops[i]? = some oi) (hL : ops.size ≤ L) (hcl : closedB md ops listed = true)
    (hs : Region.noSelect ops = true) (hf : Region.free md ops listed i = true) (hr : (Region.ready md ops listed).contains i = true) (hS : S w) (hy : YieldsIf P ops S oi v a)
    (h : Ahead P md ops (Nrm Q) S L f (listed.setIfInBounds i true) (a.put oi.dst v) w) : Ahead P md ops (Nrm Q) S L (f + 1) listed a w :=
  ahead_deep (fun listed _ {i} _ hL' => by
    obtain ⟨_, o, ho, _⟩ := mem_ready.1 hL'
    have := (Array.getElem?_eq_some_iff.1 ho).1
    omega) (fun e => by have := (Array.getElem?_eq_some_iff.1 hi).1; omega) hi hs (fun _ _ _ h => h.elim) f listed a w (closed_spec hcl) (Region.free_spec hi hf) (by simpa using hr) hy hS h
end Go.Proofs.YtjblkmjdepdekaaDoor.Ht

/- logs: frames are written behind a chain's end -/
namespace Go.Proofs.YtjblkmjdepdekaaDoor.Wl
open Go.RowKit Go.Lib Go.Joins Go.Proofs.YtjblkmjdepdekaaDoor.By Go.Proofs.YtjblkmjdepdekaaDoor.Dk Go.Proofs.YtjblkmjdepdekaaDoor.Oc Go.Proofs.YtjblkmjdepdekaaDoor.Rg Go.Proofs.YtjblkmjdepdekaaDoor.Ht Go.Proofs.YtjblkmjdepdekaaDoor.Cr Go.Proofs.YtjblkmjdepdekaaDoor.Fm
attribute [local go_sem] Oper.semAt_some

/-- an append to a slice without room: a row of one's own -/
theorem grow_row {P : Program} (w : World) (t ty e : TypeId) (i : TypeInfo) (z : Value) (size bytes : Nat) (ht : P.underlying t = some (.slice e)) (hi : P.info? e = some i) (hz : i.zero = some z) (hsize : i.size = size) (hby : i.bytes = bytes) (hzs : z.cells.size = size)
    (ad : Addr) (n : Nat) (xs : List Value) (hx : xs.length = n * size) (hold : ∀ j u, xs[j]? = some u → w.cell? (ad.add j) = some u) (a2 : Addr) (m c : Nat) (news : List Value) (hl : news.length = m * size) (hnews : ∀ j u, news[j]? = some u → w.cell? (a2.add j) = some u) (hpos : 0 < m) (hb : (n + m) * bytes ≤ 140737488355328) (h63 : n + m ≤ maxLen) :
    ∃ cp W', (Builtin.append_ #[t, t] ty #[.slice (some ad) n n, .slice (some a2) m c]).run P w = .ok (.slice (some ⟨w.heap.size, 0, none⟩) (n + m) cp) W' ∧ W'.ownsRow w.heap.size e size (.slice (some ⟨w.heap.size, 0, none⟩) (n + m) cp) (n + m) (xs ++ news) ∧ Below w.heap.size w W' := by
  subst hsize
  subst hby
  have hlen : (xs ++ news).length = (n + m) * i.size := by rw [List.length_append, hx, hl, Nat.add_mul]
  have hge := grownCap_ge w (n + m) n e
  have hcm : grownCap w (n + m) n e ≤ maxLen := grownCap_le_maxLen w (n + m) n e h63
  refine ⟨_, _, run_append_grow (P := P) w t ty e i z ht hi hz ad n n xs hx hold a2 m c news hl hnews (by omega) (by unfold maxLen at h63; omega) (growslice_fits (by omega) hb), ⟨hlen, .inr ⟨w.heap.size, _, _, rfl, Nat.le_refl _, heap_alloc_new w.drew _, hge, hcm, ?_, ?_⟩⟩, ((Below.refl _ w).drew.alloc (Nat.le_refl _) _)⟩
  · simp only [Array.size_append, List.size_toArray, size_zeroCells, hzs, hx, hl, ← Nat.add_mul]
    congr 1
    omega
  · simp only [Array.toList_append, List.append_assoc]
    rw [← List.append_assoc, ← hlen]
    exact List.take_left
/-- .. of bytes, at the operation -/
theorem wpList_append_row {w : World} {ops : Array Oper} {rest : List Oper} {o : Oper} {a : Act} {Q : Exit → Act → World → Prop} (hgd : o.guard = none) (s x : Operand) (ho : o.op = .call { callee := .builtin .append, args := #[s, x], argTypes := #[32, 32] })
    (ad : Addr) (n : Nat) (xs : List UInt8) (hs : a.eval s = .slice (some ad) n n) (hx1 : xs.length = n) (hold : ∀ j u, (byteCells xs)[j]? = some u → w.cell? (ad.add j) = some u) (a2 : Option Addr) (len cap : Nat) (l : List UInt8) (hx : a.eval x = .slice a2 len cap) (hl : IsB w a2 len cap l) (hpos : 0 < len) (hb : n + len ≤ 1000000)
    (h : ∀ cp W', W'.ownsRow w.heap.size 5 1 (.slice (some ⟨w.heap.size, 0, none⟩) (n + len) cp) (n + len) (byteCells (xs ++ l)) → Below w.heap.size w W' → wpList Tryd.prog ops Q rest (a.put o.dst (.slice (some ⟨w.heap.size, 0, none⟩) (n + len) cp)) W') : wpList Tryd.prog ops Q (o :: rest) a w := by
  obtain ⟨i0, hi, hz0, hz1, hz2⟩ := info_parts info5
  obtain ⟨hll, ⟨rfl, rfl, rfl⟩ | ⟨y, rfl, hlc, hcm, hcs⟩⟩ := hl
  · exact absurd hpos (Nat.lt_irrefl 0)
  · obtain ⟨cp, W', hr, ho', hb'⟩ := grow_row (P := Tryd.prog) w 32 o.type 5 i0 (.int .u8 0) 1 1 Tryd.underlying32 hi hz0 hz1 hz2 rfl ad n (byteCells xs) (by simp [byteCells, hx1]) hold y len cap (byteCells l) (by simp [byteCells, hll]) hcs hpos (by omega) (by unfold maxLen; omega)
    refine wpList_plain hgd fun K hK => ?_
    unfold Oper.wp execOp
    simp only [ho, resolve, invoke, builtin, Sem.run_bind, Sem.run_pure, Result.andThen_ok, List.map_toArray, List.map_cons, List.map_nil, hs, hx, hr]
    exact hK _ _ (h cp W' (by rw [byteCells_append]; exact ho') hb')
/-- the sectors that a row of bytes comes to -/
def chn (row : List UInt8) (i : Nat) : List UInt8 := (row.drop (55 * i)).take 55
def wrs (t at0 : Nat) (row : List UInt8) : List Wr := (List.range ((row.length + 54) / 55)).map fun i => (at0 + i, secB t (chn row i))
theorem wrs_len (t at0 : Nat) (row : List UInt8) : (wrs t at0 row).length = (row.length + 54) / 55 := by simp [wrs]
theorem wrs_next {t at0 i : Nat} {row : List UInt8} (h : 55 * i < row.length) : (wrs t at0 row).take (i + 1) = (wrs t at0 row).take i ++ [(at0 + i, secB t (chn row i))] := by
  have hi : i < (wrs t at0 row).length := by rw [wrs_len]; omega
  rw [List.take_succ_eq_append_getElem hi]
  congr 2
  simp [wrs]
theorem chn_len {row : List UInt8} {i : Nat} : (chn row i).length = min 55 (row.length - 55 * i) := by unfold chn; simp
/-- what the loop over a row's parts has so far: the first so many sectors are written -/
def Wi (w V : World) (B bd gs cs gn cn n : Nat) (vw : Value) (F : List UInt8) (W : List Wr) (bl hf t z s : Nat) (last : List UInt8) (q9 g3 cp A0 : Nat) (row : List UInt8) (m : Nat) (X : World) : Prop :=
  ∃ vw', IsDk X B bd gs cs gn cn vw' n F (ov F (W ++ (wrs t A0 row).take m)) (W ++ (wrs t A0 row).take m) false ∧ IsLg X bl bd hf t z s last ∧ X.heap[w.heap.size]? = some (.cells #[.pointer (some ⟨bl, 0, none⟩)] 28 (0, 0)) ∧ X.heap[w.heap.size + 1]? = some (.cells #[.int .i64 0] 25 (0, 0)) ∧
    X.heap[q9]? = some (.cells #[.int .i64 ((A0 + m : Nat) : Int)] 3 (0, 0)) ∧ X.ownsRow g3 5 1 (.slice (some ⟨g3, 0, none⟩) row.length cp) row.length (byteCells row) ∧ (vw'.ownBlock = vw.ownBlock ∨ ∃ g, vw'.ownBlock = some g ∧ V.heap.size ≤ g) ∧ Fr (Foot bd gs gn vw) w X ∧ m ≤ (row.length + 54) / 55 ∧ V.heap.size ≤ X.heap.size
theorem dk_calm {B bd gs cs gn cn n N : Nat} {vw : Value} {F G : List UInt8} {W : List Wr} {dn : Bool} {w w' : World} (h : IsDk w B bd gs cs gn cn vw n F G W dn) (hc : Calmly N w w') : IsDk w' B bd gs cs gn cn vw n F G W dn :=
  ⟨hc.cell h.blk, hc.own h.os, hc.own h.on, hc.own h.ow, h.ne, h.n1, h.n2, h.hw, h.hb⟩
theorem fr_on {p q : Nat → Prop} {a b c : World} (h : Fr p a b) (k : Fr q b c) (hq : ∀ i, i < a.heap.size → q i → p i) : Fr p a c :=
  ⟨k.os.trans h.os, k.tape.trans h.tape, k.output.trans h.output, Nat.le_trans h.size k.size, fun i h1 h2 => (k.block i (Nat.lt_of_lt_of_le h1 h.size) (fun h3 => h2 (hq i h1 h3))).trans (h.block i h1 h2)⟩
theorem fr_calm {p : Nat → Prop} {a b c : World} {N : Nat} (h : Fr p a b) (k : Below N b c) (hN : a.heap.size ≤ N) : Fr p a c :=
  ⟨k.os.trans h.os, k.tape.trans h.tape, k.output.trans h.output, Nat.le_trans h.size k.size, fun i h1 h2 => (k.block i (by omega)).trans (h.block i h1 h2)⟩
theorem Wi.calm {w V : World} {B bd gs cs gn cn n : Nat} {vw : Value} {F : List UInt8} {W : List Wr} {bl hf t z s : Nat} {last : List UInt8} {q9 g3 cp A0 : Nat} {row : List UInt8} {m : Nat} {X X' : World} (h : Wi w V B bd gs cs gn cn n vw F W bl hf t z s last q9 g3 cp A0 row m X) (hc : Calmly V.heap.size X X') (hV : w.heap.size ≤ V.heap.size) :
    Wi w V B bd gs cs gn cn n vw F W bl hf t z s last q9 g3 cp A0 row m X' := by
  obtain ⟨vw', h1, h2, h3, h4, h5, h6, h7, h8, h9, h10⟩ := h
  exact ⟨vw', dk_calm h1 hc, ⟨hc.cell h2.blk, h2.len, h2.hf1, h2.ut, h2.us⟩, hc.cell h3, hc.cell h4, hc.cell h5, hc.own h6, h7, fr_calm h8 (hc.below (Nat.le_refl _) h10) hV, h9, Nat.le_trans h10 hc.size⟩
theorem isB_part {w : World} {g len cp m : Nat} {row : List UInt8} (h : IsB w (some ⟨g, 0, none⟩) len cp row) (hm : m * 55 < len) : IsB w (some ⟨g, 0 + m * 55, none⟩) (min 55 (len - m * 55)) (min 55 (len - m * 55)) (chn row m) := by
  have h1 := Fm.IsB.sub h (i := m * 55) (j := m * 55 + min 55 (len - m * 55)) (by omega) (by omega)
  obtain ⟨h2, h3 | ⟨x, h3, h4, h5, h6⟩⟩ := h1
  · cases h3.1
  · have e : (row.take (m * 55 + min 55 (len - m * 55))).drop (m * 55) = chn row m := by
      unfold chn
      rw [List.drop_take, show m * 55 + min 55 (len - m * 55) - m * 55 = min 55 (len - m * 55) by omega, Nat.mul_comm]
      have hl : (row.drop (55 * m)).length = len - m * 55 := by rw [List.length_drop, h.1]; omega
      exact List.take_eq_take_iff.2 (by omega)
    rw [e] at h2 h6
    exact ⟨by omega, .inr ⟨x, h3, Nat.le_refl _, by unfold maxLen; omega, h6⟩⟩
theorem full_64 {l : List UInt8} (h : l.length = 64) : full l = l := by unfold full; rw [h]; simp
theorem slice_last (bl r : Nat) (hr : r < 55) (W : World) : (Instr.sliceAt 71 (.pointer (some ⟨bl, 5, none⟩)) none (some (.int .i64 (r : Nat))) (some (.int .i64 (r : Nat)))).run Tryd.prog W = .ok (.slice (some ⟨bl, 5, none⟩) r r) W := by
  have h1 : (0 : Int) ≤ (r : Int) := by omega
  have h2 : (r : Int) ≤ 55 := by omega
  have h3 : r ≤ 55 := by omega
  go_simp
/-- a function whose result lies in a cell is left, with one mark -/
theorem leaveE {fn : Func} {tmps : Array Value} {N D rb : Nat} {X : World} {v : Int} {R : Ending → World → Prop} (hres : fn.results = #[.cell 6 25]) (ht : tmps.getD 6 undef = .pointer (some ⟨rb, 0, none⟩)) (hc : X.heap[rb]? = some (.cells #[.int .i64 v] 25 (0, 0))) (hD : N ≤ D) (h : X.heap[D]? = some (.deferred (some []))) (hR : ∀ X', Calmly N X X' → R (.returned (.int .i64 v)) X') :
    LeavesInM Fence.wide 3 Tryd.prog fn tmps R [{ target := .collected D, args := #[] }] .returning X := by
  refine ⟨by simp, .inl ⟨D, _, rfl, run_takeDeferred h, ?_⟩⟩
  have hcl := Calmly.but' (but_put D X (.deferred none)) hD h rfl
  refine ⟨.int .i64 v, ?_, hR _ hcl⟩
  have := cell_of_one (hcl.cell hc)
  rw [results_cell1 hres, ht]
  go_simp
set_option maxRecDepth 20000 in
set_option maxHeartbeats 8000000 in
theorem write_log {w : World} {bl bd hf t z s : Nat} {last : List UInt8} {B gs cs gn cn n : Nat} {vw : Value} {F : List UInt8} {W : List Wr} (h : IsLg w bl bd hf t z s last) (hd : IsDk w B bd gs cs gn cn vw n F (ov F W) W false) (hn4 : 4 ≤ n)
    (a : Option Addr) (len cap : Nat) (fr : List UInt8) (hfr : IsB w a len cap fr) (hpos : 0 < len) (hfit : z + len ≤ 55 * (n / 2)) (S : Nat) (hS : U32 S) (hW : W.length ≤ 900000) :
    Calls Tryd.prog 33 #[.pointer (some ⟨bl, 0, none⟩), .slice a len cap, .int .u32 (S : Nat)] w fun e w' => e = .returned (.int .i64 0) ∧ ∃ vw' last', IsDk w' B bd gs cs gn cn vw' n F (ov F (W ++ wrs t (hf * (n / 2) + z / 55) (last.take (z % 55) ++ fr))) (W ++ wrs t (hf * (n / 2) + z / 55) (last.take (z % 55) ++ fr)) false ∧
      IsLg w' bl bd hf t (z + len) S last' ∧ last'.take ((z + len) % 55) = (last.take (z % 55) ++ fr).drop ((last.take (z % 55) ++ fr).length - (z + len) % 55) ∧ (vw'.ownBlock = vw.ownBlock ∨ ∃ g, vw'.ownBlock = some g ∧ w.heap.size ≤ g) ∧ Fr (fun k => Foot bd gs gn vw k ∨ k = bl) w w' := by
  obtain rfl : fr.length = len := hfr.1
  have hn2 := hd.n2
  have hul := h.len
  have hh1 := h.hf1
  obtain ⟨m, hm⟩ : ∃ m, m = n / 2 := ⟨_, rfl⟩
  rw [← hm] at hfit ⊢
  obtain ⟨r, hr⟩ : ∃ r, r = z % 55 := ⟨_, rfl⟩
  rw [← hr]
  have hbl := lt_of_block h.blk
  have hb2 : Below w.heap.size w ((w.alloc (.cells #[.pointer (some ⟨bl, 0, none⟩)] 28)).alloc (.cells #[.int .i64 0] 25)) := ((Below.refl _ _).alloc (Nat.le_refl _) _).alloc (by simp) _
  have x3 : ((w.alloc (.cells #[.pointer (some ⟨bl, 0, none⟩)] 28)).alloc (.cells #[.int .i64 0] 25)).heap[w.heap.size]? = some (.cells #[.pointer (some ⟨bl, 0, none⟩)] 28 (0, 0)) := heap_old ((Below.refl _ _).alloc (Nat.le_refl _) _) (heap_alloc_new w _)
  have x6 : ((w.alloc (.cells #[.pointer (some ⟨bl, 0, none⟩)] 28)).alloc (.cells #[.int .i64 0] 25)).heap[w.heap.size + 1]? = some (.cells #[.int .i64 0] 25 (0, 0)) := by
    have := heap_alloc_new (w.alloc (.cells #[.pointer (some ⟨bl, 0, none⟩)] 28)) (.cells #[.int .i64 0] 25); rw [World.size_alloc] at this; exact this
  obtain ⟨w2, hw2⟩ : ∃ w2, w2 = (w.alloc (.cells #[.pointer (some ⟨bl, 0, none⟩)] 28)).alloc (.cells #[.int .i64 0] 25) := ⟨_, rfl⟩
  have hz2 : w2.heap.size = w.heap.size + 2 := by rw [hw2]; simp
  rw [← hw2] at hb2 x3 x6
  have h2 := h.old hb2
  have H2 := Lib.hid (And.intro hb2 (And.intro x3 (And.intro x6 (And.intro h2 (And.intro (hd.old hb2) (And.intro (hfr.old hb2) hz2))))))
  have H0 := Lib.hid (And.intro h (And.intro hd (And.intro hm (And.intro hr (And.intro hul hS)))))
  obtain ⟨q, hq⟩ : ∃ q, q = z / 55 := ⟨_, rfl⟩
  rw [← hq]
  have e1 : (z : Int) % 55 = (r : Int) := by rw [hr]; omega
  have e2 : (z : Int) / 55 = (q : Int) := by rw [hq]; omega
  have hr55 : r < 55 := by rw [hr]; exact Nat.mod_lt _ (by decide)
  have HZQ := Lib.hid (And.intro hr hq)
  obtain ⟨row, hrow⟩ : ∃ row, row = last.take r ++ fr := ⟨_, rfl⟩
  obtain ⟨P, hP⟩ : ∃ P, P = hf * m := ⟨_, rfl⟩
  obtain ⟨A0, hA0⟩ : ∃ A, A = P + q := ⟨_, rfl⟩
  rw [← hrow, ← hP, ← hA0]
  have HROW := Lib.hid (And.intro hrow (And.intro hP hA0))
  have hP1 : P ≤ m := by
    have : hf = 0 ∨ hf = 1 := by omega
    rcases this with rfl | rfl <;> omega
  have hPI : IntKind.i64.wrap ((hf : Int) * (m : Int)) = (P : Int) := by
    rw [← Int.natCast_mul, ← hP]; exact IntWalk.i64_in _ (by omega)
  have hAI : IntKind.i64.wrap ((P : Int) + (q : Int)) = (A0 : Int) := by
    rw [IntWalk.i64_in _ (by omega)]; omega
  have hqI : IntKind.i64.wrap (q : Int) = (q : Int) := IntWalk.i64_in _ (by omega)
  have hAm : A0 + (r + fr.length + 54) / 55 ≤ n := by omega
  clear hrow hP hA0
  have hm2 : 2 ≤ m ∧ m ≤ 2048 := by omega
  have hsl := slice_last bl r hr55
  have y3 := cell_of_one x3
  have y6 := cell_of_one x6
  obtain ⟨_, _, _, c3, _⟩ := h2.cells
  rw [hw2] at y3 y6 c3
  have HW2 := Lib.hid hw2
  clear h hd hfr hm hr hq hb2 x3 x6 hz2 h2 hw2 hul hS
  refine (callsIn_wide (n := 3)).1 ?_
  refine callsIn_of_wp_marks Tryd.func33 rfl trivial ?_ rfl
  simp only [Tryd.ntmps33, List.size_toArray, List.length_cons, List.length_nil, Nat.reduceAdd, Nat.reduceSub, Array.replicate_succ, Array.replicate_zero, List.push_toArray, List.append_toArray, List.nil_append, List.cons_append]
  refine wpIn_wide.2 ?_
  have hlb : ∀ j u, (byteCells (last.take r))[j]? = some u → w2.cell? ((⟨bl, 5, none⟩ : Addr).add j) = some u := by
    obtain ⟨_, ⟨hx, _⟩ | ⟨x, hx, _, _, hh⟩⟩ := H2.out.2.2.2.1.lastB
    · cases hx
    · obtain rfl := Option.some.inj hx
      intro j u hu
      refine hh j u ?_
      simp only [byteCells, List.map_take, List.getElem?_take] at hu
      split at hu
      · exact hu
      · cases hu
  have hlr : (last.take r).length = r := by rw [List.length_take, H0.out.2.2.2.2.1]; omega
  have HLB := Lib.hid (And.intro hlb hlr)
  clear hlb hlr
  go_wp2_with (at_builtin; refine wpList_append_row rfl _ _ rfl ⟨bl, 5, none⟩ r (last.take r) rfl HLB.out.2 (by rw [← HW2.out]; exact HLB.out.1) a fr.length cap fr rfl (by rw [← HW2.out]; exact H2.out.2.2.2.2.2.1) hpos (by omega) ?_; rw [← HW2.out]; intro cp W3 ho3 hb3)
  have hrl : row.length = r + fr.length := by rw [HROW.out.1, List.length_append, HLB.out.2]
  rw [← HROW.out.1] at ho3
  obtain ⟨g3, hg3⟩ : ∃ g, g = w2.heap.size := ⟨_, rfl⟩
  rw [← hg3] at ho3 ⊢
  have l3 := H2.out.2.2.2.1.old hb3
  have d3 := H2.out.2.2.2.2.1.old hb3
  have x3 := heap_old hb3 H2.out.2.1
  have x6 := heap_old hb3 H2.out.2.2.1
  have hz3 := hb3.size
  obtain ⟨hc0, hc1, hc2, hc3, hc4⟩ := l3.cells
  have hmix : Tryd.prog.follows .mixedOrders = true := by kernel_rfl
  have hbw3 : Below w.heap.size w W3 := H2.out.1.trans (hb3.mono H2.out.1.size)
  have hg3w : g3 = w.heap.size + 2 := by rw [hg3]; exact H2.out.2.2.2.2.2.2
  have hS3 : W3.heap[w.heap.size]? = some (.cells #[.pointer (some ⟨bl, 0, none⟩)] 28 (0, 0)) ∧ IsLg W3 bl bd hf t z s last ∧ IsDk W3 B bd gs cs gn cn vw n F (ov F W) W false := ⟨x3, l3, d3⟩
  have H3 := Lib.hid (And.intro hS3 (And.intro x6 (And.intro ho3 (And.intro hbw3 (And.intro hg3w (And.intro hrl (show w.heap.size + 3 ≤ W3.heap.size by have := (ho3.lt g3 rfl).2; omega)))))))
  have HG3 := Lib.hid hg3
  have hsec := fun X (hX : IsLg X bl bd hf t z s last ∧ IsDk X B bd gs cs gn cn vw n F (ov F W) W false) => sectors_any hX.1 hX.2
  rw [← H0.out.2.2.1] at hsec
  have HSEC := Lib.hid hsec
  clear l3 d3 x3 x6 ho3 hb3 hz3 hbw3 hg3w hrl hg3 hc0 hc1 hc2 hc3 hc4 hsec y3 y6 c3 hsl
  refine begin' 14 (fun Y => Y.heap[w.heap.size]? = some (.cells #[.pointer (some ⟨bl, 0, none⟩)] 28 (0, 0)) ∧ IsLg Y bl bd hf t z s last ∧ IsDk Y B bd gs cs gn cn vw n F (ov F W) W false) hmix ⟨hS3.1, hS3.2.1.same rfl, hS3.2.2.other fun _ _ _ => rfl⟩ (fun hS0 => ?_)
  refine Ht.take (i := 0) ⟨some 25, _, _, _, _, _⟩ (.pointer (some ⟨bl, 0, none⟩)) rfl (by kernel_rfl) (by kernel_rfl) (by decide) (by kernel_rfl) (by kernel_rfl) (by kernel_rfl) hS0 (Or.inl ⟨by rfl, by (intro X hX; have := cell_of_one hX.1; go_simp)⟩) ?_
  simp only [Act.put, List.setIfInBounds_toArray, List.set_cons_zero, List.set_cons_succ]
  refine Ht.take (i := 1) ⟨some 26, _, _, _, _, _⟩ (.pointer (some ⟨bl, 0, none⟩)) rfl (by kernel_rfl) (by kernel_rfl) (by decide) (by kernel_rfl) (by kernel_rfl) (by kernel_rfl) hS0 (Or.inl ⟨by rfl, by (intro X hX; go_simp)⟩) ?_
  simp only [Act.put, List.setIfInBounds_toArray, List.set_cons_zero, List.set_cons_succ]
  refine Ht.take (i := 2) ⟨some 27, _, _, _, _, _⟩ (.pointer (some ⟨bl, 1, none⟩)) rfl (by kernel_rfl) (by kernel_rfl) (by decide) (by kernel_rfl) (by kernel_rfl) (by kernel_rfl) hS0 (Or.inl ⟨by rfl, by (intro X hX; go_simp)⟩) ?_
  simp only [Act.put, List.setIfInBounds_toArray, List.set_cons_zero, List.set_cons_succ]
  refine Ht.take (i := 3) ⟨some 28, _, _, _, _, _⟩ (.int .i64 (hf : Nat)) rfl (by kernel_rfl) (by kernel_rfl) (by decide) (by kernel_rfl) (by kernel_rfl) (by kernel_rfl) hS0 (Or.inl ⟨by rfl, by (intro X hX; have := hX.2.1.cells.2.1; go_simp)⟩) ?_
  simp only [Act.put, List.setIfInBounds_toArray, List.set_cons_zero, List.set_cons_succ]
  refine Ht.take (i := 4) ⟨some 29, _, _, _, _, _⟩ (.pointer (some ⟨bl, 0, none⟩)) rfl (by kernel_rfl) (by kernel_rfl) (by decide) (by kernel_rfl) (by kernel_rfl) (by kernel_rfl) hS0 (Or.inl ⟨by rfl, by (intro X hX; have := cell_of_one hX.1; go_simp)⟩) ?_
  simp only [Act.put, List.setIfInBounds_toArray, List.set_cons_zero, List.set_cons_succ]
  refine Ht.take (i := 7) ⟨some 32, _, _, _, _, _⟩ (.pointer (some ⟨bl, 0, none⟩)) rfl (by kernel_rfl) (by kernel_rfl) (by decide) (by kernel_rfl) (by kernel_rfl) (by kernel_rfl) hS0 (Or.inl ⟨by rfl, by (intro X hX; have := cell_of_one hX.1; go_simp)⟩) ?_
  simp only [Act.put, List.setIfInBounds_toArray, List.set_cons_zero, List.set_cons_succ]
  refine Ht.take (i := 8) ⟨some 33, _, _, _, _, _⟩ (.pointer (some ⟨bl, 0, none⟩)) rfl (by kernel_rfl) (by kernel_rfl) (by decide) (by kernel_rfl) (by kernel_rfl) (by kernel_rfl) hS0 (Or.inl ⟨by rfl, by (intro X hX; go_simp)⟩) ?_
  simp only [Act.put, List.setIfInBounds_toArray, List.set_cons_zero, List.set_cons_succ]
  refine Ht.take (i := 9) ⟨some 34, _, _, _, _, _⟩ (.pointer (some ⟨bl, 3, none⟩)) rfl (by kernel_rfl) (by kernel_rfl) (by decide) (by kernel_rfl) (by kernel_rfl) (by kernel_rfl) hS0 (Or.inl ⟨by rfl, by (intro X hX; go_simp)⟩) ?_
  simp only [Act.put, List.setIfInBounds_toArray, List.set_cons_zero, List.set_cons_succ]
  refine Ht.take (i := 10) ⟨some 35, _, _, _, _, _⟩ (.int .i64 (z : Nat)) rfl (by kernel_rfl) (by kernel_rfl) (by decide) (by kernel_rfl) (by kernel_rfl) (by kernel_rfl) hS0 (Or.inl ⟨by rfl, by (intro X hX; have := hX.2.1.cells.2.2.2.1; go_simp)⟩) ?_
  simp only [Act.put, List.setIfInBounds_toArray, List.set_cons_zero, List.set_cons_succ]
  refine Ht.take (i := 11) ⟨some 36, _, _, _, _, _⟩ (.int .i64 (q : Nat)) rfl (by kernel_rfl) (by kernel_rfl) (by decide) (by kernel_rfl) (by kernel_rfl) (by kernel_rfl) hS0 (Or.inl ⟨by rfl, by (intro X hX; go_simp)⟩) ?_
  simp only [Act.put, List.setIfInBounds_toArray, List.set_cons_zero, List.set_cons_succ]
  refine Ht.takeC (i := 5) ⟨some 30, _, _, _, _, _⟩ (.int .i64 (m : Nat)) rfl (by kernel_rfl) (by kernel_rfl) (by decide) (by kernel_rfl) (by kernel_rfl) (by kernel_rfl) hS0 ⟨by rfl, fun X hX => ⟨44, #[.pointer (some ⟨bl, 0, none⟩)], by have hen := fun args w => enters_of (P := Tryd.prog) Tryd.func44 (by kernel_rfl) rfl args w; go_simp, (HSEC.out X hX.2).mono fun _ _ h => ⟨h.1, h.2.symm⟩⟩⟩ ?_
  simp only [Act.put, List.setIfInBounds_toArray, List.set_cons_zero, List.set_cons_succ]
  refine Ht.take (i := 6) ⟨some 31, _, _, _, _, _⟩ (.int .i64 (P : Nat)) rfl (by kernel_rfl) (by kernel_rfl) (by decide) (by kernel_rfl) (by kernel_rfl) (by kernel_rfl) hS0 (Or.inl ⟨by rfl, by (intro X hX; go_simp)⟩) ?_
  simp only [Act.put, List.setIfInBounds_toArray, List.set_cons_zero, List.set_cons_succ]
  refine Ht.take (i := 12) ⟨some 37, _, _, _, _, _⟩ (.int .i64 (A0 : Nat)) rfl (by kernel_rfl) (by kernel_rfl) (by decide) (by kernel_rfl) (by kernel_rfl) (by kernel_rfl) hS0 (Or.inl ⟨by rfl, by (intro X hX; go_simp)⟩) ?_
  simp only [Act.put, List.setIfInBounds_toArray, List.set_cons_zero, List.set_cons_succ]
  refine Ht.step (i := 13) ⟨some 9, _, _, _, _, _⟩ rfl (by kernel_rfl) (by rfl) (fun K hK => ?_)
  go_simp
  have hb4 : Below W3.heap.size W3 (W3.drew.alloc (.cells #[.int .i64 0] 3)) := (Below.refl _ W3).drew.alloc (Nat.le_refl _) _
  have hS4 : (W3.drew.alloc (.cells #[.int .i64 0] 3)).heap[w.heap.size]? = some (.cells #[.pointer (some ⟨bl, 0, none⟩)] 28 (0, 0)) ∧ IsLg (W3.drew.alloc (.cells #[.int .i64 0] 3)) bl bd hf t z s last ∧ IsDk (W3.drew.alloc (.cells #[.int .i64 0] 3)) B bd gs cs gn cn vw n F (ov F W) W false := ⟨heap_old hb4 hS3.1, hS3.2.1.old hb4, hS3.2.2.old hb4⟩
  refine hK _ _ (fun _ => hS4) (fun _ => ?_)
  clear hK K
  try simp only [Act.put, List.setIfInBounds_toArray, List.set_cons_zero, List.set_cons_succ]
  refine Ht.step (i := 14) ⟨none, _, _, _, _, _⟩ rfl (by kernel_rfl) (by rfl) (fun K hK => ?_)
  have x9 : (W3.drew.alloc (.cells #[.int .i64 0] 3)).heap[W3.heap.size]? = some (.cells #[.int .i64 0] 3 (0, 0)) := heap_alloc_new W3.drew _
  have c9 := cell_of_one x9
  have f9 := free_of_one x9
  go_simp
  refine hK _ _ (fun h => absurd rfl h) (fun _ => ?_)
  clear hK K
  refine done (by kernel_rfl) ?_
  clear hS4 hb4 x9 c9 f9 hS0 hPI hAI hqI e1 e2
  obtain ⟨W4, hW4⟩ : ∃ X, X = (W3.alloc (.cells #[.int .i64 (A0 : Nat)] 3)).drew := ⟨_, rfl⟩
  have hb4 : Below W3.heap.size W3 W4 := by rw [hW4]; exact ((Below.refl _ W3).alloc (Nat.le_refl _) _).drew
  have hz4 : W4.heap.size = W3.heap.size + 1 := by rw [hW4]; simp
  have x9 : W4.heap[W3.heap.size]? = some (.cells #[.int .i64 (A0 : Nat)] 3 (0, 0)) := by rw [hW4]; exact heap_alloc_new W3 _
  rw [← hW4]
  have HZ4 := Lib.hid hz4
  clear hW4 hz4
  go_wp2_with fail
  refine (chunk_any _ _ _ 55 _ (by decide)).mono ?_
  rintro e w' ⟨rfl, rfl⟩
  obtain ⟨V, hV⟩ : ∃ V, V = (W4.alloc (.cells #[.slice (some ⟨g3, 0, none⟩) (r + fr.length) cp] 32)).alloc (.cells #[.int .i64 55] 3) := ⟨_, rfl⟩
  have hb5 : Below W4.heap.size W4 V := by rw [hV]; exact ((Below.refl _ _).alloc (Nat.le_refl _) _).alloc (by simp) _
  have HZV := Lib.hid (show V.heap.size = W3.heap.size + 3 by rw [hV]; have := HZ4.out; simp; omega)
  have g1 : V.heap[W4.heap.size]? = some (.cells #[.slice (some ⟨g3, 0, none⟩) (r + fr.length) cp] 32 (0, 0)) := by rw [hV]; exact heap_old ((Below.refl _ _).alloc (Nat.le_refl _) _) (heap_alloc_new W4 _)
  have g2 : V.heap[W4.heap.size + 1]? = some (.cells #[.int .i64 55] 3 (0, 0)) := by
    have := heap_alloc_new (W4.alloc (.cells #[.slice (some ⟨g3, 0, none⟩) (r + fr.length) cp] 32)) (.cells #[.int .i64 55] 3); rw [World.size_alloc] at this; rw [hV]; exact this
  go_wp2_with fail
  rw [← hV]
  clear hV
  have hz4 := HZ4.out
  have hrl := H3.out.2.2.2.2.2.1
  have hzV := HZV.out
  have hbV : Below W3.heap.size W3 V := hb4.trans (hb5.mono (by omega))
  have hcp : row.length ≤ cp ∧ cp ≤ 9223372036854775807 := by
    rcases H3.out.2.2.1.2 with ⟨h, _⟩ | ⟨g', c', cur, h, _, _, h4, h5, _⟩
    · simp at h
    · simp only [Value.slice.injEq] at h
      obtain ⟨_, _, rfl⟩ := h
      exact ⟨by omega, by unfold maxLen at h5; omega⟩
  have hv0 : Wi w V B bd gs cs gn cn n vw F W bl hf t z s last W3.heap.size g3 cp A0 row 0 V := by
    refine ⟨vw, ?_, (H3.out.1.2.1.old hbV), heap_old hbV H3.out.1.1, heap_old hbV H3.out.2.1, heap_old hb5 x9, ?_, .inl rfl, Fr.of (H3.out.2.2.2.1.trans (hbV.mono H3.out.2.2.2.1.size)), Nat.zero_le _, Nat.le_refl _⟩
    · rw [List.take_zero, List.append_nil]; exact H3.out.1.2.2.old hbV
    · have := own_below H3.out.2.2.1 hbV (Nat.le_refl _)
      rw [hrl]; exact this
  have HV := Lib.hid (And.intro g1 (And.intro g2 (And.intro hzV (And.intro hz4 (And.intro hcp (And.intro hv0 hrl))))))
  clear g1 g2 hzV hz4 hcp hv0 hb4 hb5 hbV x9 hrl hS3
  refine (wpIn_wide (n := 3)).1 ?_
  refine range_exit rfl (by omega) (gf := 57) (lb := #[.pointer (some ⟨W4.heap.size, 0, none⟩), .pointer (some ⟨W4.heap.size + 1, 0, none⟩)]) rfl trivial (enters_of Tryd.func57 (by kernel_rfl) rfl)
    (chunk1_iter (3 - 1) 0 W4.heap.size 55 g3 0 (r + fr.length) cp W4.heap.size (W4.heap.size + 1) V (by decide) ⟨by have := HV.out.2.2.2.2.1.1; have := HV.out.2.2.2.2.2.2; omega, by omega, HV.out.2.2.2.2.1.2⟩ ?hK) (fun _ => rfl)
    (Wi w V B bd gs cs gn cn n vw F W bl hf t z s last W3.heap.size g3 cp A0 row) (fun _ _ _ => False) (fun m X X' h hb => h.calm hb (by have := H3.out.2.2.2.2.2.2; have := HV.out.2.2.1; omega)) (fun _ _ _ _ h _ => h) (fun _ _ _ h => h.elim) HV.out.2.2.2.2.2.1 (fun m x X X' h hb => h) (fun m x X X' l r h hl hb => h) ?hround ?hdone ?hstop
  case hK =>
    intro X hm
    exact ⟨cell_of_one ((hm.block _ (.inr (Nat.le_refl _)) (by have := HV.out.2.2.1; have := HV.out.2.2.2.1; omega)).trans HV.out.1), cell_of_one ((hm.block _ (.inr (Nat.le_succ _)) (by have := HV.out.2.2.1; have := HV.out.2.2.2.1; omega)).trans HV.out.2.1)⟩
  case hround =>
    rintro l m2 x X hlB ⟨rr, hlr⟩ hI hG
    dsimp only [encC]
    gi_wp2_with fail
    refine ⟨Below.refl _ _, ?_⟩
    intro A2 hbut hI2 hG2
    obtain ⟨vA, h1, h2, h3, h4, h5, h6, h7, h8, h9, h10⟩ := hI2
    have hrl := HV.out.2.2.2.2.2.2
    obtain ⟨hlt, rfl⟩ := hG2
    have hib := isB_part (isB_of_own' h6) (m := m2) (by omega)
    rw [hrl] at hib
    obtain ⟨cl, hcl⟩ : ∃ c, c = min 55 (r + fr.length - m2 * 55) := ⟨_, rfl⟩
    rw [← hcl] at hib ⊢
    have hcl55 : (chn row m2).length ≤ 55 := by rw [chn_len]; omega
    have hibl : (chn row m2).length = cl := hib.1
    obtain ⟨A1, hA1⟩ : ∃ A, A = A0 + m2 := ⟨_, rfl⟩
    have hA1n : A1 < n := by rw [hA1]; omega
    rw [← hA1] at h5
    have HX := Lib.hid (And.intro h1 (And.intro h2 (And.intro h3 (And.intro h4 (And.intro h5 (And.intro h6 (And.intro h7 (And.intro h8 (And.intro h9 (And.intro h10 (And.intro hib hcl55)))))))))))
    have HA1 := Lib.hid (And.intro hA1 (And.intro hlt hA1n))
    have hS0' : A2.drew.heap[w.heap.size]? = some (.cells #[.pointer (some ⟨bl, 0, none⟩)] 28 (0, 0)) ∧ A2.drew.heap[W3.heap.size]? = some (.cells #[.int .i64 (A1 : Nat)] 3 (0, 0)) ∧ IsLg A2.drew bl bd hf t z s last := ⟨h3, h5, h2.same rfl⟩
    clear h1 h2 h3 h4 h5 h6 h7 h8 h9 h10 hib hcl hlt hA1 hA1n hrl hI
    gi_wp2_with fail
    refine begin_round 12 (fun Y => Y.heap[w.heap.size]? = some (.cells #[.pointer (some ⟨bl, 0, none⟩)] 28 (0, 0)) ∧ Y.heap[W3.heap.size]? = some (.cells #[.int .i64 (A1 : Nat)] 3 (0, 0)) ∧ IsLg Y bl bd hf t z s last) hmix (by kernel_rfl) hS0' (fun hS0 => ?_)
    refine Ht.take (i := 0) ⟨some 41, _, _, _, _, _⟩ (.pointer (some ⟨bl, 0, none⟩)) rfl (by kernel_rfl) (by kernel_rfl) (by decide) (by kernel_rfl) (by kernel_rfl) (by kernel_rfl) hS0 (Or.inl ⟨by rfl, by (intro X hX; have := cell_of_one hX.1; go_simp)⟩) ?_
    simp only [Act.put, List.setIfInBounds_toArray, List.set_cons_zero, List.set_cons_succ]
    refine Ht.take (i := 1) ⟨some 42, _, _, _, _, _⟩ (.pointer (some ⟨bl, 0, none⟩)) rfl (by kernel_rfl) (by kernel_rfl) (by decide) (by kernel_rfl) (by kernel_rfl) (by kernel_rfl) hS0 (Or.inl ⟨by rfl, by (intro X hX; go_simp)⟩) ?_
    simp only [Act.put, List.setIfInBounds_toArray, List.set_cons_zero, List.set_cons_succ]
    refine Ht.take (i := 2) ⟨some 43, _, _, _, _, _⟩ (.pointer (some ⟨bl, 0, none⟩)) rfl (by kernel_rfl) (by kernel_rfl) (by decide) (by kernel_rfl) (by kernel_rfl) (by kernel_rfl) hS0 (Or.inl ⟨by rfl, by (intro X hX; go_simp)⟩) ?_
    simp only [Act.put, List.setIfInBounds_toArray, List.set_cons_zero, List.set_cons_succ]
    refine Ht.take (i := 3) ⟨some 44, _, _, _, _, _⟩ (.pointer (some ⟨bd, 0, none⟩)) rfl (by kernel_rfl) (by kernel_rfl) (by decide) (by kernel_rfl) (by kernel_rfl) (by kernel_rfl) hS0 (Or.inl ⟨by rfl, by (intro X hX; have := hX.2.2.cells.1; go_simp)⟩) ?_
    simp only [Act.put, List.setIfInBounds_toArray, List.set_cons_zero, List.set_cons_succ]
    refine Ht.take (i := 4) ⟨some 45, _, _, _, _, _⟩ (.int .i64 (A1 : Nat)) rfl (by kernel_rfl) (by kernel_rfl) (by decide) (by kernel_rfl) (by kernel_rfl) (by kernel_rfl) hS0 (Or.inl ⟨by rfl, by (intro X hX; have := cell_of_one hX.2.1; go_simp)⟩) ?_
    simp only [Act.put, List.setIfInBounds_toArray, List.set_cons_zero, List.set_cons_succ]
    refine Ht.take (i := 5) ⟨some 46, _, _, _, _, _⟩ (.pointer (some ⟨bl, 0, none⟩)) rfl (by kernel_rfl) (by kernel_rfl) (by decide) (by kernel_rfl) (by kernel_rfl) (by kernel_rfl) hS0 (Or.inl ⟨by rfl, by (intro X hX; have := cell_of_one hX.1; go_simp)⟩) ?_
    simp only [Act.put, List.setIfInBounds_toArray, List.set_cons_zero, List.set_cons_succ]
    refine Ht.take (i := 6) ⟨some 47, _, _, _, _, _⟩ (.pointer (some ⟨bl, 0, none⟩)) rfl (by kernel_rfl) (by kernel_rfl) (by decide) (by kernel_rfl) (by kernel_rfl) (by kernel_rfl) hS0 (Or.inl ⟨by rfl, by (intro X hX; go_simp)⟩) ?_
    simp only [Act.put, List.setIfInBounds_toArray, List.set_cons_zero, List.set_cons_succ]
    refine Ht.take (i := 7) ⟨some 48, _, _, _, _, _⟩ (.pointer (some ⟨bl, 2, none⟩)) rfl (by kernel_rfl) (by kernel_rfl) (by decide) (by kernel_rfl) (by kernel_rfl) (by kernel_rfl) hS0 (Or.inl ⟨by rfl, by (intro X hX; go_simp)⟩) ?_
    simp only [Act.put, List.setIfInBounds_toArray, List.set_cons_zero, List.set_cons_succ]
    refine Ht.take (i := 8) ⟨some 49, _, _, _, _, _⟩ (.int .u64 (t : Nat)) rfl (by kernel_rfl) (by kernel_rfl) (by decide) (by kernel_rfl) (by kernel_rfl) (by kernel_rfl) hS0 (Or.inl ⟨by rfl, by (intro X hX; have := hX.2.2.cells.2.2.1; go_simp)⟩) ?_
    simp only [Act.put, List.setIfInBounds_toArray, List.set_cons_zero, List.set_cons_succ]
    refine Ht.take (i := 9) ⟨some 50, _, _, _, _, _⟩ (.slice (some ⟨g3, 0 + m2 * 55, none⟩) cl cl) rfl (by kernel_rfl) (by kernel_rfl) (by decide) (by kernel_rfl) (by kernel_rfl) (by kernel_rfl) hS0 (Or.inl ⟨by rfl, by (intro X hX; go_simp)⟩) ?_
    simp only [Act.put, List.setIfInBounds_toArray, List.set_cons_zero, List.set_cons_succ]
    refine Ht.step (i := 10) ⟨some 51, _, _, _, _, _⟩ rfl (by kernel_rfl) (by rfl) (fun K hK => ?_)
    refine Ht.enter 52 #[.int .u64 (t : Nat), .slice (some ⟨g3, 0 + m2 * 55, none⟩) cl cl] (by have hen := fun args w => enters_of (P := Tryd.prog) Tryd.func52 (by kernel_rfl) rfl args w; go_simp) (sector_any t _ cl cl (chn row m2) A2.drew H0.out.1.ut (HX.out.2.2.2.2.2.2.2.2.2.2.1.old (Below.refl _ _).drew) HX.out.2.2.2.2.2.2.2.2.2.2.2) ?_
    rintro e X1 ⟨rfl, hi1, hb1⟩
    have hS1 : X1.heap[w.heap.size]? = some (.cells #[.pointer (some ⟨bl, 0, none⟩)] 28 (0, 0)) ∧ X1.heap[W3.heap.size]? = some (.cells #[.int .i64 (A1 : Nat)] 3 (0, 0)) ∧ IsLg X1 bl bd hf t z s last := ⟨heap_old hb1 hS0.1, heap_old hb1 hS0.2.1, hS0.2.2.old hb1⟩
    refine ⟨_, rfl, hK _ _ (fun _ => hS1) (fun _ => ?_)⟩
    clear hK K
    try simp only [Act.put, List.setIfInBounds_toArray, List.set_cons_zero, List.set_cons_succ]
    have hd1 := (show IsDk A2.drew B bd gs cs gn cn vA n F (ov F (W ++ (wrs t A0 row).take m2)) (W ++ (wrs t A0 row).take m2) false from HX.out.1.other fun _ _ _ => rfl).old hb1
    have hsl64 := secB_len (t := t) HX.out.2.2.2.2.2.2.2.2.2.2.2
    have hwl : (W ++ (wrs t A0 row).take m2).length ≤ 1000000 := by
      rw [List.length_append, List.length_take]; have := HX.out.2.2.2.2.2.2.2.2.1; have := HV.out.2.2.2.2.2.2; omega
    refine Ht.step (i := 11) ⟨some 52, _, _, _, _, _⟩ rfl (by kernel_rfl) (by rfl) (fun K hK => ?_)
    refine Ht.enter 24 #[.pointer (some ⟨bd, 0, none⟩), .int .i64 (A1 : Nat), .slice (some ⟨A2.drew.heap.size, 0, none⟩) 64 64] (by have hen := fun args w => enters_of (P := Tryd.prog) Tryd.func24 (by kernel_rfl) rfl args w; go_simp) (write_ok hd1 A1 HA1.out.2.2 _ 64 64 _ (by decide) hi1 hwl) ?_
    rintro e X2 ⟨rfl, ⟨vB, hd2, hv2⟩, hf2⟩
    rw [full_64 hsl64] at hd2
    rw [← ov_snoc F (W ++ (wrs t A0 row).take m2) (A1, secB t (chn row m2))] at hd2
    have hS2 : X2.heap[w.heap.size]? = some (.cells #[.pointer (some ⟨bl, 0, none⟩)] 28 (0, 0)) ∧ X2.heap[W3.heap.size]? = some (.cells #[.int .i64 (A1 : Nat)] 3 (0, 0)) ∧ IsLg X2 bl bd hf t z s last :=
      ⟨(hf2.block _ (lt_of_block hS1.1) (hd1.not_foot hS1.1 (by decide) (by decide) (by decide))).trans hS1.1, (hf2.block _ (lt_of_block hS1.2.1) (hd1.not_foot hS1.2.1 (by decide) (by decide) (by decide))).trans hS1.2.1, hS1.2.2.fr hd1 hf2⟩
    refine ⟨_, rfl, hK _ _ (fun _ => hS2) (fun _ => ?_)⟩
    clear hK K
    try simp only [Act.put, List.setIfInBounds_toArray, List.set_cons_zero, List.set_cons_succ]
    refine Ht.step (i := 12) ⟨some 11, _, _, _, _, _⟩ rfl (by kernel_rfl) (by rfl) (fun K hK => ?_)
    go_simp
    refine hK _ _ (fun h => absurd rfl h) (fun _ => ?_)
    clear hK K
    refine done (by kernel_rfl) ?_
    have x4 := (hf2.block _ (by have := lt_of_block (heap_old hb1 (show A2.drew.heap[w.heap.size + 1]? = _ from HX.out.2.2.2.1)); exact this) (hd1.not_foot (heap_old hb1 (show A2.drew.heap[w.heap.size + 1]? = _ from HX.out.2.2.2.1)) (by decide) (by decide) (by decide))).trans (heap_old hb1 (show A2.drew.heap[w.heap.size + 1]? = _ from HX.out.2.2.2.1))
    have hrow2 : X2.ownsRow g3 5 1 (.slice (some ⟨g3, 0, none⟩) row.length cp) row.length (byteCells row) := hd1.bytes hf2 (own_below (show A2.drew.ownsRow g3 5 1 (.slice (some ⟨g3, 0, none⟩) row.length cp) row.length (byteCells row) from own_other HX.out.2.2.2.2.2.1 (fun _ _ => rfl)) hb1 (Nat.le_refl _))
    have y9 := cell_of_one hS2.2.1
    have f9 := free_of_one hS2.2.1
    have H5 := Lib.hid (And.intro hd2 (And.intro hS2 (And.intro x4 (And.intro hrow2 (And.intro hv2 (And.intro hf2 hb1))))))
    clear hd2 hS2 x4 hrow2 hv2 hf2 hb1 hd1 hsl64 hwl hS1 hi1 hS0 hS0' hcl55 hibl
    have hA1I : (A1 : Int) ≤ 4096 := by have := HA1.out.2.2; omega
    gi_wp2_with fail
    have hz4 := HV.out.2.2.2.1
    have hzV := HV.out.2.2.1
    have f1 : Fr (fun k => Foot bd gs gn vA k ∨ k = W3.heap.size) A2 X1 := Fr.of (show Below A2.heap.size A2 X1 from ⟨H5.out.2.2.2.2.2.2.os, H5.out.2.2.2.2.2.2.tape, H5.out.2.2.2.2.2.2.output, H5.out.2.2.2.2.2.2.size, H5.out.2.2.2.2.2.2.block⟩)
    have f3 : Fr (fun k => Foot bd gs gn vA k ∨ k = W3.heap.size) A2 (X2.setCell ⟨W3.heap.size, 0, none⟩ (.int .i64 ((A1 : Int) + 1))) := Fr.setCell (f1.trans (H5.out.2.2.2.2.2.1.mono (fun k _ h => .inl h))) (.inl (.inr rfl)) _
    have hw3 : w.heap.size ≤ W3.heap.size := H3.out.2.2.2.1.size
    have hold : ∀ k, (k = bd ∨ k = gs ∨ k = gn) → k < w.heap.size := fun k hk => H0.out.2.1.foot_lt k (by rcases hk with h | h | h; exact .inl h; exact .inr (.inl h); exact .inr (.inr (.inl h)))
    have hvA : ∀ k, some k = vA.ownBlock → k < w.heap.size ∧ some k = vw.ownBlock ∨ V.heap.size ≤ k := fun k hk => by
      rcases HX.out.2.2.2.2.2.2.1 with h | ⟨g, h, hg⟩
      · exact .inl ⟨H0.out.2.1.foot_lt k (.inr (.inr (.inr (hk.trans h)))), hk.trans h⟩
      · rw [h] at hk; obtain rfl := Option.some.inj hk; exact .inr hg
    have hk2 := fr_round (n₀ := 0) (n₁ := W4.heap.size) (B := V.heap.size) f3 (fun k hk => by
      rcases hk with (h | h | h | h) | rfl
      · have := hold k (.inl h); exact .inl ⟨Nat.zero_le _, by omega⟩
      · have := hold k (.inr (.inl h)); exact .inl ⟨Nat.zero_le _, by omega⟩
      · have := hold k (.inr (.inr h)); exact .inl ⟨Nat.zero_le _, by omega⟩
      · rcases hvA k h with ⟨h1, _⟩ | h1
        · exact .inl ⟨Nat.zero_le _, by omega⟩
        · refine .inr ⟨h1, fun o2 ho2 => ?_⟩
          obtain ⟨cur, hc⟩ := own_type HX.out.1.ow h.symm
          rw [hc] at ho2
          obtain rfl := Option.some.inj ho2
          rfl
      · exact .inl ⟨Nat.zero_le _, by omega⟩) (by omega) HX.out.2.2.2.2.2.2.2.2.2.1
    have hoth : ∀ k, k ≠ W3.heap.size → (X2.setCell ⟨W3.heap.size, 0, none⟩ (.int .i64 ((A1 : Int) + 1))).heap[k]? = X2.heap[k]? := fun k hk => heap_setCell_other X2 _ k _ hk
    have hnf := H5.out.1.not_foot H5.out.2.1.2.1 (by decide) (by decide) (by decide)
    have hdk5 := H5.out.1.other (w' := X2.setCell ⟨W3.heap.size, 0, none⟩ (.int .i64 ((A1 : Int) + 1))) (fun k _ hk => hoth k (fun e => hnf (e ▸ hk)))
    rw [List.append_assoc, show (A1, secB t (chn row m2)) = (A0 + m2, secB t (chn row m2)) by rw [HA1.out.1], ← wrs_next (t := t) (at0 := A0) (row := row) (i := m2) (by have := HA1.out.2.1; have := HV.out.2.2.2.2.2.2; omega)] at hdk5
    refine ⟨hk2.1, hk2.2, vB, hdk5, H5.out.2.1.2.2.same (hoth bl (by omega)), (hoth _ (by have := H3.out.2.2.2.2.2.2; omega)).trans H5.out.2.1.1, (hoth _ (by have := H3.out.2.2.2.2.2.2; omega)).trans H5.out.2.2.1, ?_, own_other H5.out.2.2.2.1 (fun k hk => hoth k ?_), ?_, fr_on HX.out.2.2.2.2.2.2.2.1 f3 ?_, ?_, Nat.le_trans HX.out.2.2.2.2.2.2.2.2.2.1 f3.size⟩
    · rw [show ((A0 + (m2 + 1) : Nat) : Int) = (A1 : Int) + 1 by rw [HA1.out.1]; omega]
      exact one_setCell H5.out.2.1.2.1
    · intro e
      exact own_not H5.out.2.2.2.1 H5.out.2.1.2.1 (by decide) k hk e
    · rcases H5.out.2.2.2.2.1 with h | ⟨g, h, hg⟩
      · rw [h]; exact HX.out.2.2.2.2.2.2.1
      · exact .inr ⟨g, h, Nat.le_trans (Nat.le_trans HX.out.2.2.2.2.2.2.2.2.2.1 H5.out.2.2.2.2.2.2.size) hg⟩
    · intro k hk hf
      rcases hf with (h | h | h | h) | rfl
      · exact .inl h
      · exact .inr (.inl h)
      · exact .inr (.inr (.inl h))
      · rcases hvA k h with ⟨_, h1⟩ | h1
        · exact .inr (.inr (.inr h1))
        · omega
      · omega
    · have := HA1.out.2.1; have := HV.out.2.2.2.2.2.2; omega
  case hdone =>
    intro D m2 X hD hS hI hK
    dsimp only
    obtain ⟨vA, h1, h2, h3, h4, h5, h6, h7, h8, h9, h10⟩ := hI
    have hrl := HV.out.2.2.2.2.2.2
    have hall : (wrs t A0 row).take m2 = wrs t A0 row := List.take_of_length_le (by rw [wrs_len]; omega)
    rw [hall] at h1
    have HX := Lib.hid (And.intro h1 (And.intro h2 (And.intro h3 (And.intro h4 (And.intro h6 (And.intro h7 (And.intro h8 (And.intro h10 (And.intro hK hD)))))))))
    have hS0' : X.heap[w.heap.size]? = some (.cells #[.pointer (some ⟨bl, 0, none⟩)] 28 (0, 0)) := h3
    clear h1 h2 h3 h4 h5 h6 h7 h8 h9 h10 hK hD hS hall hrl
    have zI : IntKind.i64.wrap ((z : Int) + (fr.length : Int)) = ((z + fr.length : Nat) : Int) := by rw [IntWalk.i64_in _ (by omega)]; omega
    obtain ⟨z2, hz2⟩ : ∃ z2, z2 = z + fr.length := ⟨_, rfl⟩
    rw [← hz2] at zI
    have HZ2 := Lib.hid hz2
    clear hz2
    go_wp2_with fail
    refine begin' 15 (fun Y => Y.heap[w.heap.size]? = some (.cells #[.pointer (some ⟨bl, 0, none⟩)] 28 (0, 0))) hmix (show X.drew.heap[w.heap.size]? = _ from hS0') (fun hS0 => ?_)
    refine Ht.take (i := 0) ⟨some 58, _, _, _, _, _⟩ (.pointer (some ⟨bl, 0, none⟩)) rfl (by kernel_rfl) (by kernel_rfl) (by decide) (by kernel_rfl) (by kernel_rfl) (by kernel_rfl) hS0 (Or.inl ⟨by rfl, by (intro X hX; have := cell_of_one hX; go_simp)⟩) ?_
    simp only [Act.put, List.setIfInBounds_toArray, List.set_cons_zero, List.set_cons_succ]
    refine Ht.take (i := 1) ⟨some 59, _, _, _, _, _⟩ (.pointer (some ⟨bl, 0, none⟩)) rfl (by kernel_rfl) (by kernel_rfl) (by decide) (by kernel_rfl) (by kernel_rfl) (by kernel_rfl) hS0 (Or.inl ⟨by rfl, by (intro X hX; have := cell_of_one hX; go_simp)⟩) ?_
    simp only [Act.put, List.setIfInBounds_toArray, List.set_cons_zero, List.set_cons_succ]
    refine Ht.take (i := 2) ⟨some 60, _, _, _, _, _⟩ (.pointer (some ⟨bl, 0, none⟩)) rfl (by kernel_rfl) (by kernel_rfl) (by decide) (by kernel_rfl) (by kernel_rfl) (by kernel_rfl) hS0 (Or.inl ⟨by rfl, by (intro X hX; have := cell_of_one hX; go_simp)⟩) ?_
    simp only [Act.put, List.setIfInBounds_toArray, List.set_cons_zero, List.set_cons_succ]
    refine Ht.take (i := 3) ⟨some 61, _, _, _, _, _⟩ (.pointer (some ⟨bl, 0, none⟩)) rfl (by kernel_rfl) (by kernel_rfl) (by decide) (by kernel_rfl) (by kernel_rfl) (by kernel_rfl) hS0 (Or.inl ⟨by rfl, by (intro X hX; go_simp)⟩) ?_
    simp only [Act.put, List.setIfInBounds_toArray, List.set_cons_zero, List.set_cons_succ]
    refine Ht.take (i := 4) ⟨some 62, _, _, _, _, _⟩ (.pointer (some ⟨bl, 3, none⟩)) rfl (by kernel_rfl) (by kernel_rfl) (by decide) (by kernel_rfl) (by kernel_rfl) (by kernel_rfl) hS0 (Or.inl ⟨by rfl, by (intro X hX; go_simp)⟩) ?_
    simp only [Act.put, List.setIfInBounds_toArray, List.set_cons_zero, List.set_cons_succ]
    refine Ht.take (i := 6) ⟨some 64, _, _, _, _, _⟩ (.slice a fr.length cap) rfl (by kernel_rfl) (by kernel_rfl) (by decide) (by kernel_rfl) (by kernel_rfl) (by kernel_rfl) hS0 (Or.inl ⟨by rfl, by (intro X hX; go_simp)⟩) ?_
    simp only [Act.put, List.setIfInBounds_toArray, List.set_cons_zero, List.set_cons_succ]
    refine Ht.take (i := 7) ⟨some 65, _, _, _, _, _⟩ (.int .i64 (fr.length : Nat)) rfl (by kernel_rfl) (by kernel_rfl) (by decide) (by kernel_rfl) (by kernel_rfl) (by kernel_rfl) hS0 (Or.inl ⟨by rfl, by (intro X hX; go_simp)⟩) ?_
    simp only [Act.put, List.setIfInBounds_toArray, List.set_cons_zero, List.set_cons_succ]
    refine Ht.take (i := 9) ⟨some 67, _, _, _, _, _⟩ (.int .u32 (S : Nat)) rfl (by kernel_rfl) (by kernel_rfl) (by decide) (by kernel_rfl) (by kernel_rfl) (by kernel_rfl) hS0 (Or.inl ⟨by rfl, by (intro X hX; go_simp)⟩) ?_
    simp only [Act.put, List.setIfInBounds_toArray, List.set_cons_zero, List.set_cons_succ]
    refine Ht.step (i := 5) ⟨some 63, _, _, _, _, _⟩ rfl (by kernel_rfl) (by rfl) (fun K hK => ?_)
    have c3 : X.drew.cell? ⟨bl, 3, none⟩ = some (.int .i64 (z : Nat)) := HX.out.2.1.cells.2.2.2.1
    go_simp
    refine hK _ _ (fun _ => hS0) (fun _ => ?_)
    clear hK K c3
    try simp only [Act.put, List.setIfInBounds_toArray, List.set_cons_zero, List.set_cons_succ]
    refine Ht.take (i := 8) ⟨some 66, _, _, _, _, _⟩ (.int .i64 (z2 : Nat)) rfl (by kernel_rfl) (by kernel_rfl) (by decide) (by kernel_rfl) (by kernel_rfl) (by kernel_rfl) hS0 (Or.inl ⟨by rfl, by (intro X hX; go_simp)⟩) ?_
    simp only [Act.put, List.setIfInBounds_toArray, List.set_cons_zero, List.set_cons_succ]
    refine Ht.take (i := 10) ⟨some 68, _, _, _, _, _⟩ (.pointer (some ⟨bl, 0, none⟩)) rfl (by kernel_rfl) (by kernel_rfl) (by decide) (by kernel_rfl) (by kernel_rfl) (by kernel_rfl) hS0 (Or.inl ⟨by rfl, by (intro X hX; go_simp)⟩) ?_
    simp only [Act.put, List.setIfInBounds_toArray, List.set_cons_zero, List.set_cons_succ]
    refine Ht.take (i := 11) ⟨some 69, _, _, _, _, _⟩ (.pointer (some ⟨bl, 3, none⟩)) rfl (by kernel_rfl) (by kernel_rfl) (by decide) (by kernel_rfl) (by kernel_rfl) (by kernel_rfl) hS0 (Or.inl ⟨by rfl, by (intro X hX; go_simp)⟩) ?_
    simp only [Act.put, List.setIfInBounds_toArray, List.set_cons_zero, List.set_cons_succ]
    refine Ht.step (i := 12) ⟨none, _, _, _, _, _⟩ rfl (by kernel_rfl) (by rfl) (fun K hK => ?_)
    have c3 : X.drew.cell? ⟨bl, 3, none⟩ = some (.int .i64 (z : Nat)) := HX.out.2.1.cells.2.2.2.1
    have f3 : X.drew.frozen? ⟨bl, 3, none⟩ = false := HX.out.2.1.free 3
    go_simp
    have hnb : w.heap.size ≠ bl := by omega
    have hS1 : (X.setCell ⟨bl, 3, none⟩ (.int .i64 (z2 : Nat))).drew.heap[w.heap.size]? = some (.cells #[.pointer (some ⟨bl, 0, none⟩)] 28 (0, 0)) := (heap_setCell_other X _ _ _ hnb).trans hS0
    refine hK _ _ (fun _ => hS1) (fun _ => ?_)
    clear hK K c3 f3 hS0
    try simp only [Act.put, List.setIfInBounds_toArray, List.set_cons_zero, List.set_cons_succ]
    have hS0 := hS1
    refine Ht.take (i := 13) ⟨some 70, _, _, _, _, _⟩ (.pointer (some ⟨bl, 0, none⟩)) rfl (by kernel_rfl) (by kernel_rfl) (by decide) (by kernel_rfl) (by kernel_rfl) (by kernel_rfl) hS0 (Or.inl ⟨by rfl, by (intro X hX; go_simp)⟩) ?_
    simp only [Act.put, List.setIfInBounds_toArray, List.set_cons_zero, List.set_cons_succ]
    refine Ht.take (i := 14) ⟨some 71, _, _, _, _, _⟩ (.pointer (some ⟨bl, 4, none⟩)) rfl (by kernel_rfl) (by kernel_rfl) (by decide) (by kernel_rfl) (by kernel_rfl) (by kernel_rfl) hS0 (Or.inl ⟨by rfl, by (intro X hX; go_simp)⟩) ?_
    simp only [Act.put, List.setIfInBounds_toArray, List.set_cons_zero, List.set_cons_succ]
    refine Ht.step (i := 15) ⟨none, _, _, _, _, _⟩ rfl (by kernel_rfl) (by rfl) (fun K hK => ?_)
    have b5 := block_setCell HX.out.2.1.blk (i := 3) (.int .i64 (z2 : Nat))
    have c4 : (X.setCell ⟨bl, 3, none⟩ (.int .i64 (z2 : Nat))).drew.cell? ⟨bl, 4, none⟩ = some (.int .u32 (s : Nat)) := by
      have : (X.setCell ⟨bl, 3, none⟩ (.int .i64 (z2 : Nat))).cell? ⟨bl, 4, none⟩ = some (.int .u32 (s : Nat)) := by
        rw [cell_of_block b5]; simp [lgc]
      exact this
    have f4 : (X.setCell ⟨bl, 3, none⟩ (.int .i64 (z2 : Nat))).drew.frozen? ⟨bl, 4, none⟩ = false := unfrozen_of_block (w := X.setCell ⟨bl, 3, none⟩ (.int .i64 (z2 : Nat))) b5 4
    go_simp
    refine hK _ _ (fun h => absurd rfl h) (fun _ => ?_)
    clear hK K c4 f4
    refine done (by kernel_rfl) ?_
    clear hS1 hS0
    obtain ⟨X6, hX6⟩ : ∃ X6, X6 = (X.setCell ⟨bl, 3, none⟩ (.int .i64 (z2 : Nat))).setCell ⟨bl, 4, none⟩ (.int .u32 (S : Nat)) := ⟨_, rfl⟩
    have b6 := block_setCell b5 (i := 4) (.int .u32 (S : Nat))
    rw [← hX6] at b6 ⊢
    have hoth : ∀ k, k ≠ bl → X6.heap[k]? = X.heap[k]? := fun k hk => by
      rw [hX6]; exact (heap_setCell_other _ _ k _ hk).trans (heap_setCell_other X _ k _ hk)
    have l6 : IsLg X6 bl bd hf t z2 S last := ⟨by rw [b6]; simp [lgc], HX.out.2.1.len, HX.out.2.1.hf1, HX.out.2.1.ut, H0.out.2.2.2.2.2⟩
    have hnl := HX.out.2.1.apart HX.out.1
    have d6 := HX.out.1.other (w' := X6) (fun k _ hk => hoth k (fun e => hnl (e ▸ hk)))
    have x3 := (hoth w.heap.size hnb).trans HX.out.2.2.1
    have x6 := (hoth (w.heap.size + 1) (by omega)).trans HX.out.2.2.2.1
    have o6 := own_other HX.out.2.2.2.2.1 (w' := X6) (fun k hk => hoth k fun e => own_not HX.out.2.2.2.2.1 HX.out.2.1.blk (by decide) k hk e)
    have hwV : w.heap.size + 3 ≤ V.heap.size := by have := HV.out.2.2.1; have := H3.out.2.2.2.2.2.2; omega
    have f6 : Fr (fun k => Foot bd gs gn vw k ∨ k = bl) w X6 := by
      rw [hX6]; exact Fr.setCell (Fr.setCell (HX.out.2.2.2.2.2.2.1.mono fun k _ h => .inl h) (.inl (.inr rfl)) _) (.inl (.inr rfl)) _
    have D6 : X6.heap[D]? = some (.deferred (some [])) := (hoth D (by have := HX.out.2.2.2.2.2.2.2.2.2; omega)).trans HX.out.2.2.2.2.2.2.2.2.1
    have HX6 := Lib.hid (And.intro l6 (And.intro d6 (And.intro x3 (And.intro x6 (And.intro o6 (And.intro f6 (And.intro D6 (And.intro hwV (And.intro HX.out.2.2.2.2.2.1 HX.out.2.2.2.2.2.2.2.2.2)))))))))
    clear b5 b6 hoth l6 hnl d6 x6 o6 f6 D6 hX6 hwV zI
    obtain ⟨r2, hr2⟩ : ∃ r2, r2 = z2 % 55 := ⟨_, rfl⟩
    obtain ⟨d, hd⟩ : ∃ d, d = r + fr.length - r2 := ⟨_, rfl⟩
    have e3 : (z2 : Int).tmod 55 = (r2 : Int) := by rw [hr2]; exact Int.ofNat_tmod _ _
    have hrd : r2 ≤ r + fr.length := by rw [hr2, HZ2.out]; have := HZQ.out.1; omega
    have dI : IntKind.i64.wrap ((r : Int) + (fr.length : Int) - (r2 : Int)) = (d : Int) := by rw [IntWalk.i64_in _ (by omega)]; omega
    have rI : IntKind.i64.wrap (r2 : Int) = (r2 : Int) := IntWalk.i64_in _ (by omega)
    have hS0' : X6.drew.drew.heap[w.heap.size]? = some (.cells #[.pointer (some ⟨bl, 0, none⟩)] 28 (0, 0)) ∧ IsLg X6.drew.drew bl bd hf t z2 S last := ⟨x3, HX6.out.1.same rfl⟩
    have HD := Lib.hid (And.intro hr2 (And.intro hd hrd))
    clear hr2 hd hrd x3
    go_wp2_with fail
    refine begin' 14 (fun Y => Y.heap[w.heap.size]? = some (.cells #[.pointer (some ⟨bl, 0, none⟩)] 28 (0, 0)) ∧ IsLg Y bl bd hf t z2 S last) hmix hS0' (fun hS0 => ?_)
    refine Ht.takeD 6 (i := 0) ⟨some 72, _, _, _, _, _⟩ (.pointer (some ⟨bl, 0, none⟩)) rfl (by kernel_rfl) (by kernel_rfl) (by decide) (by kernel_rfl) (by kernel_rfl) (by kernel_rfl) hS0 (Or.inl ⟨by rfl, by (intro X hX; have := cell_of_one hX.1; go_simp)⟩) ?_
    simp only [Act.put, List.setIfInBounds_toArray, List.set_cons_zero, List.set_cons_succ]
    refine Ht.takeD 6 (i := 1) ⟨some 73, _, _, _, _, _⟩ (.pointer (some ⟨bl, 0, none⟩)) rfl (by kernel_rfl) (by kernel_rfl) (by decide) (by kernel_rfl) (by kernel_rfl) (by kernel_rfl) hS0 (Or.inl ⟨by rfl, by (intro X hX; go_simp)⟩) ?_
    simp only [Act.put, List.setIfInBounds_toArray, List.set_cons_zero, List.set_cons_succ]
    refine Ht.takeD 6 (i := 2) ⟨some 74, _, _, _, _, _⟩ (.pointer (some ⟨bl, 5, none⟩)) rfl (by kernel_rfl) (by kernel_rfl) (by decide) (by kernel_rfl) (by kernel_rfl) (by kernel_rfl) hS0 (Or.inl ⟨by rfl, by (intro X hX; go_simp)⟩) ?_
    simp only [Act.put, List.setIfInBounds_toArray, List.set_cons_zero, List.set_cons_succ]
    refine Ht.takeD 6 (i := 3) ⟨some 75, _, _, _, _, _⟩ (.slice (some ⟨bl, 5, none⟩) 55 55) rfl (by kernel_rfl) (by kernel_rfl) (by decide) (by kernel_rfl) (by kernel_rfl) (by kernel_rfl) hS0 (Or.inl ⟨by rfl, by (intro X hX; go_simp)⟩) ?_
    simp only [Act.put, List.setIfInBounds_toArray, List.set_cons_zero, List.set_cons_succ]
    refine Ht.takeD 6 (i := 4) ⟨some 76, _, _, _, _, _⟩ (.slice (some ⟨g3, 0, none⟩) (r + fr.length) cp) rfl (by kernel_rfl) (by kernel_rfl) (by decide) (by kernel_rfl) (by kernel_rfl) (by kernel_rfl) hS0 (Or.inl ⟨by rfl, by (intro X hX; go_simp)⟩) ?_
    simp only [Act.put, List.setIfInBounds_toArray, List.set_cons_zero, List.set_cons_succ]
    refine Ht.takeD 6 (i := 5) ⟨some 77, _, _, _, _, _⟩ (.slice (some ⟨g3, 0, none⟩) (r + fr.length) cp) rfl (by kernel_rfl) (by kernel_rfl) (by decide) (by kernel_rfl) (by kernel_rfl) (by kernel_rfl) hS0 (Or.inl ⟨by rfl, by (intro X hX; go_simp)⟩) ?_
    simp only [Act.put, List.setIfInBounds_toArray, List.set_cons_zero, List.set_cons_succ]
    refine Ht.takeD 6 (i := 6) ⟨some 78, _, _, _, _, _⟩ (.int .i64 ((r + fr.length : Nat) : Int)) rfl (by kernel_rfl) (by kernel_rfl) (by decide) (by kernel_rfl) (by kernel_rfl) (by kernel_rfl) hS0 (Or.inl ⟨by rfl, by (intro X hX; go_simp)⟩) ?_
    simp only [Act.put, List.setIfInBounds_toArray, List.set_cons_zero, List.set_cons_succ]
    refine Ht.takeD 6 (i := 7) ⟨some 79, _, _, _, _, _⟩ (.pointer (some ⟨bl, 0, none⟩)) rfl (by kernel_rfl) (by kernel_rfl) (by decide) (by kernel_rfl) (by kernel_rfl) (by kernel_rfl) hS0 (Or.inl ⟨by rfl, by (intro X hX; have := cell_of_one hX.1; go_simp)⟩) ?_
    simp only [Act.put, List.setIfInBounds_toArray, List.set_cons_zero, List.set_cons_succ]
    refine Ht.takeD 6 (i := 8) ⟨some 80, _, _, _, _, _⟩ (.pointer (some ⟨bl, 0, none⟩)) rfl (by kernel_rfl) (by kernel_rfl) (by decide) (by kernel_rfl) (by kernel_rfl) (by kernel_rfl) hS0 (Or.inl ⟨by rfl, by (intro X hX; go_simp)⟩) ?_
    simp only [Act.put, List.setIfInBounds_toArray, List.set_cons_zero, List.set_cons_succ]
    refine Ht.takeD 6 (i := 9) ⟨some 81, _, _, _, _, _⟩ (.pointer (some ⟨bl, 3, none⟩)) rfl (by kernel_rfl) (by kernel_rfl) (by decide) (by kernel_rfl) (by kernel_rfl) (by kernel_rfl) hS0 (Or.inl ⟨by rfl, by (intro X hX; go_simp)⟩) ?_
    simp only [Act.put, List.setIfInBounds_toArray, List.set_cons_zero, List.set_cons_succ]
    refine Ht.takeD 6 (i := 10) ⟨some 82, _, _, _, _, _⟩ (.int .i64 (z2 : Nat)) rfl (by kernel_rfl) (by kernel_rfl) (by decide) (by kernel_rfl) (by kernel_rfl) (by kernel_rfl) hS0 (Or.inl ⟨by rfl, by (intro X hX; have := hX.2.cells.2.2.2.1; go_simp)⟩) ?_
    simp only [Act.put, List.setIfInBounds_toArray, List.set_cons_zero, List.set_cons_succ]
    refine Ht.takeD 6 (i := 11) ⟨some 83, _, _, _, _, _⟩ (.int .i64 (r2 : Nat)) rfl (by kernel_rfl) (by kernel_rfl) (by decide) (by kernel_rfl) (by kernel_rfl) (by kernel_rfl) hS0 (Or.inl ⟨by rfl, by (intro X hX; go_simp)⟩) ?_
    simp only [Act.put, List.setIfInBounds_toArray, List.set_cons_zero, List.set_cons_succ]
    refine Ht.takeD 6 (i := 12) ⟨some 84, _, _, _, _, _⟩ (.int .i64 (d : Nat)) rfl (by kernel_rfl) (by kernel_rfl) (by decide) (by kernel_rfl) (by kernel_rfl) (by kernel_rfl) hS0 (Or.inl ⟨by rfl, by (intro X hX; go_simp)⟩) ?_
    simp only [Act.put, List.setIfInBounds_toArray, List.set_cons_zero, List.set_cons_succ]
    have d0 : (0 : Int) ≤ (d : Int) := by omega
    have d1 : (d : Int) ≤ (cp : Int) := by have := HD.out; have := HV.out.2.2.2.2.1.1; have := H3.out.2.2.2.2.2.1; omega
    have d2 : (d : Int) ≤ ((r + fr.length : Nat) : Int) := by have := HD.out; omega
    have d3 : (d : Int) ≤ (r : Int) + (fr.length : Int) := by have := HD.out; omega
    have d4 : d ≤ r + fr.length := by have := HD.out; omega
    have d5 : d ≤ cp := by omega
    have d6 : r + fr.length ≤ cp := by have := HV.out.2.2.2.2.1.1; have := H3.out.2.2.2.2.2.1; omega
    obtain ⟨o2, ho2⟩ : ∃ o2, o2 = if cp = d then 0 else d := ⟨_, rfl⟩
    refine Ht.takeD 6 (i := 13) ⟨some 85, _, _, _, _, _⟩ (.slice (some ⟨g3, o2, none⟩) (r + fr.length - d) (cp - d)) rfl (by kernel_rfl) (by kernel_rfl) (by decide) (by kernel_rfl) (by kernel_rfl) (by kernel_rfl) hS0 (Or.inl ⟨by rfl, by (intro X hX; go_simp; by_cases hcd : cp = d <;> simp [hcd])⟩) ?_
    simp only [Act.put, List.setIfInBounds_toArray, List.set_cons_zero, List.set_cons_succ]
    obtain ⟨Y, hY⟩ : ∃ Y, Y = X6.drew.drew := ⟨_, rfl⟩
    have hrl := HV.out.2.2.2.2.2.2
    have y1 : IsLg Y bl bd hf t z2 S last := by rw [hY]; exact HX6.out.1.same rfl
    have y2 : IsDk Y B bd gs cs gn cn vA n F (ov F (W ++ wrs t A0 row)) (W ++ wrs t A0 row) false := by rw [hY]; exact HX6.out.2.1.other fun _ _ _ => rfl
    have y4 : Y.heap[w.heap.size + 1]? = some (.cells #[.int .i64 0] 25 (0, 0)) := by rw [hY]; exact HX6.out.2.2.2.1
    have y5 : Y.ownsRow g3 5 1 (.slice (some ⟨g3, 0, none⟩) row.length cp) row.length (byteCells row) := by rw [hY]; exact own_other HX6.out.2.2.2.2.1 fun _ _ => rfl
    have y6 : Fr (fun k => Foot bd gs gn vw k ∨ k = bl) w Y := by rw [hY]; exact HX6.out.2.2.2.2.2.1.trans (Fr.of ((Below.refl _ _).drew.drew))
    have y7 : Y.heap[D]? = some (.deferred (some [])) := by rw [hY]; exact HX6.out.2.2.2.2.2.2.1
    rw [← hY] at hS0 ⊢
    clear hY hS0'
    have hsrc : IsB Y (some ⟨g3, o2, none⟩) (r + fr.length - d) (cp - d) (row.drop d) := by
      refine ⟨by rw [List.length_drop, hrl], .inr ⟨_, rfl, by omega, by unfold maxLen; have := HV.out.2.2.2.2.1.2; omega, fun j u hu => ?_⟩⟩
      obtain ⟨_, ⟨h, _⟩ | ⟨x, hx, h3, h4, h5⟩⟩ := isB_of_own' y5
      · cases h
      · obtain rfl := Option.some.inj hx
        have hju : j < (row.drop d).length := by have := (List.getElem?_eq_some_iff.1 hu).1; simpa [byteCells] using this
        rw [List.length_drop] at hju
        have hne : cp ≠ d := by omega
        rw [ho2, if_neg hne]
        have := h5 (d + j) u (by simpa [byteCells, List.getElem?_drop] using hu)
        rw [add_lit] at this ⊢
        rw [Nat.zero_add] at this
        exact this
    obtain ⟨X7, hr7, b7, B7, oth7⟩ := copy_at Y (dc := 55) (o := 5) (dl := 55) y1.blk (by rw [lgc_len y1.len]; decide) hsrc
    have hS7 : X7.heap[w.heap.size]? = some (.cells #[.pointer (some ⟨bl, 0, none⟩)] 28 (0, 0)) := (oth7 _ hnb).trans hS0.1
    have HO2 := Lib.hid ho2
    clear ho2
    refine Ht.step (i := 14) ⟨some 86, _, _, _, _, _⟩ rfl (by kernel_rfl) (by rfl) (fun K hK => ?_)
    go_simp
    refine hK _ _ (fun h => absurd rfl h) (fun _ => ?_)
    clear hK K
    refine done (by kernel_rfl) ?_
    have hdl : (row.drop d).length = r2 := by rw [List.length_drop, hrl]; have := HD.out; omega
    have hr2 : r2 < 55 := by rw [HD.out.1]; exact Nat.mod_lt _ (by decide)
    have l7 : IsLg X7 bl bd hf t z2 S (row.drop d ++ last.drop r2) := by
      refine ⟨?_, by rw [List.length_append, hdl, List.length_drop, y1.len]; omega, y1.hf1, y1.ut, y1.us⟩
      rw [b7, List.take_of_length_le (by omega)]
      congr 2
      unfold splice lgc
      simp only [byteCells]
      simp
      rw [show row.length - d = r2 by rw [← List.length_drop]; exact hdl, Nat.add_comm 5 r2]
      rfl
    have x7 := (oth7 (w.heap.size + 1) (by omega)).trans y4
    have d7 := y2.other (w' := X7) (fun k _ hk => oth7 k (fun e => y1.apart y2 (e ▸ hk)))
    have hwV := HX6.out.2.2.2.2.2.2.2.1
    have hVD := HX6.out.2.2.2.2.2.2.2.2.2
    have D7 : X7.heap[D]? = some (.deferred (some [])) := (oth7 D (by omega)).trans y7
    have f7 : Fr (fun k => Foot bd gs gn vw k ∨ k = bl) w X7 := ⟨(B7 0 (Nat.zero_le _)).os.trans y6.os, (B7 0 (Nat.zero_le _)).tape.trans y6.tape, (B7 0 (Nat.zero_le _)).output.trans y6.output, Nat.le_trans y6.size (B7 0 (Nat.zero_le _)).size, fun k h1 h2 => (oth7 k (fun e => h2 (.inr e))).trans (y6.block k h1 h2)⟩
    have c7 := cell_of_one x7
    have fr7 := free_of_one x7
    have ht7 : (row.drop d ++ last.drop r2).take r2 = row.drop d := by rw [List.take_append_of_le_length (by omega), List.take_of_length_le (by omega)]
    have HX7 := Lib.hid (And.intro l7 (And.intro d7 (And.intro D7 (And.intro f7 (And.intro x7 (And.intro hwV (And.intro hVD (And.intro hr2 ht7))))))))
    clear l7 d7 D7 f7 x7 hwV hVD hr2 ht7 hr7 b7 B7 oth7 hS7 hsrc y1 y2 y4 y5 y6 y7 hdl hS0
    go_wp2_with fail
    have hnf := HX7.out.2.1.not_foot HX7.out.2.2.2.2.1 (by decide) (by decide) (by decide)
    have hoth : ∀ k, k ≠ w.heap.size + 1 → (X7.setCell ⟨w.heap.size + 1, 0, none⟩ (.int .i64 0)).heap[k]? = X7.heap[k]? := fun k hk => heap_setCell_other X7 _ k _ hk
    have hwV := HX7.out.2.2.2.2.2.1
    have hVD := HX7.out.2.2.2.2.2.2.1
    have l8 := HX7.out.1.same (hoth bl (by omega))
    have d8 := HX7.out.2.1.other (w' := X7.setCell ⟨w.heap.size + 1, 0, none⟩ (.int .i64 0)) (fun k _ hk => hoth k (fun e => hnf (e ▸ hk)))
    have f8 : Fr (fun k => Foot bd gs gn vw k ∨ k = bl) w (X7.setCell ⟨w.heap.size + 1, 0, none⟩ (.int .i64 0)) := Fr.setCell HX7.out.2.2.2.1 (.inr (by omega)) _
    have hrl2 : row.length = r + fr.length := HV.out.2.2.2.2.2.2
    refine leaveE rfl rfl (one_setCell HX7.out.2.2.2.2.1) hVD ((hoth D (by omega)).trans HX7.out.2.2.1) (fun X' hX' => ⟨rfl, vA, row.drop d ++ last.drop r2, dk_calm d8 hX', ?_, ?_, ?_, fr_calm f8 (hX'.below (Nat.le_refl _) ?_) (by omega)⟩)
    · rw [← HZ2.out]
      exact ⟨hX'.cell l8.blk, l8.len, l8.hf1, l8.ut, l8.us⟩
    · rw [← HZ2.out, ← HD.out.1, HX7.out.2.2.2.2.2.2.2.2, HD.out.2.1, hrl2]
    · rcases HX6.out.2.2.2.2.2.2.2.2.1 with h | ⟨g, h, hg⟩
      · exact .inl h
      · exact .inr ⟨g, h, by omega⟩
    · exact Nat.le_of_lt (Nat.lt_of_le_of_lt hVD (Array.getElem?_eq_some_iff.1 ((hoth D (by omega)).trans HX7.out.2.2.1)).1)
  case hstop =>
    rintro D c m X hD h hK
    exact h.elim
end Go.Proofs.YtjblkmjdepdekaaDoor.Wl

/- logs: a half is written anew -/
namespace Go.Proofs.YtjblkmjdepdekaaDoor.Wl
open Go.RowKit Go.Lib Go.Joins Go.Proofs.YtjblkmjdepdekaaDoor.By Go.Proofs.YtjblkmjdepdekaaDoor.Dk Go.Proofs.YtjblkmjdepdekaaDoor.Oc Go.Proofs.YtjblkmjdepdekaaDoor.Rg Go.Proofs.YtjblkmjdepdekaaDoor.Ht Go.Proofs.YtjblkmjdepdekaaDoor.Cr Go.Proofs.YtjblkmjdepdekaaDoor.Fm
attribute [local go_sem] Oper.semAt_some

def sealR : Rv := ⟨255, none, 0, []⟩
theorem InRs.hold {w : World} {ad : Addr} {L : List Rv} (h : InRs w (some ad) L) : ∀ j u, (rcvs L)[j]? = some u → w.cell? (ad.add j) = some u := by
  intro j u hu
  have hj := (List.getElem?_eq_some_iff.1 hu).1
  rw [rcvs_len] at hj
  rcases h with h | ⟨g, o, e, h⟩
  · subst h; simp [rcvs] at hu
  · obtain rfl := Option.some.inj e
    have hi : j / 2 < L.length := by omega
    obtain ⟨h1, h2, _⟩ := h _ hi
    have hg := rcvs_get L _ hi
    rw [add_lit]
    rcases Nat.mod_two_eq_zero_or_one j with hm | hm
    · rw [show j = j / 2 * 2 by omega] at hu ⊢
      rw [hg.1] at hu
      rw [← Option.some.inj hu]; exact h1
    · rw [show j = j / 2 * 2 + 1 by omega] at hu ⊢
      rw [hg.2] at hu
      rw [← Option.some.inj hu]; exact h2
theorem InRs.data {w : World} {a : Option Addr} {L : List Rv} (h : InRs w a L) : ∀ x ∈ L, IsB w x.a x.d.length x.c x.d := by
  intro x hx
  rcases h with h | ⟨g, o, e, h⟩
  · subst h; cases hx
  · obtain ⟨i, hi, rfl⟩ := List.getElem_of_mem hx
    exact (h i hi).2.2
theorem inRs_of_own {B : Nat} {w : World} {v : Value} {L : List Rv} (ho : w.ownsRow B 34 2 v L.length (rcvs L)) (hd : ∀ x ∈ L, IsB w x.a x.d.length x.c x.d) (hpos : 0 < L.length) : ∃ a c, v = .slice a L.length c ∧ InRs w a L := by
  rcases ho.2 with ⟨_, h0⟩ | ⟨g, cap, cur, hv, _⟩
  · omega
  · have hc := ho.cells (g := g) (by rw [hv]; rfl)
    refine ⟨_, _, hv, .inr ⟨g, 0, rfl, fun i hi => ?_⟩⟩
    have hg := rcvs_get L i hi
    have h1 := hc _ _ hg.1
    have h2 := hc _ _ hg.2
    rw [add_lit, Nat.zero_add] at h1 h2
    exact ⟨by rw [Nat.zero_add]; exact h1, by rw [Nat.zero_add]; exact h2, hd _ (List.getElem_mem hi)⟩
theorem isB_none (w : World) : IsB w none 0 0 [] := ⟨rfl, .inl ⟨rfl, rfl, rfl⟩⟩
/-- the seal behind some records -/
theorem app_recs (w : World) (a : Option Addr) (L : List Rv) (hL : InRs w a L) (ha : a = none → L = []) (y : Addr) (hy : ∀ j u, (rcv sealR)[j]? = some u → w.cell? (y.add j) = some u) (hl : L.length ≤ 299999) (c : Nat) (ty : TypeId) :
    ∃ a' c' W', (Builtin.append_ #[31, 31] ty #[.slice a L.length L.length, .slice (some y) 1 c]).run Tryd.prog w = .ok (.slice a' (L.length + 1) c') W' ∧ InRs W' a' (L ++ [sealR]) ∧ Below w.heap.size w W' := by
  obtain ⟨i0, hi, hz0, hz1, hz2⟩ := info_parts info34
  have hnl : (rcv sealR).length = 1 * 2 := rfl
  have key : ∃ v W', (Builtin.append_ #[31, 31] ty #[.slice a L.length L.length, .slice (some y) 1 c]).run Tryd.prog w = .ok v W' ∧ W'.ownsRow w.heap.size 34 2 v (L.length + 1) (rcvs L ++ rcv sealR) ∧ Below w.heap.size w W' := by
    cases a with
    | none =>
      obtain rfl := ha rfl
      obtain ⟨v2, w2, hr2, o2, hg, _⟩ := Ao.run_append_own_new (P := Tryd.prog) w w.heap.size 31 ty 34 i0 _ 2 32 Tryd.underlying31 hi hz0 hz1 hz2 rfl (by decide) _ 0 [] (World.ownsRow_nil w w.heap.size 34 2) y 1 c (rcv sealR) hnl hy (by intro u hu; simp [rcv] at hu; rcases hu with rfl | rfl <;> rfl) (by unfold maxLen; omega) (by omega) (Nat.le_refl _)
      exact ⟨v2, w2, hr2, o2, (Below.refl _ w).grown hg (Nat.le_refl _) (fun j hj => by cases hj)⟩
    | some ad =>
      obtain ⟨cp, W', hr, ho', hb'⟩ := grow_row (P := Tryd.prog) w 31 ty 34 i0 _ 2 32 Tryd.underlying31 hi hz0 hz1 hz2 rfl ad L.length (rcvs L) (rcvs_len L) hL.hold y 1 c (rcv sealR) hnl hy (by decide) (by omega) (by unfold maxLen; omega)
      exact ⟨_, W', hr, ho', hb'⟩
  obtain ⟨v, W', hr, ho, hb⟩ := key
  have ho2 : W'.ownsRow w.heap.size 34 2 v (L ++ [sealR]).length (rcvs (L ++ [sealR])) := by
    rw [List.length_append, rcvs_app]; simpa [rcvs] using ho
  obtain ⟨a', c', hv, hin⟩ := inRs_of_own ho2 (fun x hx => by
    rcases List.mem_append.1 hx with hx | hx
    · exact (hL.data x hx).old hb
    · rw [List.mem_singleton.1 hx]; exact isB_none _) (by simp)
  rw [List.length_append] at hv
  exact ⟨a', c', W', by rw [hr, hv]; rfl, hin, hb⟩
end Go.Proofs.YtjblkmjdepdekaaDoor.Wl

/- logs: rewrite -/
namespace Go.Proofs.YtjblkmjdepdekaaDoor.Wl
open Go.RowKit Go.Lib Go.Joins Go.Proofs.YtjblkmjdepdekaaDoor.By Go.Proofs.YtjblkmjdepdekaaDoor.Dk Go.Proofs.YtjblkmjdepdekaaDoor.Oc Go.Proofs.YtjblkmjdepdekaaDoor.Rg Go.Proofs.YtjblkmjdepdekaaDoor.Ht Go.Proofs.YtjblkmjdepdekaaDoor.Cr Go.Proofs.YtjblkmjdepdekaaDoor.Fm
attribute [local go_sem] Oper.semAt_some

theorem wpList_app_recs {w : World} {ops : Array Oper} {rest : List Oper} {o : Oper} {act : Act} {Q : Exit → Act → World → Prop} (hgd : o.guard = none) (s x : Operand) (ho : o.op = .call { callee := .builtin .append, args := #[s, x], argTypes := #[31, 31] })
    (a : Option Addr) (L : List Rv) (hs : act.eval s = .slice a L.length L.length) (hL : InRs w a L) (ha : a = none → L = []) (y : Addr) (c : Nat) (hx : act.eval x = .slice (some y) 1 c) (hy : ∀ j u, (rcv sealR)[j]? = some u → w.cell? (y.add j) = some u) (hl : L.length ≤ 299999)
    (h : ∀ a' c' W', InRs W' a' (L ++ [sealR]) → Below w.heap.size w W' → wpList Tryd.prog ops Q rest (act.put o.dst (.slice a' (L.length + 1) c')) W') : wpList Tryd.prog ops Q (o :: rest) act w := by
  obtain ⟨a', c', W', hr, hin, hb⟩ := app_recs w a L hL ha y hy hl c o.type
  refine wpList_plain hgd fun K hK => ?_
  unfold Oper.wp execOp
  simp only [ho, resolve, invoke, builtin, Sem.run_bind, Sem.run_pure, Result.andThen_ok, List.map_toArray, List.map_cons, List.map_nil, hs, hx, hr]
  exact hK _ _ (h a' c' W' hin hb)
theorem slice_keep (a : Option Addr) (l cap : Nat) (h : l ≤ cap) (W : World) : (Instr.sliceAt 31 (.slice a l cap) none (some (.int .i64 (l : Nat))) (some (.int .i64 (l : Nat)))).run Tryd.prog W = .ok (.slice a l l) W := by
  have h1 : (0 : Int) ≤ (l : Int) := by omega
  have h2 : (l : Int) ≤ (cap : Int) := by omega
  cases a <;> go_simp
theorem zero_log : ∀ w, (zeroValue 73).run Tryd.prog w = .ok (.agg (([.pointer none, .int .i64 0, .int .u64 0, .int .i64 0, .int .u32 0] : List Value) ++ byteCells (List.replicate 55 0)).toArray) w := fun w => by kernel_rfl
theorem size_log {cs : List Value} (h : cs.length = 60) : (Tryd.prog.info? 73).map (·.size) = some cs.length := by
  rw [h]; kernel_rfl
theorem lgc_one (bd hf t z s : Nat) (last : List UInt8) : ∀ v ∈ lgc bd hf t z s last, v.oneCell' = true := by
  intro v hv
  simp only [lgc, List.mem_append, List.mem_cons, List.not_mem_nil, or_false, byteCells, List.mem_map] at hv
  rcases hv with (rfl | rfl | rfl | rfl | rfl) | ⟨_, _, rfl⟩ <;> rfl
theorem Fr.setRow {p : Nat → Prop} {a b : World} (h : Fr p a b) {g : Nat} (hq : p g) (cs : Array Value) : Fr p a (b.setRow g cs) :=
  ⟨h.os, h.tape, h.output, by rw [setRow_size]; exact h.size, fun i h1 h2 => (setRow_other b g i cs (fun e => h2 (e ▸ hq))).trans (h.block i h1 h2)⟩
theorem catR_seal (L : List Rv) : catR (L ++ [sealR]) = catR L ++ fb (smR L) 255 [] := by
  unfold catR smR
  rw [List.map_append, cat_app]
  simp [sealR, rc, cat]
theorem catR_pos (L : List Rv) : 0 < (catR (L ++ [sealR])).length := by
  rw [catR_seal, List.length_append, fb_len]; omega
set_option maxRecDepth 20000 in
set_option maxHeartbeats 8000000 in
theorem rewrite_log {w : World} {bl bd hf t z s : Nat} {last : List UInt8} {B gs cs gn cn n : Nat} {vw : Value} {F : List UInt8} {W : List Wr} (h : IsLg w bl bd hf t z s last) (hd : IsDk w B bd gs cs gn cn vw n F (ov F W) W false) (hn4 : 4 ≤ n) (ht : t + 1 < 9223372036854775809)
    (a : Option Addr) (cap : Nat) (L : List Rv) (hL : InRs w a L) (ha : a = none → L = [] ∧ cap = 0) (hcap : L.length ≤ cap ∧ cap ≤ 9223372036854775807) (hdl : ∀ x ∈ L, x.d.length ≤ 1024) (hl : L.length ≤ 290000) (hW : W.length ≤ 900000) (hn : Nibs w) :
    Calls Tryd.prog 35 #[.pointer (some ⟨bl, 0, none⟩), .slice a L.length cap] w fun e w' =>
      (55 * (n / 2) < (catR (L ++ [sealR])).length ∧ e = .returned (.int .i64 6) ∧ Below w.heap.size w w') ∨
      ((catR (L ++ [sealR])).length ≤ 55 * (n / 2) ∧ e = .returned (.int .i64 0) ∧ ∃ last', IsDk w' B bd gs cs gn cn (.slice none 0 0) n (ov F (W ++ wrs (t + 1) ((1 - hf) * (n / 2)) (catR (L ++ [sealR])))) (ov F (W ++ wrs (t + 1) ((1 - hf) * (n / 2)) (catR (L ++ [sealR])))) [] false ∧
        IsLg w' bl bd (1 - hf) (t + 1) (catR (L ++ [sealR])).length (smR (L ++ [sealR])) last' ∧ last'.take ((catR (L ++ [sealR])).length % 55) = (catR (L ++ [sealR])).drop ((catR (L ++ [sealR])).length - (catR (L ++ [sealR])).length % 55) ∧ Fr (fun k => Foot bd gs gn vw k ∨ k = bl) w w') := by
  have hn2 := hd.n2
  have hh1 := h.hf1
  obtain ⟨m, hm⟩ : ∃ m, m = n / 2 := ⟨_, rfl⟩
  have hm2 : 2 ≤ m ∧ m ≤ 2048 := by omega
  have hsec := fun X (hX : IsLg X bl bd hf t z s last) (hY : IsDk X B bd gs cs gn cn vw n F (ov F W) W false) => sectors_any hX hY
  rw [← hm] at hsec ⊢
  have hbl := lt_of_block h.blk
  have H0 := Lib.hid (And.intro h (And.intro hd (And.intro hm (And.intro hL (And.intro hdl hn)))))
  have HA := Lib.hid ha
  have HSEC := Lib.hid hsec
  have hc0 : (0 : Int) ≤ (L.length : Int) := by omega
  have hc1 : (L.length : Int) ≤ (cap : Int) := by omega
  have hc2 : L.length ≤ cap := hcap.1
  have mI : IntKind.i64.wrap ((m : Int) * 55) = ((55 * m : Nat) : Int) := by rw [IntWalk.i64_in _ (by omega)]; omega
  clear h hd hm hL hdl hn ha hsec
  have hCp := catR_pos L
  have hSu : U32 (smR (L ++ [sealR])) := sm_u32 U32.zero _
  obtain ⟨C, hC⟩ : ∃ C, C = catR (L ++ [sealR]) := ⟨_, rfl⟩
  obtain ⟨S, hS⟩ : ∃ S, S = smR (L ++ [sealR]) := ⟨_, rfl⟩
  rw [← hC, ← hS]
  rw [← hC] at hCp
  rw [← hS] at hSu
  have HCS := Lib.hid (And.intro hC (And.intro hS hSu))
  clear hC hS hSu
  have hfI : IntKind.i64.wrap (1 - (hf : Int)) = ((1 - hf : Nat) : Int) := by rw [IntWalk.i64_in _ (by omega)]; omega
  obtain ⟨h2, hh2⟩ : ∃ h2, h2 = 1 - hf := ⟨_, rfl⟩
  have htI : IntKind.u64.wrap ((t : Int) + 1) = ((t + 1 : Nat) : Int) := by rw [IntKind.wrap_u64]; omega
  obtain ⟨t2, ht2⟩ : ∃ t2, t2 = t + 1 := ⟨_, rfl⟩
  rw [← hh2] at hfI ⊢
  rw [← ht2] at htI ⊢
  have HH := Lib.hid (And.intro hh2 ht2)
  clear hh2 ht2
  go_enter Tryd.func35, Tryd.ntmps35
  have hsk := slice_keep a L.length cap hc2
  have hba : Below w.heap.size w (w.alloc (.cells #[.int .u8 255, .slice none 0 0] 34)) := (Below.refl _ _).alloc (Nat.le_refl _) _
  have hyc : ∀ j u, (rcv sealR)[j]? = some u → (w.alloc (.cells #[.int .u8 255, .slice none 0 0] 34)).cell? ((⟨w.heap.size, 0, none⟩ : Addr).add j) = some u := by
    intro j u hu
    have e := cell_of_block (heap_alloc_new w (.cells #[.int .u8 255, .slice none 0 0] 34)) (i := j)
    rw [add_lit, Nat.zero_add, e]
    simpa [rcv, sealR] using hu
  have HY := Lib.hid hyc
  clear hyc
  go_wp2_with (at_builtin; refine wpList_app_recs rfl _ _ rfl a L rfl (H0.out.2.2.2.1.old hba) (fun h => (HA.out h).1) ⟨w.heap.size, 0, none⟩ 1 rfl HY.out (by omega) ?_; intro a1 c1 W1 hin1 hb1)
  have hbw1 : Below w.heap.size w W1 := hba.trans (hb1.mono hba.size)
  refine (HSEC.out W1 (H0.out.1.old hbw1) (H0.out.2.1.old hbw1)).mono ?_
  rintro e W1' ⟨rfl, rfl⟩
  have hch := chain_any a1 c1 (55 * m) (L ++ [sealR]) W1 hin1 (fun x hx => by
    rcases List.mem_append.1 hx with hx | hx
    · exact H0.out.2.2.2.2.1 x hx
    · rw [List.mem_singleton.1 hx]; decide) (by simp; omega) (by omega) (H0.out.2.2.2.2.2.old hbw1)
  rw [show (L ++ [sealR]).length = L.length + 1 by simp] at hch
  rw [← HCS.out.1, ← HCS.out.2.1] at hch
  have HCH := Lib.hid hch
  have HB1 := Lib.hid hbw1
  clear hch hin1 hb1 hbw1 hba hsk
  go_wp2_with fail
  refine HCH.out.mono ?_
  rintro e W2 ⟨hb2, ⟨hroom, ao, cp, rfl, hown⟩ | ⟨hroom, rfl⟩⟩
  · have hbw2 : Below w.heap.size w W2 := HB1.out.trans (hb2.mono HB1.out.size)
    have hlg2 := H0.out.1.old hbw2
    have H2 := Lib.hid (And.intro hbw2 (And.intro hown (And.intro hlg2 (And.intro hCp (And.intro HCS.out.2.2 hroom)))))
    have hwW2 := hbw2.size
    clear hb2 hbw2 hown hCp hroom HCH
    have hmix : Tryd.prog.follows .mixedOrders = true := by kernel_rfl
    obtain ⟨Z, hZ⟩ : ∃ Z : Array Value, Z = (([.pointer none, .int .i64 0, .int .u64 0, .int .i64 0, .int .u32 0] : List Value) ++ byteCells (List.replicate 55 0)).toArray := ⟨_, rfl⟩
    have hz0 := zero_log
    rw [← hZ] at hz0
    have hzs : Z.size = 60 := by rw [hZ]; decide
    have z1 : (Z = #[]) = False := by rw [hZ]; simp
    obtain ⟨Y, hY⟩ : ∃ Y, Y = (lgc bd h2 t2 0 0 (List.replicate 55 0)).toArray := ⟨_, rfl⟩
    have z2 : ((Z.setIfInBounds 0 (.pointer (some ⟨bd, 0, none⟩))).setIfInBounds 1 (.int .i64 (h2 : Nat))).setIfInBounds 2 (.int .u64 (t2 : Nat)) = Y := by rw [hZ, hY]; simp [lgc]
    have hYs : Y.size = 60 := by rw [hY]; simp [lgc, byteCells]
    have hY1 : ∀ v ∈ Y.toList, v.oneCell' = true := by
      rw [hY]; intro v hv; simp [lgc, byteCells] at hv; rcases hv with rfl | rfl | rfl | rfl | rfl | rfl <;> rfl
    have HZ := Lib.hid (And.intro hZ (And.intro hY hY1))
    clear hZ hY hY1
    go_wp2_with fail
    refine begin' 16 (fun Y => IsLg Y bl bd hf t z s last) hmix (hlg2.same rfl) (fun hS0 => ?_)
    refine Ht.takeD 6 (i := 0) ⟨some 31, _, _, _, _, _⟩ (.pointer (some ⟨bl, 0, none⟩)) rfl (by kernel_rfl) (by kernel_rfl) (by decide) (by kernel_rfl) (by kernel_rfl) (by kernel_rfl) hS0 (Or.inl ⟨by rfl, by (intro X hX; go_simp)⟩) ?_
    simp only [Act.put, List.setIfInBounds_toArray, List.set_cons_zero, List.set_cons_succ]
    refine Ht.takeD 6 (i := 1) ⟨some 32, _, _, _, _, _⟩ (.pointer (some ⟨bl, 0, none⟩)) rfl (by kernel_rfl) (by kernel_rfl) (by decide) (by kernel_rfl) (by kernel_rfl) (by kernel_rfl) hS0 (Or.inl ⟨by rfl, by (intro X hX; go_simp)⟩) ?_
    simp only [Act.put, List.setIfInBounds_toArray, List.set_cons_zero, List.set_cons_succ]
    refine Ht.takeD 6 (i := 2) ⟨some 33, _, _, _, _, _⟩ (.pointer (some ⟨bl, 0, none⟩)) rfl (by kernel_rfl) (by kernel_rfl) (by decide) (by kernel_rfl) (by kernel_rfl) (by kernel_rfl) hS0 (Or.inl ⟨by rfl, by (intro X hX; go_simp)⟩) ?_
    simp only [Act.put, List.setIfInBounds_toArray, List.set_cons_zero, List.set_cons_succ]
    refine Ht.takeD 6 (i := 3) ⟨some 34, _, _, _, _, _⟩ (.pointer (some ⟨bd, 0, none⟩)) rfl (by kernel_rfl) (by kernel_rfl) (by decide) (by kernel_rfl) (by kernel_rfl) (by kernel_rfl) hS0 (Or.inl ⟨by rfl, by (intro X hX; have := hX.cells.1; go_simp)⟩) ?_
    simp only [Act.put, List.setIfInBounds_toArray, List.set_cons_zero, List.set_cons_succ]
    refine Ht.takeD 6 (i := 4) ⟨some 35, _, _, _, _, _⟩ (.pointer (some ⟨bl, 0, none⟩)) rfl (by kernel_rfl) (by kernel_rfl) (by decide) (by kernel_rfl) (by kernel_rfl) (by kernel_rfl) hS0 (Or.inl ⟨by rfl, by (intro X hX; go_simp)⟩) ?_
    simp only [Act.put, List.setIfInBounds_toArray, List.set_cons_zero, List.set_cons_succ]
    refine Ht.takeD 6 (i := 5) ⟨some 36, _, _, _, _, _⟩ (.pointer (some ⟨bl, 0, none⟩)) rfl (by kernel_rfl) (by kernel_rfl) (by decide) (by kernel_rfl) (by kernel_rfl) (by kernel_rfl) hS0 (Or.inl ⟨by rfl, by (intro X hX; go_simp)⟩) ?_
    simp only [Act.put, List.setIfInBounds_toArray, List.set_cons_zero, List.set_cons_succ]
    refine Ht.takeD 6 (i := 6) ⟨some 37, _, _, _, _, _⟩ (.pointer (some ⟨bl, 1, none⟩)) rfl (by kernel_rfl) (by kernel_rfl) (by decide) (by kernel_rfl) (by kernel_rfl) (by kernel_rfl) hS0 (Or.inl ⟨by rfl, by (intro X hX; go_simp)⟩) ?_
    simp only [Act.put, List.setIfInBounds_toArray, List.set_cons_zero, List.set_cons_succ]
    refine Ht.takeD 6 (i := 7) ⟨some 38, _, _, _, _, _⟩ (.int .i64 (hf : Nat)) rfl (by kernel_rfl) (by kernel_rfl) (by decide) (by kernel_rfl) (by kernel_rfl) (by kernel_rfl) hS0 (Or.inl ⟨by rfl, by (intro X hX; have := hX.cells.2.1; go_simp)⟩) ?_
    simp only [Act.put, List.setIfInBounds_toArray, List.set_cons_zero, List.set_cons_succ]
    refine Ht.takeD 6 (i := 8) ⟨some 39, _, _, _, _, _⟩ (.int .i64 (h2 : Nat)) rfl (by kernel_rfl) (by kernel_rfl) (by decide) (by kernel_rfl) (by kernel_rfl) (by kernel_rfl) hS0 (Or.inl ⟨by rfl, by (intro X hX; go_simp)⟩) ?_
    simp only [Act.put, List.setIfInBounds_toArray, List.set_cons_zero, List.set_cons_succ]
    refine Ht.takeD 6 (i := 9) ⟨some 40, _, _, _, _, _⟩ (.pointer (some ⟨bl, 0, none⟩)) rfl (by kernel_rfl) (by kernel_rfl) (by decide) (by kernel_rfl) (by kernel_rfl) (by kernel_rfl) hS0 (Or.inl ⟨by rfl, by (intro X hX; go_simp)⟩) ?_
    simp only [Act.put, List.setIfInBounds_toArray, List.set_cons_zero, List.set_cons_succ]
    refine Ht.takeD 6 (i := 10) ⟨some 41, _, _, _, _, _⟩ (.pointer (some ⟨bl, 0, none⟩)) rfl (by kernel_rfl) (by kernel_rfl) (by decide) (by kernel_rfl) (by kernel_rfl) (by kernel_rfl) hS0 (Or.inl ⟨by rfl, by (intro X hX; go_simp)⟩) ?_
    simp only [Act.put, List.setIfInBounds_toArray, List.set_cons_zero, List.set_cons_succ]
    refine Ht.takeD 6 (i := 11) ⟨some 42, _, _, _, _, _⟩ (.pointer (some ⟨bl, 2, none⟩)) rfl (by kernel_rfl) (by kernel_rfl) (by decide) (by kernel_rfl) (by kernel_rfl) (by kernel_rfl) hS0 (Or.inl ⟨by rfl, by (intro X hX; go_simp)⟩) ?_
    simp only [Act.put, List.setIfInBounds_toArray, List.set_cons_zero, List.set_cons_succ]
    refine Ht.takeD 6 (i := 12) ⟨some 43, _, _, _, _, _⟩ (.int .u64 (t : Nat)) rfl (by kernel_rfl) (by kernel_rfl) (by decide) (by kernel_rfl) (by kernel_rfl) (by kernel_rfl) hS0 (Or.inl ⟨by rfl, by (intro X hX; have := hX.cells.2.2.1; go_simp)⟩) ?_
    simp only [Act.put, List.setIfInBounds_toArray, List.set_cons_zero, List.set_cons_succ]
    refine Ht.takeD 6 (i := 13) ⟨some 44, _, _, _, _, _⟩ (.int .u64 (t2 : Nat)) rfl (by kernel_rfl) (by kernel_rfl) (by decide) (by kernel_rfl) (by kernel_rfl) (by kernel_rfl) hS0 (Or.inl ⟨by rfl, by (intro X hX; go_simp)⟩) ?_
    simp only [Act.put, List.setIfInBounds_toArray, List.set_cons_zero, List.set_cons_succ]
    refine Ht.takeD 6 (i := 14) ⟨some 45, _, _, _, _, _⟩ (.agg Y) rfl (by kernel_rfl) (by kernel_rfl) (by decide) (by kernel_rfl) (by kernel_rfl) (by kernel_rfl) hS0 (Or.inl ⟨by rfl, by (intro X hX; go_simp)⟩) ?_
    simp only [Act.put, List.setIfInBounds_toArray, List.set_cons_zero, List.set_cons_succ]
    refine Ht.step (i := 15) ⟨some 8, _, _, _, _, _⟩ rfl (by kernel_rfl) (by rfl) (fun K hK => ?_)
    go_simp
    have hb3 : Below W2.heap.size W2 (W2.alloc (.cells Z 73)).drew := ((Below.refl _ W2).alloc (Nat.le_refl _) _).drew
    have x3 : (W2.alloc (.cells Z 73)).drew.heap[W2.heap.size]? = some (.cells Z 73 (0, 0)) := heap_alloc_new W2 _
    obtain ⟨W3, hW3⟩ : ∃ W3, W3 = (W2.alloc (.cells Z 73)).drew := ⟨_, rfl⟩
    rw [← hW3] at hb3 x3 ⊢
    clear hW3
    have hS3 : IsLg W3 bl bd hf t z s last := hlg2.old hb3
    obtain ⟨q, hq⟩ : ∃ q, q = W2.heap.size := ⟨_, rfl⟩
    rw [← hq] at hb3 x3 ⊢
    refine hK _ _ (fun _ => hS3) (fun _ => ?_)
    clear hK K
    try simp only [Act.put, List.setIfInBounds_toArray, List.set_cons_zero, List.set_cons_succ]
    have hsc : (storeCells ⟨q, 0, none⟩ Y.toList).run Tryd.prog W3 = .ok () (W3.setRow q Y) := by
      have := run_storeCells_from (P := Tryd.prog) q 73 Y.toList 0 Z W3 x3 (by rw [Array.length_toList]; omega) HZ.out.2.2
      simpa using this
    have x4 := setRow_heap W3 q _ Y 73 (0, 0) x3
    have hb4 : Below q W2 (W3.setRow q Y) := below_setRow hb3 (Nat.le_refl _) _
    have HQ := Lib.hid (And.intro hq (And.intro x4 hb4))
    clear hq x4 hb4 hb3
    refine Ht.step (i := 16) ⟨none, _, _, _, _, _⟩ rfl (by kernel_rfl) (by rfl) (fun K hK => ?_)
    go_simp
    refine hK _ _ (fun h => absurd rfl h) (fun _ => ?_)
    clear hK K hsc x3
    refine done (by kernel_rfl) ?_
    obtain ⟨W4, hW4⟩ : ∃ W4, W4 = W3.setRow q Y := ⟨_, rfl⟩
    rw [← hW4]
    have hl4 : IsLg W4 q bd h2 t2 0 0 (List.replicate 55 0) := ⟨by rw [hW4, HQ.out.2.1, HZ.out.2.1], by simp, by rw [HH.out.1]; omega, by rw [HH.out.2]; unfold U64; omega, U32.zero⟩
    have hqw : w.heap.size ≤ q := by rw [HQ.out.1]; exact hwW2
    have hb24 : Below W2.heap.size W2 W4 := by rw [hW4, ← HQ.out.1]; exact HQ.out.2.2
    have hbw4 : Below w.heap.size w W4 := H2.out.1.trans (hb24.mono hwW2)
    have hd4 := H0.out.2.1.old hbw4
    have hib4 := (isB_of_own' H2.out.2.1).old hb24
    have hwr := write_log hl4 hd4 hn4 ao C.length cp C hib4 H2.out.2.2.2.1 (by rw [← H0.out.2.2.1]; have := H2.out.2.2.2.2.2; omega) S H2.out.2.2.2.2.1 hW
    simp only [Nat.zero_mod, Nat.zero_div, Nat.add_zero, Nat.zero_add, List.take_zero, List.nil_append] at hwr
    rw [← H0.out.2.2.1] at hwr
    have l4 := H0.out.1.old hbw4
    have HWR := Lib.hid hwr
    have H4 := Lib.hid (And.intro hbw4 (And.intro l4 (And.intro hqw hl4)))
    clear hwr hbw4 l4 hqw hl4 hb24 hd4 hib4 hW4 hlg2 hS3 hS0
    go_wp2_with fail
    refine HWR.out.mono ?_
    rintro e W5 ⟨rfl, vw5, last5, hd5, hl5, hla5, hv5, hf5⟩
    obtain ⟨W', hW'⟩ : ∃ W', W' = W ++ wrs t2 (h2 * m) C := ⟨_, rfl⟩
    rw [← hW'] at hd5
    have hWl' : W'.length ≤ 1000000 := by rw [hW', List.length_append, wrs_len]; have := H2.out.2.2.2.2.2; omega
    have hsy := wsync_any hl5 hd5 hWl'
    have hFl : F.length = 64 * n := by have := hd5.os.1; simp only [byteCells, List.length_map] at this; omega
    rw [sync_ov hFl hd5.okW] at hsy
    have HSY := Lib.hid hsy
    have H5 := Lib.hid (And.intro hW' (And.intro hd5 (And.intro hl5 (And.intro hla5 (And.intro hv5 hf5)))))
    clear hsy hW' hd5 hl5 hla5 hv5 hf5 hWl' hFl HWR
    go_wp2_with fail
    refine HSY.out.mono ?_
    rintro e W6 ⟨rfl, hd6, hf6⟩
    have hl6 := H5.out.2.2.1.fr H5.out.2.1 hf6
    have H6 := Lib.hid (And.intro hd6 (And.intro hf6 hl6))
    clear hd6 hf6 hl6 HSY
    have hbq : bl ≠ q := by have := H4.out.2.2.1; omega
    have hd4 := H0.out.2.1.old H4.out.1
    have l5 : IsLg W5 bl bd hf t z s last := H4.out.2.1.same (H5.out.2.2.2.2.2.block bl (lt_of_block H4.out.2.1.blk) (by
      rintro (h | h)
      · exact H4.out.2.1.apart hd4 h
      · exact hbq h))
    have l6 : IsLg W6 bl bd hf t z s last := l5.fr H5.out.2.1 H6.out.2.1
    obtain ⟨Y6, hY6⟩ : ∃ Y6, Y6 = (lgc bd h2 t2 C.length S last5).toArray := ⟨_, rfl⟩
    have hYl : Y6.toList.length = 60 := by rw [hY6]; exact lgc_len H6.out.2.2.len
    have hrg : W6.rangeAt q 0 Y6.toList := by
      intro j v hv
      rw [Nat.zero_add, cell_of_block H6.out.2.2.blk, ← hY6]
      simpa using hv
    have hY6s : Y6.size = 60 := by simpa using hYl
    have hsc : (storeCells ⟨bl, 0, none⟩ Y6.toList).run Tryd.prog W6 = .ok () (W6.setRow bl Y6) := by
      have := run_storeCells_from (P := Tryd.prog) bl 73 Y6.toList 0 _ W6 l6.blk (by simp only [List.size_toArray]; rw [lgc_len l6.len]; omega) (by rw [hY6]; exact lgc_one _ _ _ _ _ _)
      have h60 : (lgc bd hf t z s last).length = 60 := lgc_len l6.len
      simpa [hY6s, h60] using this
    have x7 := setRow_heap W6 bl _ Y6 73 (0, 0) l6.blk
    have HRG := Lib.hid (And.intro hrg (size_log hYl))
    have H7 := Lib.hid (And.intro x7 (And.intro hY6 (And.intro l6 hd4)))
    clear hrg hYl x7 hY6 l6 l5 hd4
    go_wp2_with (refine wpList_load_mid rfl 73 _ rfl q 0 rfl Y6.toList _ HRG.out.1 Tryd.underlying73 rfl HRG.out.2 ?_)
    go_ret
    have f4 : Fr (fun k => Foot bd gs gn vw k ∨ k = bl) w W4 := Fr.of H4.out.1
    have f5 : Fr (fun k => Foot bd gs gn vw k ∨ k = bl) w W5 := fr_on f4 H5.out.2.2.2.2.2 (fun i hi h => by
      rcases h with h | h
      · exact .inl h
      · have := H4.out.2.2.1; omega)
    have f6 : Fr (fun k => Foot bd gs gn vw k ∨ k = bl) w W6 := fr_on f5 H6.out.2.1 (fun i hi h => by
      rcases h with h | h | h | h
      · exact .inl (.inl h)
      · exact .inl (.inr (.inl h))
      · exact .inl (.inr (.inr (.inl h)))
      · rcases H5.out.2.2.2.2.1 with hv | ⟨g, hv, hg⟩
        · exact .inl (.inr (.inr (.inr (h.trans hv))))
        · rw [hv] at h
          obtain rfl := Option.some.inj h
          have := H4.out.1.size
          omega)
    have hap := H7.out.2.2.1.apart H6.out.1
    refine .inr ⟨H2.out.2.2.2.2.2, rfl, last5, ?_, ⟨by rw [H7.out.1, H7.out.2.1], H6.out.2.2.len, H6.out.2.2.hf1, H6.out.2.2.ut, H6.out.2.2.us⟩, H5.out.2.2.2.1, Fr.setRow f6 (.inr rfl) _⟩
    rw [← H5.out.1]
    exact H6.out.1.other (fun k _ hk => setRow_other W6 bl k Y6 (fun e => hap (e ▸ hk)))
  · go_wp2_with fail
    go_ret
    exact .inl ⟨hroom, rfl, HB1.out.trans (hb2.mono HB1.out.size)⟩
end Go.Proofs.YtjblkmjdepdekaaDoor.Wl

/- logs: whether there is a seal; Rewrite; Append -/
namespace Go.Proofs.YtjblkmjdepdekaaDoor.Wl
open Go.RowKit Go.Lib Go.Joins Go.Proofs.YtjblkmjdepdekaaDoor.By Go.Proofs.YtjblkmjdepdekaaDoor.Dk Go.Proofs.YtjblkmjdepdekaaDoor.Oc Go.Proofs.YtjblkmjdepdekaaDoor.Rg Go.Proofs.YtjblkmjdepdekaaDoor.Ht Go.Proofs.YtjblkmjdepdekaaDoor.Cr Go.Proofs.YtjblkmjdepdekaaDoor.Fm
attribute [local go_sem] Oper.semAt_some

set_option maxRecDepth 20000 in
set_option maxHeartbeats 4000000 in
theorem index_none (a : Option Addr) (cap : Nat) (L : List Rv) (w : World) (hL : InRs w a L) (hk : ∀ x ∈ L, x.k ≠ 255) (hl : L.length ≤ 300000) :
    Calls Tryd.prog 53 #[.slice a L.length cap, .func (.func 31) #[] #[]] w fun e w' => e = .returned (.int .i64 (-1)) ∧ Below w.heap.size w w' := by
  have HI := Lib.hid (And.intro hL hk)
  clear hL hk
  go_enter Tryd.func53, Tryd.ntmps53
  go_wp2_with fail
  go_loopw [8] (fun kv wr => ∃ (k : Nat), k ≤ L.length ∧ kv = .int .i64 k ∧ Below w.heap.size w wr) (fun kv _ => L.length - (intOf kv).toNat)
  case atStart => exact ⟨0, Nat.zero_le _, rfl, Below.refl _ _⟩
  case round =>
    obtain ⟨k, hk, rfl, hb⟩ := hrel
    by_cases hlt : k < L.length
    · obtain ⟨x, hx⟩ : ∃ x, x = L[k] := ⟨_, rfl⟩
      obtain ⟨g, o, rfl, hrec⟩ : ∃ g o, a = some ⟨g, o, none⟩ ∧ RecIn wr g o k x := by
        rcases HI.out.1.old hb with h | ⟨g, o, e, h⟩
        · rw [h] at hlt; exact absurd hlt (Nat.not_lt_zero k)
        · exact ⟨g, o, e, by rw [hx]; exact h k hlt⟩
      have hxk : x.k ≠ 255 := HI.out.2 x (by rw [hx]; exact List.getElem_mem hlt)
      obtain ⟨c0, c1, hib⟩ := hrec
      have hse := seals_any x.k (.slice x.a x.d.length x.c) wr
      rw [show decide (x.k = 255) = false by simp [hxk]] at hse
      have HSE := Lib.hid hse
      have HB := Lib.hid hb
      have hkc : (k : Int) < (L.length : Int) := by omega
      clear hib hse hx hxk hb
      go_wp2_with fail
      refine HSE.out.mono ?_
      rintro e W1 ⟨rfl, hb1⟩
      go_wp2_with fail
      go_roundw
      case rel => exact ⟨k + 1, by omega, by go_num, HB.out.trans (hb1.mono HB.out.size)⟩
      case measure => simp [intOf]; omega
    · obtain rfl : k = L.length := by omega
      go_wp2_with fail
      go_ret
      exact ⟨rfl, hb⟩
theorem contains_none (a : Option Addr) (cap : Nat) (L : List Rv) (w : World) (hL : InRs w a L) (hk : ∀ x ∈ L, x.k ≠ 255) (hl : L.length ≤ 300000) :
    Calls Tryd.prog 34 #[.slice a L.length cap, .func (.func 31) #[] #[]] w fun e w' => e = .returned (.bool false) ∧ Below w.heap.size w w' := by
  have h := Lib.hid (index_none a cap L w hL hk hl)
  clear hL hk
  go_enter Tryd.func34, Tryd.ntmps34
  go_wp2_with fail
  refine h.out.mono ?_
  rintro e W1 ⟨rfl, hb1⟩
  go_wp2_with fail
  go_ret
  exact ⟨rfl, hb1⟩
theorem rewrite_nil (v : Value) (w : World) : Calls Tryd.prog 14 #[.pointer none, v] w fun e w' => e = .returned (.int .i64 1) ∧ w = w' := by
  go_enter Tryd.func14, Tryd.ntmps14
  go_wp2_with fail
  go_ret
  exact ⟨rfl, rfl⟩
theorem Rewrite_log {w : World} {bl bd hf t z s : Nat} {last : List UInt8} {B gs cs gn cn n : Nat} {vw : Value} {F : List UInt8} {W : List Wr} (h : IsLg w bl bd hf t z s last) (hd : IsDk w B bd gs cs gn cn vw n F (ov F W) W false) (hn4 : 4 ≤ n) (ht : t + 1 < 9223372036854775809)
    (a : Option Addr) (cap : Nat) (L : List Rv) (hL : InRs w a L) (ha : a = none → L = [] ∧ cap = 0) (hcap : L.length ≤ cap ∧ cap ≤ 9223372036854775807) (hdl : ∀ x ∈ L, x.d.length ≤ 1024) (hl : L.length ≤ 290000) (hW : W.length ≤ 900000) (hn : Nibs w) (hk : ∀ x ∈ L, x.k ≠ 255) :
    Calls Tryd.prog 14 #[.pointer (some ⟨bl, 0, none⟩), .slice a L.length cap] w fun e w' =>
      (55 * (n / 2) < (catR (L ++ [sealR])).length ∧ e = .returned (.int .i64 6) ∧ Below w.heap.size w w') ∨
      ((catR (L ++ [sealR])).length ≤ 55 * (n / 2) ∧ e = .returned (.int .i64 0) ∧ ∃ last', IsDk w' B bd gs cs gn cn (.slice none 0 0) n (ov F (W ++ wrs (t + 1) ((1 - hf) * (n / 2)) (catR (L ++ [sealR])))) (ov F (W ++ wrs (t + 1) ((1 - hf) * (n / 2)) (catR (L ++ [sealR])))) [] false ∧
        IsLg w' bl bd (1 - hf) (t + 1) (catR (L ++ [sealR])).length (smR (L ++ [sealR])) last' ∧ last'.take ((catR (L ++ [sealR])).length % 55) = (catR (L ++ [sealR])).drop ((catR (L ++ [sealR])).length - (catR (L ++ [sealR])).length % 55) ∧ Fr (fun k => Foot bd gs gn vw k ∨ k = bl) w w') := by
  have h1 := Lib.hid (contains_none a cap L w hL hk (by omega))
  have H := Lib.hid (And.intro h (And.intro hd (And.intro hL (And.intro ha (And.intro hcap (And.intro hdl hn))))))
  have hbl := lt_of_block h.blk
  obtain ⟨C, hC⟩ : ∃ C, C = catR (L ++ [sealR]) := ⟨_, rfl⟩
  obtain ⟨S, hS⟩ : ∃ S, S = smR (L ++ [sealR]) := ⟨_, rfl⟩
  obtain ⟨m, hm⟩ : ∃ m, m = n / 2 := ⟨_, rfl⟩
  rw [← hC, ← hS, ← hm]
  have HC := Lib.hid (And.intro hC (And.intro hS hm))
  clear h hd hL ha hcap hdl hn hk hC hS hm
  go_enter Tryd.func14, Tryd.ntmps14
  go_wp2_with fail
  refine h1.out.mono ?_
  rintro e W1 ⟨rfl, hb1⟩
  have hrw := rewrite_log (H.out.1.old hb1) (H.out.2.1.old hb1) hn4 ht a cap L (H.out.2.2.1.old hb1) H.out.2.2.2.1 H.out.2.2.2.2.1 H.out.2.2.2.2.2.1 hl hW (H.out.2.2.2.2.2.2.old hb1)
  rw [← HC.out.1, ← HC.out.2.1, ← HC.out.2.2] at hrw
  have HRW := Lib.hid hrw
  have HB := Lib.hid hb1
  clear hrw hb1
  go_wp2_with fail
  refine HRW.out.mono ?_
  rintro e W2 (⟨h2, rfl, hb2⟩ | ⟨h2, rfl, last', h3, h4, h5, h6⟩)
  · go_wp2_with fail
    go_ret
    exact .inl ⟨h2, rfl, HB.out.trans (hb2.mono HB.out.size)⟩
  · have HF := Lib.hid (And.intro h3 (And.intro h4 (And.intro h5 h6)))
    clear h3 h4 h5 h6
    go_wp2_with fail
    go_ret
    exact .inr ⟨h2, rfl, last', HF.out.1, HF.out.2.1, HF.out.2.2.1, (Fr.of HB.out).trans (HF.out.2.2.2)⟩
end Go.Proofs.YtjblkmjdepdekaaDoor.Wl

/- logs: made, Format, Open -/
namespace Go.Proofs.YtjblkmjdepdekaaDoor.Wl
open Go.RowKit Go.Lib Go.Joins Go.Proofs.YtjblkmjdepdekaaDoor.By Go.Proofs.YtjblkmjdepdekaaDoor.Dk Go.Proofs.YtjblkmjdepdekaaDoor.Oc Go.Proofs.YtjblkmjdepdekaaDoor.Rg Go.Proofs.YtjblkmjdepdekaaDoor.Ht Go.Proofs.YtjblkmjdepdekaaDoor.Cr Go.Proofs.YtjblkmjdepdekaaDoor.Fm
attribute [local go_sem] Oper.semAt_some

/-- the disk behind a rewriting -/
def rwD (n : Nat) (F : List UInt8) (W : List Wr) (hf t : Nat) (L : List Rv) : List UInt8 := ov F (W ++ wrs t (hf * (n / 2)) (catR (L ++ [sealR])))
/-- a log that was just rewritten -/
def Made (w : World) (bl bd hf t n : Nat) (L : List Rv) : Prop := ∃ last, IsLg w bl bd hf t (catR (L ++ [sealR])).length (smR (L ++ [sealR])) last ∧ last.take ((catR (L ++ [sealR])).length % 55) = (catR (L ++ [sealR])).drop ((catR (L ++ [sealR])).length - (catR (L ++ [sealR])).length % 55) ∧ (catR (L ++ [sealR])).length ≤ 55 * (n / 2)
set_option maxRecDepth 20000 in
set_option maxHeartbeats 4000000 in
theorem made_any {w : World} {bd hf t : Nat} {B gs cs gn cn n : Nat} {vw : Value} {F : List UInt8} {W : List Wr} (hd : IsDk w B bd gs cs gn cn vw n F (ov F W) W false) (hn4 : 4 ≤ n) (hf1 : hf ≤ 1) (ht : t < 9223372036854775808)
    (a : Option Addr) (cap : Nat) (L : List Rv) (hL : InRs w a L) (ha : a = none → L = [] ∧ cap = 0) (hcap : L.length ≤ cap ∧ cap ≤ 9223372036854775807) (hdl : ∀ x ∈ L, x.d.length ≤ 1024) (hl : L.length ≤ 290000) (hW : W.length ≤ 900000) (hn : Nibs w) :
    Calls Tryd.prog 29 #[.pointer (some ⟨bd, 0, none⟩), .int .i64 (hf : Nat), .int .u64 (t : Nat), .slice a L.length cap] w fun e w' =>
      (55 * (n / 2) < (catR (L ++ [sealR])).length ∧ e = .returned (.tuple #[.pointer none, .int .i64 6]) ∧ Below w.heap.size w w') ∨
      (∃ bl, w.heap.size ≤ bl ∧ e = .returned (.tuple #[.pointer (some ⟨bl, 0, none⟩), .int .i64 0]) ∧ IsDk w' B bd gs cs gn cn (.slice none 0 0) n (rwD n F W (1 - hf) (t + 1) L) (rwD n F W (1 - hf) (t + 1) L) [] false ∧ Made w' bl bd (1 - hf) (t + 1) n L ∧ Fr (Foot bd gs gn vw) w w') := by
  obtain ⟨Z, hZ⟩ : ∃ Z : Array Value, Z = (([.pointer none, .int .i64 0, .int .u64 0, .int .i64 0, .int .u32 0] : List Value) ++ byteCells (List.replicate 55 0)).toArray := ⟨_, rfl⟩
  have hz0 := zero_log
  rw [← hZ] at hz0
  have hzs : Z.size = 60 := by rw [hZ]; decide
  have z1 : (Z = #[]) = False := by rw [hZ]; simp
  obtain ⟨Y, hY⟩ : ∃ Y, Y = (lgc bd hf t 0 0 (List.replicate 55 0)).toArray := ⟨_, rfl⟩
  have z2 : ((Z.setIfInBounds 0 (.pointer (some ⟨bd, 0, none⟩))).setIfInBounds 1 (.int .i64 (hf : Nat))).setIfInBounds 2 (.int .u64 (t : Nat)) = Y := by rw [hZ, hY]; simp [lgc]
  have hYs : Y.size = 60 := by rw [hY]; simp [lgc, byteCells]
  have hba : Below w.heap.size w (w.alloc (.cells Y 73)) := (Below.refl _ _).alloc (Nat.le_refl _) _
  have hlg : IsLg (w.alloc (.cells Y 73)) w.heap.size bd hf t 0 0 (List.replicate 55 0) := ⟨by rw [← hY]; exact heap_alloc_new w _, by simp, hf1, by unfold U64; omega, U32.zero⟩
  have hrw := rewrite_log hlg (hd.old hba) hn4 (by omega) a cap L (hL.old hba) ha hcap hdl hl hW (hn.old hba)
  have HRW := Lib.hid hrw
  have HB := Lib.hid hba
  have htI : ¬ (t : Int) ≥ 9223372036854775808 := by omega
  have hd2 : ∀ k, Foot bd gs gn vw k → k < w.heap.size := fun k hk => hd.foot_lt k hk
  have HD2 := Lib.hid hd2
  obtain ⟨m, hm⟩ : ∃ m, m = n / 2 := ⟨_, rfl⟩
  obtain ⟨C, hC⟩ : ∃ C, C = catR (L ++ [sealR]) := ⟨_, rfl⟩
  clear hd hL ha hdl hn hZ hY hlg hrw hba hd2
  go_enter Tryd.func29, Tryd.ntmps29
  go_wp2_with fail
  refine HRW.out.mono ?_
  rintro e W1 (⟨h2, rfl, hb2⟩ | ⟨h2, rfl, last', h3, h4, h5, h6⟩)
  · go_wp2_with fail
    go_ret2
    exact .inl ⟨h2, rfl, HB.out.trans (hb2.mono HB.out.size)⟩
  · have HF := Lib.hid (And.intro h2 (And.intro h3 (And.intro h4 (And.intro h5 h6))))
    clear h2 h3 h4 h5 h6
    go_wp2_with fail
    go_ret2
    exact .inr ⟨_, Nat.le_refl _, rfl, HF.out.2.1, ⟨last', HF.out.2.2.1, HF.out.2.2.2.1, HF.out.1⟩, fr_on (Fr.of HB.out) HF.out.2.2.2.2 (fun i hi h => by
      rcases h with h | h
      · exact h
      · omega)⟩
end Go.Proofs.YtjblkmjdepdekaaDoor.Wl

/- logs: Format, Open -/
namespace Go.Proofs.YtjblkmjdepdekaaDoor.Wl
open Go.RowKit Go.Lib Go.Joins Go.Proofs.YtjblkmjdepdekaaDoor.By Go.Proofs.YtjblkmjdepdekaaDoor.Dk Go.Proofs.YtjblkmjdepdekaaDoor.Oc Go.Proofs.YtjblkmjdepdekaaDoor.Rg Go.Proofs.YtjblkmjdepdekaaDoor.Ht Go.Proofs.YtjblkmjdepdekaaDoor.Cr Go.Proofs.YtjblkmjdepdekaaDoor.Fm
attribute [local go_sem] Oper.semAt_some

theorem Tells.len_le {b : List UInt8} {L M : List Rc} (h : Tells b L) (k : Tells b M) : M.length ≤ L.length := by
  rcases Nat.lt_or_ge L.length M.length with hlt | hge
  · exact absurd (k.1 _ hlt).1 h.2
  · exact hge
theorem Tells.uniq {b : List UInt8} {L M : List Rc} (h : Tells b L) (k : Tells b M) : L = M :=
  List.ext_getElem (Nat.le_antisymm (k.len_le h) (h.len_le k)) fun i h1 h2 => (h.1 i h1).2.symm.trans (k.1 i h2).2
theorem Cur.uniq {b : List UInt8} {h : Nat} {x y : Nat × Bool × List Rc} (hx : Cur b h x) (hy : Cur b h y) : x = y := by
  obtain ⟨L1, L2, a1, a2, rfl⟩ := hx
  obtain ⟨M1, M2, b1, b2, rfl⟩ := hy
  rw [a1.uniq b1, a2.uniq b2]
theorem format_nil (w : World) : Calls Tryd.prog 10 #[.pointer none] w fun e w' => e = .returned (.tuple #[.pointer none, .int .i64 1]) ∧ w = w' := by
  have h := whole_nil w
  go_enter Tryd.func10, Tryd.ntmps10
  go_wp2_with (go_at_call 28; (with_reducible refine h.mono ?_); rintro e w' ⟨rfl, rfl⟩)
  go_ret2
  exact ⟨rfl, rfl⟩
section
variable {w : World} {B bd gs cs gn cn n : Nat} {vw : Value} {F G : List UInt8} {W : List Wr}
theorem format_small {dn : Bool} (h : IsDk w B bd gs cs gn cn vw n F G W dn) (hn : n < 4) : Calls Tryd.prog 10 #[.pointer (some ⟨bd, 0, none⟩)] w fun e w' => e = .returned (.tuple #[.pointer none, .int .i64 1]) ∧ w = w' := by
  have h1 := whole_small h hn
  clear h
  go_enter Tryd.func10, Tryd.ntmps10
  go_wp2_with (go_at_call 28; (with_reducible refine h1.mono ?_); rintro e w' ⟨rfl, rfl⟩)
  go_ret2
  exact ⟨rfl, rfl⟩
theorem format_down (h : IsDk w B bd gs cs gn cn vw n F G W true) (hn : 4 ≤ n) : Calls Tryd.prog 10 #[.pointer (some ⟨bd, 0, none⟩)] w fun e w' => e = .returned (.tuple #[.pointer none, .int .i64 19]) ∧ w = w' := by
  have h1 := whole_down h hn
  clear h
  go_enter Tryd.func10, Tryd.ntmps10
  go_wp2_with (go_at_call 28; (with_reducible refine h1.mono ?_); rintro e w' ⟨rfl, rfl⟩)
  go_ret2
  exact ⟨rfl, rfl⟩
theorem open_small {dn : Bool} (h : IsDk w B bd gs cs gn cn vw n F G W dn) (hn : n < 4) : Calls Tryd.prog 19 #[.pointer (some ⟨bd, 0, none⟩)] w fun e w' => e = .returned (.tuple #[.pointer none, .slice none 0 0, .int .i64 1]) ∧ w = w' := by
  have h1 := whole_small h hn
  clear h
  go_enter Tryd.func19, Tryd.ntmps19
  go_wp2_with (go_at_call 28; (with_reducible refine h1.mono ?_); rintro e w' ⟨rfl, rfl⟩)
  go_ret3
  exact ⟨rfl, rfl⟩
theorem seal_len : (catR ([] ++ [sealR])).length = 7 := by
  rw [catR_seal, List.length_append, fb_len]; decide +kernel
set_option maxRecDepth 20000 in
set_option maxHeartbeats 4000000 in
theorem format_ok (hd : IsDk w B bd gs cs gn cn vw n F (ov F W) W false) (hn4 : 4 ≤ n) (ht : lat (ov F W) n < 9223372036854775808) (hW : W.length ≤ 900000) (hn : Nibs w) :
    Calls Tryd.prog 10 #[.pointer (some ⟨bd, 0, none⟩)] w fun e w' => ∃ bl, w.heap.size ≤ bl ∧ e = .returned (.tuple #[.pointer (some ⟨bl, 0, none⟩), .int .i64 0]) ∧
      IsDk w' B bd gs cs gn cn (.slice none 0 0) n (rwD n F W 0 (lat (ov F W) n + 1) []) (rwD n F W 0 (lat (ov F W) n + 1) []) [] false ∧ Made w' bl bd 0 (lat (ov F W) n + 1) n [] ∧ Fr (Foot bd gs gn vw) w w' := by
  have h1 := Lib.hid (whole_ok hd hn4)
  have H := Lib.hid (And.intro hd hn)
  have hn2 := hd.n2
  clear hd hn
  go_enter Tryd.func10, Tryd.ntmps10
  go_wp2_with fail
  refine h1.out.mono ?_
  rintro e W1 ⟨g, cp, rfl, hib, hb1⟩
  have h2 := Lib.hid (latest_any g 0 cp n _ W1 hib ⟨by omega, hn2⟩)
  have HB := Lib.hid hb1
  clear hib hb1
  go_wp2_with fail
  refine h2.out.mono ?_
  rintro e W2 ⟨rfl, hb2⟩
  have hb12 : Below w.heap.size w W2 := HB.out.trans (hb2.mono HB.out.size)
  have hmd := made_any (hf := 1) (H.out.1.old hb12) hn4 (Nat.le_refl 1) ht none 0 [] (.inl rfl) (fun _ => ⟨rfl, rfl⟩) ⟨Nat.le_refl 0, by omega⟩ (fun x hx => by cases hx) (by simp) hW (H.out.2.old hb12)
  rw [show (([] : List Rv).length) = 0 from rfl, show (1 - 1 : Nat) = 0 from rfl, seal_len] at hmd
  have HMD := Lib.hid hmd
  have HB2 := Lib.hid hb12
  clear hmd hb2 hb12
  obtain ⟨T, hT⟩ : ∃ T, T = lat (ov F W) n := ⟨_, rfl⟩
  have HT := Lib.hid hT
  go_wp2_with fail
  refine HMD.out.mono ?_
  rintro e W3 (⟨h3, rfl, hb3⟩ | ⟨bl, h3, rfl, h4, h5, h6⟩)
  · omega
  · have HF := Lib.hid (And.intro h3 (And.intro h4 (And.intro h5 h6)))
    clear h3 h4 h5 h6
    go_wp2_with fail
    go_ret2
    exact ⟨bl, Nat.le_trans HB2.out.size HF.out.1, rfl, HF.out.2.1, HF.out.2.2.1, (Fr.of HB2.out).trans HF.out.2.2.2⟩
end
end Go.Proofs.YtjblkmjdepdekaaDoor.Wl

/- logs: Open -/
namespace Go.Proofs.YtjblkmjdepdekaaDoor.Wl
open Go.RowKit Go.Lib Go.Joins Go.Proofs.YtjblkmjdepdekaaDoor.By Go.Proofs.YtjblkmjdepdekaaDoor.Dk Go.Proofs.YtjblkmjdepdekaaDoor.Oc Go.Proofs.YtjblkmjdepdekaaDoor.Rg Go.Proofs.YtjblkmjdepdekaaDoor.Ht Go.Proofs.YtjblkmjdepdekaaDoor.Cr Go.Proofs.YtjblkmjdepdekaaDoor.Fm
attribute [local go_sem] Oper.semAt_some

theorem Cur.le {b : List UInt8} {h : Nat} {x : Nat × Bool × List Rc} (hx : Cur b h x) : x.1 ≤ 1 := by
  obtain ⟨L1, L2, _, _, rfl⟩ := hx
  unfold pick2; split <;> simp
theorem IsRs.shape {B : Nat} {w : World} {v : Value} {L : List Rv} (h : IsRs B w v L) : ∃ a c, v = .slice a L.length c ∧ (a = none → L = [] ∧ c = 0) ∧ L.length ≤ c ∧ c ≤ 9223372036854775807 := by
  rcases h.own.2 with ⟨hv, h0⟩ | ⟨g, cap, cur, hv, _, _, h4, h5, _⟩
  · exact ⟨none, 0, by rw [hv, h0], fun _ => ⟨List.length_eq_zero_iff.1 h0, rfl⟩, by omega, by omega⟩
  · exact ⟨_, cap, hv, fun h => (by cases h), h4, by unfold maxLen at h5; omega⟩
theorem IsRs.fr {B : Nat} {p : Nat → Prop} {w w' : World} {v : Value} {L : List Rv} (h : IsRs B w v L) (hf : Fr p w w') (hp : ∀ k, B ≤ k → ¬ p k) : IsRs B w' v L :=
  ⟨own_other h.own fun g hg => hf.block g (h.own.lt g hg).2 (hp g (h.own.lt g hg).1), fun x hx => own_other (h.data x hx) fun g hg => hf.block g ((h.data x hx).lt g hg).2 (hp g ((h.data x hx).lt g hg).1)⟩
section
variable {w : World} {B bd gs cs gn cn n : Nat} {vw : Value} {F G : List UInt8} {W : List Wr}
set_option maxRecDepth 20000 in
set_option maxHeartbeats 4000000 in
theorem open_none (hd : IsDk w B bd gs cs gn cn vw n F G W false) (hn4 : 4 ≤ n) {x : Nat × Bool × List Rc} (hc : Cur G (n / 2) x) (hx : x.2.1 = false) (hn : Nibs w) :
    Calls Tryd.prog 19 #[.pointer (some ⟨bd, 0, none⟩)] w fun e w' => e = .returned (.tuple #[.pointer none, .slice none 0 0, .int .i64 7]) ∧ Below w.heap.size w w' := by
  have h1 := Lib.hid (whole_ok hd hn4)
  have H := Lib.hid (And.intro hd (And.intro hn hc))
  have hn2 := hd.n2
  clear hd hn hc
  go_enter Tryd.func19, Tryd.ntmps19
  go_wp2_with fail
  refine h1.out.mono ?_
  rintro e W1 ⟨g, cp, rfl, hib, hb1⟩
  have h2 := Lib.hid (current_any g 0 cp n _ W1 hib ⟨hn4, hn2⟩ (H.out.2.1.old hb1))
  have HB := Lib.hid hb1
  clear hib hb1
  go_wp2_with fail
  refine h2.out.mono ?_
  rintro e W2 ⟨y, v, rv, rfl, hcy, hrs, hrc, hb2⟩
  obtain rfl := hcy.uniq H.out.2.2
  rw [hx]
  have HB2 := Lib.hid (HB.out.trans (hb2.mono HB.out.size))
  obtain ⟨a2, c2, rfl⟩ : ∃ a c, v = .slice a rv.length c := by obtain ⟨a, c, h, _⟩ := hrs.shape; exact ⟨a, c, h⟩
  clear hcy hrs hrc hb2
  go_wp2_with fail
  go_ret3
  exact ⟨rfl, HB2.out⟩
end
end Go.Proofs.YtjblkmjdepdekaaDoor.Wl

/- logs: Open, that comes out -/
namespace Go.Proofs.YtjblkmjdepdekaaDoor.Wl
open Go.RowKit Go.Lib Go.Joins Go.Proofs.YtjblkmjdepdekaaDoor.By Go.Proofs.YtjblkmjdepdekaaDoor.Dk Go.Proofs.YtjblkmjdepdekaaDoor.Oc Go.Proofs.YtjblkmjdepdekaaDoor.Rg Go.Proofs.YtjblkmjdepdekaaDoor.Ht Go.Proofs.YtjblkmjdepdekaaDoor.Cr Go.Proofs.YtjblkmjdepdekaaDoor.Fm
attribute [local go_sem] Oper.semAt_some

section
variable {w : World} {B bd gs cs gn cn n : Nat} {vw : Value} {F G : List UInt8} {W : List Wr}
set_option maxRecDepth 20000 in
set_option maxHeartbeats 4000000 in
theorem open_ok (hd : IsDk w B bd gs cs gn cn vw n F (ov F W) W false) (hn4 : 4 ≤ n) {hf : Nat} {Lr : List Rc} (hc : Cur (ov F W) (n / 2) (hf, true, Lr)) (hdl : ∀ r ∈ Lr, r.2.length ≤ 1024) (hl : Lr.length ≤ 290000)
    (ht : lat (ov F W) n < 9223372036854775808) (hW : W.length ≤ 900000) (hn : Nibs w) :
    Calls Tryd.prog 19 #[.pointer (some ⟨bd, 0, none⟩)] w fun e w' => ∃ rv : List Rv, rv.map rc = Lr ∧ (
      (55 * (n / 2) < (catR (rv ++ [sealR])).length ∧ e = .returned (.tuple #[.pointer none, .slice none 0 0, .int .i64 6]) ∧ Below w.heap.size w w') ∨
      (∃ bl v, w.heap.size ≤ bl ∧ e = .returned (.tuple #[.pointer (some ⟨bl, 0, none⟩), v, .int .i64 0]) ∧ IsRs w.heap.size w' v rv ∧
        IsDk w' B bd gs cs gn cn (.slice none 0 0) n (rwD n F W (1 - hf) (lat (ov F W) n + 1) rv) (rwD n F W (1 - hf) (lat (ov F W) n + 1) rv) [] false ∧ Made w' bl bd (1 - hf) (lat (ov F W) n + 1) n rv ∧ Fr (Foot bd gs gn vw) w w')) := by
  have h1 := Lib.hid (whole_ok hd hn4)
  have H := Lib.hid (And.intro hd (And.intro hn (And.intro hc hdl)))
  have hn2 := hd.n2
  clear hd hn hc hdl
  go_enter Tryd.func19, Tryd.ntmps19
  go_wp2_with fail
  refine h1.out.mono ?_
  rintro e W1 ⟨g, cp, rfl, hib, hb1⟩
  have h2 := Lib.hid (current_any g 0 cp n _ W1 hib ⟨hn4, hn2⟩ (H.out.2.1.old hb1))
  have HB := Lib.hid (And.intro hb1 hib)
  clear hib hb1
  go_wp2_with fail
  refine h2.out.mono ?_
  rintro e W2 ⟨y, v, rv, rfl, hcy, hrs, hrc, hb2⟩
  have ey := hcy.uniq H.out.2.2.1
  subst ey
  dsimp only at hrc ⊢
  obtain ⟨a2, c2, rfl, ha2, hc2⟩ := hrs.shape
  have hb02 := HB.out.1.trans (hb2.mono HB.out.1.size)
  have h3 := Lib.hid (latest_any g 0 cp n _ W2 (HB.out.2.old hb2) ⟨by omega, hn2⟩)
  have hf1 : hf ≤ 1 := hcy.le
  have HR := Lib.hid (And.intro hrs (And.intro hrc (And.intro hb02 ha2)))
  clear hcy hrs hrc hb2 hb02 ha2
  go_wp2_with fail
  refine h3.out.mono ?_
  rintro e W3 ⟨rfl, hb3⟩
  have hb03 := HR.out.2.2.1.trans (hb3.mono HR.out.2.2.1.size)
  have hrs3 : IsRs W1.heap.size W3 (.slice a2 rv.length c2) rv := HR.out.1.old hb3
  have hlrv : rv.length ≤ 290000 := by
    have := congrArg List.length HR.out.2.1
    rw [List.length_map] at this; omega
  have hmd := made_any (hf := hf) (H.out.1.old hb03) hn4 hf1 ht a2 c2 rv hrs3.inRs HR.out.2.2.2 hc2 (fun z hz => H.out.2.2.2 (rc z) (by rw [← HR.out.2.1]; exact List.mem_map.2 ⟨z, hz, rfl⟩)) hlrv hW (H.out.2.1.old hb03)
  have HMD := Lib.hid hmd
  have H3 := Lib.hid (And.intro hb03 hrs3)
  clear hmd hb03 hrs3 hb3
  go_wp2_with fail
  refine HMD.out.mono ?_
  rintro e W4 (⟨h5, rfl, hb5⟩ | ⟨bl, h5, rfl, h6, h7, h8⟩)
  · go_wp2_with fail
    go_ret3
    exact ⟨rv, HR.out.2.1, .inl ⟨h5, rfl, H3.out.1.trans (hb5.mono H3.out.1.size)⟩⟩
  · have HF := Lib.hid (And.intro h5 (And.intro h6 (And.intro h7 h8)))
    clear h5 h6 h7 h8
    go_wp2_with fail
    go_ret3
    have hlt : ∀ k, W1.heap.size ≤ k → ¬ Foot bd gs gn vw k := fun k hk hf => by
      have := H.out.1.foot_lt k hf
      have := HB.out.1.size
      omega
    have hr4 := H3.out.2.fr HF.out.2.2.2 hlt
    exact ⟨rv, HR.out.2.1, .inr ⟨bl, _, Nat.le_trans H3.out.1.size HF.out.1, rfl, ⟨Joins.ownsRow_le hr4.own HB.out.1.size, fun z hz => Joins.ownsRow_le (hr4.data z hz) HB.out.1.size⟩, HF.out.2.1, HF.out.2.2.1, (Fr.of H3.out.1).trans HF.out.2.2.2⟩⟩
end
end Go.Proofs.YtjblkmjdepdekaaDoor.Wl

/- logs: Append -/
namespace Go.Proofs.YtjblkmjdepdekaaDoor.Wl
open Go.RowKit Go.Lib Go.Joins Go.Proofs.YtjblkmjdepdekaaDoor.By Go.Proofs.YtjblkmjdepdekaaDoor.Dk Go.Proofs.YtjblkmjdepdekaaDoor.Oc Go.Proofs.YtjblkmjdepdekaaDoor.Rg Go.Proofs.YtjblkmjdepdekaaDoor.Ht Go.Proofs.YtjblkmjdepdekaaDoor.Cr Go.Proofs.YtjblkmjdepdekaaDoor.Fm
attribute [local go_sem] Oper.semAt_some

theorem append_nil (v : Value) (k : UInt8) (w : World) : Calls Tryd.prog 11 #[.pointer none, .agg #[.int .u8 (k.toNat : Nat), v]] w fun e w' => e = .returned (.int .i64 1) ∧ Below w.heap.size w w' := by
  go_enter Tryd.func11, Tryd.ntmps11
  go_wp2_with fail
  go_ret
  exact ⟨rfl, (Below.refl _ _).alloc (Nat.le_refl _) _⟩
theorem append_seal (bl : Nat) (a : Option Addr) (n c : Nat) (w : World) : Calls Tryd.prog 11 #[.pointer (some ⟨bl, 0, none⟩), .agg #[.int .u8 255, .slice a n c]] w fun e w' => e = .returned (.int .i64 1) ∧ Below w.heap.size w w' := by
  have h0 := seals_any 255 (.slice a n c) (w.alloc (.cells #[.int .u8 255, .slice a n c] 34))
  rw [show decide ((255 : UInt8) = 255) = true from rfl] at h0
  have h := Lib.hid h0
  clear h0
  go_enter Tryd.func11, Tryd.ntmps11
  go_wp2_with fail
  refine h.out.mono ?_
  rintro e W1 ⟨rfl, hb1⟩
  have HB := Lib.hid hb1
  clear hb1
  go_wp2_with fail
  go_ret
  exact ⟨rfl, ((Below.refl _ _).alloc (Nat.le_refl _) _).trans (HB.out.mono (by simp))⟩
set_option maxRecDepth 20000 in
set_option maxHeartbeats 8000000 in
theorem append_log {w : World} {bl bd hf t z s : Nat} {last : List UInt8} {B gs cs gn cn n : Nat} {vw : Value} {F : List UInt8} {W : List Wr} (h : IsLg w bl bd hf t z s last) (hd : IsDk w B bd gs cs gn cn vw n F (ov F W) W false) (hn4 : 4 ≤ n) (hz : z ≤ 55 * (n / 2))
    (k : UInt8) (a : Option Addr) (c : Nat) (d : List UInt8) (hib : IsB w a d.length c d) (hk : k ≠ 255) (hdl : d.length ≤ 1024) (hW : W.length ≤ 900000) (hn : Nibs w) :
    Calls Tryd.prog 11 #[.pointer (some ⟨bl, 0, none⟩), .agg #[.int .u8 (k.toNat : Nat), .slice a d.length c]] w fun e w' =>
      (55 * (n / 2) - z < (fb s k d).length ∧ e = .returned (.int .i64 6) ∧ Below w.heap.size w w') ∨
      ((fb s k d).length ≤ 55 * (n / 2) - z ∧ e = .returned (.int .i64 0) ∧ ∃ vw' last', IsDk w' B bd gs cs gn cn vw' n F (ov F (W ++ wrs t (hf * (n / 2) + z / 55) (last.take (z % 55) ++ fb s k d))) (W ++ wrs t (hf * (n / 2) + z / 55) (last.take (z % 55) ++ fb s k d)) false ∧
      IsLg w' bl bd hf t (z + (fb s k d).length) (fs s k d) last' ∧ last'.take ((z + (fb s k d).length) % 55) = (last.take (z % 55) ++ fb s k d).drop ((last.take (z % 55) ++ fb s k d).length - (z + (fb s k d).length) % 55) ∧ (vw'.ownBlock = vw.ownBlock ∨ ∃ g, vw'.ownBlock = some g ∧ w.heap.size ≤ g) ∧ Fr (fun k => Foot bd gs gn vw k ∨ k = bl) w w') := by
  have hsu : U32 s := h.us
  have hfu : U32 (fs s k d) := more_u32 _ _
  have hfp : 0 < (fb s k d).length := by rw [fb_len]; omega
  obtain ⟨fr, hfr⟩ : ∃ fr, fr = fb s k d := ⟨_, rfl⟩
  obtain ⟨s2, hs2⟩ : ∃ s2, s2 = fs s k d := ⟨_, rfl⟩
  rw [← hfr, ← hs2]
  rw [← hfr] at hfp
  rw [← hs2] at hfu
  have HFR := Lib.hid (And.intro hfr (And.intro hs2 (And.intro hsu hfu)))
  clear hfr hs2 hsu hfu
  obtain ⟨w1, hw1⟩ : ∃ w1, w1 = w.alloc (.cells #[.int .u8 (k.toNat : Nat), .slice a d.length c] 34) := ⟨_, rfl⟩
  have hb1 : Below w.heap.size w w1 := by rw [hw1]; exact (Below.refl _ _).alloc (Nat.le_refl _) _
  have x1 : w1.heap[w.heap.size]? = some (.cells #[.int .u8 (k.toNat : Nat), .slice a d.length c] 34 (0, 0)) := by rw [hw1]; exact heap_alloc_new w _
  have hse := seals_any k (.slice a d.length c) w1
  rw [show decide (k = 255) = false by simp [hk]] at hse
  have c1 := (two_cells x1)
  rw [hw1] at c1
  have HSE := Lib.hid hse
  have H := Lib.hid (And.intro h (And.intro hd (And.intro hib (And.intro hn (And.intro hw1 (And.intro hb1 x1))))))
  have hmix : Tryd.prog.follows .mixedOrders = true := by kernel_rfl
  clear hw1 hb1 x1 hse h hd hib hn hk
  go_enter Tryd.func11, Tryd.ntmps11
  go_wp2_with fail
  rw [← H.out.2.2.2.2.1]
  refine HSE.out.mono ?_
  rintro e W1 ⟨rfl, hb2⟩
  have hbw := H.out.2.2.2.2.2.1.trans (hb2.mono H.out.2.2.2.2.2.1.size)
  have x2 := heap_old hb2 H.out.2.2.2.2.2.2
  have l2 := H.out.1.old hbw
  have HB := Lib.hid (And.intro hbw (And.intro x2 l2))
  clear c1 hb2 hbw x2 HSE
  go_wp2_with fail
  refine begin' 13 (fun Y => Y.heap[w.heap.size]? = some (.cells #[.int .u8 (k.toNat : Nat), .slice a d.length c] 34 (0, 0)) ∧ IsLg Y bl bd hf t z s last) hmix (show _ ∧ IsLg W1.drew bl bd hf t z s last from ⟨HB.out.2.1, l2.same rfl⟩) (fun hS0 => ?_)
  refine Ht.takeN (i := 0) ⟨some 15, _, _, _, _, _⟩ (.pointer (some ⟨bl, 0, none⟩)) rfl (Nat.le_refl 13) (by kernel_rfl) (by kernel_rfl) (by kernel_rfl) (by kernel_rfl) hS0 (Or.inl ⟨by rfl, by (intro X hX; go_simp)⟩) ?_
  simp only [Act.put, List.setIfInBounds_toArray, List.set_cons_zero, List.set_cons_succ]
  refine Ht.takeN (i := 1) ⟨some 16, _, _, _, _, _⟩ (.pointer (some ⟨bl, 0, none⟩)) rfl (Nat.le_refl 13) (by kernel_rfl) (by kernel_rfl) (by kernel_rfl) (by kernel_rfl) hS0 (Or.inl ⟨by rfl, by (intro X hX; go_simp)⟩) ?_
  simp only [Act.put, List.setIfInBounds_toArray, List.set_cons_zero, List.set_cons_succ]
  refine Ht.takeN (i := 2) ⟨some 17, _, _, _, _, _⟩ (.pointer (some ⟨bl, 4, none⟩)) rfl (Nat.le_refl 13) (by kernel_rfl) (by kernel_rfl) (by kernel_rfl) (by kernel_rfl) hS0 (Or.inl ⟨by rfl, by (intro X hX; go_simp)⟩) ?_
  simp only [Act.put, List.setIfInBounds_toArray, List.set_cons_zero, List.set_cons_succ]
  refine Ht.takeN (i := 3) ⟨some 18, _, _, _, _, _⟩ (.int .u32 (s : Nat)) rfl (Nat.le_refl 13) (by kernel_rfl) (by kernel_rfl) (by kernel_rfl) (by kernel_rfl) hS0 (Or.inl ⟨by rfl, by (intro X hX; have := hX.2.cells.2.2.2.2; go_simp)⟩) ?_
  simp only [Act.put, List.setIfInBounds_toArray, List.set_cons_zero, List.set_cons_succ]
  refine Ht.takeN (i := 4) ⟨some 19, _, _, _, _, _⟩ (.agg #[.int .u8 (k.toNat : Nat), .slice a d.length c]) rfl (Nat.le_refl 13) (by kernel_rfl) (by kernel_rfl) (by kernel_rfl) (by kernel_rfl) hS0 (Or.inl ⟨by rfl, by (intro X hX; have := two_cells hX.1; go_simp)⟩) ?_
  simp only [Act.put, List.setIfInBounds_toArray, List.set_cons_zero, List.set_cons_succ]
  have hW1 : Below w.heap.size w W1.drew := HB.out.1.drew
  refine Ht.step (i := 5) ⟨some 20, _, _, _, _, _⟩ rfl (by kernel_rfl) (by rfl) (fun K hK => ?_)
  refine Ht.enter 32 #[.int .u32 (s : Nat), .agg #[.int .u8 (k.toNat : Nat), .slice a d.length c]] (by have hen := fun args w => enters_of (P := Tryd.prog) Tryd.func32 (by kernel_rfl) rfl args w; go_simp) (frBytes_ok s k a d.length c d _ HFR.out.2.2.1 (H.out.2.2.1.old hW1) hdl (H.out.2.2.2.1.old hW1)) ?_
  rintro e W2 ⟨ao, cp, rfl, ho2, hb2⟩
  rw [← HFR.out.1, ← HFR.out.2.1] at *
  have hS2 : W2.heap[w.heap.size]? = some (.cells #[.int .u8 (k.toNat : Nat), .slice a d.length c] 34 (0, 0)) ∧ IsLg W2 bl bd hf t z s last := ⟨heap_old hb2 hS0.1, hS0.2.old hb2⟩
  refine ⟨_, rfl, hK _ _ (fun _ => hS2) (fun _ => ?_)⟩
  clear hK K
  simp only [Act.put, List.setIfInBounds_toArray, List.set_cons_zero, List.set_cons_succ]
  have hbw2 : Below w.heap.size w W2 := hW1.trans (hb2.mono hW1.size)
  have H2 := Lib.hid (And.intro hbw2 (And.intro hS2.2 ho2))
  clear hb2 hbw2 ho2 hS0 hW1
  refine Ht.takeN (i := 6) ⟨some 14, _, _, _, _, _⟩ (.tuple #[.slice ao fr.length cp, .int .u32 (s2 : Nat), .int .i64 0]) rfl (Nat.le_refl 13) (by kernel_rfl) (by kernel_rfl) (by kernel_rfl) (by kernel_rfl) hS2 (Or.inl ⟨by rfl, by (intro X hX; go_simp)⟩) ?_
  simp only [Act.put, List.setIfInBounds_toArray, List.set_cons_zero, List.set_cons_succ]
  refine Ht.takeN (i := 7) ⟨some 21, _, _, _, _, _⟩ (.slice ao fr.length cp) rfl (Nat.le_refl 13) (by kernel_rfl) (by kernel_rfl) (by kernel_rfl) (by kernel_rfl) hS2 (Or.inl ⟨by rfl, by (intro X hX; go_simp)⟩) ?_
  simp only [Act.put, List.setIfInBounds_toArray, List.set_cons_zero, List.set_cons_succ]
  refine Ht.takeN (i := 8) ⟨some 22, _, _, _, _, _⟩ (.int .u32 (s2 : Nat)) rfl (Nat.le_refl 13) (by kernel_rfl) (by kernel_rfl) (by kernel_rfl) (by kernel_rfl) hS2 (Or.inl ⟨by rfl, by (intro X hX; go_simp)⟩) ?_
  simp only [Act.put, List.setIfInBounds_toArray, List.set_cons_zero, List.set_cons_succ]
  refine Ht.takeN (i := 9) ⟨some 23, _, _, _, _, _⟩ (.int .i64 0) rfl (Nat.le_refl 13) (by kernel_rfl) (by kernel_rfl) (by kernel_rfl) (by kernel_rfl) hS2 (Or.inl ⟨by rfl, by (intro X hX; go_simp)⟩) ?_
  simp only [Act.put, List.setIfInBounds_toArray, List.set_cons_zero, List.set_cons_succ]
  refine Ht.takeN (i := 10) ⟨some 5, _, _, _, _, _⟩ (.slice ao fr.length cp) rfl (Nat.le_refl 13) (by kernel_rfl) (by kernel_rfl) (by kernel_rfl) (by kernel_rfl) hS2 (Or.inl ⟨by rfl, by (intro X hX; go_simp)⟩) ?_
  simp only [Act.put, List.setIfInBounds_toArray, List.set_cons_zero, List.set_cons_succ]
  refine Ht.takeN (i := 11) ⟨some 6, _, _, _, _, _⟩ (.int .u32 (s2 : Nat)) rfl (Nat.le_refl 13) (by kernel_rfl) (by kernel_rfl) (by kernel_rfl) (by kernel_rfl) hS2 (Or.inl ⟨by rfl, by (intro X hX; go_simp)⟩) ?_
  simp only [Act.put, List.setIfInBounds_toArray, List.set_cons_zero, List.set_cons_succ]
  refine Ht.takeN (i := 12) ⟨some 7, _, _, _, _, _⟩ (.int .i64 0) rfl (Nat.le_refl 13) (by kernel_rfl) (by kernel_rfl) (by kernel_rfl) (by kernel_rfl) hS2 (Or.inl ⟨by rfl, by (intro X hX; go_simp)⟩) ?_
  simp only [Act.put, List.setIfInBounds_toArray, List.set_cons_zero, List.set_cons_succ]
  refine done (by kernel_rfl) ?_
  have l2 := H2.out.2.1
  have hd2 := H.out.2.1.old H2.out.1
  have hrm := room_any l2 hd2 hz
  obtain ⟨R, hR⟩ : ∃ R, R = 55 * (n / 2) - z := ⟨_, rfl⟩
  rw [← hR] at hrm
  have HRM := Lib.hid hrm
  have HR := Lib.hid hR
  clear hrm hR hS2 l2 hd2
  go_wp2_with fail
  refine HRM.out.mono ?_
  rintro e W3 ⟨rfl, nq, hq⟩
  obtain rfl := hq
  by_cases hro : fr.length ≤ R
  · have hg : ¬ (fr.length : Int) > (R : Int) := by omega
    have l3 : IsLg (W2.drewN nq) bl bd hf t z s last := H2.out.2.1.same rfl
    have d3 := (H.out.2.1.old H2.out.1).other (w' := W2.drewN nq) fun _ _ _ => rfl
    have o3 : (W2.drewN nq).ownsRow _ 5 1 (.slice ao fr.length cp) fr.length (byteCells fr) := own_other H2.out.2.2 fun _ _ => rfl
    have hwr := write_log l3 d3 hn4 ao fr.length cp fr (isB_of_own' o3) hfp (by rw [HR.out] at hro; omega) s2 HFR.out.2.2.2 hW
    have HWR := Lib.hid hwr
    have F3 := Lib.hid (show Fr (fun k => Foot bd gs gn vw k ∨ k = bl) w (W2.drewN nq) from (Fr.of H2.out.1).trans ⟨rfl, rfl, rfl, Nat.le_refl _, fun _ _ _ => rfl⟩)
    have HSZ := Lib.hid (show w.heap.size ≤ (W2.drewN nq).heap.size from H2.out.1.size)
    clear hwr l3 d3 o3
    go_wp2_with fail
    refine HWR.out.mono ?_
    rintro e W5 ⟨rfl, vw5, last5, hd5, hl5, hla5, hv5, hf5⟩
    have H5 := Lib.hid (And.intro hd5 (And.intro hl5 (And.intro hla5 (And.intro hv5 hf5))))
    clear hd5 hl5 hla5 hv5 hf5
    go_wp2_with fail
    go_ret
    refine .inr ⟨by rw [← HR.out]; exact hro, rfl, vw5, last5, H5.out.1, H5.out.2.1, H5.out.2.2.1, ?_, F3.out.trans H5.out.2.2.2.2⟩
    rcases H5.out.2.2.2.1 with hv | ⟨g, hv, hg⟩
    · exact .inl hv
    · exact .inr ⟨g, hv, Nat.le_trans HSZ.out hg⟩
  · have hg : (fr.length : Int) > (R : Int) := by omega
    go_wp2_with fail
    go_ret
    exact .inl ⟨by rw [← HR.out]; omega, rfl, by have hb := H2.out.1; exact ⟨hb.os, hb.tape, hb.output, hb.size, hb.block⟩⟩
end Go.Proofs.YtjblkmjdepdekaaDoor.Wl
