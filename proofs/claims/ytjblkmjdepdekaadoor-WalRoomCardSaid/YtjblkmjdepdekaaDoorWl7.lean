
/- logs: the chain of some records -/
import Derived.Test.YtjblkmjdepdekaaDoorWl6
namespace Go.Proofs.YtjblkmjdepdekaaDoor.Wl
open Go.RowKit Go.Lib Go.Joins Go.Proofs.YtjblkmjdepdekaaDoor.By Go.Proofs.YtjblkmjdepdekaaDoor.Dk Go.Proofs.YtjblkmjdepdekaaDoor.Oc Go.Proofs.YtjblkmjdepdekaaDoor.Rg Go.Proofs.YtjblkmjdepdekaaDoor.Ht Go.Proofs.YtjblkmjdepdekaaDoor.Cr Go.Proofs.YtjblkmjdepdekaaDoor.Fm

/-- records that can be read in a slice, wherever -/
def RecIn (w : World) (g o i : Nat) (x : Rv) : Prop := w.cell? ⟨g, o + i * 2, none⟩ = some (.int .u8 (x.k.toNat : Nat)) ∧ w.cell? ⟨g, o + i * 2 + 1, none⟩ = some (.slice x.a x.d.length x.c) ∧ IsB w x.a x.d.length x.c x.d
def InRs (w : World) (a : Option Addr) (L : List Rv) : Prop := L = [] ∨ ∃ g o, a = some ⟨g, o, none⟩ ∧ ∀ i (h : i < L.length), RecIn w g o i L[i]
theorem RecIn.old {w w' : World} {g o i : Nat} {x : Rv} (h : RecIn w g o i x) (hb : Below w.heap.size w w') : RecIn w' g o i x := by
  obtain ⟨h1, h2, h3⟩ := h
  have hlt := World.block_lt_of_cell? w _ h1
  exact ⟨(hb.cell (p := ⟨g, o + i * 2, none⟩) hlt).trans h1, (hb.cell (p := ⟨g, o + i * 2 + 1, none⟩) hlt).trans h2, h3.old hb⟩
theorem InRs.old {w w' : World} {a : Option Addr} {L : List Rv} (h : InRs w a L) (hb : Below w.heap.size w w') : InRs w' a L := by
  rcases h with h | ⟨g, o, e, h⟩
  · exact .inl h
  · exact .inr ⟨g, o, e, fun i hi => (h i hi).old hb⟩
theorem rcvs_get : ∀ (L : List Rv) (i : Nat) (h : i < L.length), (rcvs L)[i * 2]? = some (.int .u8 (L[i].k.toNat : Nat)) ∧ (rcvs L)[i * 2 + 1]? = some (.slice L[i].a L[i].d.length L[i].c)
  | [], i, h => absurd h (Nat.not_lt_zero i)
  | x :: L, 0, _ => ⟨rfl, rfl⟩
  | x :: L, i + 1, h => by
    have := rcvs_get L i (by simpa using h)
    rw [show (i + 1) * 2 = i * 2 + 2 by omega, show i * 2 + 2 + 1 = i * 2 + 1 + 2 by omega]
    exact this
/-- a row of one's own can be read -/
theorem IsRs.inRs {B : Nat} {w : World} {a : Option Addr} {n c : Nat} {L : List Rv} (h : IsRs B w (.slice a n c) L) : InRs w a L := by
  rcases h.own.2 with ⟨_, h0⟩ | ⟨g, cap, cur, hv, _⟩
  · exact .inl (List.length_eq_zero_iff.1 h0)
  · have hv2 := hv
    simp only [Value.slice.injEq] at hv2
    obtain ⟨rfl, rfl, rfl⟩ := hv2
    have hc := h.own.cells (g := g) rfl
    refine .inr ⟨g, 0, rfl, fun i hi => ?_⟩
    have hg := rcvs_get L i hi
    have h1 := hc _ _ hg.1
    have h2 := hc _ _ hg.2
    rw [add_lit, Nat.zero_add] at h1 h2
    exact ⟨by rw [Nat.zero_add]; exact h1, by rw [Nat.zero_add]; exact h2, isB_of_own' (h.data _ (List.getElem_mem hi))⟩
def catR (L : List Rv) : List UInt8 := cat 0 (L.map rc)
def smR (L : List Rv) : Nat := sm 0 (L.map rc)
theorem catR_next {L : List Rv} {i : Nat} (h : i < L.length) : catR (L.take (i + 1)) = catR (L.take i) ++ fb (smR (L.take i)) L[i].k L[i].d ∧ smR (L.take (i + 1)) = fs (smR (L.take i)) L[i].k L[i].d := by
  have hm : i < (L.map rc).length := by rw [List.length_map]; exact h
  have := cat_next 0 hm
  unfold catR smR
  rw [List.map_take, List.map_take]
  rw [List.getElem_map] at this
  exact this
theorem catR_le {L : List Rv} (hd : ∀ x ∈ L, x.d.length ≤ 1024) : ∀ i, i ≤ L.length → (catR (L.take i)).length ≤ 1032 * i
  | 0, _ => Nat.le_refl _
  | i + 1, h => by
    have ih := catR_le hd i (by omega)
    have hf := fb_le (k := L[i].k) (smR (L.take i)) (hd _ (List.getElem_mem (by omega : i < L.length)))
    rw [(catR_next h).1, List.length_append]
    omega
set_option maxRecDepth 20000 in
set_option maxHeartbeats 4000000 in
theorem chain_any (a : Option Addr) (cap room : Nat) (L : List Rv) (w : World) (hL : InRs w a L) (hd : ∀ x ∈ L, x.d.length ≤ 1024) (hl : L.length ≤ 300000) (hr : room ≤ 300000) (hn : Nibs w) :
    Calls Tryd.prog 54 #[.slice a L.length cap, .int .i64 (room : Nat)] w fun e w' => Below w.heap.size w w' ∧
      (((catR L).length ≤ room ∧ ∃ ao cp, e = .returned (.tuple #[.slice ao (catR L).length cp, .int .u32 (smR L : Nat), .int .i64 0]) ∧ w'.ownsRow w.heap.size 5 1 (.slice ao (catR L).length cp) (catR L).length (byteCells (catR L))) ∨
        (room < (catR L).length ∧ e = .returned (.tuple #[.slice none 0 0, .int .u32 0, .int .i64 6]))) := by
  have HI := Lib.hid (And.intro hL (And.intro hd hn))
  clear hL hd hn
  go_enter Tryd.func54, Tryd.ntmps54
  go_wp2_with fail
  go_loopw [7, 8, 9, 17] (fun bv sv zv kv wr => ∃ (k : Nat) (ao : Option Addr) (n cp : Nat) (l : List UInt8), k ≤ L.length ∧ kv = .int .i64 k ∧ zv = .int .i64 ((catR (L.take k)).length : Nat) ∧ sv = .int .u32 (smR (L.take k) : Nat) ∧ bv = .slice ao n cp ∧ l.length = n ∧
      wr.ownsRow w.heap.size 5 1 (.slice ao n cp) n (byteCells l) ∧ ((catR (L.take k)).length ≤ room → l = catR (L.take k)) ∧ l.length ≤ room ∧ Below w.heap.size w wr) (fun _ _ _ kv _ => L.length - (intOf kv).toNat)
  case atStart => exact ⟨0, none, 0, 0, [], Nat.zero_le _, rfl, rfl, rfl, rfl, rfl, World.ownsRow_nil _ _ _ _, fun _ => rfl, Nat.zero_le _, Below.refl _ _⟩
  case round =>
    obtain ⟨k, ao, n, cp, l, hk, rfl, rfl, rfl, rfl, rfl, ho, hle, hlr, hb⟩ := hrel
    by_cases hlt : k < L.length
    · obtain ⟨x, hx⟩ : ∃ x, x = L[k] := ⟨_, rfl⟩
      obtain ⟨g, o, rfl, hrec⟩ : ∃ g o, a = some ⟨g, o, none⟩ ∧ RecIn wr g o k x := by
        rcases HI.out.1.old hb with h | ⟨g, o, e, h⟩
        · rw [h] at hlt; exact absurd hlt (Nat.not_lt_zero k)
        · exact ⟨g, o, e, by rw [hx]; exact h k hlt⟩
      have hxd : x.d.length ≤ 1024 := HI.out.2.1 x (by rw [hx]; exact List.getElem_mem hlt)
      obtain ⟨c0, c1, hib⟩ := hrec
      have hal : Below wr.heap.size wr (wr.alloc (.cells #[.int .u8 (x.k.toNat : Nat), .slice x.a x.d.length x.c] 34)) := (Below.refl _ _).alloc (Nat.le_refl _) _
      have hba := hb.trans (hal.mono hb.size)
      have hus : U32 (smR (L.take k)) := sm_u32 U32.zero _
      have hfr := frBytes_ok (smR (L.take k)) x.k x.a x.d.length x.c x.d _ hus (hib.old hal) hxd ((HI.out.2.2.old hb).old hal)
      have hnx := catR_next hlt
      rw [← hx] at hnx
      have hT := catR_le HI.out.2.1 k hk
      have hF := fb_le (k := x.k) (smR (L.take k)) hxd
      obtain ⟨Fr0, hFr⟩ : ∃ F, F = fb (smR (L.take k)) x.k x.d := ⟨_, rfl⟩
      obtain ⟨S1, hS1⟩ : ∃ F, F = fs (smR (L.take k)) x.k x.d := ⟨_, rfl⟩
      rw [← hFr, ← hS1] at hfr hnx
      rw [← hFr] at hF
      have hown0 := own_below ho hal (Nat.le_refl _)
      obtain ⟨T, hTe⟩ : ∃ T, T = (catR (L.take k)).length := ⟨_, rfl⟩
      have hTN : (catR (L.take (k + 1))).length = T + Fr0.length := by rw [hnx.1, List.length_append, hTe]
      rw [← hTe] at hle hT ⊢
      obtain ⟨S0, hS0⟩ : ∃ S, S = smR (L.take k) := ⟨_, rfl⟩
      rw [← hS0] at hfr ⊢
      have HN := Lib.hid (And.intro hnx (And.intro hTN hTe))
      have HO := Lib.hid (And.intro hown0 (And.intro hle (And.intro hlr hba)))
      have HC := Lib.hid hfr
      have hkc : (k : Int) < (L.length : Int) := by omega
      clear hb hib hal hba hus hfr hnx hown0 hTN hTe hle ho hFr hS1 hS0 hx
      go_wp2_with fail
      refine HC.out.mono ?_
      rintro e W1 ⟨af, cf, rfl, hof, hbf⟩
      have hown1 := own_below HO.out.1 hbf (Nat.le_refl _)
      have hb1 := HO.out.2.2.2.trans (hbf.mono HO.out.2.2.2.size)
      have hif := isB_of_own' hof
      have HW := Lib.hid (And.intro hown1 (And.intro hb1 hif))
      clear hown1 hb1 hif hof hbf HC
      by_cases hro : T + Fr0.length ≤ room
      · have hrI : (T : Int) + (Fr0.length : Int) ≤ (room : Int) := by omega
        have HLT := Lib.hid (HO.out.2.1 (by omega))
        have hlr := HO.out.2.2.1
        go_wp2_with (at_builtin; refine wpList_append_bytes rfl _ _ rfl w.heap.size (.slice ao l.length cp) l.length l rfl HW.out.1 af Fr0.length cf Fr0 rfl HW.out.2.2 (by omega) HW.out.2.1.size ?_; intro ao2 cp2 W2 hown2 hg2)
        have hb2 := HW.out.2.1.grown hg2 HW.out.2.1.size (fun j hj => (HW.out.1.lt j hj).1)
        have HZ := Lib.hid (And.intro hown2 hb2)
        clear hown2 hb2 hg2
        go_roundw
        case rel => exact ⟨k + 1, ao2, l.length + Fr0.length, cp2, l ++ Fr0, by omega, by go_num, by rw [HN.out.2.1]; go_num, by rw [HN.out.1.2], rfl, by rw [List.length_append], HZ.out.1, fun _ => by rw [HN.out.1.1, HLT.out], by rw [List.length_append]; have := HN.out.2.2; rw [HLT.out]; omega, HZ.out.2⟩
        case measure => simp [intOf]; omega
      · have hrI : ¬ (T : Int) + (Fr0.length : Int) ≤ (room : Int) := by omega
        go_wp2_with fail
        go_roundw
        case rel => exact ⟨k + 1, ao, l.length, cp, l, by omega, by go_num, by rw [HN.out.2.1]; go_num, by rw [HN.out.1.2], rfl, rfl, HW.out.1, fun h => absurd h (by rw [HN.out.2.1]; exact hro), HO.out.2.2.1, HW.out.2.1⟩
        case measure => simp [intOf]; omega
    · obtain rfl : k = L.length := by omega
      rw [List.take_length] at hle ⊢
      have hT := catR_le HI.out.2.1 L.length (Nat.le_refl _)
      rw [List.take_length] at hT
      obtain ⟨T, hTe⟩ : ∃ T, T = (catR L).length := ⟨_, rfl⟩
      rw [← hTe] at hle hT ⊢
      have HF := Lib.hid (And.intro hTe (And.intro ho (And.intro hle (And.intro hlr hb))))
      clear hTe ho hle hlr hb
      by_cases hgt : T ≤ room
      · have hg : ¬ (T : Int) > (room : Int) := by omega
        go_wp2_with fail
        go_ret3
        have hl2 := HF.out.2.2.1 hgt
        have ho := HF.out.2.1
        subst hl2
        rw [HF.out.1]
        exact ⟨HF.out.2.2.2.2, .inl ⟨by have := HF.out.1; omega, ao, cp, rfl, ho⟩⟩
      · have hg : (T : Int) > (room : Int) := by omega
        go_wp2_with fail
        go_ret3
        exact ⟨HF.out.2.2.2.2, .inr ⟨by have := HF.out.1; omega, rfl⟩⟩
end Go.Proofs.YtjblkmjdepdekaaDoor.Wl
