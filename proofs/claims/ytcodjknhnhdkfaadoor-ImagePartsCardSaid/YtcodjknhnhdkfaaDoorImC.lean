
/- parts put together: Whole -/
import Derived.Test.YtcodjknhnhdkfaaDoorImB
import Derived.Test.YtcodjknhnhdkfaaDoorImGrow
import Derived.Shelf.Spec.SlicesGrow
namespace Go.Proofs.YtcodjknhnhdkfaaDoor.Im
open Go.RowKit Go.Lib By
set_option linter.unusedVariables false
set_option linter.unusedSectionVars false
set_option maxRecDepth 20000
theorem grow_any (n : Nat) (hn : n ≤ 1000000) (w : World) : Calls Tryd.prog 27 #[.slice none 0 0, .int .i64 ((n : Nat) : Int)] w fun e w' => ∃ v, e = .returned v ∧ w'.ownsRow w.heap.size 5 1 v 0 (Lib.byteCells []) ∧ Below w.heap.size w w' := by
  obtain ⟨i0, hi, hz0, hz1, hz2⟩ := pinfo_parts By.info5
  by_cases h0 : n = 0
  · subst h0
    refine (Any8.slices_Grow_room Tryd.growB none 0 0 0 w (Nat.le_refl _) (by omega) (by omega) (by omega)).mono ?_
    rintro e w' ⟨rfl, rfl⟩
    exact ⟨_, rfl, World.ownsRow_nil _ _ _ _, Below.refl _ _⟩
  · refine (Any8.slices_Grow_grow Tryd.growB i0 (.int .u8 0) hi hz0 (by omega) none 0 0 n [] w (Nat.le_refl _) (by omega) (by rw [hz2]; omega) (by omega) (by simp) (fun _ => rfl) (fun a e => by cases e)).mono ?_
    rintro e w' ⟨rfl, rfl⟩
    have hG := grownCap_le_maxLen w (0 + n) 0 5 (by unfold maxLen; omega)
    have hG2 := grownCap_ge w (0 + n) 0 5
    obtain ⟨G, hGe⟩ : ∃ G, G = grownCap w (0 + n) 0 5 := ⟨_, rfl⟩
    rw [← hGe] at hG hG2
    have e25 : Tryd.growB_ren.t 25 = 5 := rfl
    rw [e25, ← hGe]
    refine ⟨_, rfl, ⟨rfl, .inr ⟨w.heap.size, G, _, rfl, Nat.le_refl _, heap_alloc_new w.drew _, Nat.zero_le _, hG, ?_, by simp [Lib.byteCells]⟩⟩, (Below.refl _ _).drew.alloc (Nat.le_refl _) _⟩
    have e1 : (Value.int IntKind.u8 0).cells.size = 1 := rfl
    simp only [Array.size_append, size_zeroCells, e1]
    simp
    omega
theorem flat_take {ps : List (List UInt8)} {i : Nat} (h : i < ps.length) : (ps.take (i + 1)).flatten = (ps.take i).flatten ++ ps[i] := by
  rw [List.take_succ_eq_append_getElem h, List.flatten_append]
  simp
theorem flat_le (ps : List (List UInt8)) (i : Nat) : (ps.take i).flatten.length ≤ ps.flatten.length := by
  have := congrArg (fun l => l.flatten.length) (List.take_append_drop i ps)
  simp only [List.flatten_append, List.length_append] at this
  omega
theorem add_in {m n : Nat} (h : m + n ≤ 1000000) : wrap64 (((m : Nat) : Int) + ((n : Nat) : Int)) = ((m + n : Nat) : Int) := by unfold wrap64; omega
theorem wrap_up' {m : Nat} (h : m ≤ 1000000) : wrap64 (((m : Nat) : Int) + 1) = ((m + 1 : Nat) : Int) := by unfold wrap64; omega
theorem meas_up' {n k : Nat} (h : k < n) : n - (RowKit.intOf (.int .i64 ((k + 1 : Nat) : Int))).toNat < n - (RowKit.intOf (.int .i64 ((k : Nat) : Int))).toNat := by simp only [RowKit.intOf]; omega
/-- one of a row's parts, as it lies -/
theorem Pt.at {B : Nat} {w : World} {a : Option Addr} {n c : Nat} {vs : List Value} {ps : List (List UInt8)} (h : Pt B w (.slice a n c) vs ps) {i : Nat} (hi : i < ps.length) :
    ∃ g g2 c2, a = some ⟨g, 0, none⟩ ∧ w.cell? ⟨g, i, none⟩ = some (.slice (some ⟨g2, 0, none⟩) ps[i].length c2) ∧ IsB w (some ⟨g2, 0, none⟩) ps[i].length c2 ps[i] ∧ 0 < ps[i].length ∧ B ≤ g ∧ B ≤ g2 ∧ g < w.heap.size ∧ g2 < w.heap.size := by
  have hv : i < vs.length := by rw [h.len]; exact hi
  obtain ⟨h0, g2, c2, h1, h2, ⟨cur2, h3⟩, h4⟩ := h.each i vs[i] ps[i] (List.getElem?_eq_getElem hv) (List.getElem?_eq_getElem hi)
  rcases h.own.2 with ⟨k1, k2⟩ | ⟨g, cap', cur, k1, k2, k3, k4, k5, k6, k7⟩
  · omega
  · cases k1
    refine ⟨g, g2, c2, rfl, ?_, h4, h0, k2, h2, lt_of_block k3, lt_of_block h3⟩
    have e : vs[i]? = some vs[i] := List.getElem?_eq_getElem hv
    rw [← h1, cell_of_row w g _ cur _ _ k3]
    have e2 : (cur.toList.take (vs.length * 1))[i]? = some vs[i] := by rw [k7]; exact e
    rw [List.getElem?_take_of_lt (by omega), Array.getElem?_toList] at e2
    exact e2
/-- what the parts, put together, are -/
def Joined (ps : List (List UInt8)) (w : World) (e : Ending) (w' : World) : Prop := ∃ a n c, e = .returned (.slice a n c) ∧ n = ps.flatten.length ∧ IsB w' a n c ps.flatten ∧ Below w.heap.size w w'
set_option maxHeartbeats 2000000 in
theorem Concat_any (B : Nat) (a : Option Addr) (c : Nat) (vs : List Value) (ps : List (List UInt8)) (w : World) (h : Pt B w (.slice a vs.length c) vs ps) (hl : ps.flatten.length ≤ 500000) (hp : ps.length ≤ 500000) : Calls Tryd.prog 11 #[.slice a vs.length c] w (Joined ps w) := by
  have hvl := h.len
  obtain ⟨n, hn⟩ : ∃ n, n = ps.length := ⟨_, rfl⟩
  rw [hvl, ← hn]
  rw [hvl, ← hn] at h
  have H := Lib.hid (And.intro h (And.intro hl hp))
  have HN := Lib.hid hn
  clear h hl hp hvl hn
  go_enter Tryd.func11, Tryd.ntmps11
  go_wp2_with fail
  go_loopw [3, 11] (fun s3 s11 wr => ∃ k S : Nat, s11 = .int .i64 ((k : Nat) : Int) ∧ k ≤ n ∧ s3 = .int .i64 ((S : Nat) : Int) ∧ S = (ps.take k).flatten.length ∧ wr = w) (fun _ s11 _ => n - (RowKit.intOf s11).toNat)
  case atStart => exact ⟨0, 0, rfl, Nat.zero_le _, rfl, rfl, rfl⟩
  case round =>
    obtain ⟨k, S, rfl, hk, rfl, hS, rfl⟩ := hrel
    by_cases hlt : k < n
    · have hkp : k < ps.length := by rw [← HN.out]; exact hlt
      obtain ⟨g, g2, c2, rfl, hc, hib, hpos, _⟩ := H.out.1.at hkp
      obtain ⟨L, hL⟩ : ∃ L, L = ps[k].length := ⟨_, rfl⟩
      have hc' : wr.cell? ⟨g, k, none⟩ = some (.slice (some ⟨g2, 0, none⟩) L c2) := by rw [hL]; exact hc
      have hfl : (ps.take (k + 1)).flatten.length = S + L := by rw [flat_take hkp, List.length_append, hS, hL]
      have hltx : ((k : Nat) : Int) < ((n : Nat) : Int) := by omega
      have hsn : ¬ (((S + L : Nat) : Nat) : Int) < 0 := by omega
      have hsum := add_in (m := S) (n := L) (by have := flat_le ps (k + 1); rw [hfl] at this; have := H.out.2.1; omega)
      have HF := Lib.hid hfl
      have hw1 := wrap_up' (m := k) (by have := H.out.2.2; omega)
      clear hc hib hL hS hfl hpos
      go_wp2_with fail
      go_roundw
      case rel => exact ⟨k + 1, S + L, by rw [hw1], hlt, by rw [hsum], HF.out.symm, trivial⟩
      case measure => rw [hw1]; exact meas_up' hlt
    · obtain rfl : k = n := by omega
      obtain ⟨wo, rfl⟩ : ∃ wo : World, wo = wr := ⟨_, rfl⟩
      have hto : ps.take k = ps := by rw [HN.out]; exact List.take_length
      rw [hto] at hS
      have hg := grow_any S (by rw [hS]; have := H.out.2.1; omega) wo
      have HS := Lib.hid hS
      have hltx : ¬ ((k : Nat) : Int) < ((k : Nat) : Int) := by omega
      clear hS
      go_wp2_with fail
      refine hg.mono ?_
      rintro e w1 ⟨v, rfl, hown, hb⟩
      obtain ⟨ao, cp, rfl⟩ := own_shape hown
      have H1 := Lib.hid (And.intro hown hb)
      clear hown hb hg hto
      go_wp2_with fail
      go_loopw [6, 27] (fun s6 s27 W => ∃ (j T cp : Nat) (ao : Option Addr), s27 = .int .i64 ((j : Nat) : Int) ∧ j ≤ k ∧ s6 = .slice ao T cp ∧ T = (ps.take j).flatten.length ∧ W.ownsRow wo.heap.size 5 1 (.slice ao T cp) T (Lib.byteCells (ps.take j).flatten) ∧ Below wo.heap.size wo W) (fun _ s27 _ => k - (RowKit.intOf s27).toNat)
      case atStart => exact ⟨0, 0, cp, ao, rfl, Nat.zero_le _, rfl, rfl, H1.out.1, H1.out.2⟩
      case round =>
        obtain ⟨j, T, cp, ao, rfl, hj, rfl, hT, hown, hb⟩ := hrel
        by_cases hlj : j < k
        · have hjp : j < ps.length := by rw [← HN.out]; exact hlj
          obtain ⟨g, g2, c2, rfl, hc, hib, hpos, hg1, hg2, hg3, hg4⟩ := H.out.1.at hjp
          obtain ⟨L, hL⟩ : ∃ L, L = ps[j].length := ⟨_, rfl⟩
          have hc' : wo.cell? ⟨g, j, none⟩ = some (.slice (some ⟨g2, 0, none⟩) L c2) := by rw [hL]; exact hc
          have hcW := (hb.cell (p := ⟨g, j, none⟩) hg3).trans hc'
          have hibW : IsB wr (some ⟨g2, 0, none⟩) L c2 ps[j] := by rw [hL]; exact hib.old hb
          have hjb : T + L ≤ 500000 := by
            have h1 := flat_le ps (j + 1)
            rw [flat_take hjp, List.length_append, ← hT, ← hL] at h1
            have := H.out.2.1
            omega
          have hT2 : T + L = (ps.take (j + 1)).flatten.length := by rw [flat_take hjp, List.length_append, hT, hL]
          have hfl : (ps.take (j + 1)).flatten = (ps.take j).flatten ++ ps[j] := flat_take hjp
          have hbw := hb.size
          have HB := Lib.hid (And.intro hown (And.intro hb (And.intro hT2 (And.intro hfl (And.intro hibW (And.intro hbw hjb))))))
          have hltx : ((j : Nat) : Int) < ((k : Nat) : Int) := by omega
          have hw1 := wrap_up' (m := j) (by have := H.out.2.2; have := HN.out; omega)
          clear hown hb hT2 hfl hibW hc hc' hib hpos hL hT hjb hbw
          go_wp2_with (at_builtin; refine wpList_append_bytes rfl _ _ rfl wo.heap.size _ T (ps.take j).flatten rfl HB.out.1 (some ⟨g2, 0, none⟩) L c2 ps[j] rfl HB.out.2.2.2.2.1 (by have := HB.out.2.2.2.2.2.2; omega) HB.out.2.2.2.2.2.1 ?_)
          rintro ao2 cp2 W2 hown2 hgr
          have hfr : Below wo.heap.size wo W2 := by
            obtain ⟨hown, hb, _, _, _, hbw, _⟩ := HB.out
            refine ⟨hgr.os.trans hb.os, hgr.tape.trans hb.tape, hgr.output.trans hb.output, Nat.le_trans hb.size hgr.size, fun x hx => ?_⟩
            exact (hgr.block x (by omega) (fun e => by have := (hown.lt _ e.symm).1; omega)).trans (hb.block x hx)
          rw [← HB.out.2.2.2.1] at hown2
          have H2 := Lib.hid (And.intro hown2 hfr)
          clear hown2 hgr hfr hcW
          go_wp2_with fail
          go_roundw
          case rel => exact ⟨j + 1, T + L, cp2, ao2, by rw [hw1], hlj, rfl, HB.out.2.2.1, H2.out⟩
          case measure => rw [hw1]; exact meas_up' hlj
        · obtain rfl : j = k := by omega
          have hto : ps.take j = ps := by rw [HN.out]; exact List.take_length
          rw [hto] at hT hown
          rw [hT] at hown
          obtain ⟨a9, c9, e9, hib⟩ := isB_own hown
          have hltx : ¬ ((j : Nat) : Int) < ((j : Nat) : Int) := by omega
          obtain ⟨rfl, rfl⟩ : ao = a9 ∧ cp = c9 := by cases e9; exact ⟨rfl, rfl⟩
          have HZ := Lib.hid (And.intro hT (And.intro hib hb))
          clear hown e9 hib hb hT hto
          go_wp2_with fail
          go_ret
          refine ⟨_, _, _, rfl, HZ.out.1, ?_, HZ.out.2.2⟩
          rw [HZ.out.1]
          exact HZ.out.2.1
theorem Whole_any (B : Nat) (a : Option Addr) (c : Nat) (vs : List Value) (ps : List (List UInt8)) (w : World) (h : Pt B w (.slice a vs.length c) vs ps) (hl : ps.flatten.length ≤ 500000) (hp : ps.length ≤ 500000) : Calls Tryd.prog 6 #[.slice a vs.length c] w (Joined ps w) := by
  have hc := Concat_any B a c vs ps w h hl hp
  clear h hl hp
  generalize vs.length = n at *
  go_enter Tryd.func6, Tryd.ntmps6
  go_wp2_with fail
  refine hc.mono ?_
  rintro e w1 ⟨a1, n1, c1, rfl, h1, h2, h3⟩
  have H := Lib.hid (And.intro h1 (And.intro h2 h3))
  clear h1 h2 h3 hc
  go_wp2_with fail
  go_ret
  exact ⟨_, _, _, rfl, H.out⟩
theorem Of_nil (w : World) : Calls Tryd.prog 7 #[.pointer none] w fun e w' => e = .returned (.slice none 0 0) ∧ w' = w := by
  go_enter Tryd.func7, Tryd.ntmps7
  go_wp2_with fail
  go_ret
  exact ⟨rfl, rfl⟩
theorem More_nil (w : World) : Calls Tryd.prog 36 #[.int .u32 0, .slice none 0 0] w fun e w' => e = .returned (.int .u32 0) ∧ w' = w := by
  have b1 : bits .xor .u32 IntKind.u32.max 0 = 4294967295 := by decide
  have b2 : bits .xor .u32 IntKind.u32.max 4294967295 = 0 := by decide
  go_enter Tryd.func36, Tryd.ntmps36
  go_wp2_with fail
  go_loopw [0, 11] (fun s0 s wr => s0 = .int .u32 4294967295 ∧ s = .int .i64 0 ∧ wr = w) (fun _ _ _ => 0)
  case atStart => exact ⟨rfl, rfl, rfl⟩
  case round =>
    obtain ⟨rfl, rfl, rfl⟩ := hrel
    go_wp2_with fail
    go_ret
    exact ⟨rfl, rfl⟩
theorem Sum_nil (w : World) : Calls Tryd.prog 22 #[.slice none 0 0] w fun e w' => e = .returned (.int .u32 0) ∧ w' = w := by
  have ho := More_nil w
  go_enter Tryd.func22, Tryd.ntmps22
  go_wp2_with fail
  refine ho.mono ?_
  rintro e w1 ⟨rfl, rfl⟩
  clear ho
  go_wp2_with fail
  go_ret
  exact ⟨rfl, rfl⟩
theorem Mark_nil (w : World) : Calls Tryd.prog 8 #[.pointer none] w fun e w' => e = .returned (.int .u32 0) ∧ w' = w := by
  have ho := Of_nil w
  go_enter Tryd.func8, Tryd.ntmps8
  go_wp2_with fail
  refine ho.mono ?_
  rintro e w1 ⟨rfl, rfl⟩
  have hs := Sum_nil w1
  clear ho
  go_wp2_with fail
  refine hs.mono ?_
  rintro e w2 ⟨rfl, rfl⟩
  clear hs
  go_wp2_with fail
  go_ret
  exact ⟨rfl, rfl⟩
end Go.Proofs.YtcodjknhnhdkfaaDoor.Im
