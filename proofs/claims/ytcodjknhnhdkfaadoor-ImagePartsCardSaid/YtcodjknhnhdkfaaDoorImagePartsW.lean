
/- the law ImageParts, walked -/
import Derived.Test.YtcodjknhnhdkfaaDoorImC
import Derived.Test.YtcodjknhnhdkfaaDoorImN
import Derived.Test.YtcodjknhnhdkfaaDoorHd
namespace Go.Proofs.YtcodjknhnhdkfaaDoor.Im
open Go.RowKit Go.Lib By Go.Sort Ht
set_option linter.unusedVariables false
set_option linter.unusedSectionVars false
set_option maxRecDepth 20000
attribute [local go_sem] Oper.semAt_some
/-- bytes of one's own, whatever they are -/
def Raw (w : World) (g n : Nat) : Prop := ∃ cur : Array Value, w.heap[g]? = some (.cells cur 5 (0, 0)) ∧ n ≤ cur.size ∧ ∀ i, i < n → ∃ z : Int, cur[i]? = some (.int .u8 z)
theorem Raw.set {w : World} {g n k : Nat} (h : Raw w g n) (hk : k < n) (z : Int) : Raw (w.setCell ⟨g, k, none⟩ (.int .u8 z)) g n := by
  obtain ⟨cur, h1, h2, h3⟩ := h
  refine ⟨cur.setIfInBounds k (.int .u8 z), heap_setCell_same _ _ k _ _ _ h1, by simpa using h2, fun i hi => ?_⟩
  by_cases e : k = i
  · subst e
    exact ⟨z, Array.getElem?_setIfInBounds_self_of_lt (by omega)⟩
  · obtain ⟨y, hy⟩ := h3 i hi
    exact ⟨y, by rw [Array.getElem?_setIfInBounds_ne e]; exact hy⟩
theorem raw_own {w : World} {B n : Nat} {v : Value} {l : List UInt8} (h : w.ownsRow B 5 1 v n (Lib.byteCells l)) (hn : 0 < n) : ∃ g cap, v = .slice (some ⟨g, 0, none⟩) n cap ∧ B ≤ g ∧ Raw w g n := by
  rcases h.2 with ⟨k1, k2⟩ | ⟨g, cap, cur, k1, k2, k3, k4, k5, k6, k7⟩
  · omega
  · refine ⟨g, cap, k1, k2, cur, k3, by omega, fun i hi => ?_⟩
    have hl : l.length = n := by have := h.1; simpa [Lib.byteCells] using this
    have e : (Lib.byteCells l)[i]? = some (.int .u8 (l[i]'(by omega)).toNat) := by simp [Lib.byteCells, List.getElem?_eq_getElem (show i < l.length by omega)]
    rw [← k7, List.getElem?_take_of_lt (by omega), Array.getElem?_toList] at e
    exact ⟨_, e⟩
theorem sub1 {m : Nat} (h : m ≤ 1000000) : wrap64 (((m : Nat) : Int) - 1) = ((m : Nat) : Int) - 1 := by unfold wrap64; omega
set_option maxHeartbeats 4000000 in
theorem parts_law (a : Option Addr) (n c : Nat) (l : List UInt8) (sz : Int) (w : World) (hl : IsB w a n c l) : Calls Tryd.prog 3 #[.slice a n c, .int .i64 sz] w fun e w' => e = .returned (.bool true) ∧ Below w.heap.size w w' := by
  have hmix : Tryd.prog.follows .mixedOrders = true := by kernel_rfl
  have hlv := lives19_any w
  have hnl := hl.1
  have HL := Lib.hid (And.intro hl hnl)
  clear hl hnl
  go_enter Tryd.func3, Tryd.ntmps3
  go_wp2_with fail
  refine hlv.mono ?_
  rintro e w1 ⟨rfl, hb1⟩
  have H1 := Lib.hid hb1
  clear hlv hb1
  by_cases hbig : 2000 < n
  · have hbx : (2000 : Int) < ((n : Nat) : Int) := by omega
    have hlv2 := lives19_any w1
    go_wp2_with fail
    refine hlv2.mono ?_
    rintro e w2 ⟨rfl, hb2⟩
    have H2 := Lib.hid (H1.out.trans (hb2.mono H1.out.size))
    clear hlv2 hb2
    go_wp2_with fail
    go_ret
    exact ⟨rfl, H2.out⟩
  · have hbx : ¬ (2000 : Int) < ((n : Nat) : Int) := by omega
    have hib1 := HL.out.1.old H1.out
    have HB := Lib.hid (show IsB (w1.alloc (.cells #[] 5)) a n c l from hib1.old ((Below.refl _ _).alloc (Nat.le_refl _) _))
    clear hib1
    go_wp2_with (at_builtin; refine wpList_append_bytes rfl _ _ rfl w1.heap.size _ 0 [] rfl ?c0 a n c l rfl HB.out ?c1 ?c2 ?_)
    case c0 => exact World.ownsRow_made w1 #[] 0 (Nat.le_refl _) (Nat.zero_le _) rfl
    case c1 => omega
    case c2 => simp
    rintro ao cp w2 hown hgr
    have hb2 : Below w1.heap.size w1 w2 := ((Below.refl _ _).alloc (Nat.le_refl _) _).grown hgr (by simp) (fun k hk => by simp [Value.ownBlock] at hk; omega)
    have hown' := hown
    rw [← HL.out.2] at hown'
    obtain ⟨a9, c9, e9, hib2⟩ := isB_own hown'
    obtain ⟨rfl, rfl⟩ : ao = a9 ∧ cp = c9 := by cases e9; exact ⟨rfl, rfl⟩
    rw [HL.out.2] at hib2
    have hsp : Spot ao := by
      rcases hown.2 with ⟨k1, _⟩ | ⟨g, cap, cur, k1, _⟩
      · cases k1; exact .inl rfl
      · cases k1; exact .inr ⟨g, 0, rfl⟩
    have hl5 : l.length ≤ 100000 := by have := HL.out.2; omega
    have bw2 : Below w.heap.size w w2 := H1.out.trans (hb2.mono H1.out.size)
    have HO := Lib.hid (And.intro hown (And.intro bw2 (And.intro hb2 hl5)))
    by_cases hsz : sz < 1
    · have hpb := Parts_bad ao n cp sz hsz w2
      clear hown hgr hb2 hown' e9 hib2 hsp hl5 bw2
      go_wp2_with fail
      refine hpb.mono ?_
      rintro e w3 ⟨rfl, rfl⟩
      clear hpb
      go_wp2_with fail
      go_ret
      exact ⟨rfl, HO.out.2.1⟩
    · have hpa := Parts_any ao n cp l sz w2 hib2 hsp (by omega) hl5
      clear hown hgr hb2 hown' e9 hib2 hsp hl5 bw2
      have hszx : ¬ sz < 1 := hsz
      go_wp2_with fail
      refine hpa.mono ?_
      rintro e w3 ⟨v, vs, ps, rfl, hpt, hcut, hb3⟩
      have hvl := hpt.len
      obtain ⟨a6, c6, hv6⟩ := own_shape hpt.own
      subst hv6
      obtain ⟨m, hm⟩ : ∃ m, m = vs.length := ⟨_, rfl⟩
      have hcnt := hcut.count
      have HP := Lib.hid (And.intro hpt (And.intro hcut (And.intro hb3 (And.intro hvl (And.intro hm hcnt)))))
      rw [← hm]
      clear hpt hcut hb3 hvl hm hcnt hpa
      go_wp2_with fail
      go_loopw [41] (fun s wr => ∃ k : Nat, s = .int .i64 ((k : Nat) : Int) ∧ k ≤ n ∧ w3.heap.size ≤ wr.heap.size ∧ (wr.os = w3.os ∧ wr.tape = w3.tape ∧ wr.output = w3.output) ∧ (∀ b, (∀ g, ao = some ⟨g, 0, none⟩ → 0 < n → b ≠ g) → wr.heap[b]? = w3.heap[b]?) ∧ ∀ g, ao = some ⟨g, 0, none⟩ → 0 < n → Raw wr g n) (fun s _ => n - (RowKit.intOf s).toNat)
      case atStart => 
        refine ⟨0, rfl, Nat.zero_le _, Nat.le_refl _, ⟨rfl, rfl, rfl⟩, fun _ _ => rfl, fun g e h0 => ?_⟩
        obtain ⟨g2, cap2, e2, hg2, cur, hc, hr⟩ := raw_own HO.out.1 h0
        obtain rfl : g2 = g := by rw [e] at e2; cases e2; rfl
        exact ⟨cur, (HP.out.2.2.1.block g2 (lt_of_block hc)).trans hc, hr⟩
      case round =>
        obtain ⟨k, rfl, hk, hz, hos, hkeep, hraw⟩ := hrel
        by_cases hlt : k < n
        · obtain ⟨g, cap, e2, hgb, _⟩ := raw_own HO.out.1 (show 0 < n by omega)
          obtain ⟨rfl, rfl⟩ : ao = some ⟨g, 0, none⟩ ∧ cp = cap := by cases e2; exact ⟨rfl, rfl⟩
          have hr := hraw g rfl (by omega)
          obtain ⟨cur, hc, hcl, hcz⟩ := id hr
          obtain ⟨z, hzz⟩ := hcz k hlt
          have cc : wr.cell? ⟨g, k, none⟩ = some (.int .u8 z) := by rw [cell_of_row wr g k _ _ _ hc]; exact hzz
          have cf : wr.frozen? ⟨g, k, none⟩ = false := by simp [World.frozen?, hc]
          obtain ⟨y, hy⟩ : ∃ y, y = bits .xor .u8 z 255 := ⟨_, rfl⟩
          have hrs := hr.set hlt y
          have HR := Lib.hid (And.intro hrs (And.intro hkeep (And.intro hz hos)))
          have hltx : ((k : Nat) : Int) < ((n : Nat) : Int) := by omega
          have hw1 := wrap_up' (m := k) (by omega)
          have hy' : bits .xor .u8 z 255 = y := hy.symm
          clear hr hc hcl hcz hzz hrs hkeep hz hos hraw e2 hy hgb
          go_wp2_with fail
          obtain ⟨hrs, hkeep, hz, hos⟩ := HR.out
          refine ⟨⟨k + 1, by simp, hlt, by simpa [World.setCell] using hz, hos, fun b hb => ?_, fun g2 e _ => ?_⟩, ?_⟩
          · exact (heap_setCell_other _ _ _ _ (hb g rfl (by omega))).trans (hkeep b hb)
          · cases e; exact hrs
          · simp only [RowKit.intOf]; omega
        · obtain rfl : k = n := by omega
          obtain ⟨w5, rfl⟩ : ∃ w5 : World, w5 = wr := ⟨_, rfl⟩
          have bw5 : Below w1.heap.size w1 w5 := by
            have b13 := HO.out.2.2.1.trans (HP.out.2.2.1.mono HO.out.2.2.1.size)
            refine ⟨hos.1.trans b13.os, hos.2.1.trans b13.tape, hos.2.2.trans b13.output, Nat.le_trans b13.size hz, fun b hb => ?_⟩
            refine (hkeep b fun g e h0 => ?_).trans (b13.block b hb)
            obtain ⟨g2, cap2, e2, hg2, _⟩ := raw_own HO.out.1 h0
            rw [e] at e2; cases e2; omega
          have hpt5 : Pt w2.heap.size w5 (.slice a6 vs.length c6) vs ps := HP.out.1.kept fun g hg hgl => hkeep g fun g2 e h0 => by
            obtain ⟨g3, cap3, e3, hg3, cur, hc, _⟩ := raw_own HO.out.1 h0
            rw [e] at e3; cases e3
            have := lt_of_block hc
            omega
          have hww : Below w.heap.size w w5 := H1.out.trans (bw5.mono H1.out.size)
          have H5 := Lib.hid (And.intro hpt5 hww)
          clear hkeep hraw hz hos bw5 hpt5 hww hlt hk
          have hltx : ¬ ((k : Nat) : Int) < ((k : Nat) : Int) := by omega
          go_wp2_with fail
          clear hltx
          go_loopw [9, 53] (fun s9 s53 wr => ∃ (j T : Nat), s53 = .int .i64 ((j : Nat) : Int) ∧ j ≤ m ∧ s9 = .int .i64 ((T : Nat) : Int) ∧ T = (ps.take j).flatten.length ∧ wr = w5) (fun _ s53 _ => m - (RowKit.intOf s53).toNat)
          case atStart => exact ⟨0, 0, rfl, Nat.zero_le _, rfl, rfl, rfl⟩
          case round =>
            obtain ⟨j, T, rfl, hj, rfl, hT, rfl⟩ := hrel
            by_cases hlj : j < m
            · have hjp : j < ps.length := by have := HP.out.2.2.2.1; have := HP.out.2.2.2.2.1; omega
              obtain ⟨g, g2, c2, rfl, hc, hib, hpos, hg1, hg2, hg3, hg4⟩ := H5.out.1.at hjp
              obtain ⟨L, hL⟩ : ∃ L, L = ps[j].length := ⟨_, rfl⟩
              have hc' : wr.cell? ⟨g, j, none⟩ = some (.slice (some ⟨g2, 0, none⟩) L c2) := by rw [hL]; exact hc
              have hle := HP.out.2.1.le ps[j] (List.getElem_mem _)
              rw [← hL] at hle hpos
              have hm6 : m ≤ 100000 := by have := HP.out.2.2.2.2.2; have := HO.out.2.2.2; have := HP.out.2.2.2.1; have := HP.out.2.2.2.2.1; omega
              have hT2 : T + L = (ps.take (j + 1)).flatten.length := by rw [flat_take hjp, List.length_append, hT, hL]
              have hTL : T + L ≤ 100000 := by
                have h1 := flat_le ps (j + 1)
                rw [← hT2] at h1
                have h2 := congrArg List.length HP.out.2.1.all
                rw [List.append_nil] at h2
                have := HO.out.2.2.2
                omega
              have hfull : j + 1 < m → ((L : Nat) : Int) = sz := fun h => by
                rw [hL]
                exact HP.out.2.1.full j ps[j] (List.getElem?_eq_getElem hjp) (.inl (by have := HP.out.2.2.2.1; have := HP.out.2.2.2.2.1; omega))
              have hLz : ¬ sz < ((L : Nat) : Int) := by have := hle.2; omega
              have hL0 : ¬ ((L : Nat) : Int) = 0 := by omega
              have hltj : ((j : Nat) : Int) < ((m : Nat) : Int) := by omega
              have HT := Lib.hid hT2
              by_cases hlast : j + 1 < m
              · have hLs : ((L : Nat) : Int) = sz := hfull hlast
                have hj1 : ((j : Nat) : Int) < ((m : Nat) : Int) - 1 := by omega
                have hsb := sub1 (m := m) (by omega)
                have hsum := add_in (m := T) (n := L) (by omega)
                have hw1 := wrap_up' (m := j) (by omega)
                clear hc hib hpos hg1 hg2 hg3 hg4 hL hle hT hT2 hTL hfull hlast
                go_wp2_with fail
                exact ⟨⟨j + 1, T + L, by simp, hlj, by rw [← hLs, hsum], HT.out, trivial⟩, by simp only [RowKit.intOf]; omega⟩
              · have hj1 : ¬ ((j : Nat) : Int) < ((m : Nat) : Int) - 1 := by omega
                have hsb := sub1 (m := m) (by omega)
                have hsum := add_in (m := T) (n := L) (by omega)
                have hw1 := wrap_up' (m := j) (by omega)
                clear hc hib hpos hg1 hg2 hg3 hg4 hL hle hT hT2 hTL hfull hlast
                go_wp2_with fail
                exact ⟨⟨j + 1, T + L, by simp, hlj, by first | rfl | rw [hsum], HT.out, trivial⟩, by simp only [RowKit.intOf]; omega⟩
            · obtain rfl : j = m := by omega
              have hvl := HP.out.2.2.2.1
              have hmv := HP.out.2.2.2.2.1
              have hto : ps.take j = ps := by rw [hmv, hvl]; exact List.take_length
              have hall : ps.flatten = l := by have := HP.out.2.1.all; rwa [List.append_nil] at this
              rw [hto, hall] at hT
              obtain rfl : T = k := by rw [hT]; exact HL.out.2
              have hwl := Whole_any w2.heap.size a6 c6 vs ps wr.drew (H5.out.1.kept fun g _ _ => rfl) (by rw [hall]; have := HO.out.2.2.2; omega) (by have := HP.out.2.2.2.2.2; have := HO.out.2.2.2; omega)
              rw [← hmv] at hwl
              unfold Joined at hwl
              rw [hall] at hwl
              have hibr := HL.out.1.old H5.out.2
              have hst : ∀ X, Below wr.heap.size wr X → (convert 22 9 (.slice a T c)).run Tryd.prog X = .ok (.string ⟨l.toArray⟩) X := fun X hX => Rf.str_of (hibr.old hX)
              have hltx : ¬ ((j : Nat) : Int) < ((j : Nat) : Int) := by omega
              have HW := Lib.hid hwl
              clear hT hto hall hvl hmv hwl hibr hj hlj
              go_wp2_with fail
              refine begin' 99 (fun ZZ => Below wr.heap.size wr ZZ) hmix ((Below.refl _ wr).drew) (fun hS0 => ?_)
              refine Ht.takeN (i := 0) ⟨some 85, _, _, _, _, _⟩ (.int .i64 0) rfl (by decide) (by kernel_rfl) (by kernel_rfl) (by kernel_rfl) (by kernel_rfl) hS0 (Or.inl ⟨by rfl, by (intro X hX; go_simp)⟩) ?_
              simp only [Act.put, List.setIfInBounds_toArray, List.set_cons_zero, List.set_cons_succ]
              refine Ht.takeN (i := 1) ⟨some 86, _, _, _, _, _⟩ (.bool true) rfl (by decide) (by kernel_rfl) (by kernel_rfl) (by kernel_rfl) (by kernel_rfl) hS0 (Or.inl ⟨by rfl, by (intro X hX; go_simp)⟩) ?_
              simp only [Act.put, List.setIfInBounds_toArray, List.set_cons_zero, List.set_cons_succ]
              refine Ht.takeN (i := 2) ⟨some 87, _, _, _, _, _⟩ (.bool true) rfl (by decide) (by kernel_rfl) (by kernel_rfl) (by kernel_rfl) (by kernel_rfl) hS0 (Or.inl ⟨by rfl, by (intro X hX; go_simp)⟩) ?_
              simp only [Act.put, List.setIfInBounds_toArray, List.set_cons_zero, List.set_cons_succ]
              refine Ht.takeN (i := 3) ⟨some 88, _, _, _, _, _⟩ (.int .i64 ((T : Nat) : Int)) rfl (by decide) (by kernel_rfl) (by kernel_rfl) (by kernel_rfl) (by kernel_rfl) hS0 (Or.inl ⟨by rfl, by (intro X hX; go_simp)⟩) ?_
              simp only [Act.put, List.setIfInBounds_toArray, List.set_cons_zero, List.set_cons_succ]
              refine Ht.takeN (i := 4) ⟨some 89, _, _, _, _, _⟩ (.slice a T c) rfl (by decide) (by kernel_rfl) (by kernel_rfl) (by kernel_rfl) (by kernel_rfl) hS0 (Or.inl ⟨by rfl, by (intro X hX; go_simp)⟩) ?_
              simp only [Act.put, List.setIfInBounds_toArray, List.set_cons_zero, List.set_cons_succ]
              refine Ht.takeN (i := 5) ⟨some 90, _, _, _, _, _⟩ (.int .i64 ((T : Nat) : Int)) rfl (by decide) (by kernel_rfl) (by kernel_rfl) (by kernel_rfl) (by kernel_rfl) hS0 (Or.inl ⟨by rfl, by (intro X hX; go_simp)⟩) ?_
              simp only [Act.put, List.setIfInBounds_toArray, List.set_cons_zero, List.set_cons_succ]
              refine Ht.takeN (i := 6) ⟨some 91, _, _, _, _, _⟩ (.bool true) rfl (by decide) (by kernel_rfl) (by kernel_rfl) (by kernel_rfl) (by kernel_rfl) hS0 (Or.inl ⟨by rfl, by (intro X hX; go_simp)⟩) ?_
              simp only [Act.put, List.setIfInBounds_toArray, List.set_cons_zero, List.set_cons_succ]
              refine Ht.takeN (i := 7) ⟨some 92, _, _, _, _, _⟩ (.bool true) rfl (by decide) (by kernel_rfl) (by kernel_rfl) (by kernel_rfl) (by kernel_rfl) hS0 (Or.inl ⟨by rfl, by (intro X hX; go_simp)⟩) ?_
              simp only [Act.put, List.setIfInBounds_toArray, List.set_cons_zero, List.set_cons_succ]
              refine Ht.takeN (i := 8) ⟨some 93, _, _, _, _, _⟩ (.bool true) rfl (by decide) (by kernel_rfl) (by kernel_rfl) (by kernel_rfl) (by kernel_rfl) hS0 (Or.inl ⟨by rfl, by (intro X hX; go_simp)⟩) ?_
              simp only [Act.put, List.setIfInBounds_toArray, List.set_cons_zero, List.set_cons_succ]
              refine Ht.takeN (i := 9) ⟨some 94, _, _, _, _, _⟩ (.slice a6 j c6) rfl (by decide) (by kernel_rfl) (by kernel_rfl) (by kernel_rfl) (by kernel_rfl) hS0 (Or.inl ⟨by rfl, by (intro X hX; go_simp)⟩) ?_
              simp only [Act.put, List.setIfInBounds_toArray, List.set_cons_zero, List.set_cons_succ]
              refine Ht.takeN (i := 12) ⟨some 97, _, _, _, _, _⟩ (.slice a T c) rfl (by decide) (by kernel_rfl) (by kernel_rfl) (by kernel_rfl) (by kernel_rfl) hS0 (Or.inl ⟨by rfl, by (intro X hX; go_simp)⟩) ?_
              simp only [Act.put, List.setIfInBounds_toArray, List.set_cons_zero, List.set_cons_succ]
              refine Ht.takeN (i := 13) ⟨some 98, _, _, _, _, _⟩ (.string ⟨l.toArray⟩) rfl (by decide) (by kernel_rfl) (by kernel_rfl) (by kernel_rfl) (by kernel_rfl) hS0 (Or.inl ⟨by rfl, by (intro X hX; have := hst X hX; go_simp)⟩) ?_
              simp only [Act.put, List.setIfInBounds_toArray, List.set_cons_zero, List.set_cons_succ]
              refine Ht.step (i := 10) ⟨some 95, _, _, _, _, _⟩ rfl (by kernel_rfl) (by rfl) (fun K hK => ?_)
              refine Ht.enter 6 #[.slice a6 j c6] (by have hen := fun args w => enters_of (P := Tryd.prog) Tryd.func6 (by kernel_rfl) rfl args w; go_simp) (HW.out) ?_
              rintro e W2 ⟨a1, n1, c1, rfl, rfl, hib1, hb2⟩
              have hS1 : Below wr.heap.size wr W2 := hS0.trans hb2
              refine ⟨_, rfl, hK _ _ (fun hn => hS1) (fun hnx => ?_)⟩
              clear hK K hnx
              try simp only [Act.put, List.setIfInBounds_toArray, List.set_cons_zero, List.set_cons_succ]
              refine Ht.step (i := 11) ⟨some 96, _, _, _, _, _⟩ rfl (by kernel_rfl) (by rfl) (fun K hK => ?_)
              have hs1 := Rf.str_of hib1
              go_simp
              refine hK _ _ (fun hn => hS1) (fun hnx => ?_)
              clear hK K hnx
              try simp only [Act.put, List.setIfInBounds_toArray, List.set_cons_zero, List.set_cons_succ]
              refine Ht.takeN (i := 14) ⟨some 99, _, _, _, _, _⟩ (.bool true) rfl (by decide) (by kernel_rfl) (by kernel_rfl) (by kernel_rfl) (by kernel_rfl) hS1 (Or.inl ⟨by rfl, by (intro X hX; go_simp)⟩) ?_
              simp only [Act.put, List.setIfInBounds_toArray, List.set_cons_zero, List.set_cons_succ]
              refine Ht.takeN (i := 15) ⟨some 100, _, _, _, _, _⟩ (.bool true) rfl (by decide) (by kernel_rfl) (by kernel_rfl) (by kernel_rfl) (by kernel_rfl) hS1 (Or.inl ⟨by rfl, by (intro X hX; go_simp)⟩) ?_
              simp only [Act.put, List.setIfInBounds_toArray, List.set_cons_zero, List.set_cons_succ]
              refine Ht.takeN (i := 16) ⟨some 101, _, _, _, _, _⟩ (.bool true) rfl (by decide) (by kernel_rfl) (by kernel_rfl) (by kernel_rfl) (by kernel_rfl) hS1 (Or.inl ⟨by rfl, by (intro X hX; go_simp)⟩) ?_
              simp only [Act.put, List.setIfInBounds_toArray, List.set_cons_zero, List.set_cons_succ]
              refine Ht.takeN (i := 17) ⟨some 102, _, _, _, _, _⟩ (.pointer none) rfl (by decide) (by kernel_rfl) (by kernel_rfl) (by kernel_rfl) (by kernel_rfl) hS1 (Or.inl ⟨by rfl, by (intro X hX; go_simp)⟩) ?_
              simp only [Act.put, List.setIfInBounds_toArray, List.set_cons_zero, List.set_cons_succ]
              refine Ht.step (i := 18) ⟨some 103, _, _, _, _, _⟩ rfl (by kernel_rfl) (by rfl) (fun K hK => ?_)
              refine Ht.enter 7 #[.pointer none] (by have hen := fun args w => enters_of (P := Tryd.prog) Tryd.func7 (by kernel_rfl) rfl args w; go_simp) (Of_nil W2) ?_
              rintro e W3 ⟨rfl, rfl⟩
              refine ⟨_, rfl, hK _ _ (fun hn => hS1) (fun hnx => ?_)⟩
              clear hK K hnx
              try simp only [Act.put, List.setIfInBounds_toArray, List.set_cons_zero, List.set_cons_succ]
              refine Ht.takeN (i := 19) ⟨some 104, _, _, _, _, _⟩ (.int .i64 0) rfl (by decide) (by kernel_rfl) (by kernel_rfl) (by kernel_rfl) (by kernel_rfl) hS1 (Or.inl ⟨by rfl, by (intro X hX; go_simp)⟩) ?_
              simp only [Act.put, List.setIfInBounds_toArray, List.set_cons_zero, List.set_cons_succ]
              refine Ht.takeN (i := 20) ⟨some 105, _, _, _, _, _⟩ (.bool true) rfl (by decide) (by kernel_rfl) (by kernel_rfl) (by kernel_rfl) (by kernel_rfl) hS1 (Or.inl ⟨by rfl, by (intro X hX; go_simp)⟩) ?_
              simp only [Act.put, List.setIfInBounds_toArray, List.set_cons_zero, List.set_cons_succ]
              refine Ht.takeN (i := 21) ⟨some 106, _, _, _, _, _⟩ (.bool true) rfl (by decide) (by kernel_rfl) (by kernel_rfl) (by kernel_rfl) (by kernel_rfl) hS1 (Or.inl ⟨by rfl, by (intro X hX; go_simp)⟩) ?_
              simp only [Act.put, List.setIfInBounds_toArray, List.set_cons_zero, List.set_cons_succ]
              refine Ht.takeN (i := 22) ⟨some 107, _, _, _, _, _⟩ (.bool true) rfl (by decide) (by kernel_rfl) (by kernel_rfl) (by kernel_rfl) (by kernel_rfl) hS1 (Or.inl ⟨by rfl, by (intro X hX; go_simp)⟩) ?_
              simp only [Act.put, List.setIfInBounds_toArray, List.set_cons_zero, List.set_cons_succ]
              refine Ht.takeN (i := 23) ⟨some 108, _, _, _, _, _⟩ (.pointer none) rfl (by decide) (by kernel_rfl) (by kernel_rfl) (by kernel_rfl) (by kernel_rfl) hS1 (Or.inl ⟨by rfl, by (intro X hX; go_simp)⟩) ?_
              simp only [Act.put, List.setIfInBounds_toArray, List.set_cons_zero, List.set_cons_succ]
              refine Ht.step (i := 24) ⟨some 109, _, _, _, _, _⟩ rfl (by kernel_rfl) (by rfl) (fun K hK => ?_)
              refine Ht.enter 8 #[.pointer none] (by have hen := fun args w => enters_of (P := Tryd.prog) Tryd.func8 (by kernel_rfl) rfl args w; go_simp) (Mark_nil W3) ?_
              rintro e W4 ⟨rfl, rfl⟩
              refine ⟨_, rfl, hK _ _ (fun hn => hS1) (fun hnx => ?_)⟩
              clear hK K hnx
              try simp only [Act.put, List.setIfInBounds_toArray, List.set_cons_zero, List.set_cons_succ]
              refine Ht.takeN (i := 25) ⟨some 110, _, _, _, _, _⟩ (.bool true) rfl (by decide) (by kernel_rfl) (by kernel_rfl) (by kernel_rfl) (by kernel_rfl) hS1 (Or.inl ⟨by rfl, by (intro X hX; go_simp)⟩) ?_
              simp only [Act.put, List.setIfInBounds_toArray, List.set_cons_zero, List.set_cons_succ]
              refine Ht.takeN (i := 26) ⟨some 111, _, _, _, _, _⟩ (.bool true) rfl (by decide) (by kernel_rfl) (by kernel_rfl) (by kernel_rfl) (by kernel_rfl) hS1 (Or.inl ⟨by rfl, by (intro X hX; go_simp)⟩) ?_
              simp only [Act.put, List.setIfInBounds_toArray, List.set_cons_zero, List.set_cons_succ]
              refine Ht.takeN (i := 27) ⟨some 4, _, _, _, _, _⟩ (.bool true) rfl (by decide) (by kernel_rfl) (by kernel_rfl) (by kernel_rfl) (by kernel_rfl) hS1 (Or.inl ⟨by rfl, by (intro X hX; go_simp)⟩) ?_
              simp only [Act.put, List.setIfInBounds_toArray, List.set_cons_zero, List.set_cons_succ]
              refine done (by kernel_rfl) ?_
              have HE := Lib.hid (H5.out.2.trans (hS1.mono H5.out.2.size))
              clear hS0 hS1 hst
              go_wp2_with fail
              go_ret
              exact ⟨rfl, HE.out⟩
end Go.Proofs.YtcodjknhnhdkfaaDoor.Im
