/- the walk of FrameChains -/
import Derived.Test.YtadlfdjomcdpbaaDoorFrameBytesW
namespace Go.Proofs.YtadlfdjomcdpbaaDoor.Fm
open Go.RowKit Go.Lib Go.Proofs.YtadlfdjomcdpbaaDoor.By Go.Proofs.YtadlfdjomcdpbaaDoor.Oc Go.Proofs.YtadlfdjomcdpbaaDoor.Cr

/-- of another sum ahead the sum is another -/
theorem run_inj {s t : Nat} (hs : U32 s) (ht : U32 t) : ∀ l : List UInt8, run s l = run t l → s = t
  | [], h => h
  | c :: l, h => by
    have h1 : upd s c = upd t c := run_inj (upd_u32 hs c) (upd_u32 ht c) l h
    have h2 := it_inj (hs.xor (U32.byte c)) (ht.xor (U32.byte c)) 8 h1
    have := congrArg (fun z => z ^^^ c.toNat) h2
    simpa only [Nat.xor_assoc, Nat.xor_self, Nat.xor_zero] using this
theorem more_inj {s t : Nat} (hs : U32 s) (ht : U32 t) (l : List UInt8) (h : more s l = more t l) : s = t := by
  have h1 : run (tn s) l = run (tn t) l := by
    have := congrArg tn h
    unfold more at this
    rwa [tn_tn (run_u32 (tn_u32 _) _), tn_tn (run_u32 (tn_u32 _) _)] at this
  have h2 := run_inj (tn_u32 s) (tn_u32 t) l h1
  have := congrArg tn h2
  rwa [tn_tn hs, tn_tn ht] at this
theorem le4_inj {x y : Nat} (hx : U32 x) (hy : U32 y) (h : le4 x = le4 y) : x = y := by
  unfold le4 at h
  simp only [List.cons.injEq, and_true] at h
  obtain ⟨h0, h1, h2, h3⟩ := h
  have k : ∀ (a b : Nat), a < 256 → b < 256 → a.toUInt8 = b.toUInt8 → a = b := fun a b ha hb e => by
    have := congrArg UInt8.toNat e
    rwa [byte_nat ha, byte_nat hb] at this
  have e0 := k _ _ (by omega) (by omega) h0
  have e1 := k _ _ (by omega) (by omega) h1
  have e2 := k _ _ (by omega) (by omega) h2
  have e3 := k _ _ (by omega) (by omega) h3
  unfold U32 at hx hy
  omega
/-- behind another sum it is none -/
theorem nxt_other {k : UInt8} {d : List UInt8} {s t : Nat} (r : List UInt8) (hs : U32 s) (ht : U32 t) (hne : t ≠ s) (h : d.length ≤ 1024) : nxt t (fb s k d ++ r) = ((0, []), 0, 0, 5) := by
  have e0 : fb s k d ++ r = hd k d ++ (le4 (fs s k d) ++ r) := by unfold fb; rw [List.append_assoc]
  have e1 := dat_hd (k := k) (t := le4 (fs s k d) ++ r) h (by simp [le4_len])
  unfold nxt
  rw [e0, e1]
  simp only [ne_eq, not_true_eq_false, if_false]
  rw [List.drop_left, List.take_left, List.take_left' (le4_len _), if_pos]
  intro e
  exact hne (more_inj ht hs _ (le4_inj (more_u32 _ _) (more_u32 _ _) e.symm))
theorem xor1_ne {s : Nat} (h : U32 s) : s ^^^ 1 ≠ s ∧ U32 (s ^^^ 1) := by
  refine ⟨fun e => ?_, h.xor (by unfold U32; decide)⟩
  have := congrArg (fun z => s ^^^ z) e
  simp only [← Nat.xor_assoc, Nat.xor_self, Nat.zero_xor] at this
  exact absurd this (by decide)
theorem good_two {k j : UInt8} {d f : List UInt8} (s : Nat) (h1 : d.length ≤ 1024) (h2 : f.length ≤ 1024) : good (fb s k d ++ fb (fs s k d) j f) 0 s = ((fb s k d).length + (fb (fs s k d) j f).length, fs (fs s k d) j f) := by
  have e1 := good_fb (p := []) (t := fb (fs s k d) j f) (k := k) s h1
  have e2 := good_fb (p := fb s k d) (t := []) (k := j) (fs s k d) h2
  simp only [List.nil_append, List.length_nil, List.append_nil] at e1 e2
  rw [e1, e2, good_all, List.length_append]

theorem own_none (w : World) : (w.alloc (.cells #[] 5)).ownsRow w.heap.size 5 1 (.slice (some ⟨w.heap.size, 0, none⟩) 0 0) 0 (byteCells []) := World.ownsRow_made w #[] 0 (Nat.le_refl _) (Nat.zero_le _) rfl

set_option maxRecDepth 20000 in
set_option maxHeartbeats 8000000 in
theorem chains_walk (s : Nat) (k1 : UInt8) (a1 : Option Addr) (n1 c1 : Nat) (d1 : List UInt8) (k2 : UInt8) (a2 : Option Addr) (n2 c2 : Nat) (d2 : List UInt8) (w : World) (hs : U32 s) (h1 : IsB w a1 n1 c1 d1) (h2 : IsB w a2 n2 c2 d2) (hn : Nibs w) :
    Calls Tryd.prog 5 #[.int .u32 s, .agg #[.int .u8 (k1.toNat : Nat), .slice a1 n1 c1], .agg #[.int .u8 (k2.toNat : Nat), .slice a2 n2 c2]] w fun e w' => e = .returned (.bool true) ∧ Below w.heap.size w w' := by
  obtain rfl : d1.length = n1 := h1.1
  obtain rfl : d2.length = n2 := h2.1
  have m1 := h1.le
  have m2 := h2.le
  unfold maxLen at m1 m2
  obtain ⟨O1, hO1⟩ : ∃ O, O = Obj.cells #[.int .u8 (k1.toNat : Nat), .slice a1 d1.length c1] 25 := ⟨_, rfl⟩
  obtain ⟨O2, hO2⟩ : ∃ O, O = Obj.cells #[.int .u8 (k2.toNat : Nat), .slice a2 d2.length c2] 25 := ⟨_, rfl⟩
  have hb0 : Below w.heap.size w ((w.alloc O1).alloc O2) := ((Below.refl _ _).alloc (Nat.le_refl _) _).alloc (by simp) _
  have hx1 : ((w.alloc O1).alloc O2).heap[w.heap.size]? = some O1 := heap_old ((Below.refl _ _).alloc (Nat.le_refl _) _) (heap_alloc_new w _)
  have hx2 : ((w.alloc O1).alloc O2).heap[w.heap.size + 1]? = some O2 := by
    have := heap_alloc_new (w.alloc O1) O2
    simpa using this
  have key : ∀ wa, Below ((w.alloc O1).alloc O2).heap.size ((w.alloc O1).alloc O2) wa → Below w.heap.size w wa ∧ wa.heap[w.heap.size]? = some O1 ∧ wa.heap[w.heap.size + 1]? = some O2 := fun wa hb => ⟨below_two hb0 hb, heap_old hb hx1, heap_old hb hx2⟩
  have HK := Lib.hid key
  have HL := Lib.hid (lives_any _ (hn.old hb0))
  rw [hO1, hO2] at HK HL
  have HN := Lib.hid hn
  have H1 := Lib.hid h1
  have H2 := Lib.hid h2
  have HS := Lib.hid hs
  clear h1 h2 hn hs hb0 hx1 hx2 key hO1 hO2 O1 O2
  by_cases b1 : 300 < d1.length
  · go_enter Tryd.func5, Tryd.ntmps5
    go_wp2_with fail
    refine HL.out.mono ?_
    rintro e wa ⟨rfl, hb⟩
    obtain ⟨hba, hx1, hx2⟩ := HK.out wa hb
    obtain ⟨⟨q0, q1⟩, _⟩ := two_cells hx1
    obtain ⟨⟨q2, q3⟩, _⟩ := two_cells hx2
    have HL2 := Lib.hid (lives_any wa (HN.out.old hba))
    have HB := Lib.hid hba
    clear hb hx1 hx2 hba
    go_wp2_with fail
    refine HL2.out.mono ?_
    rintro e wb ⟨rfl, hb2⟩
    go_wp2
    go_ret
    exact ⟨rfl, below_two HB.out hb2⟩
  · by_cases b2 : 300 < d2.length
    · go_enter Tryd.func5, Tryd.ntmps5
      go_wp2_with fail
      refine HL.out.mono ?_
      rintro e wa ⟨rfl, hb⟩
      obtain ⟨hba, hx1, hx2⟩ := HK.out wa hb
      obtain ⟨⟨q0, q1⟩, _⟩ := two_cells hx1
      obtain ⟨⟨q2, q3⟩, _⟩ := two_cells hx2
      have HL2 := Lib.hid (lives_any wa (HN.out.old hba))
      have HB := Lib.hid hba
      clear hb hx1 hx2 hba
      go_wp2_with fail
      refine HL2.out.mono ?_
      rintro e wb ⟨rfl, hb2⟩
      go_wp2
      go_ret
      exact ⟨rfl, below_two HB.out hb2⟩
    · have g1 := good_two (k := k1) (j := k2) (d := d1) (f := d2) s (by omega) (by omega)
      have hs1 : U32 (fs s k1 d1) := more_u32 _ _
      have g2 := nxt_fb (k := k2) (d := d2) (fs s k1 d1) [] (by omega)
      have hxo := xor1_ne hs1
      have g3 := nxt_other (k := k2) (d := d2) [] hs1 hxo.2 hxo.1 (by omega)
      rw [List.append_nil] at g2 g3
      have le1 := fb_le (k := k1) (d := d1) s (by omega)
      have le2 := fb_le (k := k2) (d := d2) (fs s k1 d1) (by omega)
      have hd1 : d1.length ≤ 1024 := by omega
      have hd2 : d2.length ≤ 1024 := by omega
      have F1 := Lib.hid (fun W (hW : Below w.heap.size w W) => frBytes_ok s k1 a1 d1.length c1 d1 W HS.out (H1.out.old hW) hd1 (HN.out.old hW))
      have F2 := Lib.hid (fun W (hW : Below w.heap.size w W) => frBytes_ok (fs s k1 d1) k2 a2 d2.length c2 d2 W hs1 (H2.out.old hW) hd2 (HN.out.old hW))
      have hs2 : U32 (fs (fs s k1 d1) k2 d2) := more_u32 _ _
      have hxx : bits .xor .u32 ((fs s k1 d1 : Nat) : Int) 1 = ((fs s k1 d1 ^^^ 1 : Nat) : Int) := xor32 hs1 (b := 1) (by unfold U32; decide)
      obtain ⟨A1, hA1⟩ : ∃ A, A = fb s k1 d1 := ⟨_, rfl⟩
      obtain ⟨s1, hs1e⟩ : ∃ A, A = fs s k1 d1 := ⟨_, rfl⟩
      rw [← hA1, ← hs1e] at g1 F1
      rw [← hs1e] at g2 g3 le2 F2 hs1 hs2 hxo hxx
      rw [← hA1] at le1
      obtain ⟨A2, hA2⟩ : ∃ A, A = fb s1 k2 d2 := ⟨_, rfl⟩
      obtain ⟨s2, hs2e⟩ : ∃ A, A = fs s1 k2 d2 := ⟨_, rfl⟩
      rw [← hA2, ← hs2e] at g1 g2 F2
      rw [← hA2] at g3 le2
      rw [← hs2e] at hs2
      obtain ⟨t1, ht1⟩ : ∃ t, t = s1 ^^^ 1 := ⟨_, rfl⟩
      rw [← ht1] at hxx g3 hxo
      have HG := Lib.hid (And.intro g1 (And.intro g2 (And.intro g3 (And.intro hs1 (And.intro hs2 hxo.2)))))
      clear g1 g2 g3 hxo hs1 hs2 hA1 hs1e hA2 hs2e ht1
      go_enter Tryd.func5, Tryd.ntmps5
      go_wp2_with fail
      refine HL.out.mono ?_
      rintro e wa ⟨rfl, hb⟩
      obtain ⟨hba, hx1, hx2⟩ := HK.out wa hb
      obtain ⟨⟨q0, q1⟩, _⟩ := two_cells hx1
      obtain ⟨⟨q2, q3⟩, _⟩ := two_cells hx2
      have HB := Lib.hid (And.intro hx1 (And.intro hx2 hba))
      clear hb hx1 hx2 hba HL
      go_wp2_with fail
      refine (F1.out wa HB.out.2.2).mono ?_
      rintro e wb ⟨a3, c3, rfl, hown3, hb3⟩
      have hx1 := heap_old hb3 HB.out.1
      have hx2 := heap_old hb3 HB.out.2.1
      obtain ⟨⟨q0, q1⟩, _⟩ := two_cells hx1
      obtain ⟨⟨q2, q3⟩, _⟩ := two_cells hx2
      have HB3 := Lib.hid (And.intro hx1 (And.intro hx2 (And.intro (below_two HB.out.2.2 hb3) hown3)))
      clear hown3 hb3 hx1 hx2 HB
      go_wp2_with fail
      refine (F2.out wb HB3.out.2.2.1).mono ?_
      rintro e wc ⟨a4, c4, rfl, hown4, hb4⟩
      have hx1 := heap_old hb4 HB3.out.1
      have hx2 := heap_old hb4 HB3.out.2.1
      obtain ⟨⟨q0, q1⟩, _⟩ := two_cells hx1
      obtain ⟨⟨q2, q3⟩, _⟩ := two_cells hx2
      have i3 := isB_of_own (own_below HB3.out.2.2.2 hb4 (Nat.le_refl _)) rfl
      have i4 := isB_of_own hown4 rfl
      have HB4 := Lib.hid (And.intro hx1 (And.intro hx2 (And.intro (below_two HB3.out.2.2.1 hb4) (And.intro i3 i4))))
      clear hown4 hb4 hx1 hx2 HB3 i3 i4
      have N1 := next_any s1 a4 A2.length c4 A2 wc HG.out.2.2.2.1 HB4.out.2.2.2.2 (HN.out.old HB4.out.2.2.1)
      rw [HG.out.2.1] at N1
      have N1 := Lib.hid N1
      go_wp2_with fail
      refine N1.out.mono ?_
      rintro e wd ⟨a5, c5, rfl, hib5, hb5⟩
      have hal : Below wc.heap.size wc (wd.alloc (.cells #[.int .u8 (k2.toNat : Nat), .slice a5 d2.length c5] 25)) := hb5.alloc hb5.size _
      have hx5 := heap_alloc_new wd (.cells #[.int .u8 (k2.toNat : Nat), .slice a5 d2.length c5] 25)
      have hib5' := hib5.old ((Below.refl _ _).alloc (Nat.le_refl _) (.cells #[.int .u8 (k2.toNat : Nat), .slice a5 d2.length c5] 25))
      obtain ⟨We, hWe⟩ : ∃ W, W = wd.alloc (.cells #[.int .u8 (k2.toNat : Nat), .slice a5 d2.length c5] 25) := ⟨_, rfl⟩
      rw [← hWe] at hal hx5 hib5'
      have hx1 := heap_old hal HB4.out.1
      have hx2 := heap_old hal HB4.out.2.1
      have HB5 := Lib.hid (And.intro hx1 (And.intro hx2 (And.intro (below_two HB4.out.2.2.1 hal) (And.intro (HB4.out.2.2.2.1.old hal) (And.intro (HB4.out.2.2.2.2.old hal) (And.intro hx5 hib5'))))))
      have N2 := next_any t1 a4 A2.length c4 A2 We HG.out.2.2.2.2.2 HB5.out.2.2.2.2.1 (HN.out.old HB5.out.2.2.1)
      rw [HG.out.2.2.1] at N2
      have N2 := Lib.hid N2
      have hzz : wd.heap.size < We.heap.size := by rw [hWe]; simp
      clear hal hx5 hib5 hib5' hx1 hx2 hb5 HB4 N1
      go_wp2_with fail
      rw [← hWe]
      clear hWe
      refine N2.out.mono ?_
      rintro e wf ⟨a6, c6, rfl, _, hb6⟩
      have hal : Below We.heap.size We (wf.alloc (.cells #[.int .u8 0, .slice a6 0 c6] 25)) := hb6.alloc hb6.size _
      have hal2 := hal.alloc (by have := hal.size; simp only [World.size_alloc] at this ⊢; omega) (.cells #[] 5)
      have i3 := HB5.out.2.2.2.1.old hal2
      have hz6 : We.heap.size ≤ wf.heap.size := hb6.size
      have own0 := own_none (wf.alloc (.cells #[.int .u8 0, .slice a6 0 c6] 25))
      rw [World.size_alloc] at own0
      have hz7 : ((wf.alloc (.cells #[.int .u8 0, .slice a6 0 c6] 25)).alloc (.cells #[] 5)).heap.size = wf.heap.size + 2 := by simp
      obtain ⟨Wh, hWh⟩ : ∃ W, W = (wf.alloc (.cells #[.int .u8 0, .slice a6 0 c6] 25)).alloc (.cells #[] 5) := ⟨_, rfl⟩
      rw [← hWh] at own0 i3 hz7 hal2
      have HAL := Lib.hid hal2
      clear hal hal2 hb6 N2
      go_wp2_with (at_builtin; rw [← hWh]; refine wpList_append_bytes rfl _ _ rfl (wf.heap.size + 1) _ 0 [] rfl own0 a3 A1.length c3 A1 rfl i3 ?c1 ?c2 ?_)
      case c1 => omega
      case c2 => omega
      · intro ao cp w7 hown7 hg7
        rw [← hWh] at hg7
        have hb7 : Below (wf.heap.size + 1) Wh w7 := (Below.refl _ _).grown hg7 (by omega) (fun k hk => (own0.lt k hk).1)
        have hz8 : Wh.heap.size ≤ w7.heap.size := hb7.size
        have hwe7 : Below We.heap.size We w7 := HAL.out.trans (hb7.mono (by omega))
        have i4 := HB5.out.2.2.2.2.1.old hwe7
        have HW7 := Lib.hid hwe7
        clear hg7 hb7 own0 i3 hwe7 HAL hWh
        go_wp2_with (at_builtin; refine wpList_append_bytes rfl _ _ rfl (wf.heap.size + 1) _ A1.length A1 rfl hown7 a4 A2.length c4 A2 rfl i4 ?c1 ?c2 ?_)
        case c1 => omega
        case c2 => omega
        · intro ao2 cp2 w8 hown8 hg8
          have hwe8 : Below We.heap.size We w8 := HW7.out.grown hg8 (by omega) (fun k hk => by have := (hown7.lt k hk).1; omega)
          have hib8 := isB_of_own hown8 (by rw [List.length_append])
          have hw8 := below_two HB5.out.2.2.1 hwe8
          have G := good_any s ao2 _ cp2 (A1 ++ A2) w8 HS.out hib8 (HN.out.old hw8)
          rw [HG.out.1] at G
          have G := Lib.hid G
          have HW8 := Lib.hid hwe8
          clear hown7 hown8 hg8 hwe8 hib8 hw8 i4 HW7
          go_wp2_with fail
          refine G.out.mono ?_
          rintro e w9 ⟨rfl, hb9⟩
          have hwe9 : Below We.heap.size We w9 := HW8.out.trans (hb9.mono HW8.out.size)
          have hx1 := heap_old hwe9 HB5.out.1
          have hx2 := heap_old hwe9 HB5.out.2.1
          have hx5 := heap_old hwe9 HB5.out.2.2.2.2.2.1
          have hib5 := HB5.out.2.2.2.2.2.2.old hwe9
          have hw9 := below_two HB5.out.2.2.1 hwe9
          obtain ⟨⟨q0, q1⟩, _⟩ := two_cells hx1
          obtain ⟨⟨q2, q3⟩, _⟩ := two_cells hx2
          obtain ⟨⟨q4, q5⟩, _⟩ := two_cells hx5
          have S := Lib.hid (same_true k2 a5 d2.length c5 a2 d2.length c2 d2 w9 hib5 (H2.out.old hw9))
          have HW9 := Lib.hid hw9
          clear hb9 hwe9 hx1 hx2 hx5 hib5 hw9 HW8 G HB5
          go_wp2_with fail
          refine S.out.mono ?_
          rintro e w10 ⟨rfl, hb10⟩
          have HF := Lib.hid (below_two HW9.out hb10)
          clear hb10
          go_wp2
          go_ret
          exact ⟨rfl, HF.out⟩
end Go.Proofs.YtadlfdjomcdpbaaDoor.Fm
