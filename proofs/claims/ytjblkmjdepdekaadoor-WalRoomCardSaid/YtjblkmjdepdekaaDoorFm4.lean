
/- frames: the contract of Next -/
import Derived.Test.YtjblkmjdepdekaaDoorFm4a
import Derived.Deep.DeepCutAuto
namespace Go.Proofs.YtjblkmjdepdekaaDoor.Fm
open Go.RowKit Go.Lib Go.Proofs.YtjblkmjdepdekaaDoor.By Go.Proofs.YtjblkmjdepdekaaDoor.Oc Go.Proofs.YtjblkmjdepdekaaDoor.Cr

set_option maxRecDepth 20000 in
set_option maxHeartbeats 4000000 in
theorem next_own (s : Nat) (a : Option Addr) (len cap : Nat) (b : List UInt8) (w : World) (hs : U32 s) (hb : IsB w a len cap b) (hn : Nibs w) :
    Calls Tryd.prog 63 #[.int .u32 s, .slice a len cap] w fun e w' => ∃ ao co, e = .returned (.tuple #[.agg #[.int .u8 ((nxt s b).1.1.toNat : Nat), .slice ao (nxt s b).1.2.length co], .int .i64 ((nxt s b).2.1 : Nat), .int .u32 ((nxt s b).2.2.1 : Nat), .int .i64 (nxt s b).2.2.2]) ∧ w'.ownsRow w.heap.size 5 1 (.slice ao (nxt s b).1.2.length co) (nxt s b).1.2.length (byteCells (nxt s b).1.2) ∧ Below w.heap.size w w' := by
  obtain rfl : b.length = len := hb.1
  have hm := hb.le
  unfold maxLen at hm
  have hb0 : Below w.heap.size w (w.alloc (.cells #[.int .u8 0, .slice none 0 0] 34)) := (Below.refl _ _).alloc (Nat.le_refl _) _
  have HD := Lib.hid (data_any a b.length cap b _ (hb.old hb0))
  have HN := Lib.hid hn
  have HB := Lib.hid hb
  have HS := Lib.hid hs
  have HB0 := Lib.hid hb0
  by_cases he : (dat b).2.2 = 0
  · have hok := dat_ok he
    obtain ⟨g, o, rfl⟩ := isB_spot hb (by omega)
    have hlc : b.length ≤ cap ∧ cap ≤ 9223372036854775807 := by
      obtain ⟨h1, ⟨h2, _⟩ | ⟨x, h2, h3, h4, h5⟩⟩ := id hb
      · cases h2
      · exact ⟨h3, by unfold maxLen at h4; omega⟩
    have hcell : ∀ W, Below w.heap.size w W → ∀ j, j < b.length → W.cell? ⟨g, o + j, none⟩ = some (.int .u8 ((b.getD j 0).toNat : Nat)) := fun W hW j hj => by
      obtain ⟨x, hx, hc⟩ := (hb.old hW).at (k := j) hj
      obtain rfl := Option.some.inj hx
      rw [add_lit'] at hc
      rw [hc]; simp [List.getD, hj]
    have HX : Hid (nxt s b = if (b.drop (dat b).2.1).take 4 ≠ le4 (more s (b.take (dat b).2.1)) then ((0, []), 0, 0, 5) else ((b.getD 1 0, (b.take (dat b).2.1).drop (dat b).1), (dat b).2.1 + 4, more s (b.take (dat b).2.1), 0)) := by
      show _ = _
      conv => lhs; unfold nxt
      rw [if_neg (by simp [he])]
    obtain ⟨D, hD⟩ : ∃ D, D = dat b := ⟨_, rfl⟩
    rw [← hD] at he HD HX hok
    obtain ⟨D1, en, D3⟩ := D
    simp only at he HD HX hok ⊢
    subst he
    have HC := Lib.hid hcell
    have HM := Lib.hid (fun W (hW : Below w.heap.size w W) => more_any s (some ⟨g, o, none⟩) en cap (b.take en) W hs ((hb.old hW).take (by omega)) (hn.old hW))
    obtain ⟨x, hx⟩ : ∃ x, x = more s (b.take en) := ⟨_, rfl⟩
    have hxu : U32 x := by rw [hx]; exact more_u32 _ _
    rw [← hx] at HX HM
    obtain ⟨N, hN⟩ : ∃ N, N = nxt s b := ⟨_, rfl⟩
    rw [← hN] at HX ⊢
    have HU := Lib.hid hxu
    have hcen : ¬ cap = en := by omega
    clear hb hn hb0 hD hs hcell hx hN hxu
    go_enter Tryd.func63, Tryd.ntmps63
    go_wp2_with fail
    refine HD.out.mono ?_
    rintro e W1 ⟨rfl, hb1⟩
    have hx1 : W1.heap[w.heap.size]? = some (.cells #[.int .u8 0, .slice none 0 0] 34 (0, 0)) := heap_old hb1 (heap_alloc_new w _)
    have H1 := Lib.hid (And.intro hx1 (HB0.out.trans (hb1.mono (by simp))))
    have hz1 : w.heap.size < W1.heap.size := by have := hb1.size; simp at this; omega
    clear hb1 hx1
    go_wp2_with fail
    refine (HM.out W1 H1.out.2).mono ?_
    rintro e W1' ⟨rfl, rfl⟩
    go_wp2_with fail
    have hiff := le4_iff (b := b) (en := en) (x := x) (by omega)
    have k0 := HC.out W1 H1.out.2 en (by omega)
    have k1 := HC.out W1 H1.out.2 (en + 1) (by omega)
    have k2 := HC.out W1 H1.out.2 (en + 2) (by omega)
    have k3 := HC.out W1 H1.out.2 (en + 3) (by omega)
    have i1 : (en : Int) + 4 ≤ (cap : Int) := by omega
    have i2 : en + 4 ≤ cap := by omega
    have i3 : IntKind.i64.wrap ((en : Int) + 4) = (en : Int) + 4 := by rw [IntKind.wrap_i64]; omega
    have i4 : ((en : Int) + 4).toNat = en + 4 := by omega
    have i5 : wrap64 ((en : Int) + 4) = (en : Int) + 4 := by unfold wrap64; omega
    have i6 : (en : Int) ≤ (en : Int) + 4 := by omega
    have i7 : (0 : Int) ≤ (en : Int) + 4 := by omega
    have i8 : (en : Int) ≤ (cap : Int) := by omega
    rw [← Nat.add_assoc] at k1 k2 k3
    have hgl : g < W1.heap.size := World.block_lt_of_cell? W1 _ k0
    obtain ⟨B, hB⟩ : ∃ B : Bool, B = ((((b.getD en 0).toNat : Int) == (x : Int) % 256) && ((((b.getD (en + 1) 0).toNat : Int) == (x : Int) / 256 % 256) && ((((b.getD (en + 2) 0).toNat : Int) == (x : Int) / 65536 % 256) && (((b.getD (en + 3) 0).toNat : Int) == (x : Int) / 16777216 % 256)))) := ⟨_, rfl⟩
    have heq4 := run_eq4 ((b.getD en 0).toNat : Nat) ((b.getD (en + 1) 0).toNat : Nat) ((b.getD (en + 2) 0).toNat : Nat) ((b.getD (en + 3) 0).toNat : Nat) ((x : Int) % 256) ((x : Int) / 256 % 256) ((x : Int) / 65536 % 256) ((x : Int) / 16777216 % 256)
    rw [← hB] at heq4
    have hBq : B = true ↔ (b.drop en).take 4 = le4 x := by
      rw [hiff, hB]
      simp only [Bool.and_eq_true, beq_iff_eq]
      constructor <;> intro h <;> refine ⟨?_, ?_, ?_, ?_⟩ <;> omega
    have HBQ := Lib.hid hBq
    obtain ⟨e0, he0⟩ : ∃ e : Nat, e = (b.getD en 0).toNat := ⟨_, rfl⟩
    obtain ⟨e1, he1⟩ : ∃ e : Nat, e = (b.getD (en + 1) 0).toNat := ⟨_, rfl⟩
    obtain ⟨e2, he2⟩ : ∃ e : Nat, e = (b.getD (en + 2) 0).toNat := ⟨_, rfl⟩
    obtain ⟨e3, he3⟩ : ∃ e : Nat, e = (b.getD (en + 3) 0).toNat := ⟨_, rfl⟩
    rw [← he0] at k0 heq4
    rw [← he1] at k1 heq4
    rw [← he2] at k2 heq4
    rw [← he3] at k3 heq4
    have HOK := Lib.hid (And.intro hok (And.intro hlc (And.intro hm hz1)))
    have hat : ∀ w, (Instr.arrayAt 98 (.slice (some ⟨g, o + en, none⟩) 4 (cap - en))).run Tryd.prog w = .ok (.pointer (some ⟨g, o + en, none⟩)) w := fun w => run_arrayAt w 98 _ 4 _ 4 (cap - en) Tryd.underlying98 (Nat.le_refl _)
    have HSS := Lib.hid (And.intro HD (And.intro HN (And.intro HB (And.intro HS (And.intro HB0 (And.intro HX (And.intro HC HM)))))))
    clear hB hBq hiff he0 he1 he2 he3 hok hlc hm hz1 HD HN HB HS HB0 HX HC HM
    go_cut [35] (fun s35 wx => s35 = .bool (!B) ∧ Below W1.heap.size W1 wx)
    case first =>
      go_region_with (first | (go_at_call 51; refine (low_any x _ HU.out).mono ?_; rintro e w' ⟨rfl, hb'⟩; have l0 := (hb'.cell (p := ⟨g, o + en, none⟩) hgl).trans k0; have l1 := (hb'.cell (p := ⟨g, o + en + 1, none⟩) hgl).trans k1; have l2 := (hb'.cell (p := ⟨g, o + en + 2, none⟩) hgl).trans k2; have l3 := (hb'.cell (p := ⟨g, o + en + 3, none⟩) hgl).trans k3))
      all_goals (go_wp2_with fail; go_meet; exact ⟨rfl, (Below.refl _ _).drew.trans hb'⟩)
    case rest =>
      obtain ⟨rfl, hbc⟩ := hcut
      obtain ⟨HD, HN, HB, HS, HB0, HX, HC, HM⟩ := HSS.out
      obtain ⟨hok, hlc, hm, hz1⟩ := HOK.out
      have hwc : Below w.heap.size w wc := H1.out.2.trans (hbc.mono (by omega))
      have hxc : wc.heap[w.heap.size]? = some (.cells #[.int .u8 0, .slice none 0 0] 34 (0, 0)) := heap_old hbc H1.out.1
      have hzc : w.heap.size < wc.heap.size := by have := hbc.size; omega
      obtain ⟨⟨c0, c1⟩, f0, f1⟩ := two_cells hxc
      have HW := Lib.hid (And.intro hwc hxc)
      have HCW := Lib.hid (HC.out wc hwc 1 (by omega))
      clear hbc hwc hxc HD HN HS HB0 HC HM HSS HOK H1 k0 k1 k2 k3 heq4 hat i1 i2 i3 i4 i5 i6 i7 i8 hgl HU
      cases B
      · have hX : N = ((0, []), 0, 0, 5) := by
          rw [HX.out, if_pos]
          intro e
          exact Bool.noConfusion (HBQ.out.2 e)
        subst hX
        clear HX HBQ HCW
        go_wp2
        (try simp only [Exit.inBlock, Exit.then])
        refine bodyPost_ret (v := .tuple #[.agg #[.int .u8 0, .slice none 0 0], .int .i64 0, .int .u32 0, .int .i64 5]) ?_ rfl ⟨none, 0, rfl, ?_, ?_⟩
        · rw [results_cell4 rfl]
          go_simp
        · exact World.ownsRow_nil _ _ _ _
        · exact (HW.out.1.setCell (Nat.le_refl _) _).setCell (Nat.le_refl _) _
      · have hX : N = ((b.getD 1 0, (b.take en).drop D1), en + 4, x, 0) := by
          rw [HX.out, if_neg]
          exact fun h => h (HBQ.out.1 rfl)
        have hk1 : wc.cell? ⟨g, o + 1, none⟩ = some (.int .u8 ((b.getD 1 0).toNat : Nat)) := HCW.out
        obtain ⟨kc, hkc⟩ : ∃ e : UInt8, e = b.getD 1 0 := ⟨_, rfl⟩
        rw [← hkc] at hk1
        obtain ⟨d, hd⟩ : ∃ d, d = (b.take en).drop D1 := ⟨_, rfl⟩
        have hib : IsB wc (some ⟨g, o + D1, none⟩) (en - D1) (cap - D1) d := by
          rw [hd]; exact IsB.sub (HB.out.old HW.out.1) (by omega) (by omega)
        have hdl : d.length = en - D1 := hib.1
        have hib2 : IsB wc.drew (some ⟨g, o + D1, none⟩) (en - D1) (cap - D1) d := hib
        have HI := Lib.hid hib2
        have HDL := Lib.hid (And.intro hdl (And.intro hd hkc))
        have hgl : g < wc.heap.size := World.block_lt_of_cell? wc _ hk1
        have j1 : (D1 : Int) ≤ (en : Int) := by omega
        have j2 : D1 ≤ en := by omega
        have j3 : (en : Int) ≤ (cap : Int) := by omega
        have j4 : en ≤ cap := by omega
        have j5 : ¬ cap = D1 := by omega
        have j6 : wrap64 ((en : Int) + 4) = (en : Int) + 4 := by unfold wrap64; omega
        have j7 : (1 : Int) < (b.length : Int) := by omega
        have j8 : 1 < b.length := by omega
        have hdl2 : d.length ≤ 1000000000000 := by omega
        have HO := Lib.hid (And.intro hok (And.intro hlc hm))
        have hzd : w.heap.size < wc.drew.heap.size := hzc
        rw [← hd, ← hkc] at hX
        clear HX HBQ HCW HB hib hib2 hd hkc hdl hok hlc hm
        subst hX
        go_wp2_with fail
        go_region_with (first
          | (go_at_call 58; refine (clone_any (some ⟨g, o + D1, none⟩) (en - D1) (cap - D1) d _ HI.out hdl2).mono ?_; rintro e w' ⟨v', rfl, hown, hb'⟩; have l1 := (hb'.cell (p := ⟨g, o + 1, none⟩) hgl).trans hk1; obtain ⟨⟨q0, q1⟩, p0, p1⟩ := two_cells (heap_old hb' (show wc.drew.heap[w.heap.size]? = _ from HW.out.2)); obtain ⟨ao, cp, rfl⟩ := own_shape hown))
        all_goals
          have jw : IntKind.i64.wrap ((en : Int) + 4) = ((en + 4 : Nat) : Int) := by have := HO.out; rw [IntKind.wrap_i64]; omega
          have hown2 := ownsRow_setCell_below (a := ⟨w.heap.size, 1, none⟩) (ownsRow_setCell_below (a := ⟨w.heap.size, 0, none⟩) hown hzd (.int .u8 (kc.toNat : Nat))) hzd (.slice ao d.length cp)
          have H9 := Lib.hid (And.intro (Joins.ownsRow_le hown2 (Nat.le_of_lt hzd)) (((HW.out.1.drew.trans (hb'.mono (Nat.le_of_lt hzd))).setCell (p := ⟨w.heap.size, 0, none⟩) (Nat.le_refl _) (.int .u8 (kc.toNat : Nat))).setCell (p := ⟨w.heap.size, 1, none⟩) (Nat.le_refl _) (.slice ao d.length cp)))
          clear hown2 hb' hown
          go_wp2_with fail
          (try simp only [Exit.inBlock, Exit.then])
          refine bodyPost_ret (v := .tuple #[.agg #[.int .u8 (kc.toNat : Nat), .slice ao d.length cp], .int .i64 ((en + 4 : Nat) : Int), .int .u32 (x : Nat), .int .i64 0]) ?_ rfl ?_
          · rw [results_cell4 rfl]
            go_simp
          · exact ⟨ao, cp, rfl, H9.out.1, H9.out.2⟩
  · have hX : nxt s b = ((0, []), 0, 0, (dat b).2.2) := by unfold nxt; rw [if_pos he]
    rw [hX]
    obtain ⟨D, hD⟩ : ∃ D, D = dat b := ⟨_, rfl⟩
    rw [← hD] at he HD ⊢
    obtain ⟨D1, D2, D3⟩ := D
    simp only at he HD ⊢
    have hne : (D3 != 0) = true := by simpa using he
    clear hb hn hb0 hX hD hs
    go_enter Tryd.func63, Tryd.ntmps63
    go_wp2_with fail
    refine HD.out.mono ?_
    rintro e W1 ⟨rfl, hb1⟩
    have hx1 : W1.heap[w.heap.size]? = some (.cells #[.int .u8 0, .slice none 0 0] 34 (0, 0)) := heap_old hb1 (heap_alloc_new w _)
    obtain ⟨⟨c0, c1⟩, f0, f1⟩ := two_cells hx1
    have H1 := Lib.hid (And.intro hx1 (HB0.out.trans (hb1.mono (by simp))))
    clear hb1 hx1
    go_wp2
    (try simp only [Exit.inBlock, Exit.then])
    refine bodyPost_ret (v := .tuple #[.agg #[.int .u8 0, .slice none 0 0], .int .i64 0, .int .u32 0, .int .i64 D3]) ?_ rfl ⟨none, 0, rfl, ?_, ?_⟩
    · rw [results_cell4 rfl]
      go_simp
    · exact World.ownsRow_nil _ _ _ _
    · exact (H1.out.2.setCell (Nat.le_refl _) _).setCell (Nat.le_refl _) _
theorem next_any (s : Nat) (a : Option Addr) (len cap : Nat) (b : List UInt8) (w : World) (hs : U32 s) (hb : IsB w a len cap b) (hn : Nibs w) :
    Calls Tryd.prog 63 #[.int .u32 s, .slice a len cap] w fun e w' => ∃ ao co, e = .returned (.tuple #[.agg #[.int .u8 ((nxt s b).1.1.toNat : Nat), .slice ao (nxt s b).1.2.length co], .int .i64 ((nxt s b).2.1 : Nat), .int .u32 ((nxt s b).2.2.1 : Nat), .int .i64 (nxt s b).2.2.2]) ∧ IsB w' ao (nxt s b).1.2.length co (nxt s b).1.2 ∧ Below w.heap.size w w' :=
  (next_own s a len cap b w hs hb hn).mono fun _ _ ⟨ao, co, he, ho, hb⟩ => by
    obtain ⟨x9, y9, hv9, hib9⟩ := isB_own ho
    simp only [Value.slice.injEq, true_and] at hv9
    obtain ⟨rfl, rfl⟩ := hv9
    exact ⟨ao, co, he, hib9, hb⟩
end Go.Proofs.YtjblkmjdepdekaaDoor.Fm
