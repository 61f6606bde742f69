/- frames: the contract of the law's next -/
import Derived.Test.YtadlfdjomcdpbaaDoorFmN
import Derived.Test.YtadlfdjomcdpbaaDoorFm5
namespace Go.Proofs.YtadlfdjomcdpbaaDoor.Fm
open Go.RowKit Go.Lib Go.Proofs.YtadlfdjomcdpbaaDoor.By Go.Proofs.YtadlfdjomcdpbaaDoor.Oc Go.Proofs.YtadlfdjomcdpbaaDoor.Cr

theorem isB_of_own' {w : World} {B : Nat} {a : Option Addr} {cp : Nat} {l : List UInt8} (h : w.ownsRow B 5 1 (.slice a l.length cp) l.length (byteCells l)) : IsB w a l.length cp l := by
  obtain ⟨x, y, hv, hib⟩ := isB_own h
  simp only [Value.slice.injEq, true_and] at hv
  obtain ⟨rfl, rfl⟩ := hv
  exact hib
theorem rdr_nil : rdr [] = (0, 0, 4) := by unfold rdr; simp [dec]
theorem nxt_e {s : Nat} {b : List UInt8} {e : Int} (h : (dat b).2.2 = e) (he : e ≠ 0) : nxt s b = ((0, []), 0, 0, e) := by
  unfold nxt; rw [if_pos (by rw [h]; exact he), h]

set_option maxRecDepth 20000 in
set_option maxHeartbeats 4000000 in
theorem next_l (s : Nat) (a : Option Addr) (len cap : Nat) (b : List UInt8) (w : World) (hs : U32 s) (hb : IsB w a len cap b) (hl : len ≤ 1000000) (hn : Nibs w) :
    Calls Tryd.prog 13 #[.int .u32 s, .slice a len cap] w fun e w' => ∃ ao co, e = .returned (.tuple #[.agg #[.int .u8 ((nxt s b).1.1.toNat : Nat), .slice ao (nxt s b).1.2.length co], .int .i64 ((nxt s b).2.1 : Nat), .int .u32 ((nxt s b).2.2.1 : Nat), .int .i64 (nxt s b).2.2.2]) ∧ (∀ W, IsB W a len cap b → IsB W ao (nxt s b).1.2.length co (nxt s b).1.2) ∧ Below w.heap.size w w' := by
  obtain rfl : b.length = len := hb.1
  have hlc : b.length ≤ cap ∧ cap ≤ 9223372036854775807 := by
    obtain ⟨h1, ⟨h2, h3, h4⟩ | ⟨x, h2, h3, h4, h5⟩⟩ := id hb
    · omega
    · exact ⟨h3, by unfold maxLen at h4; omega⟩
  obtain ⟨Z, hZ⟩ : ∃ Z, Z = Obj.cells #[.int .u8 0, .slice none 0 0] 25 := ⟨_, rfl⟩
  have hb0 : Below w.heap.size w ((w.alloc Z).alloc Z) := ((Below.refl _ _).alloc (Nat.le_refl _) _).alloc (by simp) _
  have hx1 : ((w.alloc Z).alloc Z).heap[w.heap.size]? = some Z := heap_old ((Below.refl _ _).alloc (Nat.le_refl _) _) (heap_alloc_new w _)
  have hx2 : ((w.alloc Z).alloc Z).heap[w.heap.size + 1]? = some Z := by
    have := heap_alloc_new (w.alloc Z) Z
    simpa using this
  rw [hZ] at hb0 hx1 hx2
  obtain ⟨N, hN⟩ : ∃ N, N = nxt s b := ⟨_, rfl⟩
  rw [← hN]
  by_cases h0 : 0 < b.length ∧ b.getD 0 0 ≠ 197
  · have hX : N = ((0, []), 0, 0, 2) := by rw [hN]; exact nxt_e (by unfold dat; rw [if_pos h0]) (by decide)
    subst hX
    obtain ⟨g, o, rfl⟩ := isB_spot hb (by omega)
    obtain ⟨x, hx, hc⟩ := hb.at (k := 0) h0.1
    obtain rfl := Option.some.inj hx
    rw [add_lit', Nat.add_zero] at hc
    have hg : g < w.heap.size := World.block_lt_of_cell? w _ hc
    have hg' : g < w.heap.size + 1 := by omega
    obtain ⟨c, hcc⟩ : ∃ c : Nat, c = (b.getD 0 0).toNat := ⟨_, rfl⟩
    have hne : ((c : Int) == 197) = false := by
      have : c ≠ 197 := fun e => h0.2 (UInt8.toNat_inj.1 (by rw [← hcc, e]; rfl))
      simp; omega
    have hc0 : w.cell? ⟨g, o, none⟩ = some (.int .u8 c) := by
      rw [hc, hcc]; simp [List.getD, h0.1]
    have hpos := h0.1
    have HB := Lib.hid hb0
    clear hb hN h0 hc hb0 hn hs hx1 hx2 hcc hZ
    go_enter Tryd.func13, Tryd.ntmps13
    go_wp2_with fail
    (try simp only [Exit.inBlock, Exit.then])
    refine bodyPost_ret (v := .tuple #[.agg #[.int .u8 0, .slice none 0 0], .int .i64 0, .int .u32 0, .int .i64 2]) ?_ rfl ⟨none, 0, rfl, fun W _ => isB_nil W, ?_⟩
    · rw [results_cell4 rfl]
      go_simp
    · exact HB.out
  · by_cases h2 : b.length < 2
    · have hX : N = ((0, []), 0, 0, 4) := by rw [hN]; exact nxt_e (by unfold dat; rw [if_neg h0, if_pos h2]) (by decide)
      subst hX
      have HB := Lib.hid hb0
      by_cases hz : b.length = 0
      · clear hb hN h0 hb0 hn hs hx1 hx2 hZ
        go_enter Tryd.func13, Tryd.ntmps13
        go_wp2_with fail
        (try simp only [Exit.inBlock, Exit.then])
        refine bodyPost_ret (v := .tuple #[.agg #[.int .u8 0, .slice none 0 0], .int .i64 0, .int .u32 0, .int .i64 4]) ?_ rfl ⟨none, 0, rfl, fun W _ => isB_nil W, ?_⟩
        · rw [results_cell4 rfl]
          go_simp
        · exact HB.out
      · obtain ⟨g, o, rfl⟩ := isB_spot hb (by omega)
        obtain ⟨x, hx, hc⟩ := hb.at (k := 0) (by omega)
        obtain rfl := Option.some.inj hx
        rw [add_lit', Nat.add_zero] at hc
        have hg : g < w.heap.size := World.block_lt_of_cell? w _ hc
        have hg' : g < w.heap.size + 1 := by omega
        have h197 : b.getD 0 0 = 197 := Classical.byContradiction fun h => h0 ⟨by omega, h⟩
        have hc0 : w.cell? ⟨g, o, none⟩ = some (.int .u8 197) := by
          rw [hc]
          have : b[0]'(by omega) = 197 := by rw [← h197]; simp [List.getD, show 0 < b.length by omega]
          rw [this]; rfl
        have hl1 : b.length = 1 := by omega
        rw [hl1]
        clear hb hN h0 hb0 hn hs hx1 hx2 hZ hc h197 h2 hz hl
        go_enter Tryd.func13, Tryd.ntmps13
        go_wp2_with fail
        (try simp only [Exit.inBlock, Exit.then])
        refine bodyPost_ret (v := .tuple #[.agg #[.int .u8 0, .slice none 0 0], .int .i64 0, .int .u32 0, .int .i64 4]) ?_ rfl ⟨none, 0, rfl, fun W _ => isB_nil W, ?_⟩
        · rw [results_cell4 rfl]
          go_simp
        · exact HB.out
    · obtain ⟨g, o, rfl⟩ := isB_spot hb (by omega)
      obtain ⟨x, hx, hc⟩ := hb.at (k := 0) (by omega)
      obtain rfl := Option.some.inj hx
      rw [add_lit', Nat.add_zero] at hc
      have hg : g < w.heap.size := World.block_lt_of_cell? w _ hc
      have hg' : g < w.heap.size + 1 := by omega
      have h197 : b.getD 0 0 = 197 := Classical.byContradiction fun h => h0 ⟨by omega, h⟩
      have hc0 : w.cell? ⟨g, o, none⟩ = some (.int .u8 197) := by
        rw [hc]
        have : b[0]'(by omega) = 197 := by rw [← h197]; simp [List.getD, show 0 < b.length by omega]
        rw [this]; rfl
      have hdr := dat_rdr h0 h2
      have HRD := Lib.hid (read_l (b.drop 2) ((w.alloc (.cells #[.int .u8 0, .slice none 0 0] 25)).alloc (.cells #[.int .u8 0, .slice none 0 0] 25)) (by rw [List.length_drop]; omega))
      obtain ⟨R, hR⟩ : ∃ R, R = rdr (b.drop 2) := ⟨_, rfl⟩
      rw [← hR] at hdr HRD
      have HRE := Lib.hid hR
      clear hR
      obtain ⟨R1, R2, R3⟩ := R
      simp only at hdr HRD
      have HB := Lib.hid hb
      have HB0 := Lib.hid (And.intro hb0 (And.intro hx1 hx2))
      have HDR := Lib.hid hdr
      have HNN := Lib.hid (And.intro hN (And.intro hn hs))
      have h2' : 2 ≤ b.length := by omega
      clear hb hb0 hN hn hs hx1 hx2 hZ hc h197 hdr h0 h2
      by_cases hcap : cap = 2
      · have hbl : b.length = 2 := by omega
        have hnil : b.drop 2 = [] := by rw [List.drop_eq_nil_iff]; omega
        have hRR : (R1, R2, R3) = (0, 0, 4) := by rw [HRE.out, hnil, rdr_nil]
        obtain ⟨rfl, h3⟩ := Prod.mk.inj hRR
        obtain ⟨rfl, rfl⟩ := Prod.mk.inj h3
        have hX : N = ((0, []), 0, 0, 4) := by
          rw [HNN.out.1]; refine nxt_e ?_ (by decide); rw [HDR.out, if_pos (by decide)]
        subst hX
        have hcv : (convert 23 9 (.slice (some ⟨g, o, none⟩) 0 0)).run Tryd.prog ((w.alloc (.cells #[.int .u8 0, .slice none 0 0] 25)).alloc (.cells #[.int .u8 0, .slice none 0 0] 25)) = .ok (.string ⟨(b.drop 2).toArray⟩) ((w.alloc (.cells #[.int .u8 0, .slice none 0 0] 25)).alloc (.cells #[.int .u8 0, .slice none 0 0] 25)) := by
          have := IsB.sub0 (HB.out.old HB0.out.1) (j := b.length) (Nat.le_refl _)
          rw [List.take_length, hcap] at this
          exact str_of this
        clear hRR h3 hnil HDR HNN HRE
        go_enter Tryd.func13, Tryd.ntmps13
        go_wp2_with fail
        refine HRD.out.mono ?_
        rintro e W' ⟨rfl, rfl⟩
        go_wp2_with fail
        (try simp only [Exit.inBlock, Exit.then])
        refine bodyPost_ret (v := .tuple #[.agg #[.int .u8 0, .slice none 0 0], .int .i64 0, .int .u32 0, .int .i64 4]) ?_ rfl ⟨none, 0, rfl, fun W _ => isB_nil W, ?_⟩
        · rw [results_cell4 rfl]
          go_simp
        · exact HB0.out.1
      · have hcv : (convert 23 9 (.slice (some ⟨g, o + 2, none⟩) (b.length - 2) (cap - 2))).run Tryd.prog ((w.alloc (.cells #[.int .u8 0, .slice none 0 0] 25)).alloc (.cells #[.int .u8 0, .slice none 0 0] 25)) = .ok (.string ⟨(b.drop 2).toArray⟩) ((w.alloc (.cells #[.int .u8 0, .slice none 0 0] 25)).alloc (.cells #[.int .u8 0, .slice none 0 0] 25)) := by
          have := IsB.sub (HB.out.old HB0.out.1) (i := 2) (j := b.length) (by omega) (Nat.le_refl _)
          rw [List.take_length] at this
          exact str_of this
        go_enter Tryd.func13, Tryd.ntmps13
        go_wp2_with fail
        refine HRD.out.mono ?_
        rintro e W' ⟨rfl, rfl⟩
        by_cases hR3 : R3 = 0
        · subst hR3
          by_cases hbig : 1024 < R1
          · have hX : N = ((0, []), 0, 0, 15) := by
              rw [HNN.out.1]; refine nxt_e ?_ (by decide); rw [HDR.out, if_neg (by simp), if_pos hbig]
            subst hX
            clear HDR HNN HRD HRE
            go_wp2_with fail
            (try simp only [Exit.inBlock, Exit.then])
            refine bodyPost_ret (v := .tuple #[.agg #[.int .u8 0, .slice none 0 0], .int .i64 0, .int .u32 0, .int .i64 15]) ?_ rfl ⟨none, 0, rfl, fun W _ => isB_nil W, ?_⟩
            · rw [results_cell4 rfl]
              go_simp
            · exact HB0.out.1
          · have hR2b : R2 ≤ b.length := by
              have := HRE.out
              unfold rdr at this
              split at this
              · obtain ⟨_, h3⟩ := Prod.mk.inj this
                obtain ⟨h3, _⟩ := Prod.mk.inj h3
                rw [h3, List.length_drop]; omega
              · obtain ⟨_, h3⟩ := Prod.mk.inj this
                obtain ⟨h3, _⟩ := Prod.mk.inj h3
                omega
            have hR1w : wrap64 (R1 : Int) = (R1 : Int) := by unfold wrap64; omega
            have hR1v : IntKind.i64.wrap (R1 : Int) = (R1 : Int) := by rw [IntKind.wrap_i64]; omega
            by_cases hsh : b.length < 2 + R2 + R1 + 4
            · have hX : N = ((0, []), 0, 0, 4) := by
                rw [HNN.out.1]; refine nxt_e ?_ (by decide); rw [HDR.out, if_neg (by simp), if_neg hbig, if_pos hsh]
              subst hX
              clear HDR HNN HRD HRE
              go_wp2_with fail
              (try simp only [Exit.inBlock, Exit.then])
              refine bodyPost_ret (v := .tuple #[.agg #[.int .u8 0, .slice none 0 0], .int .i64 0, .int .u32 0, .int .i64 4]) ?_ rfl ⟨none, 0, rfl, fun W _ => isB_nil W, ?_⟩
              · rw [results_cell4 rfl]
                go_simp
              · exact HB0.out.1
            · have hdat : dat b = (2 + R2, 2 + R2 + R1, 0) := by rw [HDR.out, if_neg (by simp), if_neg hbig, if_neg hsh]
              have hfq := nxt_fbq (s := s) (b := b) (by rw [hdat])
              rw [hdat] at hfq
              simp only at hfq
              obtain ⟨d, hd⟩ : ∃ d, d = (b.take (2 + R2 + R1)).drop (2 + R2) := ⟨_, rfl⟩
              obtain ⟨kc, hkc⟩ : ∃ kc, kc = b.getD 1 0 := ⟨_, rfl⟩
              have hX : N = if (b.drop (2 + R2 + R1)).take 4 ≠ le4 (more s (b.take (2 + R2 + R1))) then ((0, []), 0, 0, 5) else ((kc, d), 2 + R2 + R1 + 4, more s (b.take (2 + R2 + R1)), 0) := by
                rw [HNN.out.1, hkc, hd]
                conv => lhs; unfold nxt
                rw [hdat]
                simp only [ne_eq, not_true_eq_false, if_false]
              rw [← hd, ← hkc] at hfq
              have hc1 : w.cell? ⟨g, o + 1, none⟩ = some (.int .u8 (kc.toNat : Nat)) := by
                obtain ⟨x, hx, hc⟩ := HB.out.at (k := 1) (by omega)
                obtain rfl := Option.some.inj hx
                rw [add_lit'] at hc
                rw [hc, hkc]; simp [List.getD, show 1 < b.length by omega]
              have hib := IsB.sub HB.out (i := 2 + R2) (j := 2 + R2 + R1) (by omega) (by omega)
              have HIW := Lib.hid (fun (W : World) (hW : IsB W (some ⟨g, o, none⟩) b.length cap b) => IsB.sub hW (i := 2 + R2) (j := 2 + R2 + R1) (by omega) (by omega))
              rw [← hd, show 2 + R2 + R1 - (2 + R2) = R1 by omega] at hib HIW
              have hdl : d.length = R1 := hib.1
              have HI := Lib.hid (And.intro hib (And.intro hdl (And.intro hfq hX)))
              have HNS := Lib.hid HNN.out.2
              clear HDR HNN HRD HRE hdat hfq hX hd hkc hib hdl
              have i1 : ((2 : Int) + (R2 : Int)) ≤ 2 + (R2 : Int) + (R1 : Int) := by omega
              have i2 : (2 : Int) + (R2 : Int) + (R1 : Int) ≤ (cap : Int) := by omega
              have i3 : wrap64 ((2 : Int) + (R2 : Int)) = 2 + (R2 : Int) := by unfold wrap64; omega
              have i4 : wrap64 ((2 : Int) + (R2 : Int) + (R1 : Int)) = 2 + (R2 : Int) + (R1 : Int) := by unfold wrap64; omega
              have i5 : ((2 : Int) + (R2 : Int)).toNat = 2 + R2 := by omega
              have i6 : ((2 : Int) + (R2 : Int) + (R1 : Int)).toNat = 2 + R2 + R1 := by omega
              have i7 : (0 : Int) ≤ 2 + (R2 : Int) := by omega
              have i8 : ¬ cap = 2 + R2 := by omega
              have i9 : 1 < b.length := by omega
              have i10 : (1 : Int) < (b.length : Int) := by omega
              have i11 : 2 + R2 + R1 - (2 + R2) = R1 := by omega
              have i12 : (0 : Int) ≤ 2 + (R2 : Int) + (R1 : Int) := by omega
              have j3 : IntKind.i64.wrap ((2 : Int) + (R2 : Int)) = 2 + (R2 : Int) := by rw [IntKind.wrap_i64]; omega
              have j4 : IntKind.i64.wrap ((2 : Int) + (R2 : Int) + (R1 : Int)) = 2 + (R2 : Int) + (R1 : Int) := by rw [IntKind.wrap_i64]; omega
              go_wp2_with fail
              go_region
              obtain ⟨W3, hW3⟩ : ∃ W, W = ((((w.alloc (.cells #[.int .u8 0, .slice none 0 0] 25)).alloc (.cells #[.int .u8 0, .slice none 0 0] 25)).alloc (.cells #[.int .u8 (kc.toNat : Nat), .slice (some ⟨g, o + (2 + R2), none⟩) R1 (cap - (2 + R2))] 25)).drew) := ⟨_, rfl⟩
              have hb3 : Below w.heap.size w W3 := by rw [hW3]; exact (HB0.out.1.alloc HB0.out.1.size _).drew
              have hx1 : W3.heap[w.heap.size]? = some (.cells #[.int .u8 0, .slice none 0 0] 25 (0, 0)) := by
                rw [hW3]; exact heap_old ((Below.refl _ _).alloc (Nat.le_refl _) _).drew HB0.out.2.1
              have hx2 : W3.heap[w.heap.size + 1]? = some (.cells #[.int .u8 0, .slice none 0 0] 25 (0, 0)) := by
                rw [hW3]; exact heap_old ((Below.refl _ _).alloc (Nat.le_refl _) _).drew HB0.out.2.2
              have hx3 : W3.heap[w.heap.size + 1 + 1]? = some (.cells #[.int .u8 (kc.toNat : Nat), .slice (some ⟨g, o + (2 + R2), none⟩) R1 (cap - (2 + R2))] 25 (0, 0)) := by
                rw [hW3]
                have := heap_alloc_new ((w.alloc (.cells #[.int .u8 0, .slice none 0 0] 25)).alloc (.cells #[.int .u8 0, .slice none 0 0] 25)) (.cells #[.int .u8 (kc.toNat : Nat), .slice (some ⟨g, o + (2 + R2), none⟩) R1 (cap - (2 + R2))] 25)
                rw [World.size_alloc, World.size_alloc] at this
                exact this
              rw [← hW3]
              clear hW3 i1 i2 i3 i4 i5 i6 i7 i8 i11 i12 j3 j4 hcv
              obtain ⟨⟨p0, p1⟩, f0, f1⟩ := two_cells hx1
              obtain ⟨⟨p2, p3⟩, f2, f3⟩ := two_cells hx2
              obtain ⟨⟨p4, p5⟩, f4, f5⟩ := two_cells hx3
              have H3 := Lib.hid (And.intro hx1 (And.intro hx2 (And.intro hx3 hb3)))
              have HBY := Lib.hid (bytes_l s kc (some ⟨g, o + (2 + R2), none⟩) R1 (cap - (2 + R2)) d W3 HNS.out.2 (HI.out.1.old hb3) (by omega) (HNS.out.1.old hb3))
              clear hx1 hx2 hx3 hb3
              go_wp2_with fail
              refine HBY.out.mono ?_
              rintro e W4 ⟨a4, c4, rfl, hown4, hb4⟩
              have hx1 := heap_old hb4 H3.out.1
              have hx2 := heap_old hb4 H3.out.2.1
              have hx3 := heap_old hb4 H3.out.2.2.1
              have hbw := H3.out.2.2.2.trans (hb4.mono H3.out.2.2.2.size)
              obtain ⟨⟨p0, p1⟩, f0, f1⟩ := two_cells hx1
              obtain ⟨⟨p2, p3⟩, f2, f3⟩ := two_cells hx2
              obtain ⟨⟨p4, p5⟩, f4, f5⟩ := two_cells hx3
              have hF := isB_of_own' hown4
              obtain ⟨hfl, hfs, hfi⟩ := HI.out.2.2.1
              have hX := HI.out.2.2.2
              have hib := HI.out.1
              have hsm : U32 (fs s kc d) := more_u32 _ _
              rw [← hfs] at hX hfi
              obtain ⟨F, hFe⟩ : ∃ F, F = fb s kc d := ⟨_, rfl⟩
              obtain ⟨x, hxe⟩ : ∃ x, x = fs s kc d := ⟨_, rfl⟩
              rw [← hFe] at hF hfl hfi
              rw [← hxe] at hX hfi hsm
              obtain ⟨en, hen⟩ : ∃ en, en = 2 + R2 + R1 := ⟨_, rfl⟩
              rw [← hen] at hX hfi hfl
              have hT := (HB.out.old hbw).take (n := en + 4) (by omega)
              have hsF : (convert 23 9 (.slice a4 F.length c4)).run Tryd.prog W4.drew = .ok (.string ⟨F.toArray⟩) W4.drew := str_of (show IsB W4.drew a4 F.length c4 F from hF)
              have hsT : (convert 23 9 (.slice (some ⟨g, o, none⟩) F.length cap)).run Tryd.prog W4.drew = .ok (.string ⟨(b.take (en + 4)).toArray⟩) W4.drew := by
                rw [hfl]; exact str_of (show IsB W4.drew _ (en + 4) cap (b.take (en + 4)) from hT)
              have hib4 := hib.old hbw
              have H4 := Lib.hid (And.intro hx1 (And.intro hx2 (And.intro hx3 (And.intro hbw hib4))))
              have HE := Lib.hid (And.intro hX (And.intro hfi hfl))
              have k1 : (F.length : Int) ≤ (cap : Int) := by omega
              have k2 : F.length ≤ cap := by omega
              have HIB := Lib.hid (And.intro hib HI.out.2.1)
              rw [← hFe, ← hxe]
              clear hx1 hx2 hx3 hbw hb4 hown4 hF hX hfi hfl hfs hT hib hib4 hFe hxe HBY H3 HI hen hsm hsh h2' hR2b HB HB0 HNS hc0 hc1 hlc hl
              go_wp2_with fail
              by_cases heq : F = b.take (en + 4)
              · have hX : N = ((kc, d), en + 4, x, 0) := by
                  rw [HE.out.1, if_neg]; exact fun h => h (HE.out.2.1.1 heq)
                subst hX
                rw [← heq] at hsT
                have HFL := Lib.hid HE.out.2.2
                clear heq HE
                go_region_with fail
                all_goals
                  go_wp2_with fail
                  (try simp only [Exit.inBlock, Exit.then])
                  refine bodyPost_ret (v := .tuple #[.agg #[.int .u8 (kc.toNat : Nat), .slice (some ⟨g, o + (2 + R2), none⟩) R1 (cap - (2 + R2))], .int .i64 (F.length : Nat), .int .u32 (x : Nat), .int .i64 0]) ?_ rfl ?_
                  · rw [results_cell4 rfl]
                    go_simp
                  · have hbf := ((H4.out.2.2.2.1.drew).setCell (p := ⟨w.heap.size, 0, none⟩) (Nat.le_refl _) (.int .u8 (kc.toNat : Nat))).setCell (p := ⟨w.heap.size, 1, none⟩) (Nat.le_refl _) (.slice (some ⟨g, o + (2 + R2), none⟩) R1 (cap - (2 + R2)))
                    have hif := HIW.out
                    rw [HFL.out]
                    have hdl := HIB.out.2
                    refine ⟨some ⟨g, o + (2 + R2), none⟩, cap - (2 + R2), ?_, ?_, hbf⟩
                    · rw [hdl]; rfl
                    · rw [hdl]; exact hif
              · have hX : N = ((0, []), 0, 0, 5) := by
                  rw [HE.out.1, if_pos]; exact fun h => heq (HE.out.2.1.2 h)
                subst hX
                have hne : (F == b.take (en + 4)) = false := by simpa using heq
                clear HE
                go_region_with fail
                all_goals
                  go_wp2_with fail
                  (try simp only [Exit.inBlock, Exit.then])
                  refine bodyPost_ret (v := .tuple #[.agg #[.int .u8 0, .slice none 0 0], .int .i64 0, .int .u32 0, .int .i64 5]) ?_ rfl ⟨none, 0, rfl, fun W _ => isB_nil W, ?_⟩
                  · rw [results_cell4 rfl]
                    go_simp
                  · exact ((H4.out.2.2.2.1.drew).setCell (p := ⟨w.heap.size, 0, none⟩) (Nat.le_refl _) _).setCell (p := ⟨w.heap.size, 1, none⟩) (Nat.le_refl _) _
        · have hX : N = ((0, []), 0, 0, R3) := by
            rw [HNN.out.1]; refine nxt_e ?_ hR3; rw [HDR.out, if_pos hR3]
          subst hX
          have hne : (R3 != 0) = true := by simpa using hR3
          clear HDR HNN HRD HRE
          go_wp2_with fail
          (try simp only [Exit.inBlock, Exit.then])
          refine bodyPost_ret (v := .tuple #[.agg #[.int .u8 0, .slice none 0 0], .int .i64 0, .int .u32 0, .int .i64 R3]) ?_ rfl ⟨none, 0, rfl, fun W _ => isB_nil W, ?_⟩
          · rw [results_cell4 rfl]
            go_simp
          · exact HB0.out.1
end Go.Proofs.YtadlfdjomcdpbaaDoor.Fm
