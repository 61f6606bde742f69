/- frames: the law's example -/
import Derived.Test.YtadlfdjomcdpbaaDoorFm5
import Derived.Test.YtadlfdjomcdpbaaDoorBk
import Derived.Lib.SlBytesConst
namespace Go.Proofs.YtadlfdjomcdpbaaDoor.Fm
open Go.RowKit Go.Lib Go.Proofs.YtadlfdjomcdpbaaDoor.By Go.Proofs.YtadlfdjomcdpbaaDoor.Oc Go.Proofs.YtadlfdjomcdpbaaDoor.Cr

theorem lives_m : good ((fb 7 1 [97] ++ fb (fs 7 1 [97]) 2 [98]).set 11 ((fb 7 1 [97] ++ fb (fs 7 1 [97]) 2 [98]).getD 11 0 ^^^ 1)) 0 7 = (8, fs 7 1 [97]) := by
  have e1 : uvarint 1 = [1] := uvarint_small (by decide)
  have h1 : ∀ k : UInt8, ∀ c : UInt8, hd k [c] = [197, k, 1, c] := fun k c => by unfold hd; rw [show ([c] : List UInt8).length = 1 from rfl, e1]; rfl
  unfold fb fs
  rw [h1, h1]
  decide +kernel
theorem lives_l : (fb 7 1 [97]).length = 8 ∧ (fb (fs 7 1 [97]) 2 [98]).length = 8 := by
  have e1 : uvarint 1 = [1] := uvarint_small (by decide)
  rw [fb_len, fb_len, hd_len, hd_len, show ([97] : List UInt8).length = 1 from rfl, show ([98] : List UInt8).length = 1 from rfl, e1]
  decide
theorem isB_lit1 (w : World) (c : UInt8) : IsB (w.alloc (.cells #[.int .u8 (c.toNat : Nat)] 5 (1, 2))) (some ⟨w.heap.size, 0, none⟩) 1 1 [c] :=
  ⟨rfl, .inr ⟨_, rfl, by simp, by simp [maxLen], fun j u hu => by
    match j, hu with
    | 0, hu => simp [byteCells] at hu; subst hu; simp [Addr.add, World.cell?_alloc_mark]⟩⟩

set_option maxRecDepth 20000 in
set_option maxHeartbeats 4000000 in
theorem lives_any (w : World) (hn : Nibs w) :
    Calls Tryd.prog 6 #[] w fun e w' => e = .returned (.bool true) ∧ Below w.heap.size w w' := by
  have hm := lives_m
  obtain ⟨l1, l2⟩ := lives_l
  have h7 : U32 7 := by unfold U32; decide
  have hb0 : Below w.heap.size w (w.alloc (.cells #[.int .u8 97] 5 (1, 2))) := (Below.refl _ _).alloc (Nat.le_refl _) _
  have H1 := Lib.hid (frBytes_ok 7 1 (some ⟨w.heap.size, 0, none⟩) 1 1 [97] _ h7 (isB_lit1 w 97) (by decide) (hn.old hb0))
  have hs1 : U32 (fs 7 1 [97]) := more_u32 _ _
  have H2 := Lib.hid (fun (W : World) (hW : Below w.heap.size w W) => frBytes_ok (fs 7 1 [97]) 2 (some ⟨W.heap.size, 0, none⟩) 1 1 [98] _ hs1 (isB_lit1 W 98) (by decide) (hn.old (hW.alloc hW.size (.cells #[.int .u8 98] 5 (1, 2)))))
  obtain ⟨A1, hA1⟩ : ∃ A, A = fb 7 1 [97] := ⟨_, rfl⟩
  obtain ⟨s1, hs⟩ : ∃ s, s = fs 7 1 [97] := ⟨_, rfl⟩
  rw [← hA1, ← hs] at H1 hm
  rw [← hs] at H2 hs1 l2
  rw [← hA1] at l1
  obtain ⟨A2, hA2⟩ : ∃ A, A = fb s1 2 [98] := ⟨_, rfl⟩
  rw [← hA2] at H2 hm l2
  have HB0 := Lib.hid hb0
  have HM := Lib.hid hm
  have HN := Lib.hid hn
  have kc := fun (w : World) (C : Array Value) (n c : Nat) => Lib.run_convert_bytes_const (P := Tryd.prog) w 23 5 C n c Tryd.underlying23 Tryd.underlying5
  rw [l1] at H1
  rw [l2] at H2
  clear hA1 hA2 hs hb0 hm hn h7 hs1
  go_enter Tryd.func6, Tryd.ntmps6
  go_wp2_with fail
  refine H1.out.mono ?_
  rintro e W1 ⟨a1, c1, rfl, hown1, hb1⟩
  have hW1 := HB0.out.trans (hb1.mono HB0.out.size)
  have K1 := Lib.hid (And.intro (Joins.ownsRow_le hown1 HB0.out.size) hW1)
  clear hown1 hb1 hW1 H1
  go_wp2_with fail
  refine (H2.out W1 K1.out.2).mono ?_
  rintro e W2 ⟨a2, c2, rfl, hown2, hb2⟩
  have hown1 := own_below (K1.out.1.alloc (.cells #[.int .u8 98] 5 (1, 2))) hb2 (Nat.le_refl _)
  rw [← l2] at hown2
  obtain ⟨x2, y2, hv2, hib2⟩ := isB_own hown2
  simp only [Value.slice.injEq, true_and] at hv2
  obtain ⟨rfl, rfl⟩ := hv2
  rw [l2] at hib2
  have hW2 : Below w.heap.size w W2 := (K1.out.2.alloc K1.out.2.size _).trans (hb2.mono (by have := K1.out.2.size; simp only [World.size_alloc]; omega))
  have K2 := Lib.hid (And.intro hown1 (And.intro hib2 hW2))
  have hzb : w.heap.size ≤ W2.heap.size := hW2.size
  clear hown1 hown2 hib2 hb2 hW2 H2 K1
  go_wp2_with (at_builtin; refine wpList_append_bytes rfl _ _ rfl w.heap.size _ 8 A1 rfl K2.out.1 a2 8 c2 A2 rfl K2.out.2.1 ?c1 ?c2 ?_)
  case c1 => decide
  case c2 => exact hzb
  · intro ao cp W3 hown3 hg3
    have hb3 : Below w.heap.size w W3 := K2.out.2.2.grown hg3 K2.out.2.2.size (fun k hk => by have := (K2.out.1.lt k hk).1; omega)
    obtain ⟨g, cp', hv3, _, _⟩ := hown3.form (by decide)
    simp only [Value.slice.injEq, true_and] at hv3
    obtain ⟨rfl, rfl⟩ := hv3
    have hl16 : (A1 ++ A2).length = 16 := by rw [List.length_append, l1, l2]
    obtain ⟨b3, hgb, hBb, hblk, hcm⟩ := Blk.own hown3 (by rw [hl16])
    have hgb' : g = b3 := by simpa using hgb
    subst hgb'
    obtain ⟨L, hL⟩ : ∃ L, L = A1 ++ A2 := ⟨_, rfl⟩
    rw [← hL] at hblk hl16 HM
    have hcell := hblk.cellD (k := 11) (by omega)
    have hfree := hblk.free 11
    obtain ⟨c, hc⟩ : ∃ c, c = L.getD 11 0 := ⟨_, rfl⟩
    rw [← hc] at hcell HM
    have hx := xor_u8 c 1
    rw [show (((1 : UInt8).toNat : Nat) : Int) = 1 from rfl] at hx
    have hblk2 := hblk.set 11 (c ^^^ 1) rfl
    have hib := hblk2.isB hcm
    rw [List.length_set, hl16] at hib
    have hb4 := hb3.setCell (p := ⟨g, 11, none⟩) (show w.heap.size ≤ g by omega) (.int .u8 ((c ^^^ 1).toNat : Nat))
    have HG := Lib.hid (good_any 7 _ 16 cp _ _ (by unfold U32; decide) hib (HN.out.old hb4))
    rw [HM.out] at HG
    have HB4 := Lib.hid hb4
    clear hown3 hg3 hb3 hgb hBb hblk hblk2 hib hb4 K2 hL hc hzb HM
    rw [show (c ^^^ 1).toNat = c.toNat ^^^ 1 from UInt8.toNat_xor c 1] at HG HB4 hx
    obtain ⟨n, hn⟩ : ∃ n : Nat, n = c.toNat ^^^ 1 := ⟨_, rfl⟩
    rw [← hn] at hx HG HB4
    clear hn
    go_wp2_with fail
    refine HG.out.mono ?_
    rintro e W5 ⟨rfl, hb5⟩
    have HF := Lib.hid (HB4.out.trans (hb5.mono HB4.out.size))
    clear hb5
    go_wp2
    go_ret
    exact ⟨rfl, HF.out⟩
end Go.Proofs.YtadlfdjomcdpbaaDoor.Fm
