/- the walk of FrameBytes -/
import Derived.Test.YtadlfdjomcdpbaaDoorFm6
namespace Go.Proofs.YtadlfdjomcdpbaaDoor.Fm
open Go.RowKit Go.Lib Go.Proofs.YtadlfdjomcdpbaaDoor.By Go.Proofs.YtadlfdjomcdpbaaDoor.Oc Go.Proofs.YtadlfdjomcdpbaaDoor.Cr

theorem below_two {w a b : World} (h1 : Below w.heap.size w a) (h2 : Below a.heap.size a b) : Below w.heap.size w b := h1.trans (h2.mono h1.size)
theorem isB_of_own {w : World} {B : Nat} {a : Option Addr} {n cp : Nat} {l : List UInt8} (h : w.ownsRow B 5 1 (.slice a n cp) n (byteCells l)) (hn : n = l.length) : IsB w a n cp l := by
  subst hn
  obtain ⟨x, y, hv, hib⟩ := isB_own h
  simp only [Value.slice.injEq, true_and] at hv
  obtain ⟨rfl, rfl⟩ := hv
  exact hib

set_option maxRecDepth 20000 in
set_option maxHeartbeats 8000000 in
theorem bytes_walk (s : Nat) (k : UInt8) (a1 : Option Addr) (n1 c1 : Nat) (d : List UInt8) (a2 : Option Addr) (n2 c2 : Nat) (bh : List UInt8) (w : World) (hs : U32 s) (h1 : IsB w a1 n1 c1 d) (h2 : IsB w a2 n2 c2 bh) (hn : Nibs w) :
    Calls Tryd.prog 3 #[.int .u32 s, .agg #[.int .u8 (k.toNat : Nat), .slice a1 n1 c1], .slice a2 n2 c2] w fun e w' => e = .returned (.bool true) ∧ Below w.heap.size w w' := by
  obtain rfl : d.length = n1 := h1.1
  obtain rfl : bh.length = n2 := h2.1
  have m1 := h1.le
  have m2 := h2.le
  unfold maxLen at m1 m2
  have hb0 : Below w.heap.size w (w.alloc (.cells #[.int .u8 (k.toNat : Nat), .slice a1 d.length c1] 25)) := (Below.refl _ _).alloc (Nat.le_refl _) _
  have HL := Lib.hid (lives_any _ (hn.old hb0))
  have HN := Lib.hid hn
  have H1 := Lib.hid h1
  have H2 := Lib.hid h2
  have HS := Lib.hid hs
  have HB0 := Lib.hid hb0
  have key : ∀ wa, Below (w.alloc (.cells #[.int .u8 (k.toNat : Nat), .slice a1 d.length c1] 25)).heap.size (w.alloc (.cells #[.int .u8 (k.toNat : Nat), .slice a1 d.length c1] 25)) wa → wa.heap[w.heap.size]? = some (.cells #[.int .u8 (k.toNat : Nat), .slice a1 d.length c1] 25 (0, 0)) ∧ Below w.heap.size w wa ∧ w.heap.size < wa.heap.size := fun wa hb =>
    ⟨heap_old hb (heap_alloc_new w _), below_two hb0 hb, by have := hb.size; simp at this; omega⟩
  have HK := Lib.hid key
  clear h1 h2 hn hs hb0 key
  by_cases b1 : 2000 < d.length ∨ 100 < bh.length
  · rcases b1 with b1 | b1
    · go_enter Tryd.func3, Tryd.ntmps3
      go_wp2_with fail
      refine HL.out.mono ?_
      rintro e wa ⟨rfl, hb⟩
      obtain ⟨hx, hba, _⟩ := HK.out wa hb
      obtain ⟨⟨q0, q1⟩, _⟩ := two_cells hx
      have HL2 := Lib.hid (lives_any wa (HN.out.old hba))
      have HB := Lib.hid hba
      clear hb hx hba
      go_wp2_with fail
      refine HL2.out.mono ?_
      rintro e wb ⟨rfl, hb2⟩
      go_wp2
      go_ret
      exact ⟨rfl, below_two HB.out hb2⟩
    · by_cases b2 : 2000 < d.length
      · go_enter Tryd.func3, Tryd.ntmps3
        go_wp2_with fail
        refine HL.out.mono ?_
        rintro e wa ⟨rfl, hb⟩
        obtain ⟨hx, hba, _⟩ := HK.out wa hb
        obtain ⟨⟨q0, q1⟩, _⟩ := two_cells hx
        have HL2 := Lib.hid (lives_any wa (HN.out.old hba))
        have HB := Lib.hid hba
        clear hb hx hba
        go_wp2_with fail
        refine HL2.out.mono ?_
        rintro e wb ⟨rfl, hb2⟩
        go_wp2
        go_ret
        exact ⟨rfl, below_two HB.out hb2⟩
      · go_enter Tryd.func3, Tryd.ntmps3
        go_wp2_with fail
        refine HL.out.mono ?_
        rintro e wa ⟨rfl, hb⟩
        obtain ⟨hx, hba, _⟩ := HK.out wa hb
        obtain ⟨⟨q0, q1⟩, _⟩ := two_cells hx
        have HL2 := Lib.hid (lives_any wa (HN.out.old hba))
        have HB := Lib.hid hba
        clear hb hx hba
        go_wp2_with fail
        refine HL2.out.mono ?_
        rintro e wb ⟨rfl, hb2⟩
        go_wp2
        go_ret
        exact ⟨rfl, below_two HB.out hb2⟩
  · have b1' : d.length ≤ 2000 ∧ bh.length ≤ 100 := by omega
    clear b1
    by_cases b3 : 1024 < d.length
    · go_enter Tryd.func3, Tryd.ntmps3
      go_wp2_with fail
      refine HL.out.mono ?_
      rintro e wa ⟨rfl, hb⟩
      obtain ⟨hx, hba, _⟩ := HK.out wa hb
      obtain ⟨⟨q0, q1⟩, _⟩ := two_cells hx
      have HB := Lib.hid (And.intro hx hba)
      clear hb hx hba
      go_wp2_with fail
      refine (frBytes_long s k a1 d.length c1 wa b3).mono ?_
      rintro e wb ⟨rfl, hb2⟩
      obtain ⟨⟨p0, p1⟩, _⟩ := two_cells (heap_old hb2 HB.out.1)
      have HF := Lib.hid (below_two HB.out.2 hb2)
      clear hb2
      go_wp2
      go_ret
      exact ⟨rfl, HF.out⟩
    · have hnx := nxt_fb (k := k) (d := d) s bh (by omega)
      have hlen : (fb 0 k d).length = (fb s k d).length := by rw [fb_len, fb_len]
      have hle := fb_le (k := k) (d := d) s (by omega)
      have hsu : U32 (fs s k d) := more_u32 _ _
      have hd2 : d.length ≤ 1024 := by omega
      have HF := Lib.hid (And.intro hnx (And.intro hlen hd2))
      clear hnx hlen
      go_enter Tryd.func3, Tryd.ntmps3
      go_wp2_with fail
      refine HL.out.mono ?_
      rintro e wa ⟨rfl, hb⟩
      obtain ⟨hx, hba, hza⟩ := HK.out wa hb
      obtain ⟨⟨q0, q1⟩, _⟩ := two_cells hx
      have HB := Lib.hid (And.intro hx hba)
      clear hb hx hba HL
      go_wp2_with fail
      refine (frBytes_ok s k a1 d.length c1 d wa HS.out (H1.out.old HB.out.2) hd2 (HN.out.old HB.out.2)).mono ?_
      rintro e wb ⟨a3, c3, rfl, hown3, hb3⟩
      have hx3 := heap_old hb3 HB.out.1
      have hbb := below_two HB.out.2 hb3
      obtain ⟨⟨q0, q1⟩, _⟩ := two_cells hx3
      have HB3 := Lib.hid (And.intro hx3 (And.intro hbb (And.intro hown3 hb3.size)))
      clear hown3 hb3 hx3 hbb
      go_wp2_with fail
      refine (bytes_l s k a1 d.length c1 d wb HS.out (H1.out.old HB3.out.2.1) hd2 (HN.out.old HB3.out.2.1)).mono ?_
      rintro e wc ⟨a4, c4, rfl, hown4, hb4⟩
      have hx4 := heap_old hb4 HB3.out.1
      have hbc := below_two HB3.out.2.1 hb4
      obtain ⟨⟨q0, q1⟩, _⟩ := two_cells hx4
      have hown3 := own_below HB3.out.2.2.1 hb4 (Nat.le_refl _)
      have e3 := str_of (isB_of_own hown3 rfl)
      have e4 := str_of (isB_of_own hown4 rfl)
      have HB4 := Lib.hid (And.intro hx4 (And.intro hbc (And.intro hown3 (And.intro hown4 (Nat.le_trans HB3.out.2.2.2 hb4.size)))))
      clear hown3 hown4 hb4 hx4 hbc HB3
      go_wp2_with fail
      have HZ := size_any k a1 d.length c1 d wc (H1.out.old HB4.out.2.1) hd2 (HN.out.old HB4.out.2.1)
      rw [HF.out.2.1] at HZ
      refine HZ.mono ?_
      rintro e wd ⟨rfl, hb5⟩
      have hx5 := heap_old hb5 HB4.out.1
      have hbd := below_two HB4.out.2.1 hb5
      obtain ⟨⟨q0, q1⟩, _⟩ := two_cells hx5
      have hown3 := own_below HB4.out.2.2.1 hb5 (Nat.le_refl _)
      have hza5 : wa.heap.size ≤ wd.heap.size := Nat.le_trans HB4.out.2.2.2.2 hb5.size
      have HB5 := Lib.hid (And.intro hx5 (And.intro hbd hown3))
      have i2 := H2.out.old hbd
      clear hown3 hb5 hx5 hbd HB4 HZ e3 e4
      go_wp2_with (at_builtin; refine wpList_append_bytes rfl _ _ rfl wa.heap.size _ (fb s k d).length (fb s k d) rfl HB5.out.2.2 a2 bh.length c2 bh rfl i2 ?c1 ?c2 ?_)
      case c1 => omega
      case c2 => exact hza5
      · intro ao cp we hown6 hg6
        have hbe : Below w.heap.size w we := HB5.out.2.1.grown hg6 HB5.out.2.1.size (fun k hk => by have := (HB5.out.2.2.lt k hk).1; omega)
        have hx6 : we.heap[w.heap.size]? = some (.cells #[.int .u8 (k.toNat : Nat), .slice a1 d.length c1] 25 (0, 0)) := (hg6.block _ (by omega) (fun e => by have := (HB5.out.2.2.lt _ e.symm).1; omega)).trans HB5.out.1
        have hib6 := isB_of_own hown6 (by rw [List.length_append])
        have HX := next_any s ao _ cp (fb s k d ++ bh) we HS.out hib6 (HN.out.old hbe)
        rw [HF.out.1] at HX
        have HXX := Lib.hid HX
        have HB6 := Lib.hid (And.intro hx6 hbe)
        clear hown6 hg6 hbe hx6 hib6 HX HB5 i2
        go_wp2_with fail
        refine HXX.out.mono ?_
        rintro e wf ⟨a7, c7, rfl, hib7, hb7⟩
        have hx7 := heap_old hb7 HB6.out.1
        have hbf := below_two HB6.out.2 hb7
        have hal : Below wf.heap.size wf (wf.alloc (.cells #[.int .u8 (k.toNat : Nat), .slice a7 d.length c7] 25)) := (Below.refl _ _).alloc (Nat.le_refl _) _
        obtain ⟨⟨q0, q1⟩, _⟩ := two_cells (heap_old hal hx7)
        have hbg := below_two hbf hal
        have HSM := Lib.hid (same_true k a7 d.length c7 a1 d.length c1 d _ (hib7.old hal) (H1.out.old hbg))
        have HB7 := Lib.hid hbg
        clear hb7 hx7 hbf hal hib7 hbg HXX
        go_wp2_with fail
        refine HSM.out.mono ?_
        rintro e wh ⟨rfl, hb8⟩
        have HFF := Lib.hid (below_two HB7.out hb8)
        clear hb8
        go_wp2
        go_ret
        exact ⟨rfl, HFF.out⟩
end Go.Proofs.YtadlfdjomcdpbaaDoor.Fm
