/- frames: Scan; how FrameScans is left -/
import Derived.Test.YtadlfdjomcdpbaaDoorFmS
namespace Go.Proofs.YtadlfdjomcdpbaaDoor.Fm
open Go.RowKit Go.Lib Go.Proofs.YtadlfdjomcdpbaaDoor.By Go.Proofs.YtadlfdjomcdpbaaDoor.Oc Go.Proofs.YtadlfdjomcdpbaaDoor.Cr Go.Proofs.YtadlfdjomcdpbaaDoor.Rg

set_option maxHeartbeats 2000000 in
theorem scan_any (s : Nat) (a : Option Addr) (len cap : Nat) (b : List UInt8) (w : World) (hb : IsB w a len cap b) (hl : len ≤ 1000000) :
    Calls Tryd.prog 12 #[.int .u32 s, .slice a len cap] w fun e w' => e = .returned (.func (.func 24) #[] #[.pointer (some ⟨w.heap.size, 0, none⟩), .pointer (some ⟨w.heap.size + 1, 0, none⟩)]) ∧
      ∃ ac cc, w'.cell? ⟨w.heap.size, 0, none⟩ = some (.int .u32 s) ∧ w'.cell? ⟨w.heap.size + 1, 0, none⟩ = some (.slice ac b.length cc) ∧ w'.ownsRow (w.heap.size + 2) 5 1 (.slice ac b.length cc) b.length (byteCells b) ∧ Below w.heap.size w w' ∧ w.heap.size + 2 ≤ w'.heap.size := by
  obtain rfl : b.length = len := hb.1
  have hmf : ∀ (fn : Fn) (first cap : Array Value) (w : World), (Instr.makeFunc fn first cap).run Tryd.prog w = .ok (.func fn first cap) w := fun _ _ _ _ => rfl
  have hb0 : Below w.heap.size w ((w.alloc (.cells #[.int .u32 s] 22)).alloc (.cells #[.slice a b.length cap] 23)) := ((Below.refl _ _).alloc (Nat.le_refl _) _).alloc (by simp) _
  have HC := Lib.hid (clone_any a b.length cap b _ (hb.old hb0) (by omega))
  have hx1 : ((w.alloc (.cells #[.int .u32 s] 22)).alloc (.cells #[.slice a b.length cap] 23)).heap[w.heap.size]? = some (.cells #[.int .u32 s] 22 (0, 0)) := heap_old ((Below.refl _ _).alloc (Nat.le_refl _) _) (heap_alloc_new w _)
  have hx2 : ((w.alloc (.cells #[.int .u32 s] 22)).alloc (.cells #[.slice a b.length cap] 23)).heap[w.heap.size + 1]? = some (.cells #[.slice a b.length cap] 23 (0, 0)) := by
    have := heap_alloc_new (w.alloc (.cells #[.int .u32 s] 22)) (.cells #[.slice a b.length cap] 23)
    rw [World.size_alloc] at this; exact this
  have HX := Lib.hid (And.intro hb0 (And.intro hx1 hx2))
  clear hb hb0 hx1 hx2
  go_enter Tryd.func12, Tryd.ntmps12
  go_wp2_with fail
  refine HC.out.mono ?_
  rintro e w1 ⟨v', rfl, hown, hb1⟩
  obtain ⟨ac, cc, rfl⟩ := own_shape hown
  have hy1 := heap_old hb1 HX.out.2.1
  have hy2 := heap_old hb1 HX.out.2.2
  have hz := hb1.size
  simp only [World.size_alloc] at hz hown
  have c1 := cell_of_one hy2
  have f1 := free_of_one hy2
  have hown2 := ownsRow_setCell_below (a := ⟨w.heap.size + 1, 0, none⟩) hown (Nat.lt_succ_self _) (.slice ac b.length cc)
  have hbw : Below w.heap.size w (w1.setCell ⟨w.heap.size + 1, 0, none⟩ (.slice ac b.length cc)) := (HX.out.1.trans (hb1.mono (by simp only [World.size_alloc]; omega))).setCell (p := ⟨w.heap.size + 1, 0, none⟩) (Nat.le_succ _) _
  have d1 : (w1.setCell ⟨w.heap.size + 1, 0, none⟩ (.slice ac b.length cc)).cell? ⟨w.heap.size, 0, none⟩ = some (.int .u32 s) :=
    (World.cell?_of_block (w := w1) (Below.heap_setCell w1 _ _ w.heap.size (by simp))).trans (cell_of_one hy1)
  have d2 : (w1.setCell ⟨w.heap.size + 1, 0, none⟩ (.slice ac b.length cc)).cell? ⟨w.heap.size + 1, 0, none⟩ = some (.slice ac b.length cc) := cell_of_one (one_setCell hy2)
  have hz2 : w.heap.size + 2 ≤ (w1.setCell ⟨w.heap.size + 1, 0, none⟩ (.slice ac b.length cc)).heap.size := by simp only [World.size_setCell]; omega
  have HF := Lib.hid (And.intro d1 (And.intro d2 (And.intro hown2 (And.intro hbw hz2))))
  clear d1 d2 hown2 hbw hz2 hown hy1 hy2 hb1 HX HC
  go_wp2_with fail
  go_ret
  exact ⟨rfl, ac, cc, HF.out⟩

/-- a mark -/
def mk (D : Nat) : Deferred := { target := .collected D, args := #[] }
/-- the activation is left, its marks and all -/
theorem leave {fn : Func} {tmps : Array Value} {rb N : Nat} {w : World} (hres : fn.results = #[.cell 12 4]) (ht : tmps.getD 12 undef = .pointer (some ⟨rb, 0, none⟩)) :
    ∀ (Ds : List Nat) (W : World), (∀ D ∈ Ds, N ≤ D ∧ W.heap[D]? = some (.deferred (some []))) → Ds.Nodup → W.cell? ⟨rb, 0, none⟩ = some (.bool true) → Below N w W →
      LeavesInM Fence.wide 3 Tryd.prog fn tmps (fun e w' => e = .returned (.bool true) ∧ Below N w w') (Ds.map mk) .returning W
  | [], W, _, _, hc, hb => by
    refine ⟨.bool true, ?_, rfl, hb⟩
    rw [results_cell1 hres, ht]
    go_simp
  | D :: Ds, W, hD, hn, hc, hb => by
    obtain ⟨h1, h2⟩ := hD D (by simp)
    refine ⟨by simp, .inl ⟨D, _, rfl, run_takeDeferred h2, ?_⟩⟩
    have hrb : rb ≠ D := fun e => by subst e; unfold World.cell? at hc; rw [h2] at hc; simp at hc
    have hbut := but_put D W (.deferred none)
    refine leave hres ht Ds _ (fun E hE => ⟨(hD E (by simp [hE])).1, ?_⟩) (List.nodup_cons.1 hn).2 ?_ (hb.trans (hbut.below h1))
    · have hne : E ≠ D := fun e => (List.nodup_cons.1 hn).1 (e ▸ hE)
      exact (hbut.2.2.2.2 E hne).trans (hD E (by simp [hE])).2
    · exact (World.cell?_of_block (w := W) (hbut.2.2.2.2 rb hrb)).trans hc
end Go.Proofs.YtadlfdjomcdpbaaDoor.Fm
