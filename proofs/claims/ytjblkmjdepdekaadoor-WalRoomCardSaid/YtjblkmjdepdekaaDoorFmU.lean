
/- frames: Scan -/
import Derived.Test.YtjblkmjdepdekaaDoorFmT
namespace Go.Proofs.YtjblkmjdepdekaaDoor.Fm
open Go.RowKit Go.Lib Go.Proofs.YtjblkmjdepdekaaDoor.By Go.Proofs.YtjblkmjdepdekaaDoor.Oc Go.Proofs.YtjblkmjdepdekaaDoor.Cr Go.Proofs.YtjblkmjdepdekaaDoor.Rg

set_option maxHeartbeats 2000000 in
theorem scan_any (s : Nat) (a : Option Addr) (len cap : Nat) (b : List UInt8) (w : World) (hb : IsB w a len cap b) (hl : len ≤ 1000000) :
    Calls Tryd.prog 60 #[.int .u32 s, .slice a len cap] w fun e w' => e = .returned (.func (.func 62) #[] #[.pointer (some ⟨w.heap.size, 0, none⟩), .pointer (some ⟨w.heap.size + 1, 0, none⟩)]) ∧
      ∃ ac cc, w'.cell? ⟨w.heap.size, 0, none⟩ = some (.int .u32 s) ∧ w'.cell? ⟨w.heap.size + 1, 0, none⟩ = some (.slice ac b.length cc) ∧ w'.ownsRow (w.heap.size + 2) 5 1 (.slice ac b.length cc) b.length (byteCells b) ∧ Below w.heap.size w w' ∧ w.heap.size + 2 ≤ w'.heap.size := by
  obtain rfl : b.length = len := hb.1
  have hmf : ∀ (fn : Fn) (first cap : Array Value) (w : World), (Instr.makeFunc fn first cap).run Tryd.prog w = .ok (.func fn first cap) w := fun _ _ _ _ => rfl
  have hb0 : Below w.heap.size w ((w.alloc (.cells #[.int .u32 s] 68)).alloc (.cells #[.slice a b.length cap] 32)) := ((Below.refl _ _).alloc (Nat.le_refl _) _).alloc (by simp) _
  have HC := Lib.hid (clone_any a b.length cap b _ (hb.old hb0) (by omega))
  have hx1 : ((w.alloc (.cells #[.int .u32 s] 68)).alloc (.cells #[.slice a b.length cap] 32)).heap[w.heap.size]? = some (.cells #[.int .u32 s] 68 (0, 0)) := heap_old ((Below.refl _ _).alloc (Nat.le_refl _) _) (heap_alloc_new w _)
  have hx2 : ((w.alloc (.cells #[.int .u32 s] 68)).alloc (.cells #[.slice a b.length cap] 32)).heap[w.heap.size + 1]? = some (.cells #[.slice a b.length cap] 32 (0, 0)) := by
    have := heap_alloc_new (w.alloc (.cells #[.int .u32 s] 68)) (.cells #[.slice a b.length cap] 32)
    rw [World.size_alloc] at this; exact this
  have HX := Lib.hid (And.intro hb0 (And.intro hx1 hx2))
  clear hb hb0 hx1 hx2
  go_enter Tryd.func60, Tryd.ntmps60
  go_wp2_with fail
  refine HC.out.mono ?_
  rintro e w1 ⟨v', rfl, hown, hb1⟩
  obtain ⟨ac, cc, rfl⟩ := own_shape hown
  have hy1 := heap_old hb1 HX.out.2.1
  have hy2 := heap_old hb1 HX.out.2.2
  have hz := hb1.size
  simp only [World.size_alloc] at hz hown
  have c1 := cell_of_one hy2
  have f1 := free_of_one hy2
  have hown2 := ownsRow_setCell_below (a := ⟨w.heap.size + 1, 0, none⟩) hown (Nat.lt_succ_self _) (.slice ac b.length cc)
  have hbw : Below w.heap.size w (w1.setCell ⟨w.heap.size + 1, 0, none⟩ (.slice ac b.length cc)) := (HX.out.1.trans (hb1.mono (by simp only [World.size_alloc]; omega))).setCell (p := ⟨w.heap.size + 1, 0, none⟩) (Nat.le_succ _) _
  have d1 : (w1.setCell ⟨w.heap.size + 1, 0, none⟩ (.slice ac b.length cc)).cell? ⟨w.heap.size, 0, none⟩ = some (.int .u32 s) :=
    (World.cell?_of_block (w := w1) (Below.heap_setCell w1 _ _ w.heap.size (by simp))).trans (cell_of_one hy1)
  have d2 : (w1.setCell ⟨w.heap.size + 1, 0, none⟩ (.slice ac b.length cc)).cell? ⟨w.heap.size + 1, 0, none⟩ = some (.slice ac b.length cc) := cell_of_one (one_setCell hy2)
  have hz2 : w.heap.size + 2 ≤ (w1.setCell ⟨w.heap.size + 1, 0, none⟩ (.slice ac b.length cc)).heap.size := by simp only [World.size_setCell]; omega
  have HF := Lib.hid (And.intro d1 (And.intro d2 (And.intro hown2 (And.intro hbw hz2))))
  clear d1 d2 hown2 hbw hz2 hown hy1 hy2 hb1 HX HC
  go_wp2_with fail
  go_ret
  exact ⟨rfl, ac, cc, HF.out⟩

end Go.Proofs.YtjblkmjdepdekaaDoor.Fm
