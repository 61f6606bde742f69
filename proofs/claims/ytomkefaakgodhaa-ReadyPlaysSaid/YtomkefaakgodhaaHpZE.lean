
/- heaps of string and uint64: none -/
import Derived.Test.YtomkefaakgodhaaHpYE
import Derived.Test.YtomkefaakgodhaaRx
import Derived.Shelf.RegionOpen
import Derived.OwnWalkIn
import Derived.TacticsInMore
import Derived.LoopNIn
import Derived.LoopIn
namespace Go.Proofs.Ytomkefaakgodhaa.HpE
open Go.RowKit Go.Lib Go.Sort Hp Rg
set_option linter.unusedVariables false
set_option maxRecDepth 20000
attribute [local go_sem] Oper.semAt_some
theorem len_nil (w : World) : Calls Try.prog 32 #[.pointer none] w fun e w' => e = .returned (.int .i64 0) ∧ w' = w := by
  go_enter Try.func32, Try.ntmps32
  go_wp2_with fail
  go_ret
  exact ⟨by simp, rfl⟩
theorem place_nil (w : World) (k : K) : Calls Try.prog 34 #[.pointer none, ek k] w fun e w' => e = .returned (.tuple #[.int .i64 0, .bool false]) ∧ w' = w := by
  generalize ek k = kv
  go_enter Try.func34, Try.ntmps34
  go_wp2_with fail
  refine bodyPost_ret (results_tmp2 rfl _ _ _) rfl ?_
  exact ⟨by simp, rfl⟩
theorem put_nil (w : World) (k : K) (r : Int) : Calls Try.prog 24 #[.pointer none, ek k, er r] w fun e w' => e = .returned (.bool false) ∧ w' = w := by
  generalize ek k = kv
  generalize er r = rv
  go_enter Try.func24, Try.ntmps24
  go_wp2_with fail
  go_ret
  exact ⟨by simp, rfl⟩
theorem cut_nil (w : World) (k : K) : Calls Try.prog 25 #[.pointer none, ek k] w fun e w' => e = .returned (.bool false) ∧ w' = w := by
  have hp := place_nil w k
  generalize ek k = kv at *
  go_enter Try.func25, Try.ntmps25
  go_wp2_with fail
  refine hp.mono ?_
  rintro e w1 ⟨rfl, rfl⟩
  go_wp2_with fail
  go_ret
  exact ⟨by simp, rfl⟩
theorem copy_nil (w : World) : Calls Try.prog 28 #[.pointer none] w fun e w' => e = .returned (.pointer none) ∧ w' = w := by
  go_enter Try.func28, Try.ntmps28
  go_wp2_with fail
  go_ret
  exact ⟨by simp, rfl⟩
theorem rank_nil (w : World) (k : K) : Calls Try.prog 33 #[.pointer none, ek k] w fun e w' => e = .returned (.tuple #[.int .u64 0, .bool false]) ∧ Below w.heap.size w w' := by
  have hp := place_nil w k
  generalize ek k = kv at *
  go_enter Try.func33, Try.ntmps33
  go_wp2_with fail
  refine hp.mono ?_
  rintro e w1 ⟨rfl, rfl⟩
  go_wp2_with fail
  refine bodyPost_ret (results_tmp2 rfl _ _ _) rfl ?_
  exact ⟨by simp, (Below.refl _ _).alloc (Nat.le_refl _) _⟩
theorem first_none (w : World) : Calls Try.prog 31 #[.pointer none] w fun e w' => e = .returned (.tuple #[none0, .bool false]) ∧ Below w.heap.size w w' := by
  have hL := fun W => len_nil W
  unfold none0
  go_enter Try.func31, Try.ntmps31
  go_wp2_with fail
  refine (hL _).mono ?_
  rintro e w1 ⟨rfl, rfl⟩
  go_wp2_with fail
  (try simp only [Exit.inBlock, Exit.then])
  refine bodyPost_ret (v := .tuple #[.agg #[.string ⟨#[]⟩, .int .u64 0], .bool false]) ?_ rfl ⟨rfl, ?_⟩
  · rw [results_c2 rfl]
    go_simp
  · (repeat' (first | exact Below.refl _ _ | refine Below.setCell ?_ (by simp <;> omega) _ | refine Below.alloc ?_ (by simp <;> omega) _))
theorem pop_none (w : World) : Calls Try.prog 27 #[.pointer none] w fun e w' => e = .returned (.tuple #[none0, .bool false]) ∧ Below w.heap.size w w' := by
  have hF := first_none (w.alloc (.cells #[.string ⟨#[]⟩, .int .u64 0] 63))
  have hbx := box2 w (.string ⟨#[]⟩) (.int .u64 0) 63
  have hb1 : Below w.heap.size w (w.alloc (.cells #[.string ⟨#[]⟩, .int .u64 0] 63)) := (Below.refl w.heap.size w).alloc (Nat.le_refl _) _
  have hz : (w.alloc (.cells #[.string ⟨#[]⟩, .int .u64 0] 63)).heap.size = w.heap.size + 1 := by simp
  have hfz : ∀ k, (w.alloc (.cells #[.string ⟨#[]⟩, .int .u64 0] 63)).frozen? ⟨w.heap.size, k, none⟩ = false := fun k => by
    have := (MapKept.heap_alloc w (.cells #[.string ⟨#[]⟩, .int .u64 0] 63)).1
    unfold World.frozen?; rw [this]; simp
  have HF := Lib.hid (And.intro hF (And.intro hbx (And.intro hb1 (And.intro hz hfz))))
  unfold none0 at HF ⊢
  clear hF hbx hb1 hz hfz
  go_enter Try.func27, Try.ntmps27
  go_wp2_with fail
  refine HF.out.1.mono ?_
  rintro e w2 ⟨rfl, hb2⟩
  have hbw : Below w.heap.size w w2 := HF.out.2.2.1.trans (hb2.mono (by rw [HF.out.2.2.2.1]; omega))
  have c0 := (hb2.cell (p := ⟨w.heap.size, 0, none⟩) (by rw [HF.out.2.2.2.1]; simp)).trans HF.out.2.1.1
  have c1 := (hb2.cell (p := ⟨w.heap.size, 1, none⟩) (by rw [HF.out.2.2.2.1]; simp)).trans HF.out.2.1.2
  have f0 := (hb2.frozen (p := ⟨w.heap.size, 0, none⟩) (by rw [HF.out.2.2.2.1]; simp)).trans (HF.out.2.2.2.2 0)
  have f1 := (hb2.frozen (p := ⟨w.heap.size, 1, none⟩) (by rw [HF.out.2.2.2.1]; simp)).trans (HF.out.2.2.2.2 1)
  have hz2 : w.heap.size < w2.heap.size := World.block_lt_of_cell? _ _ c0
  have HB := Lib.hid hbw
  clear hbw hb2
  go_wp2_with fail
  (try simp only [Exit.inBlock, Exit.then])
  refine bodyPost_ret (v := .tuple #[.agg #[.string ⟨#[]⟩, .int .u64 0], .bool false]) ?_ rfl ⟨rfl, ?_⟩
  · rw [results_c2 rfl]
    go_simp
  · have hbw := HB.out
    (repeat' (first | exact hbw | refine Below.setCell ?_ (by simp <;> omega) _ | refine Below.alloc ?_ (by simp <;> omega) _))
theorem all_none (w : World) : Calls Try.prog 29 #[.pointer none] w fun e w' => e = .returned (.func (.func 43) #[] #[.pointer (some ⟨w.heap.size, 0, none⟩)]) ∧ w' = w.alloc (.cells #[.slice none 0 0] 73) := by
  go_enter Try.func29, Try.ntmps29
  go_wp2_with fail
  go_ret
  exact ⟨by simp, rfl⟩
theorem yield_some (W : World) (lp : Nat) : (binOp .eql 86 (.func (.yield lp) #[] #[]) .nilFunc).run Try.prog W = .ok (.bool false) W := by kernel_rfl
theorem none_iter {α : Type} {encs : α → Array Value} (n n₀ n₁ N B0 : Nat) (V : World) (hbox : V.cell? ⟨B0, 0, none⟩ = some (.slice none 0 0)) (hB0 : B0 < N) :
    Iter Fence.wide n Try.prog 43 #[.pointer (some ⟨B0, 0, none⟩)] encs n₀ n₁ N (fun _ _ _ => False) (fun m => m = 0) V := by
  intro lp J W hW hJ hY h0
  have hcell := (hW.cell (p := ⟨B0, 0, none⟩) hB0).trans hbox
  have hy := fun W => yield_some W lp
  have H0 := Lib.hid h0
  clear hY hJ h0 hW hbox
  refine callsIn_of_wp Try.func43 rfl trivial ?_ rfl
  simp only [Try.ntmps43, List.size_toArray, List.length_cons, List.length_nil, Nat.reduceAdd, Nat.reduceSub, Array.replicate_succ, Array.replicate_zero, List.push_toArray, List.append_toArray, List.nil_append, List.cons_append]
  gi_wp2_with fail
  gi_loopw [9] (fun i wr => i = .int .i64 0 ∧ J 0 wr) (fun _ _ => 0)
  case atStart => exact ⟨rfl, H0.out⟩
  case round =>
    obtain ⟨rfl, hj⟩ := hrel
    have HX := Lib.hid hj
    clear hj
    gi_wp2_with fail
    go_end0
    exact ⟨⟨_, rfl⟩, by simpa using HX.out⟩
end Go.Proofs.Ytomkefaakgodhaa.HpE
