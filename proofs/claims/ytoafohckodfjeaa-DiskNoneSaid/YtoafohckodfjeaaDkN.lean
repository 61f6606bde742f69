/- disks: the walk of DiskNone -/
import Derived.Test.YtoafohckodfjeaaDk9
import Derived.Test.YtoafohckodfjeaaRg
import Derived.Deep.QuietTactic
import Derived.BigQuiet
import Derived.Shelf.Abstract
import Derived.Shelf.RegionOpen
import Derived.OwnWalkIn
import Derived.TacticsInMore
import Derived.LoopNIn
import Derived.LoopIn
namespace Go.Proofs.Ytoafohckodfjeaa.Dk
open Go.RowKit Go.Lib Go.Proofs.Ytoafohckodfjeaa.By Go.Proofs.Ytoafohckodfjeaa.Ht Go.Proofs.Ytoafohckodfjeaa.Rg

theorem copy_nil (w : World) : Calls Try.prog 19 #[.pointer none] w fun e w' => e = .returned (.pointer none) ∧ w = w' := by
  go_enter Try.func19, Try.ntmps19
  go_wp2_with fail
  go_ret
  exact ⟨rfl, rfl⟩
theorem waits_nil (w : World) : Calls Try.prog 16 #[.pointer none] w fun e w' => e = .returned (.func (.func 23) #[] #[.pointer (some ⟨w.heap.size, 0, none⟩)]) ∧ w' = w.alloc (.cells #[.slice none 0 0] 60) := by
  have hmf : ∀ (fn : Fn) (first cap : Array Value) (w : World), (Instr.makeFunc fn first cap).run Try.prog w = .ok (.func fn first cap) w := fun _ _ _ _ => rfl
  go_enter Try.func16, Try.ntmps16
  go_wp2_with fail
  go_ret
  exact ⟨rfl, rfl⟩
theorem yield_there (l : Nat) : ∀ w : World, (binOp .eql 48 (.func (.yield l) #[] #[]) .nilFunc).run Try.prog w = .ok (.bool false) w := fun _ => by kernel_rfl
def enc0 (_ : Unit) : Array Value := #[.int .i64 0, .int .i64 0]
set_option maxHeartbeats 1000000 in
theorem waits1_none (n n₀ n₁ B q : Nat) (w : World) (hc : ∀ W, Below B w W → W.cell? ⟨q, 0, none⟩ = some (.slice none 0 0)) :
    Iter Fence.wide n Try.prog 23 #[.pointer (some ⟨q, 0, none⟩)] enc0 n₀ n₁ B (fun _ _ _ => False) (fun m => m = 0) w := by
  intro l J W hW hJ hY hJ0
  have hyl := yield_there l
  have hcc := hc W hW
  have HJ0 := Lib.hid hJ0
  clear hc hW hJ hY hJ0
  refine callsIn_of_wp Try.func23 rfl trivial ?_ rfl
  simp only [Try.ntmps23, List.size_toArray, List.length_cons, List.length_nil, Nat.reduceAdd, Nat.reduceSub, Array.replicate_succ, Array.replicate_zero, List.push_toArray, List.append_toArray, List.nil_append, List.cons_append]
  gi_wp2_with fail
  gi_loopw [9] (fun i wr => i = .int .i64 0 ∧ wr = W) (fun _ _ => 0)
  case atStart => exact ⟨rfl, rfl⟩
  case round =>
    obtain ⟨rfl, rfl⟩ := hrel
    gi_wp2_with fail
    go_end0
    exact ⟨⟨_, rfl⟩, 0, rfl, HJ0.out⟩
/-- how the call ends: no round's deferred calls but one empty list -/
def mk (D : Nat) : Deferred := { target := .collected D, args := #[] }
theorem leave1 {fn : Func} {tmps : Array Value} {N D r : Nat} {w X : World} (hres : fn.results = #[.tmp r]) (ht : tmps.getD r undef = .bool true) (hD : N ≤ D) (h : X.heap[D]? = some (.deferred (some []))) (hb : Below N w X) :
    LeavesInM Fence.wide 3 Try.prog fn tmps (fun e w' => e = .returned (.bool true) ∧ Below N w w') ([mk D]) .returning X := by
  refine ⟨by simp, .inl ⟨D, _, rfl, run_takeDeferred h, ?_⟩⟩
  have hbut := but_put D X (.deferred none)
  refine ⟨.bool true, ?_, rfl, hb.trans (hbut.below hD)⟩
  rw [results_tmp hres, ht]
set_option linter.unusedSimpArgs false in
set_option maxHeartbeats 4000000 in
theorem none_walk (i m : Int) (w : World) :
    Calls Try.prog 4 #[.int .i64 i, .int .i64 m] w fun e w' => e = .returned (.bool true) ∧ Below w.heap.size w w' := by
  have HLV := Lib.hid (lives_any w)
  refine (callsIn_wide (n := 3)).1 ?_
  refine callsIn_of_wp_marks Try.func4 rfl trivial ?_ rfl
  simp only [Try.ntmps4, List.size_toArray, List.length_cons, List.length_nil, Nat.reduceAdd, Nat.reduceSub, Array.replicate_succ, Array.replicate_zero, List.push_toArray, List.append_toArray, List.nil_append, List.cons_append]
  refine wpIn_wide.2 ?_
  go_wp2_with (first | (go_at_call 6; (with_reducible refine HLV.out.mono ?_); rintro e wa ⟨rfl, hba⟩) | (go_at_call 14; (with_reducible refine (up_nil _).mono ?_); rintro e w' ⟨rfl, rfl⟩) | (go_at_call 12; (with_reducible refine (crash_nil _ _).mono ?_); rintro e w' ⟨rfl, rfl⟩) | (go_at_call 15; (with_reducible refine (read_nil _ _ _).mono ?_); rintro e w' ⟨rfl, rfl⟩) | (go_at_call 16; (with_reducible refine (waits_nil _).mono ?_); rintro e w' ⟨rfl, rfl⟩))
  obtain ⟨V, hV⟩ : ∃ X, X = (wa.alloc (.cells #[.int .i64 0] 3)).alloc (.cells #[.slice none 0 0] 60) := ⟨_, rfl⟩
  have hbV : Below wa.heap.size wa V := by rw [hV]; exact ((Below.refl _ _).alloc (Nat.le_refl _) _).alloc (by simp) _
  have hzV : V.heap.size = wa.heap.size + 2 := by rw [hV]; simp
  have g0 : V.heap[wa.heap.size]? = some (.cells #[.int .i64 0] 3 (0, 0)) := by
    rw [hV]; exact heap_old ((Below.refl _ _).alloc (Nat.le_refl _) _) (heap_alloc_new wa _)
  have g1 : V.heap[wa.heap.size + 1]? = some (.cells #[.slice none 0 0] 60 (0, 0)) := by
    have := heap_alloc_new (wa.alloc (.cells #[.int .i64 0] 3)) (.cells #[.slice none 0 0] 60)
    rw [World.size_alloc] at this; rw [hV]; exact this
  rw [← hV]
  have HV := Lib.hid (And.intro hbV (And.intro hzV (And.intro g0 g1)))
  have HBA := Lib.hid hba
  clear hV hbV hzV g0 g1 hba HLV
  refine (wpIn_wide (n := 3)).1 ?_
  refine range_all rfl (by omega) (gf := 23) (lb := #[.pointer (some ⟨wa.heap.size + 1, 0, none⟩)]) rfl trivial (enters_of Try.func23 (by kernel_rfl) rfl)
    (waits1_none (3 - 1) 0 0 V.heap.size (wa.heap.size + 1) V (fun W hW => (hW.cell (p := ⟨wa.heap.size + 1, 0, none⟩) (by have := HV.out.2.1; show wa.heap.size + 1 < V.heap.size; omega)).trans (cell_of_one HV.out.2.2.2))) (fun _ => rfl)
    (fun _ X => X.heap[wa.heap.size]? = some (.cells #[.int .i64 0] 3 (0, 0)) ∧ Below w.heap.size w X) (fun _ X X' h hb => ⟨(hb.block wa.heap.size (by have := HV.out.2.1; omega)).trans h.1, h.2.trans (hb.mono (by have := HBA.out.size; have := HV.out.2.1; omega))⟩) ?h0 (fun _ _ _ _ h _ => h.elim) (fun _ _ _ _ _ _ h _ _ => h.elim) (fun _ _ _ _ _ _ _ h => h.elim) ?hdone
  case h0 => exact ⟨HV.out.2.2.1, HBA.out.trans (HV.out.1.mono HBA.out.size)⟩
  case hdone =>
    intro D m2 X hD _ hI hK
    dsimp only
    have y8 := cell_of_one hI.1
    have HX := Lib.hid (And.intro hI (And.intro hK hD))
    clear hI hK hD
    go_wp2_with fail
    have q1 : ∀ Y, Calls Try.prog 17 #[.pointer none] Y fun e w' => e = .returned (.bool true) ∧ w' = Y := fun Y => (down_nil Y).mono fun _ _ h => ⟨h.1, h.2.symm⟩
    have q2 : ∀ Y, Calls Try.prog 9 #[.pointer none, .int .i64 i, .slice none 0 0] Y fun e w' => e = .returned (.int .i64 19) ∧ w' = Y := fun Y => (write_nil Y i _).mono fun _ _ h => ⟨h.1, h.2.symm⟩
    have q3 : ∀ Y, Calls Try.prog 11 #[.pointer none] Y fun e w' => e = .returned (.int .i64 19) ∧ w' = Y := fun Y => (sync_nil Y).mono fun _ _ h => ⟨h.1, h.2.symm⟩
    have q4 : ∀ Y, Calls Try.prog 18 #[.pointer none] Y fun e w' => e = .returned (.int .i64 0) ∧ w' = Y := fun Y => (len_nil Y).mono fun _ _ h => ⟨h.1, h.2.symm⟩
    have q5 : ∀ Y, Calls Try.prog 19 #[.pointer none] Y fun e w' => e = .returned (.pointer none) ∧ w' = Y := fun Y => (copy_nil Y).mono fun _ _ h => ⟨h.1, h.2.symm⟩
    go_quiet ((first | (go_at_call 17; exact Calls.quiet_of_same (q1 _)) | (go_at_call 9; exact Calls.quiet_of_same (q2 _)) | (go_at_call 11; exact Calls.quiet_of_same (q3 _)) | (go_at_call 18; exact Calls.quiet_of_same (q4 _)) | (go_at_call 19; exact Calls.quiet_of_same (q5 _))))
    go_wp2_with fail
    have hb0 := HX.out.1.2
    have hbX : Below w.heap.size w (X.drewN nq) := ⟨hb0.os, hb0.tape, hb0.output, hb0.size, hb0.block⟩
    exact leave1 rfl rfl (by have := HX.out.2.2; have := HV.out.2.1; have := HBA.out.size; omega) HX.out.2.1 hbX
end Go.Proofs.Ytoafohckodfjeaa.Dk
