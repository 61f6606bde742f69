
/- fires: small functions -/
import Derived.Test.YtkkanggkbbmfnaaGreatDoorFiM
import Derived.Test.YtkkanggkbbmfnaaGreatDoorCnTw
namespace Go.Proofs.YtkkanggkbbmfnaaGreatDoor.Fi
open Go.RowKit Go.Lib Go.Proofs.YtkkanggkbbmfnaaGreatDoor.Cn
set_option linter.unusedVariables false

theorem tz_zero (w : World) : Calls Tryz.prog 94 #[u 0] w fun e w' => e = .returned (.int .i64 64) ∧ w' = w := by
  go_enter Tryz.func94, Tryz.ntmps94
  go_wp2_with fail
  go_ret
  exact ⟨rfl, rfl⟩
/-- the table of the library -/
def Db (w : World) : Prop := ∀ j, j < 64 → w.cell? ⟨5, j, none⟩ = some (.int .u8 (deBruijn64tab.getD j 0 : Nat))
theorem Db.keep {w w' : World} (h : Db w) (hb : w'.heap[5]? = w.heap[5]?) : Db w' := fun j hj => by
  rw [← h j hj]; unfold World.cell?; rw [hb]
theorem Db.lt {w : World} (h : Db w) : 5 < w.heap.size := World.block_lt_of_cell? _ _ (h 0 (by decide))
theorem Db.old {w w' : World} (h : Db w) (hb : Below w.heap.size w w') : Db w' := h.keep (hb.block _ h.lt)
theorem tz_lst (x : Nat) (hx : x < 18446744073709551616) (w : World) (hg : Db w) :
    Calls Tryz.prog 94 #[u x] w fun e w' => e = .returned (.int .i64 (lst x : Nat)) ∧ w' = w := by
  by_cases h0 : x = 0
  · subst h0; exact tz_zero w
  · obtain ⟨hlow, hk⟩ := lowest_bit 64 x h0 hx
    obtain ⟨hi, htab⟩ := deBruijn64_at _ hk
    have hcell := hg _ hi
    rw [htab] at hcell
    have h := tz_core x _ _ w (by simp; omega) (tz64_key x _ hx h0 hlow) hi hk hcell
    rw [show ctz 64 x = lst x by unfold lst; rw [if_neg h0]] at h
    exact h
theorem least_any (x : Nat) (hx : x < 18446744073709551616) (w : World) (hg : Db w) :
    Calls Tryz.prog 68 #[u x] w fun e w' => e = .returned (.int .i64 (lst x : Nat)) ∧ w' = w := by
  have h := tz_lst x hx w hg
  generalize lst x = l at h ⊢
  go_enter Tryz.func68, Tryz.ntmps68
  go_wp2_with fail
  refine h.mono ?_
  rintro e w' ⟨rfl, rfl⟩
  go_wp2_with fail
  go_ret
  exact ⟨rfl, rfl⟩
/-- two ticks, as near as they can be -/
def lo (a : Int) : Int := max a (-1)
def up (b : Int) : Int := min b 1099511627776
theorem within_any (a b : Int) (ha : Ca.I64 a) (hb : Ca.I64 b) (w : World) :
    Calls Tryz.prog 42 #[.int .i64 a, .int .i64 b] w fun e w' => e = .returned (.tuple #[.int .i64 (lo a), .int .i64 (up b)]) ∧ w' = w := by
  unfold Ca.I64 at ha hb
  go_enter Tryz.func42, Tryz.ntmps42
  go_wp2_with fail
  all_goals
    go_ret2
    refine ⟨congrArg Ending.returned (congrArg Value.tuple ?_), rfl⟩
    unfold lo up
    (repeat' split) <;> first | rfl | (exfalso; omega) | (simp; omega)
/-- the step to the next day that may be named -/
def stp (e : Ex) (y mo d : Int) : Int := if hb e.d mo = true then 1 else Ca.dm y mo - d + 1
set_option maxRecDepth 20000 in
set_option maxHeartbeats 4000000 in
theorem step_any (e : Ex) (he : ExOk e) (y mo d wd h mi : Int) (hy : Ca.I64 y) (hm1 : 1 ≤ mo) (hm2 : mo ≤ 12) (hd1 : 1 ≤ d) (hd2 : d ≤ 31) (w : World) :
    Calls Tryz.prog 69 #[exv e, Ca.mom y mo d wd h mi] w fun r w' => r = .returned (.int .i64 (stp e y mo d)) ∧ Below w.heap.size w w' := by
  have hbt := bit_at e.d mo.toNat he.d
  rw [Nat.min_eq_left (by omega)] at hbt
  have hmt : ((mo.toNat : Nat) : Int) = mo := by omega
  have hq := fun W => Ca.Days_any y mo W hy (by unfold Ca.I64; omega)
  have hdp := Ca.dm_pos (y := y) hm1 hm2
  have hE : hb e.d mo = e.d.testBit mo.toNat := by unfold hb; rw [decide_eq_true (by omega)]; rfl
  unfold stp
  rw [hE]
  generalize Ca.dm y mo = D at hq hdp ⊢
  generalize e.d.testBit mo.toNat = B at hbt ⊢
  obtain ⟨V, hV⟩ : ∃ V, V = (w.alloc (.cells (exC e) 57)).alloc (.cells (Ca.momC y mo d wd h mi) 111) := ⟨_, rfl⟩
  obtain ⟨b1, b2, b3, b4⟩ := two_new w (exC e) 57 (Ca.momC y mo d wd h mi) 111
  rw [← hV] at b1 b2 b3 b4
  obtain ⟨⟨c0, c1, c2, c3, c4, c5, c6⟩, _⟩ := seven b2
  obtain ⟨⟨m0, m1, m2, m3, m4, m5⟩, _⟩ := Ca.mom_cells b3
  have HV := Lib.hid (And.intro hV b1)
  clear hV b1 b2 b3 b4 hE
  cases B
  · go_enter Tryz.func69, Tryz.ntmps69
    go_wp2_with fail
    rw [← HV.out.1]
    go_quiet ((go_at_call 93; exact Calls.quiet_of_same (hq _)))
    go_wp2_with fail
    go_ret
    exact ⟨rfl, below_drewN HV.out.2 _⟩
  · go_enter Tryz.func69, Tryz.ntmps69
    go_wp2_with fail
    rw [← HV.out.1]
    go_ret
    exact ⟨rfl, HV.out.2⟩
end Go.Proofs.YtkkanggkbbmfnaaGreatDoor.Fi
