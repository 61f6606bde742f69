
/- logs: slices.Chunk -/
import Derived.Test.YtjblkmjdepdekaaDoorWl1
import Derived.Test.YtjblkmjdepdekaaDoorRx
import Derived.Shelf.Abstract
import Derived.Shelf.RegionOpen
import Derived.OwnWalkIn
import Derived.TacticsInMore
import Derived.LoopNIn
import Derived.LoopIn
namespace Go.Proofs.YtjblkmjdepdekaaDoor.Wl
open Go.RowKit Go.Lib Go.Joins Go.Proofs.YtjblkmjdepdekaaDoor.By Go.Proofs.YtjblkmjdepdekaaDoor.Dk Go.Proofs.YtjblkmjdepdekaaDoor.Oc Go.Proofs.YtjblkmjdepdekaaDoor.Rg
attribute [local go_sem] Oper.semAt_some

/-- a part that is told: where it begins, how long it is -/
def encC (g : Nat) (x : Nat × Nat) : Array Value := #[.slice (some ⟨g, x.1, none⟩) x.2 x.2]
def PartC (c o len m : Nat) (x : Nat × Nat) (_ : World) : Prop := m * c < len ∧ x = (o + m * c, min c (len - m * c))
theorem yield_thereB (l : Nat) (w : World) : (binOp BinOp.eql 106 (.func (.yield l) #[] #[]) .nilFunc).run Tryd.prog w = .ok (.bool false) w := by
  kernel_rfl
theorem chunk_any (a : Option Addr) (len cap c : Nat) (w : World) (hc : 1 ≤ c ∧ c ≤ 64) :
    Calls Tryd.prog 45 #[.slice a len cap, .int .i64 (c : Nat)] w fun e w' => e = .returned (.func (.func 57) #[] #[.pointer (some ⟨w.heap.size, 0, none⟩), .pointer (some ⟨w.heap.size + 1, 0, none⟩)]) ∧
      w' = (w.alloc (.cells #[.slice a len cap] 32)).alloc (.cells #[.int .i64 (c : Nat)] 3) := by
  have hmf : ∀ (fn : Fn) (first cap : Array Value) (w : World), (Instr.makeFunc fn first cap).run Tryd.prog w = .ok (.func fn first cap) w := fun _ _ _ _ => rfl
  have h1 : (1 : Int) ≤ (c : Int) := by omega
  go_enter Tryd.func45, Tryd.ntmps45
  go_wp2_with fail
  go_ret
  exact ⟨rfl, rfl⟩
set_option maxRecDepth 20000 in
set_option maxHeartbeats 4000000 in
theorem chunk1_iter (n n₀ n₁ c g o len cap sb nb : Nat) (w : World) (hc : 1 ≤ c ∧ c ≤ 64) (hl : len ≤ cap ∧ len ≤ 1000000 ∧ cap ≤ 9223372036854775807)
    (hK : ∀ W, Mid n₀ n₁ w.heap.size w W → W.cell? ⟨sb, 0, none⟩ = some (.slice (some ⟨g, o, none⟩) len cap) ∧ W.cell? ⟨nb, 0, none⟩ = some (.int .i64 (c : Nat))) :
    IterX true Fence.wide n Tryd.prog 57 #[.pointer (some ⟨sb, 0, none⟩), .pointer (some ⟨nb, 0, none⟩)] (encC g) n₀ n₁ w.heap.size (PartC c o len) (fun m => len ≤ m * c) w := by
  intro l J K W hW hJ hKK hY hJ0
  have HK := Lib.hid hK
  have HJ := Lib.hid hJ
  have HKK := Lib.hid hKK
  have HY := Lib.hid hY
  have HJ0 := Lib.hid hJ0
  have HW := Lib.hid hW
  clear hK hJ hKK hY hJ0 hW
  refine callsIn_of_wp Tryd.func57 rfl trivial ?_ rfl
  simp only [Tryd.ntmps57, List.size_toArray, List.length_cons, List.length_nil, Nat.reduceAdd, Nat.reduceSub, Array.replicate_succ, Array.replicate_zero, List.push_toArray, List.append_toArray, List.nil_append, List.cons_append]
  gi_wp2_with fail
  gi_loopw [4] (fun p wr => ∃ m : Nat, p = .int .i64 ((m * c : Nat) : Int) ∧ m * c < len + c ∧ J m wr ∧ Mid n₀ n₁ w.heap.size w wr) (fun p _ => (len + c) - (intOf p).toNat)
  case atStart => exact ⟨0, by simp, by omega, HJ0.out, Mid.of HW.out⟩
  case round =>
    obtain ⟨m, rfl, hm, hj, hmid⟩ := hrel
    obtain ⟨hsc, hnc⟩ := HK.out wr hmid
    obtain ⟨p, hp⟩ : ∃ p, p = m * c := ⟨_, rfl⟩
    rw [← hp] at hm ⊢
    have HA := Lib.hid (And.intro hj (And.intro hmid hp))
    clear hj hmid hp
    have hp0 : (0 : Int) ≤ (p : Int) := by omega
    have hc1 : (1 : Int) ≤ (c : Int) := by omega
    have hc64 : (c : Int) ≤ 64 := by omega
    by_cases hlt : p < len
    · have hpl : (p : Int) < (len : Int) := by omega
      have hlc : (len : Int) ≤ (cap : Int) := by omega
      gi_wp2_with fail
      refine wpIn_wide.2 ?_
      go_region
      obtain ⟨e, he⟩ : ∃ e, e = min c (len - p) := ⟨_, rfl⟩
      have hme : (if len - p < c then ((len - p : Nat) : Int) else (c : Int)) = ((e : Nat) : Int) := by
        rw [he]; split <;> omega
      rw [hme]
      have e1 : 1 ≤ e := by omega
      have e2 : p + e ≤ len := by omega
      have hjd := HJ.out m wr wr.drew HA.out.1 (Below.refl _ _).drew
      have hmd := HA.out.2.1.trans (Mid.of ((Below.refl w.heap.size wr).drew))
      have hcd : wr.drew.cell? ⟨sb, 0, none⟩ = some (.slice (some ⟨g, o, none⟩) len cap) := hsc
      have hnd : wr.drew.cell? ⟨nb, 0, none⟩ = some (.int .i64 (c : Nat)) := hnc
      obtain ⟨fn, tmps, assign, body, hy, hR⟩ := HY.out m (o + p, e) _ hjd ⟨by rw [← HA.out.2.2]; exact hlt, by rw [← HA.out.2.2, ← he]⟩
      dsimp only [encC] at hy
      obtain ⟨wd, hwd⟩ : ∃ wd, wd = wr.drew := ⟨_, rfl⟩
      rw [← hwd] at hmd hcd hnd hy hR ⊢
      have HM := Lib.hid (And.intro hmd (And.intro he hme))
      clear hjd hmd hwd hsc hnc he hme
      have e1I : (1 : Int) ≤ (e : Int) := by omega
      have e2I : (p : Int) + (e : Int) ≤ (len : Int) := by omega
      have e3I : (p : Int) + (e : Int) ≤ (cap : Int) := by omega
      gi_wp2_with fail
      refine ⟨(fun h => (by cases h)), hR.mono ?_⟩
      rintro e' W3 (⟨rfl, hJ3, hm3⟩ | ⟨_, rfl, hK3⟩)
      · have hk3 := HK.out W3 (HM.out.1.trans hm3)
        have hcd3 := hk3.1
        have hnd3 := hk3.2
        have HF := Lib.hid (And.intro hJ3 (HM.out.1.trans hm3))
        clear hJ3 hm3 hk3 hcd hnd
        gi_wp2_with fail
        go_roundw
        case rel => exact ⟨m + 1, by rw [Nat.succ_mul, ← HA.out.2.2]; go_num, by rw [Nat.succ_mul, ← HA.out.2.2]; omega, HF.out⟩
        case measure => simp [intOf]; omega
      · have HF := Lib.hid hK3
        clear hK3
        gi_wp2_with fail
        refine bodyPost_ret (results_none rfl _ _ _) rfl ?_
        exact ⟨⟨_, rfl⟩, .inr ⟨m, HF.out⟩⟩
    · have hpl : ¬ (p : Int) < (len : Int) := by omega
      gi_wp2_with fail
      go_end0
      exact ⟨⟨_, rfl⟩, .inl ⟨m, by rw [← HA.out.2.2]; omega, HA.out.1⟩⟩
end Go.Proofs.YtjblkmjdepdekaaDoor.Wl
