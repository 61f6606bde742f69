
/- heaps of string and uint64: all are told -/
import Derived.Test.YtomkefaakgodhaaHpSE
namespace Go.Proofs.Ytomkefaakgodhaa.HpE
open Go.RowKit Go.Lib Go.Sort Hp Rg
set_option linter.unusedVariables false
attribute [local go_sem] Oper.semAt_some
set_option maxRecDepth 20000
theorem yield_some (W : World) (lp : Nat) : (binOp .eql 86 (.func (.yield lp) #[] #[]) .nilFunc).run Try.prog W = .ok (.bool false) W := by kernel_rfl
theorem all_iter (n n₀ n₁ N B0 : Nat) (V : World) {v : Value} {l : List (K × Int)} (hbox : V.cell? ⟨B0, 0, none⟩ = some v) (hB0 : B0 < N) (hN : N ≤ V.heap.size) (hsrc : Src V v l) (hnb : ∀ a n c, v = .slice (some a) n c → a.block < N ∧ (a.block < n₀ ∨ n₁ ≤ a.block)) (hl : l.length ≤ 1000000) :
    Iter Fence.wide n Try.prog 43 #[.pointer (some ⟨B0, 0, none⟩)] enc1 n₀ n₁ N (fun m x _ => m < l.length ∧ x = el l m) (fun m => m = l.length) V := by
  intro lp J W hW hJ hY h0
  have hcell := (hW.cell (p := ⟨B0, 0, none⟩) hB0).trans hbox
  have hsrcW : Src W v l := hsrc.kept fun a n c e => hW.block _ (hnb a n c e).1
  obtain ⟨a, cap, rfl, hsh⟩ := hsrcW.shape
  have hyn := fun W => yield_some W lp
  have HY := Lib.hid hY
  have HJ := Lib.hid hJ
  have H0 := Lib.hid h0
  have hNW := Nat.le_trans hN hW.size
  have HR := Lib.hid (And.intro hsrcW (And.intro hnb (And.intro hl hsh)))
  have HN := Lib.hid hNW
  clear hN hNW hY hJ h0 hW hbox hsrc hsrcW hsh hB0 hnb hl
  obtain ⟨n', hln⟩ : ∃ n, n = l.length := ⟨_, rfl⟩
  rw [← hln] at hcell
  have HL := Lib.hid hln
  clear hln
  refine callsIn_of_wp Try.func43 rfl trivial ?_ rfl
  simp only [Try.ntmps43, List.size_toArray, List.length_cons, List.length_nil, Nat.reduceAdd, Nat.reduceSub, Array.replicate_succ, Array.replicate_zero, List.push_toArray, List.append_toArray, List.nil_append, List.cons_append]
  gi_wp2_with fail
  gi_loopw [9] (fun i wr => ∃ m : Nat, i = .int .i64 ((m : Nat) : Int) ∧ m ≤ l.length ∧ J m wr ∧ Mid n₀ n₁ N W wr) (fun i _ => l.length - (RowKit.intOf i).toNat)
  case atStart => exact ⟨0, rfl, Nat.zero_le _, H0.out, Mid.refl _ _ _ _⟩
  case round =>
    obtain ⟨m, rfl, hm, hj, hmid⟩ := hrel
    by_cases hlt : m < l.length
    · obtain ⟨g, rfl, hcs⟩ := HR.out.2.2.2 (fun e => by rw [e] at hlt; simp at hlt)
      have hgb := HR.out.2.1 _ _ _ rfl
      have hkeep : ∀ k, wr.cell? ⟨g, k, none⟩ = W.cell? ⟨g, k, none⟩ := fun k => by unfold World.cell?; rw [hmid.block g hgb.2 hgb.1]
      have k1 := (hkeep _).trans (hcs m hlt).1
      have r1 := (hkeep _).trans (hcs m hlt).2
      obtain ⟨p1, hp1⟩ : ∃ x, x = (el l m).1 := ⟨_, rfl⟩
      obtain ⟨q1, hq1⟩ : ∃ x, x = (el l m).2 := ⟨_, rfl⟩
      have hx1 : (p1, q1) = el l m := by rw [hp1, hq1]
      rw [← hp1] at k1
      rw [← hq1] at r1
      unfold ek at k1
      unfold er at r1
      have hltx : ((m : Nat) : Int) < ((n' : Nat) : Int) := by have := HL.out; omega
      have hbA : Below wr.heap.size wr (wr.alloc (.cells #[(.string ⟨p1.toArray⟩), (.int .u64 q1)] 63)) := (Below.refl _ _).alloc (Nat.le_refl _) _
      obtain ⟨fn, tmps, assign, body, hy, hR⟩ := HY.out m (p1, q1) _ (HJ.out m _ _ hj hbA) ⟨hlt, hx1⟩
      dsimp only [enc1, item, ek, er] at hy
      have HX := Lib.hid (And.intro hj (And.intro hmid (And.intro hbA (And.intro hlt hm))))
      clear hj hmid hbA hgb hcs hkeep hp1 hq1 hx1 hm
      gi_wp2_with fail
      refine ⟨(fun h => by cases h), hR.mono ?_⟩
      rintro e W3 ⟨rfl, hJ3, hm3⟩
      have HZ := Lib.hid (And.intro hJ3 hm3)
      clear hJ3 hm3 hR hy
      have hw1 := wrap_succ (m := m) (Nat.le_trans (Nat.le_of_lt HX.out.2.2.2.1) HR.out.2.2.1)
      gi_wp2_with fail
      have hw2 := HX.out.2.1.size
      have hN2 := HN.out
      exact ⟨⟨m + 1, by rw [hw1], HX.out.2.2.2.1, HZ.out.1, (HX.out.2.1.trans (Mid.of (HX.out.2.2.1.mono (by omega)))).trans HZ.out.2⟩, by have := HX.out.2.2.2.1; rw [hw1]; simp [RowKit.intOf]; omega⟩
    · have hltx : ((n' : Nat) : Int) ≤ ((m : Nat) : Int) := by have := HL.out; omega
      have hme : m = l.length := by omega
      have HX := Lib.hid (And.intro hj hme)
      clear hj hme hmid hlt hm
      gi_wp2_with fail
      go_end0
      exact ⟨⟨_, rfl⟩, m, HX.out.2, HX.out.1⟩
end Go.Proofs.Ytomkefaakgodhaa.HpE

