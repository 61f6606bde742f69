
/- quotas: all are told -/
import Derived.Test.YthbpgdeaaadlbaaQt8
import Derived.Shelf.RegionOpen
import Derived.OwnWalkIn
import Derived.TacticsInMore
import Derived.LoopNIn
import Derived.LoopIn
namespace Go.Proofs.Ythbpgdeaaadlbaa.Qt
open Go.RowKit Go.Lib Go.Maps Go.WideElems Go.ChangeMaps Go.MapKept Go.Sort Hp Rg
set_option linter.unusedVariables false
set_option linter.unusedSectionVars false
attribute [local go_sem] Oper.semAt_some
set_option maxRecDepth 20000
theorem yield_some (W : World) (lp : Nat) : (binOp .eql 40 (.func (.yield lp) #[] #[]) .nilFunc).run Try.prog W = .ok (.bool false) W := by kernel_rfl
def enc1 (H : K → Option Int) (x : K) : Array Value := #[.string ⟨x.toArray⟩, .int .i64 (has H x)]
theorem getD_in (l : List K) {k : Nat} (h : k < l.length) : l.getD k [] ∈ l := by
  rw [List.getD_eq_getElem?_getD, List.getElem?_eq_getElem h]; exact List.getElem_mem h
theorem wrap_succ {m : Nat} (h : m ≤ 1000000) : wrap64 (((m : Nat) : Int) + 1) = ((m + 1 : Nat) : Int) := by unfold wrap64; omega
theorem all_iter (n n₀ n₁ B b3 b4 : Nat) (V : World) {ls : List K} {H : K → Option Int} (t : Tl B V b3 b4 ls H) (hB : n₁ ≤ B) :
    Iter Fence.wide n Try.prog 21 #[.pointer (some ⟨b4, 0, none⟩), .pointer (some ⟨b3, 0, none⟩)] (enc1 H) n₀ n₁ V.heap.size (fun m x _ => m < ls.length ∧ x = ls.getD m []) (fun m => m = ls.length) V := by
  intro lp J W hW hJ hY h0
  obtain ⟨ho, nn, e3, hm, hbo⟩ := t.c3
  obtain ⟨v, e4, hr, hro⟩ := t.c4
  have hl := t.l
  have hks := t.ks
  have hlen := t.len
  have hz := hW.size
  have c4 := (hW.cell (p := ⟨b4, 0, none⟩) hl.2.2.2).trans e4
  have c3W := (hW.cell (p := ⟨b3, 0, none⟩) hl.2.1).trans e3
  have hmW : Ms W ho nn H := hm.kept fun b e => hW.block b (hbo b e).2
  have hrW : Rw W v ls := hr.kept fun a n c e => hW.block _ (hro a n c e).2
  obtain ⟨a, cap, rfl⟩ := hrW.shape
  have hyn := fun W => yield_some W lp
  have HY := Lib.hid hY
  have HJ := Lib.hid hJ
  have H0 := Lib.hid h0
  have HR := Lib.hid (And.intro c3W (And.intro hmW (And.intro hrW (And.intro hbo (And.intro hro (And.intro hl (And.intro hks (And.intro hlen hz))))))))
  have HBB := Lib.hid hB
  clear hY hJ h0 hW t e3 hm hbo e4 hr hro hl hks hlen hz c3W hmW hrW hB
  obtain ⟨n', hln⟩ : ∃ n, n = ls.length := ⟨_, rfl⟩
  rw [← hln] at c4
  have HL := Lib.hid hln
  clear hln
  refine callsIn_of_wp Try.func21 rfl trivial ?_ rfl
  simp only [Try.ntmps21, List.size_toArray, List.length_cons, List.length_nil, Nat.reduceAdd, Nat.reduceSub, Array.replicate_succ, Array.replicate_zero, List.push_toArray, List.append_toArray, List.nil_append, List.cons_append]
  gi_wp2_with fail
  gi_loopw [10] (fun i wr => ∃ m : Nat, i = .int .i64 ((m : Nat) : Int) ∧ m ≤ ls.length ∧ J m wr ∧ Mid n₀ n₁ V.heap.size W wr) (fun i _ => ls.length - (RowKit.intOf i).toNat)
  case atStart => exact ⟨0, rfl, Nat.zero_le _, H0.out, Mid.refl _ _ _ _⟩
  case round =>
    obtain ⟨m, rfl, hm, hj, hmid⟩ := hrel
    by_cases hlt : m < ls.length
    · obtain ⟨c3W, hmW, hrW, hbo, hro, hl, hks, hlen, hz⟩ := HR.out
      have hB := HBB.out
      obtain ⟨g, c0, hsl, hcs⟩ : ∃ g c, Value.slice a ls.length cap = .slice (some ⟨g, 0, none⟩) ls.length c ∧ ∀ i, i < ls.length → W.cell? ⟨g, i, none⟩ = some (.string ⟨(ls.getD i []).toArray⟩) := by
        rcases hrW with ⟨h1, _⟩ | h
        · rw [h1] at hlt; simp at hlt
        · exact h
      obtain ⟨rfl, rfl⟩ : a = some ⟨g, 0, none⟩ ∧ cap = c0 := by cases hsl; exact ⟨rfl, rfl⟩
      have hgb := hro _ _ _ rfl
      have hkeep : ∀ b, B ≤ b → b < V.heap.size → ∀ k, wr.cell? ⟨b, k, none⟩ = W.cell? ⟨b, k, none⟩ := fun b h1 h2 k => by unfold World.cell?; rw [hmid.block b (.inr (by omega)) h2]
      have k1 := (hkeep g hgb.1 hgb.2 _).trans (hcs m hlt)
      have k3 := (hkeep b3 hl.1 hl.2.1 _).trans c3W
      obtain ⟨p, hp⟩ : ∃ x, x = ls.getD m [] := ⟨_, rfl⟩
      have hpw : wk p := ((hks.2 p).1 (by rw [hp]; exact getD_in ls hlt)).1
      rw [← hp] at k1
      have lk : (Instr.lookup 29 (.map ho) (.string ⟨p.toArray⟩) false).run Try.prog wr = .ok (.int .i64 (has H p)) wr := hmW.look1 (fun b e => hmid.block b (.inr (by have := (hbo b e).1; omega)) (hbo b e).2) hpw
      have hltx : ((m : Nat) : Int) < ((n' : Nat) : Int) := by have := HL.out; omega
      obtain ⟨fn, tmps, assign, body, hy, hR⟩ := HY.out m p _ hj ⟨hlt, hp⟩
      dsimp only [enc1] at hy
      have HX := Lib.hid (And.intro hj (And.intro hmid (And.intro hlt hm)))
      clear hj hmid hgb hcs hkeep hp hm hpw c3W hmW hrW hbo hro hl hks hlen hz hsl hB hlt
      generalize has H p = y at *
      gi_wp2_with fail
      refine ⟨(fun h => by cases h), hR.mono ?_⟩
      rintro e W3 ⟨rfl, hJ3, hm3⟩
      have HZ := Lib.hid (And.intro hJ3 hm3)
      clear hJ3 hm3 hR hy
      have hw1 := wrap_succ (m := m) (Nat.le_trans (Nat.le_of_lt HX.out.2.2.1) HR.out.2.2.2.2.2.2.2.1)
      gi_wp2_with fail
      exact ⟨⟨m + 1, by rw [hw1], HX.out.2.2.1, HZ.out.1, HX.out.2.1.trans HZ.out.2⟩, by have := HX.out.2.2.1; rw [hw1]; simp [RowKit.intOf]; omega⟩
    · have hltx : ((n' : Nat) : Int) ≤ ((m : Nat) : Int) := by have := HL.out; omega
      have hme : m = ls.length := by omega
      have HX := Lib.hid (And.intro hj hme)
      clear hj hme hmid hlt hm
      gi_wp2_with fail
      go_end0
      exact ⟨⟨_, rfl⟩, m, HX.out.2, HX.out.1⟩
end Go.Proofs.Ythbpgdeaaadlbaa.Qt
