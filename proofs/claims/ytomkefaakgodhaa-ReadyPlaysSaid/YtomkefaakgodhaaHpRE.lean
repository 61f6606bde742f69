
/- heaps of string and uint64: Cut, Rank -/
import Derived.Test.YtomkefaakgodhaaHpLE
namespace Go.Proofs.Ytomkefaakgodhaa.HpE
open Go.RowKit Go.Lib Go.Sort Hp Ht
set_option linter.unusedVariables false
set_option maxRecDepth 20000
section
variable {S : Nat → Prop} {w : World} {hb : Nat} {iv mv : Value} {l m : List (K × Int)} {f : K → Option Nat}
theorem cut_any (h : Hv S w hb m) {k : K} (hk : wk k) (hn : m.length ≤ 1000000) :
    Calls Try.prog 25 #[.pointer (some ⟨hb, 0, none⟩), ek k] w fun e w' => e = .returned (.bool (decide (k ∈ m.map (·.1)))) ∧ Hw S w hb w' (cut k m) := by
  have h0 := h
  obtain ⟨iv, mv, l, f, hq, hh, hpm⟩ := h
  have hin : decide (k ∈ m.map (·.1)) = (f k).isSome := by rw [hq.some_in]; simp only [decide_eq_decide]; exact (hpm.map _).mem_iff.symm
  have hll := hpm.length_eq
  have hpl := place_any hq hk
  rw [hin]
  cases hf : f k with
  | some i =>
    rw [hf] at hpl
    obtain ⟨hi, hki⟩ := (hq.pl k i).1 hf
    have hd := drop_any hq hh hi (by omega)
    have hend : ∀ q : List (K × Int), (q ++ [el l i]).Perm l → q.Perm (cut k m) := fun q hqp => by
      have h1 : (q ++ [((el l i).1, (el l i).2)]).Perm l := hqp
      have h2 := cut_of h1 hq.pl.nodup
      rw [hki] at h2
      exact h2.trans (cut_perm hpm)
    have HD := Lib.hid (And.intro hd hend)
    have HP := Lib.hid hpl
    clear hd hend hq hh hpm hin hll hf hpl hki hk h0 hn hi
    obtain ⟨kv, hkv⟩ : ∃ x, x = ek k := ⟨_, rfl⟩
    rw [← hkv] at HP ⊢
    clear hkv
    go_enter Try.func25, Try.ntmps25
    go_wp2_with fail
    refine HP.out.mono ?_
    rintro e w1 ⟨rfl, rfl⟩
    go_wp2_with fail
    refine HD.out.1.mono ?_
    rintro e w2 ⟨rfl, q, ⟨S', hv, hfr, hsub⟩, hpq⟩
    have hres : Hw S w1 hb w2 (cut k m) := ⟨S', hv.perm (HD.out.2 q hpq), hfr, hsub⟩
    have HX := Lib.hid hres
    clear hv hfr hsub hpq hres
    go_wp2_with fail
    go_ret
    exact ⟨by simp, HX.out⟩
  | none =>
    rw [hf] at hpl
    have hend : cut k m = m := cut_not (fun e => (hq.pl.none hf) ((hpm.map _).mem_iff.2 e))
    rw [hend]
    have HP := Lib.hid hpl
    have HX : RowKit.Hid (Hw S w hb w m) := Lib.hid ⟨S, h0, Fr.refl S w, fun x hx => .inl hx⟩
    clear hend hq hh hpm hin hll hf hpl hk h0 hn
    obtain ⟨kv, hkv⟩ : ∃ x, x = ek k := ⟨_, rfl⟩
    rw [← hkv] at HP ⊢
    clear hkv
    go_enter Try.func25, Try.ntmps25
    go_wp2_with fail
    refine HP.out.mono ?_
    rintro e w1 ⟨rfl, rfl⟩
    go_wp2_with fail
    go_ret
    exact ⟨by simp, HX.out⟩
theorem rank_any (h : Hv S w hb m) {k : K} (hk : wk k) :
    Calls Try.prog 33 #[.pointer (some ⟨hb, 0, none⟩), ek k] w fun e w' => ((k ∉ m.map (·.1) ∧ e = .returned (.tuple #[.int .u64 0, .bool false])) ∨ (∃ r, (k, r) ∈ m ∧ e = .returned (.tuple #[er r, .bool true]))) ∧ Below w.heap.size w w' := by
  obtain ⟨iv, mv, l, f, hq, hh, hpm⟩ := h
  have hpl := place_any hq hk
  cases hf : f k with
  | some i =>
    rw [hf] at hpl
    obtain ⟨hi, hki⟩ := (hq.pl k i).1 hf
    obtain ⟨g, cap, b, rfl, hB, rfl, hM, hSg, hSb, hgb, hbb, hgm⟩ := hq.at (by omega)
    have hI := hq.items
    have r1 := hB.rank hi
    obtain ⟨q1, hq1⟩ : ∃ x, x = (el l i).2 := ⟨_, rfl⟩
    rw [← hq1] at r1
    have hin : (k, q1) ∈ m := by
      rw [hq1, ← hki]
      exact hpm.mem_iff.1 (el_mem hi)
    have hix : ((i : Nat) : Int) < ((l.length : Nat) : Int) := by omega
    have HP := Lib.hid (And.intro hpl hin)
    unfold er at r1
    clear hpl hq hh hpm hB hM hSg hSb hgb hbb hgm hf hki hk hi hin hq1
    generalize l.length = n at *
    obtain ⟨kv, hkv⟩ : ∃ x, x = ek k := ⟨_, rfl⟩
    rw [← hkv] at HP ⊢
    clear hkv
    go_enter Try.func33, Try.ntmps33
    go_wp2_with fail
    refine HP.out.1.mono ?_
    rintro e w1 ⟨rfl, rfl⟩
    go_wp2_with fail
    refine bodyPost_ret (results_tmp2 rfl _ _ _) rfl ?_
    exact ⟨.inr ⟨q1, HP.out.2, by simp [er]⟩, Below.refl _ _⟩
  | none =>
    rw [hf] at hpl
    have hin : k ∉ m.map (·.1) := fun e => (hq.pl.none hf) ((hpm.map _).mem_iff.2 e)
    have HP := Lib.hid (And.intro hpl hin)
    clear hpl hq hh hpm hf hin hk
    obtain ⟨kv, hkv⟩ : ∃ x, x = ek k := ⟨_, rfl⟩
    rw [← hkv] at HP ⊢
    clear hkv
    go_enter Try.func33, Try.ntmps33
    go_wp2_with fail
    refine HP.out.1.mono ?_
    rintro e w1 ⟨rfl, rfl⟩
    go_wp2_with fail
    refine bodyPost_ret (results_tmp2 rfl _ _ _) rfl ?_
    exact ⟨.inl ⟨HP.out.2, by simp⟩, (Below.refl _ _).alloc (Nat.le_refl _) _⟩
end
end Go.Proofs.Ytomkefaakgodhaa.HpE

