
/- heaps of string and uint64: Put -/
import Derived.Test.YtomkefaakgodhaaHpIE
namespace Go.Proofs.Ytomkefaakgodhaa.HpE
open Go.RowKit Go.Lib Go.Sort Hp Ht
set_option linter.unusedVariables false
set_option maxRecDepth 20000
/-- a heap of keys with ranks, in whatever order -/
def Hv (S : Nat → Prop) (w : World) (hb : Nat) (m : List (K × Int)) : Prop := ∃ iv mv l f, Hq S w hb iv mv l f ∧ Hpd ltp l ∧ l.Perm m
theorem Hv.kept {S : Nat → Prop} {w Y : World} {hb : Nat} {m : List (K × Int)} (h : Hv S w hb m) (hs : w.heap.size ≤ Y.heap.size) (e : ∀ k, S k → Y.heap[k]? = w.heap[k]?) : Hv S Y hb m := by
  obtain ⟨iv, mv, l, f, h1, h2⟩ := h
  exact ⟨iv, mv, l, f, h1.kept hs e, h2⟩
theorem Hv.old {S : Nat → Prop} {w Y : World} {hb : Nat} {m : List (K × Int)} (h : Hv S w hb m) (e : Below w.heap.size w Y) : Hv S Y hb m := by
  obtain ⟨iv, mv, l, f, h1, h2⟩ := h
  exact ⟨iv, mv, l, f, h1.old e, h2⟩
theorem Hv.fr {S S' : Nat → Prop} {w Y : World} {hb : Nat} {m : List (K × Int)} (h : Hv S w hb m) (e : Fr S' w Y) (hd : ∀ k, S k → ¬ S' k) : Hv S Y hb m := by
  obtain ⟨iv, mv, l, f, h1, h2⟩ := h
  exact ⟨iv, mv, l, f, h1.fr e hd, h2⟩
theorem Hv.perm {S : Nat → Prop} {w : World} {hb : Nat} {m m' : List (K × Int)} (h : Hv S w hb m) (e : m.Perm m') : Hv S w hb m' := by
  obtain ⟨iv, mv, l, f, h1, h2, h3⟩ := h
  exact ⟨iv, mv, l, f, h1, h2, h3.trans e⟩
theorem Hv.size {S : Nat → Prop} {w : World} {hb : Nat} {m : List (K × Int)} (h : Hv S w hb m) : ∀ k, S k → k < w.heap.size := by
  obtain ⟨iv, mv, l, f, h1, h2⟩ := h
  exact h1.size
theorem Hv.own {S : Nat → Prop} {w : World} {hb : Nat} {m : List (K × Int)} (h : Hv S w hb m) : S hb := by
  obtain ⟨iv, mv, l, f, h1, h2⟩ := h
  exact h1.own
theorem Hv.nodup {S : Nat → Prop} {w : World} {hb : Nat} {m : List (K × Int)} (h : Hv S w hb m) : (m.map (·.1)).Nodup := by
  obtain ⟨iv, mv, l, f, h1, h2, h3⟩ := h
  exact (h3.map _).nodup_iff.1 h1.pl.nodup
theorem Hv.keys {S : Nat → Prop} {w : World} {hb : Nat} {m : List (K × Int)} (h : Hv S w hb m) : ∀ x ∈ m, wk x.1 := by
  obtain ⟨iv, mv, l, f, h1, h2, h3⟩ := h
  exact fun x hx => h1.keys x (h3.mem_iff.2 hx)
/-- a heap behind some deeds -/
def Hw (S : Nat → Prop) (w : World) (hb : Nat) (w' : World) (m : List (K × Int)) : Prop := ∃ S', Hv S' w' hb m ∧ Fr S w w' ∧ ∀ x, S' x → S x ∨ w.heap.size ≤ x
def put (k : K) (r : Int) (m : List (K × Int)) : List (K × Int) := (k, r) :: cut k m
theorem put_perm {k : K} {r : Int} {l m : List (K × Int)} (h : l.Perm m) : (put k r l).Perm (put k r m) := (cut_perm h).cons _
section
variable {S : Nat → Prop} {w : World} {hb : Nat} {iv mv : Value} {l m : List (K × Int)} {f : K → Option Nat}
theorem Hq.some_in (h : Hq S w hb iv mv l f) {k : K} : (f k).isSome = decide (k ∈ l.map (·.1)) := by
  cases e : f k with
  | none => simpa using h.pl.none e
  | some i =>
    have := (h.pl k i).1 e
    exact (decide_eq_true (List.mem_map.2 ⟨el l i, el_mem this.1, this.2⟩)).symm
theorem Hq.setR (h : Hq S w hb iv mv l f) {i : Nat} (hi : i < l.length) (r : Int) {g cap : Nat} (hiv : iv = .slice (some ⟨g, 0, none⟩) l.length cap) (hB : Blk w g cap l) (hg : S g) (hgh : g ≠ hb) (hbm : ∀ b, mv = .map (some b) → b ≠ g) :
    Hq S (w.setCell ⟨g, i * 2 + 1, none⟩ (er r)) hb iv mv (l.set i ((el l i).1, r)) f := by
  have ho : ∀ x, x ≠ g → (w.setCell ⟨g, i * 2 + 1, none⟩ (er r)).heap[x]? = w.heap[x]? := fun x hx => heap_setCell_other _ _ _ _ hx
  refine ⟨(ho hb (fun e => hgh e.symm)).trans h.obj, .inr ⟨g, cap, by rw [List.length_set]; exact hiv, hB.setR i r hi⟩, ?_, h.pl.set hi r, ?_, h.own, h.ownI, h.ownM, fun k hk => by simpa using h.size k hk⟩
  · rcases h.map with ⟨_, h2⟩ | ⟨b, h1, h2⟩
    · subst h2; simp at hi
    · exact .inr ⟨b, h1, by rw [List.length_set]; exact h2.kept (ho b (hbm b h1))⟩
  · intro x hx
    rcases List.mem_or_eq_of_mem_set hx with hx | rfl
    · exact h.keys x hx
    · exact (h.keys _ (el_mem hi) : wk (el l i).1)
theorem Sx.hv {wr : World} {l' : List (K × Int)} (h : Sx S w hb iv mv l wr l') (hh : Hpd ltp l') : Hw S w hb wr l := by
  obtain ⟨f', hf⟩ := h.hq
  exact ⟨S, ⟨iv, mv, l', f', hf, hh, h.perm⟩, h.fr, fun x hx => .inl hx⟩
set_option maxHeartbeats 1000000 in
theorem put_any (h : Hv S w hb m) {k : K} (hk : wk k) (r : Int) (hn : m.length < 1000000) :
    Calls Try.prog 24 #[.pointer (some ⟨hb, 0, none⟩), ek k, er r] w fun e w' => e = .returned (.bool (decide (k ∈ m.map (·.1)))) ∧ Hw S w hb w' (put k r m) := by
  obtain ⟨iv, mv, l, f, hq, hh, hpm⟩ := h
  have hin : decide (k ∈ m.map (·.1)) = (f k).isSome := by rw [hq.some_in]; simp only [decide_eq_decide]; exact (hpm.map _).mem_iff.symm
  have hll := hpm.length_eq
  have hpl := place_any hq hk
  rw [hin]
  cases hf : f k with
  | some i =>
    rw [hf] at hpl
    obtain ⟨hi, hki⟩ := (hq.pl k i).1 hf
    obtain ⟨g, cap, b, rfl, hB, rfl, hM, hSg, hSb, hgb, hbb, hgm⟩ := hq.at (by omega)
    have hq2 := hq.setR hi r rfl hB hSg hgb (fun b' e => by cases e; exact fun e2 => hgm e2.symm)
    have hs2 := settle_any hq2 (i := i) (by simpa using hi) (by simp; omega) (hh.okx (swo Hp.tot_str) hi _)
    have hfr2 : Fr S w (w.setCell ⟨g, i * 2 + 1, none⟩ (er r)) := Fr.grown (Lib.grownBy_setCell w g _ _) (.inl hSg)
    have hI := hq.items
    have c2 := hB.rank hi
    have f2 := hB.free (i * 2 + 1)
    have hend : (l.set i ((el l i).1, r)).Perm (put k r m) := by
      have := set_cut hi hq.pl.nodup r
      rw [hki] at this ⊢
      exact this.trans (put_perm hpm)
    have hsz : (w.setCell ⟨g, i * 2 + 1, none⟩ (er r)).heap.size = w.heap.size := by simp
    obtain ⟨n, hln⟩ : ∃ n, n = l.length := ⟨_, rfl⟩
    rw [← hln] at hI hi
    have hix : ((i : Nat) : Int) < ((n : Nat) : Int) := by omega
    obtain ⟨q2, hq2e⟩ : ∃ x, x = (el l i).2 := ⟨_, rfl⟩
    rw [← hq2e] at c2
    have HS := Lib.hid (And.intro hs2 (And.intro hfr2 (And.intro hend hsz)))
    have HP := Lib.hid hpl
    unfold er at c2
    clear hs2 hfr2 hend hsz hq2 hq hh hpm hin hll hB hM hSg hSb hgb hbb hgm hln hq2e hf hki hpl hn
    obtain ⟨kv, hkv⟩ : ∃ x, x = ek k := ⟨_, rfl⟩
    rw [← hkv] at HP ⊢
    clear hkv hk
    unfold er at HS ⊢
    go_enter Try.func24, Try.ntmps24
    go_wp2_with fail
    refine HP.out.mono ?_
    rintro e w1 ⟨rfl, rfl⟩
    go_wp2_with fail
    refine HS.out.1.mono ?_
    rintro e w2 ⟨rfl, l', hsx, hh'⟩
    have HX := Lib.hid (And.intro hsx hh')
    clear hsx hh'
    go_wp2_with fail
    go_ret
    obtain ⟨S', h1, h2, h3⟩ := HX.out.1.hv HX.out.2
    refine ⟨by simp, S', h1.perm HS.out.2.2.1, HS.out.2.1.trans h2 fun x hx => .inl hx, fun x hx => ?_⟩
    rcases h3 x hx with h | h
    · exact .inl h
    · rw [HS.out.2.2.2] at h; exact .inr h
  | none =>
    rw [hf] at hpl
    have hA := add_any hq hk r hf (by omega)
    have hend : (l ++ [(k, r)]).Perm (put k r m) := by
      have h1 : cut k l = l := cut_not (hq.pl.none hf)
      have h2 : (l ++ [(k, r)]).Perm (put k r l) := by unfold put; rw [h1]; exact List.perm_append_singleton _ _
      exact h2.trans (put_perm hpm)
    have hok := hh.okx_app (lt := ltp) (k, r)
    have HS := Lib.hid (And.intro hA (And.intro hend (And.intro hok (And.intro hn hll))))
    have HP := Lib.hid hpl
    clear hA hend hok hq hh hpm hin hll hf hpl hn hk
    unfold ek at HP
    unfold ek er at HS ⊢
    go_enter Try.func24, Try.ntmps24
    go_wp2_with fail
    refine HP.out.mono ?_
    rintro e w1 ⟨rfl, rfl⟩
    go_wp2_with fail
    refine HS.out.1.mono ?_
    rintro e w2 ⟨rfl, ⟨S2, iv2, mv2, f2, hq2, hsub⟩, hfr⟩
    have hs2 := settle_any hq2 (i := l.length) (by simp) (by have := HS.out.2.2.2.1; have := HS.out.2.2.2.2; simp; omega) HS.out.2.2.1
    have HX := Lib.hid (And.intro hs2 (And.intro hsub hfr))
    clear hs2 hsub hfr hq2
    go_wp2_with fail
    refine HX.out.1.mono ?_
    rintro e w3 ⟨rfl, l', hsx, hh'⟩
    have HY := Lib.hid (And.intro hsx hh')
    clear hsx hh'
    go_wp2_with fail
    go_ret
    obtain ⟨S', h1, h2, h3⟩ := HY.out.1.hv HY.out.2
    refine ⟨by simp, S', h1.perm HS.out.2.1, HX.out.2.2.trans h2 HX.out.2.1, fun x hx => ?_⟩
    rcases h3 x hx with h | h
    · exact HX.out.2.1 x h
    · have := HX.out.2.2.size; right; omega
end
end Go.Proofs.Ytomkefaakgodhaa.HpE

