
/- quotas: All: keys gathered and sorted -/
import Derived.Test.YthbpgdeaaadlbaaQt6
import Derived.Test.YthbpgdeaaadlbaaRx
import Derived.Shelf.SlIter.Nil
namespace Go.Proofs.Ythbpgdeaaadlbaa.Qt
open Go.RowKit Go.Lib Go.Maps Go.WideElems Go.ChangeMaps Go.MapKept Go.Sort Hp
set_option linter.unusedVariables false
set_option linter.unusedSectionVars false
set_option maxRecDepth 20000
theorem encStr_ek (k : K) : encStr k = .string ⟨k.toArray⟩ := rfl
/-- slices.Sort's two contracts -/
theorem sorts (m : Nat) : AnyZ.SortsIn Try.prog Try.sortedS_ren Fence.wide m :=
  ⟨fun blk off cap ss W hH hblk hsz => callsIn_wide.2 (AnyM.slices_Sort_string Try.sortS blk off cap ss W hH hblk hsz),
   fun p cap W => callsIn_wide.2 (AnyM.slices_Sort_string_none Try.sortS p cap W)⟩
theorem keys_any (mb : Option Nat) (W : World) : Calls Try.prog 20 #[.map mb] W fun e w' => e = .returned (.func (.func 25) #[] #[.pointer (some ⟨W.heap.size, 0, none⟩)]) ∧ w' = W.alloc (.cells #[.map mb] 29) :=
  (callsIn_wide (n := 5)).1 (AnyZ.keys_in Try.keysSI Fence.wide 5 trivial rfl mb W)
set_option maxHeartbeats 1000000 in
theorem sorted_some {H : Type} (b nn : Nat) (D0 : DataW H) (R : Value → Option (DataW H × List MemPlace)) (w : World) (hown : w.ownsMap Try.prog 9 R b nn D0) (hmax : Maps.size D0 ≤ 1000000) :
    Calls Try.prog 19 #[.func (.func 25) #[] #[.pointer (some ⟨w.heap.size, 0, none⟩)]] (w.alloc (.cells #[.map (some b)] 29)) fun e w' => ∃ (v : Value) (ss : List K), e = .returned v ∧ ss.Perm (strKeys D0) ∧
      w'.ownsRow (w.heap.size + 1) 9 1 v ss.length ((ss.mergeSort (fun x y => decide (x ≤ y))).map encStr) ∧ (v = .slice none 0 0 ↔ ss = []) ∧ Below (w.heap.size + 1) (w.alloc (.cells #[.map (some b)] 29)) w' := by
  have hbl := hown.lt
  have hseq : SeqGives Fence.wide 2 Try.prog 25 #[.pointer (some ⟨w.heap.size, 0, none⟩)] encStr (fun ss => ss.Perm (strKeys D0)) (Maps.size D0) (w.alloc (.cells #[.map (some b)] 29)) :=
    AnyZ.keys_gives (ρ := Try.keysSI_ren) { Try.keysSI with } Fence.wide _ trivial rfl (by omega) w.heap.size b nn D0 _ (by simp) (by simp) (by
      obtain ⟨es, clock, hb, Ft, hs, hD⟩ := hown
      exact ⟨es, clock, (Below.heap_alloc _ _ b hbl).trans hb, Ft, hs, hD⟩)
  have h := (callsIn_wide (n := 5)).1 (AnyZ.sorted_in Try.sortedS Fence.wide 5 trivial trivial trivial trivial rfl (by omega) (sorts _) (enters_of Try.func24 (by kernel_rfl) rfl) 25 #[.pointer (some ⟨w.heap.size, 0, none⟩)] trivial (enters_of Try.func25 (by kernel_rfl) rfl) _ _ (by unfold maxLen; omega) (by omega) _ hseq)
  have e : (w.alloc (.cells #[.map (some b)] 29)).heap.size = w.heap.size + 1 := by simp
  rw [e] at h
  exact h
set_option maxHeartbeats 1000000 in
theorem sorted_none (w : World) :
    Calls Try.prog 19 #[.func (.func 25) #[] #[.pointer (some ⟨w.heap.size, 0, none⟩)]] (w.alloc (.cells #[.map none] 29)) fun e w' => e = .returned (.slice none 0 0) ∧ Below (w.heap.size + 1) (w.alloc (.cells #[.map none] 29)) w' := by
  have hseq : SeqGives Fence.wide 2 Try.prog 25 #[.pointer (some ⟨w.heap.size, 0, none⟩)] encStr (fun ss : List (List UInt8) => ss = []) 0 (w.alloc (.cells #[.map none] 29)) :=
    AnyZ.keys_gives_nil (ρ := Try.keysSI_ren) { Try.keysSI with } Fence.wide _ trivial rfl w.heap.size _ (by simp) (by simp)
  have h := (callsIn_wide (n := 5)).1 (AnyZ.sorted_in Try.sortedS Fence.wide 5 trivial trivial trivial trivial rfl (by omega) (sorts _) (enters_of Try.func24 (by kernel_rfl) rfl) 25 #[.pointer (some ⟨w.heap.size, 0, none⟩)] trivial (enters_of Try.func25 (by kernel_rfl) rfl) _ 0 (Nat.zero_le _) (by omega) _ hseq)
  have e : (w.alloc (.cells #[.map none] 29)).heap.size = w.heap.size + 1 := by simp
  rw [e] at h
  refine Calls.mono h ?_
  rintro e w' ⟨v, ss, rfl, rfl, _, h2, h3⟩
  exact ⟨by rw [h2.2 rfl], h3⟩
/-- the keys of a map, rising -/
def Ks (f : K → Option Int) (ls : List K) : Prop := ls.Pairwise (· < ·) ∧ ∀ k, k ∈ ls ↔ wk k ∧ (f k).isSome = true
theorem mq_keys {w : World} {b n : Nat} {f : K → Option Int} (h : Mq w b n f) : ∃ D, w.ownsMap Try.prog 9 Mv.rv b n D ∧ Maps.size D = n ∧ ∀ ss : List K, ss.Perm (strKeys D) → Ks f (ss.mergeSort (fun x y => decide (x ≤ y))) ∧ ss.length = n := by
  obtain ⟨l, h1, h2, h3⟩ := Mv.Mp.keys kind h
  obtain ⟨D, hm, hn, hD⟩ := h
  refine ⟨D, hm, hn, fun ss hp => ?_⟩
  have hl : l.Perm (strKeys D) := by
    obtain ⟨es, rfl, hpw, _⟩ := hm.entries kind.keyed
    obtain ⟨es', hD', hko⟩ := hm.keysOf
    obtain rfl : es = es' := by simpa using hD'
    refine perm_strKeys hpw (fun p hp => by obtain ⟨v, hv⟩ := hko p hp; obtain ⟨x, _, hx, _⟩ := Maps.keyOf_str Try.underlying9 hv; exact ⟨x, hx⟩) h1 (fun x => ?_)
    have hkl : wk x → Mv.kl Try.prog 9 ek x = .string x := fun hx => by
      have := kind.at hx
      rw [show keyOf Try.prog 9 (ek x) = some (.string x) from Hp.keyOf_str Try.underlying9 hx] at this
      exact (Option.some.inj this).symm
    rw [h3]
    constructor
    · rintro ⟨hx, hs⟩
      have := Mv.has_of kind (hD x hx)
      rw [hs, hkl hx] at this
      exact this
    · intro hs
      have hx : wk x := by
        rw [has_eq, List.any_eq_true] at hs
        obtain ⟨p, hp, hs⟩ := hs
        obtain ⟨v, hv⟩ := hko p hp
        obtain ⟨y, _, hy, hl⟩ := Maps.keyOf_str Try.underlying9 hv
        rw [hy] at hs
        have : y = x := by simpa [Lit.sameKey] using hs
        rw [← this]; exact hl
      refine ⟨hx, ?_⟩
      have := Mv.has_of kind (hD x hx)
      rw [hkl hx, hs] at this
      exact this.symm
  have hps := (List.mergeSort_perm ss (fun x y => decide (x ≤ y))).trans (hp.trans hl.symm)
  have hnd := (hps.nodup_iff).2 h1
  have hs := List.pairwise_mergeSort (le := fun x y : K => decide (x ≤ y)) (fun a b c h1 h2 => by simp only [decide_eq_true_eq] at *; exact List.le_trans h1 h2) (fun a b => by simp only [Bool.or_eq_true, decide_eq_true_eq]; exact List.le_total a b) ss
  refine ⟨⟨?_, fun k => by rw [hps.mem_iff, h3, vf_some]⟩, (hp.trans hl.symm).length_eq.trans h2⟩
  rw [List.nodup_iff_pairwise_ne] at hnd
  refine (hs.and hnd).imp ?_
  rintro a b ⟨h1, h2⟩
  simp only [decide_eq_true_eq] at h1
  by_cases h : a < b
  · exact h
  · exact absurd (List.le_antisymm h1 (List.not_lt.1 h)) h2
theorem ks_none {f : K → Option Int} (h : ∀ k, f k = none) : Ks f [] := ⟨List.Pairwise.nil, fun k => by rw [h k]; simp⟩
/-- a row of texts that may be read -/
def Rw (w : World) (v : Value) (ls : List K) : Prop :=
  (ls = [] ∧ v = .slice none 0 0) ∨ ∃ g c, v = .slice (some ⟨g, 0, none⟩) ls.length c ∧ ∀ i, i < ls.length → w.cell? ⟨g, i, none⟩ = some (.string ⟨(ls.getD i []).toArray⟩)
theorem Rw.kept {X Y : World} {v : Value} {l : List K} (h : Rw X v l) (e : ∀ a n c, v = .slice (some a) n c → Y.heap[a.block]? = X.heap[a.block]?) : Rw Y v l := by
  rcases h with h | ⟨g, c, h1, h2⟩
  · exact .inl h
  · have hb := e _ _ _ h1
    have hc : ∀ k, Y.cell? ⟨g, k, none⟩ = X.cell? ⟨g, k, none⟩ := fun k => by unfold World.cell?; rw [hb]
    exact .inr ⟨g, c, h1, fun i hi => by rw [hc]; exact h2 i hi⟩
theorem rw_own {w : World} {B n : Nat} {v : Value} {ls : List K} (h : w.ownsRow B 9 1 v n (ls.map encStr)) (hn : n = ls.length) : Rw w v ls ∧ ∀ a n c, v = .slice (some a) n c → B ≤ a.block ∧ a.block < w.heap.size := by
  subst hn
  rcases h.2 with ⟨rfl, h0⟩ | ⟨g, cap, cur, rfl, hB, h1, hf, hc, h2, h3⟩
  · exact ⟨.inl ⟨List.eq_nil_of_length_eq_zero h0, rfl⟩, fun a n c e => by cases e⟩
  · refine ⟨.inr ⟨g, cap, rfl, fun i hi => ?_⟩, fun a n c e => by cases e; exact ⟨hB, (Array.getElem?_eq_some_iff.1 h1).1⟩⟩
    have hg : (ls.map encStr)[i]? = some (encStr ls[i]) := by simp [hi]
    rw [← h3, List.getElem?_take_of_lt (by omega), Array.getElem?_toList] at hg
    rw [cell_of_row w g _ cur _ _ h1, hg, encStr_ek, List.getD_eq_getElem?_getD, List.getElem?_eq_getElem hi]
    rfl
theorem Rw.shape {w : World} {v : Value} {l : List K} (h : Rw w v l) : ∃ a c, v = .slice a l.length c := by
  rcases h with ⟨rfl, rfl⟩ | ⟨g, c, rfl, _⟩
  · exact ⟨none, 0, rfl⟩
  · exact ⟨_, c, rfl⟩
end Go.Proofs.Ythbpgdeaaadlbaa.Qt
