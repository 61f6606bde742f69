
/- wheels: names, rows of deadlines -/
import Derived.Test.YtcafiehlhdoibaaWh17
namespace Go.Proofs.Ytcafiehlhdoibaa.Wh
open Go.RowKit Go.Lib Go.Sort Go.Maps Hp Ht
set_option linter.unusedVariables false
set_option maxRecDepth 20000
/-- a timer's name -/
def nm (i : Nat) : K := [UInt8.ofNat (97 + i / 10), UInt8.ofNat (97 + i % 10)]
theorem nm_wk (i : Nat) : wk (nm i) := by unfold wk nm maxLen; simp
theorem nm_ne (i : Nat) : ¬ nm i = [] := by unfold nm; simp
theorem nm_inj {i j : Nat} (hi : i < 100) (hj : j < 100) (h : nm i = nm j) : i = j := by
  unfold nm at h
  simp only [List.cons.injEq, and_true] at h
  have h1 := congrArg UInt8.toNat h.1
  have h2 := congrArg UInt8.toNat h.2
  rw [UInt8.toNat_ofNat', UInt8.toNat_ofNat'] at h1 h2
  omega
/-- the deadline of a name in a row -/
def fm (m : List (K × Int)) : K → Option Int := fun k => (m.find? fun x => x.1 = k).map (·.2)
theorem ls_fm {m : List (K × Int)} (h : (m.map (·.1)).Nodup) : Ls (fm m) m := by
  refine ⟨h, fun k t => ?_⟩
  unfold fm
  constructor
  · intro hm
    cases e : m.find? fun x => x.1 = k with
    | none =>
      have := List.find?_eq_none.1 e (k, t) hm
      simp at this
    | some y =>
      have h1 := List.mem_of_find?_eq_some e
      have h2 := List.find?_some e
      simp only [decide_eq_true_eq] at h2
      obtain ⟨i, hi, e1⟩ := mem_el hm
      obtain ⟨j, hj, e2⟩ := mem_el h1
      have hk : (m.map (·.1))[i]'(by simpa using hi) = (m.map (·.1))[j]'(by simpa using hj) := by
        rw [List.getElem_map, List.getElem_map, ← el_eq hi, ← el_eq hj, e1, e2, h2]
      have hp := List.pairwise_iff_getElem.1 (List.nodup_iff_pairwise_ne.1 h)
      have : i = j := by
        rcases Nat.lt_trichotomy i j with h5 | h5 | h5
        · exact absurd hk (hp i j (by simpa using hi) (by simpa using hj) h5)
        · exact h5
        · exact absurd hk.symm (hp j i (by simpa using hj) (by simpa using hi) h5)
      subst this
      rw [e1] at e2
      simp [← e2]
  · intro hm
    rw [Option.map_eq_some_iff] at hm
    obtain ⟨y, e, rfl⟩ := hm
    have h1 := List.mem_of_find?_eq_some e
    have h2 := List.find?_some e
    simp only [decide_eq_true_eq] at h2
    rw [← h2]; exact h1
theorem fm_none {m : List (K × Int)} {k : K} (h : k ∉ m.map (·.1)) : fm m k = none := by
  unfold fm
  rw [Option.map_eq_none_iff, List.find?_eq_none]
  intro x hx e
  simp only [decide_eq_true_eq] at e
  exact h (List.mem_map.2 ⟨x, hx, e⟩)
/-- the first j timers -/
def ms (now : Int) (l : List Int) (j : Nat) : List (K × Int) := (List.range j).map fun i => (nm i, now + l.getD i 0)
theorem ms_len (now : Int) (l : List Int) (j : Nat) : (ms now l j).length = j := by simp [ms]
theorem ms_succ (now : Int) (l : List Int) (j : Nat) : ms now l (j + 1) = ms now l j ++ [(nm j, now + l.getD j 0)] := by simp [ms, List.range_succ]
theorem ms_mem {now : Int} {l : List Int} {j : Nat} {p : K × Int} : p ∈ ms now l j ↔ ∃ i, i < j ∧ p = (nm i, now + l.getD i 0) := by
  simp only [ms, List.mem_map, List.mem_range]
  constructor
  · rintro ⟨i, h, rfl⟩; exact ⟨i, h, rfl⟩
  · rintro ⟨i, h, rfl⟩; exact ⟨i, h, rfl⟩
theorem ms_nodup (now : Int) (l : List Int) (j : Nat) (hj : j ≤ 100) : ((ms now l j).map (·.1)).Nodup := by
  unfold ms
  rw [List.map_map, List.nodup_iff_pairwise_ne, List.pairwise_map]
  refine List.Pairwise.imp_of_mem ?_ List.nodup_range
  intro a b ha hb hne e
  rw [List.mem_range] at ha hb
  exact hne (nm_inj (by omega) (by omega) e)
theorem ms_fresh (now : Int) (l : List Int) (j : Nat) (hj : j < 100) : nm j ∉ (ms now l j).map (·.1) := by
  intro h
  obtain ⟨p, hp, e⟩ := List.mem_map.1 h
  obtain ⟨i, hi, rfl⟩ := ms_mem.1 hp
  have := nm_inj (by omega) hj e
  omega
theorem name_any (i : Nat) (hi : i < 100) (w : World) : Calls Try.prog 18 #[.int .i64 ((i : Nat) : Int)] w fun e w' => e = .returned (ek (nm i)) ∧ Below w.heap.size w w' := by
  have q1 : ((i : Nat) : Int).tdiv 10 = ((i / 10 : Nat) : Int) := by rw [Int.tdiv_eq_ediv_of_nonneg (by omega)]; omega
  have q2 : ((i : Nat) : Int).tmod 10 = ((i % 10 : Nat) : Int) := by rw [Int.tmod_eq_emod_of_nonneg (by omega)]; omega
  have b1 : i / 10 < 10 := by omega
  have b2 : i % 10 < 10 := by omega
  have hn : nm i = [UInt8.ofNat (97 + i / 10), UInt8.ofNat (97 + i % 10)] := rfl
  rw [hn]
  generalize i / 10 = a at *
  generalize i % 10 = b at *
  have w1 : wrap64 ((a : Nat) : Int) = ((a : Nat) : Int) := by unfold wrap64; omega
  have w2 : wrap64 ((b : Nat) : Int) = ((b : Nat) : Int) := by unfold wrap64; omega
  have u1 : IntKind.u8.wrap ((a : Nat) : Int) = ((a : Nat) : Int) := IntWalk.u8_in _ (by omega)
  have u2 : IntKind.u8.wrap ((b : Nat) : Int) = ((b : Nat) : Int) := IntWalk.u8_in _ (by omega)
  have v1 : IntKind.u8.wrap (97 + ((a : Nat) : Int)) = 97 + ((a : Nat) : Int) := IntWalk.u8_in _ (by omega)
  have v2 : IntKind.u8.wrap (97 + ((b : Nat) : Int)) = 97 + ((b : Nat) : Int) := IntWalk.u8_in _ (by omega)
  clear hn
  obtain ⟨c1, hc1⟩ : ∃ c, c = UInt8.ofNat (97 + a) := ⟨_, rfl⟩
  obtain ⟨c2, hc2⟩ : ∃ c, c = UInt8.ofNat (97 + b) := ⟨_, rfl⟩
  rw [← hc1, ← hc2]
  have e1 : 97 + ((a : Nat) : Int) = ((c1.toNat : Nat) : Int) := by rw [hc1, UInt8.toNat_ofNat']; omega
  have e2 : 97 + ((b : Nat) : Int) = ((c2.toNat : Nat) : Int) := by rw [hc2, UInt8.toNat_ofNat']; omega
  obtain ⟨A1, hA1⟩ : ∃ x : Int, x = ((c1.toNat : Nat) : Int) := ⟨_, rfl⟩
  obtain ⟨A2, hA2⟩ : ∃ x : Int, x = ((c2.toNat : Nat) : Int) := ⟨_, rfl⟩
  rw [e1, ← hA1] at v1
  rw [e2, ← hA2] at v2
  have hcv : (convert 51 9 (.slice (some ⟨w.heap.size, 0, none⟩) 2 2)).run Try.prog (w.alloc (.cells #[.int .u8 A1, .int .u8 A2] 5)) = .ok (.string ⟨[c1, c2].toArray⟩) (w.alloc (.cells #[.int .u8 A1, .int .u8 A2] 5)) := by
    refine run_convert_bytes_back (w.alloc (.cells #[.int .u8 A1, .int .u8 A2] 5)) 51 9 5 ⟨w.heap.size, 0, none⟩ 2 [c1, c2] Try.underlying51 Try.underlying5 Try.underlying9 (fun j hj => ?_)
    have ho := (MapKept.heap_alloc w (.cells #[.int .u8 A1, .int .u8 A2] 5)).1
    match j, hj with
    | 0, _ | 1, _ =>
      simp only [Addr.add]
      rw [hA1, hA2]
      simp
  rw [← e1] at hA1
  rw [← e2] at hA2
  clear hc1 hc2 e1 e2
  generalize ((a : Nat) : Int) = a1 at *
  generalize ((b : Nat) : Int) = a2 at *
  generalize ((i : Nat) : Int) = I at *
  have h1 : 97 + a1 = A1 := hA1.symm
  have h2 : 97 + a2 = A2 := hA2.symm
  clear hA1 hA2
  go_enter Try.func18, Try.ntmps18
  go_wp2_with fail
  go_ret
  exact ⟨by simp [ek], (Below.refl _ w).alloc (Nat.le_refl _) _⟩
section
variable {B : Nat} {N : Nat → Prop} {X : World} {wb : Nat} {now : Int} {most : Nat} {m : List (K × Int)}
/-- blocks that are new are no wheel's of before -/
theorem Ow.more {N' : Nat → Prop} {Y : World} (h : Ow B N X wb now most m) (b : Below X.heap.size X Y) (hN : ∀ x, N' x → X.heap.size ≤ x) : Ow B (fun x => N x ∨ N' x) Y wb now most m := by
  obtain ⟨S, q, hs⟩ := h
  exact ⟨S, q.kept b.size fun k hk => b.block k (q.size k hk), fun x hx => ⟨(hs x hx).1, fun e => e.elim (hs x hx).2 fun e2 => by have := hN x e2; have := q.size x hx; omega⟩⟩
theorem Ow.other {Y : World} (h : Ow B N X wb now most m) (f : Fr N X Y) : Ow B N Y wb now most m := by
  obtain ⟨S, q, hs⟩ := h
  exact ⟨S, q.kept f.size fun k hk => f.block k (q.size k hk) (hs k hk).2, hs⟩
theorem Ow.base {B' : Nat} (h : Ow B N X wb now most m) (hB : B' ≤ B) : Ow B' N X wb now most m := by
  obtain ⟨S, q, hs⟩ := h
  exact ⟨S, q, fun x hx => ⟨Nat.le_trans hB (hs x hx).1, (hs x hx).2⟩⟩
theorem Ow.less {N' : Nat → Prop} (h : Ow B N X wb now most m) (hN : ∀ x, N' x → N x) : Ow B N' X wb now most m := by
  obtain ⟨S, q, hs⟩ := h
  exact ⟨S, q, fun x hx => ⟨(hs x hx).1, fun e => (hs x hx).2 (hN x e)⟩⟩
theorem Ow.len (h : Ow B N X wb now most m) : Calls Try.prog 11 #[.pointer (some ⟨wb, 0, none⟩)] X fun e w' => e = .returned (.int .i64 ((m.length : Nat) : Int)) ∧ w' = X := by
  obtain ⟨S, q, hs⟩ := h
  exact len_any q
end
end Go.Proofs.Ytcafiehlhdoibaa.Wh
