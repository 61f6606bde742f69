/- a scheduler as it lies; the names of its jobs, rising -/
import Derived.Test.YtcodjknhnhdkfaaGreatDoorBr06
import Derived.Test.YtcodjknhnhdkfaaGreatDoorBrMv
import Derived.Test.YtcodjknhnhdkfaaGreatDoorImLay
import Derived.Sort.KeysCollected
import Derived.Shelf.SlIter.Nil
import Derived.Test.YtcodjknhnhdkfaaGreatDoorBr07
namespace Go.Proofs.YtcodjknhnhdkfaaGreatDoor.Im
open Go.RowKit Go.Lib Go.Maps Go.WideElems Go.ChangeMaps Go.MapKept Go.Sort
set_option linter.unusedVariables false
set_option linter.unusedSectionVars false
set_option maxRecDepth 20000
abbrev K := List UInt8
def ek (k : K) : Value := .string ⟨k.toArray⟩
def wk (k : K) : Prop := k.length ≤ maxLen
theorem kind : Mv.Kind Tryz.prog 66 9 89 (.pointer none) ek wk where
  map := Tryz.underlying66
  zero w := by go_simp
  keyed := Maps.string_keyed Tryz.underlying9
  key k hk := ⟨_, Hp.keyOf_str Tryz.underlying9 hk⟩
  inj k k' h := by simpa [ek] using h
  back v l h := by obtain ⟨x, e, _, h2⟩ := Maps.keyOf_str Tryz.underlying9 h; exact ⟨x, e, h2⟩
abbrev Mq (w : World) (b n : Nat) (f : K → Option Value) : Prop := Mv.Mp Tryz.prog 9 ek wk w b n f
theorem encStr_ek (k : K) : encStr k = ek k := rfl
/-- a job's name, as a key -/
def nmK (j : Jb) : K := j.sp.nm.data.toList
theorem ek_nm (j : Jb) : ek (nmK j) = .string j.sp.nm := by unfold ek nmK; simp
def jf (js : List Jb) (jb : K → Nat) : K → Option Value := fun k => if k ∈ js.map nmK then some (.pointer (some ⟨jb k, 0, none⟩)) else none
/-- what is told of a scheduler: its tick, how many each may have, its order, and its jobs -/
structure Sq (w : World) (sb mb wb : Nat) (jb : K → Nat) (now each : Int) (order : Nat) (js : List Jb) : Prop where
  row : ∃ g r l : Value, w.heap[sb]? = some (.cells #[.int .i64 each, .int .u64 order, .map (some mb), g, r, .pointer (some ⟨wb, 0, none⟩), l] 72 (0, 0))
  now : w.cell? ⟨wb, 0, none⟩ = some (.int .i64 now)
  map : Mq w mb js.length (jf js jb)
  job : ∀ j ∈ js, w.heap[jb (nmK j)]? = some (.cells j.cs.toArray 42 (0, 0)) ∧ Jd w j ∧ wk (nmK j) ∧ j.sp.n ≤ 1000000
  srt : (js.map nmK).Pairwise (· < ·)
  few : js.length ≤ 1000
section
variable {w : World} {sb mb wb : Nat} {jb : K → Nat} {now each : Int} {order : Nat} {js : List Jb}
theorem Sq.old {Y : World} (h : Sq w sb mb wb jb now each order js) (hb : Below w.heap.size w Y) : Sq Y sb mb wb jb now each order js where
  row := by obtain ⟨g, r, l, e⟩ := h.row; exact ⟨g, r, l, Sp.old2 hb e⟩
  now := (hb.cell (World.block_lt_of_cell? w _ h.now)).trans h.now
  map := h.map.kept (hb.block _ h.map.lt)
  job j hj := by obtain ⟨h1, h2, h3⟩ := h.job j hj; exact ⟨Sp.old2 hb h1, h2.old hb, h3⟩
  srt := h.srt
  few := h.few
end
/-- slices.Sort's two contracts -/
theorem sorts (m : Nat) : AnyZ.SortsIn Tryz.prog Tryz.sortedS_ren Fence.wide m :=
  ⟨fun blk off cap ss W hH hblk hsz => callsIn_wide.2 (AnyM.slices_Sort_string Tryz.sortS blk off cap ss W hH hblk hsz),
   fun p cap W => callsIn_wide.2 (AnyM.slices_Sort_string_none Tryz.sortS p cap W)⟩
theorem keys_any (mb : Option Nat) (W : World) : Calls Tryz.prog 61 #[.map mb] W fun e w' => e = .returned (.func (.func 78) #[] #[.pointer (some ⟨W.heap.size, 0, none⟩)]) ∧ w' = W.alloc (.cells #[.map mb] 66) :=
  (callsIn_wide (n := 5)).1 (AnyZ.keys_in Tryz.keysSJ Fence.wide 5 trivial rfl mb W)
set_option maxHeartbeats 1000000 in
theorem sorted_some {H : Type} (b nn : Nat) (D0 : DataW H) (R : Value → Option (DataW H × List MemPlace)) (w : World) (hown : w.ownsMap Tryz.prog 9 R b nn D0) (hmax : Maps.size D0 ≤ 1000000) :
    Calls Tryz.prog 60 #[.func (.func 78) #[] #[.pointer (some ⟨w.heap.size, 0, none⟩)]] (w.alloc (.cells #[.map (some b)] 66)) fun e w' => ∃ (v : Value) (ss : List K), e = .returned v ∧ ss.Perm (strKeys D0) ∧
      w'.ownsRow (w.heap.size + 1) 9 1 v ss.length ((ss.mergeSort (fun x y => decide (x ≤ y))).map encStr) ∧ (v = .slice none 0 0 ↔ ss = []) ∧ Below (w.heap.size + 1) (w.alloc (.cells #[.map (some b)] 66)) w' := by
  have hbl := hown.lt
  have hseq : SeqGives Fence.wide 2 Tryz.prog 78 #[.pointer (some ⟨w.heap.size, 0, none⟩)] encStr (fun ss => ss.Perm (strKeys D0)) (Maps.size D0) (w.alloc (.cells #[.map (some b)] 66)) :=
    AnyZ.keys_gives (ρ := Tryz.keysSJ_ren) { Tryz.keysSJ with } Fence.wide _ trivial rfl (by omega) w.heap.size b nn D0 _ (by simp) (by simp) (by
      obtain ⟨es, clock, hb, Ft, hs, hD⟩ := hown
      exact ⟨es, clock, (Below.heap_alloc _ _ b hbl).trans hb, Ft, hs, hD⟩)
  have h := (callsIn_wide (n := 5)).1 (AnyZ.sorted_in Tryz.sortedS Fence.wide 5 trivial trivial trivial trivial rfl (by omega) (sorts _) (enters_of Tryz.func77 (by kernel_rfl) rfl) 78 #[.pointer (some ⟨w.heap.size, 0, none⟩)] trivial (enters_of Tryz.func78 (by kernel_rfl) rfl) _ _ (by unfold maxLen; omega) (by omega) _ hseq)
  have e : (w.alloc (.cells #[.map (some b)] 66)).heap.size = w.heap.size + 1 := by simp
  rw [e] at h
  exact h
/-- the keys of a map, rising -/
def Ks (f : K → Option Value) (ls : List K) : Prop := ls.Pairwise (· < ·) ∧ ∀ k, k ∈ ls ↔ wk k ∧ (f k).isSome = true
theorem mq_keys {w : World} {b n : Nat} {f : K → Option Value} (h : Mq w b n f) : ∃ D, w.ownsMap Tryz.prog 9 Mv.rv b n D ∧ Maps.size D = n ∧ ∀ ss : List K, ss.Perm (strKeys D) → Ks f (ss.mergeSort (fun x y => decide (x ≤ y))) ∧ ss.length = n := by
  obtain ⟨l, h1, h2, h3⟩ := Mv.Mp.keys kind h
  obtain ⟨D, hm, hn, hD⟩ := h
  refine ⟨D, hm, hn, fun ss hp => ?_⟩
  have hl : l.Perm (strKeys D) := by
    obtain ⟨es, rfl, hpw, _⟩ := hm.entries kind.keyed
    obtain ⟨es', hD', hko⟩ := hm.keysOf
    obtain rfl : es = es' := by simpa using hD'
    refine perm_strKeys hpw (fun p hp => by obtain ⟨v, hv⟩ := hko p hp; obtain ⟨x, _, hx, _⟩ := Maps.keyOf_str Tryz.underlying9 hv; exact ⟨x, hx⟩) h1 (fun x => ?_)
    have hkl : wk x → Mv.kl Tryz.prog 9 ek x = .string x := fun hx => by
      have := kind.at hx
      rw [show keyOf Tryz.prog 9 (ek x) = some (.string x) from Hp.keyOf_str Tryz.underlying9 hx] at this
      exact (Option.some.inj this).symm
    rw [h3]
    constructor
    · rintro ⟨hx, hs⟩
      have := Mv.has_of kind (hD x hx)
      rw [hs, hkl hx] at this
      exact this
    · intro hs
      have hx : wk x := by
        rw [has_eq, List.any_eq_true] at hs
        obtain ⟨p, hp, hs⟩ := hs
        obtain ⟨v, hv⟩ := hko p hp
        obtain ⟨y, _, hy, hl⟩ := Maps.keyOf_str Tryz.underlying9 hv
        rw [hy] at hs
        have : y = x := by simpa [Lit.sameKey] using hs
        rw [← this]; exact hl
      refine ⟨hx, ?_⟩
      have := Mv.has_of kind (hD x hx)
      rw [hkl hx, hs] at this
      exact this.symm
  have hps := (List.mergeSort_perm ss (fun x y => decide (x ≤ y))).trans (hp.trans hl.symm)
  have hnd := (hps.nodup_iff).2 h1
  have hs := List.pairwise_mergeSort (le := fun x y : K => decide (x ≤ y)) (fun a b c h1 h2 => by simp only [decide_eq_true_eq] at *; exact List.le_trans h1 h2) (fun a b => by simp only [Bool.or_eq_true, decide_eq_true_eq]; exact List.le_total a b) ss
  refine ⟨⟨?_, fun k => by rw [hps.mem_iff, h3]⟩, (hp.trans hl.symm).length_eq.trans h2⟩
  rw [List.nodup_iff_pairwise_ne] at hnd
  refine (hs.and hnd).imp ?_
  rintro a b ⟨h1, h2⟩
  simp only [decide_eq_true_eq] at h1
  by_cases h : a < b
  · exact h
  · exact absurd (List.le_antisymm h1 (List.not_lt.1 h)) h2
theorem rising_one : ∀ {a b : List K}, a.Pairwise (· < ·) → b.Pairwise (· < ·) → (∀ k, k ∈ a ↔ k ∈ b) → a = b
  | [], [], _, _, _ => rfl
  | [], y :: m, _, _, h => absurd ((h y).2 (List.mem_cons_self ..)) (by simp)
  | x :: l, [], _, _, h => absurd ((h x).1 (List.mem_cons_self ..)) (by simp)
  | x :: l, y :: m, ha, hb, h => by
    rw [List.pairwise_cons] at ha hb
    have e : x = y := by
      rcases List.mem_cons.1 ((h x).1 (List.mem_cons_self ..)) with e | e
      · exact e
      · rcases List.mem_cons.1 ((h y).2 (List.mem_cons_self ..)) with e2 | e2
        · exact e2.symm
        · exact absurd (List.lt_trans (ha.1 y e2) (hb.1 x e)) (List.lt_irrefl _)
    subst e
    rw [rising_one ha.2 hb.2 (fun k => ?_)]
    constructor
    · intro hk
      rcases List.mem_cons.1 ((h k).1 (List.mem_cons_of_mem _ hk)) with e | e
      · subst e; exact absurd (ha.1 _ hk) (List.lt_irrefl _)
      · exact e
    · intro hk
      rcases List.mem_cons.1 ((h k).2 (List.mem_cons_of_mem _ hk)) with e | e
      · subst e; exact absurd (hb.1 _ hk) (List.lt_irrefl _)
      · exact e
/-- a row of names -/
def Rn (w : World) (B : Nat) (v : Value) (ls : List K) : Prop :=
  ∃ a c, v = .slice a ls.length c ∧ (ls = [] ∨ ∃ g, a = some ⟨g, 0, none⟩ ∧ B ≤ g ∧ g < w.heap.size ∧ ∀ i (h : i < ls.length), w.cell? ⟨g, i, none⟩ = some (ek ls[i]))
theorem rn_own {w : World} {B n : Nat} {v : Value} {ls : List K} (h : w.ownsRow B 9 1 v n (ls.map encStr)) (hn : n = ls.length) : Rn w B v ls := by
  subst hn
  rcases h.2 with ⟨rfl, h0⟩ | ⟨g, cap, cur, rfl, hB, h1, hf, hc, h2, h3⟩
  · have e := List.eq_nil_of_length_eq_zero h0
    subst e
    exact ⟨none, 0, rfl, .inl rfl⟩
  · refine ⟨_, _, rfl, .inr ⟨g, rfl, hB, lt_of_block h1, fun i hi => ?_⟩⟩
    have hg : (ls.map encStr)[i]? = some (encStr ls[i]) := by simp [hi]
    rw [← h3, List.getElem?_take_of_lt (by omega), Array.getElem?_toList] at hg
    rw [cell_of_row w g _ cur _ _ h1, hg]
    rfl
section
variable {w : World} {sb mb wb : Nat} {jb : K → Nat} {now each : Int} {order : Nat} {js : List Jb}
theorem Sq.cell (h : Sq w sb mb wb jb now each order js) : w.cell? ⟨sb, 0, none⟩ = some (.int .i64 each) ∧ w.cell? ⟨sb, 1, none⟩ = some (.int .u64 order) ∧ w.cell? ⟨sb, 2, none⟩ = some (.map (some mb)) ∧ w.cell? ⟨sb, 5, none⟩ = some (.pointer (some ⟨wb, 0, none⟩)) := by
  obtain ⟨g, r, l, e⟩ := h.row
  refine ⟨?_, ?_, ?_, ?_⟩ <;> (rw [cell_of_row w sb _ _ _ _ e]; rfl)
theorem Sq.keys (h : Sq w sb mb wb jb now each order js) {ls : List K} (hk : Ks (jf js jb) ls) : ls = js.map nmK := by
  refine rising_one hk.1 h.srt fun k => ?_
  rw [hk.2]
  unfold jf
  constructor
  · rintro ⟨_, e⟩
    by_cases hm : k ∈ js.map nmK
    · exact hm
    · rw [if_neg hm] at e; cases e
  · intro hm
    refine ⟨?_, by rw [if_pos hm]; rfl⟩
    obtain ⟨j, hj, rfl⟩ := List.mem_map.1 hm
    exact (h.job j hj).2.2.1
set_option maxHeartbeats 1000000 in
theorem names_any (h : Sq w sb mb wb jb now each order js) : Calls Tryz.prog 45 #[.pointer (some ⟨sb, 0, none⟩)] w fun e w' => ∃ v, e = .returned v ∧ Rn w' (w.heap.size + 1) v (js.map nmK) ∧ Below w.heap.size w w' := by
  have c2 := h.cell.2.2.1
  obtain ⟨D, h1, h2, h3⟩ := mq_keys h.map
  have hs := sorted_some mb js.length D _ w h1 (by have := h.few; omega)
  have hk := keys_any (some mb) w
  have hb := World.block_lt_of_cell? w _ c2
  have H := Lib.hid (And.intro h h3)
  clear h h1 h2 h3
  go_enter Tryz.func45, Tryz.ntmps45
  go_wp2_with fail
  refine hk.mono ?_
  rintro e w1 ⟨rfl, hw1⟩
  rw [← hw1] at hs
  have H1 := Lib.hid hw1
  clear hw1 hk c2
  go_wp2_with fail
  refine hs.mono ?_
  rintro e w2 ⟨v, ss, rfl, hp, hr, hnil, hb2⟩
  obtain ⟨k1, k2⟩ := H.out.2 ss hp
  have hl : (ss.mergeSort (fun x y => decide (x ≤ y))).length = ss.length := by simp
  have hrn := rn_own hr hl.symm
  have e1 := H.out.1.keys k1
  have hbb : Below w.heap.size w w2 := by
    have hb1 : Below w.heap.size w w1 := by rw [H1.out]; exact (Below.refl _ _).alloc (Nat.le_refl _) _
    exact hb1.trans (hb2.mono (Nat.le_succ _))
  rw [e1] at hrn
  have hrn' := hrn
  obtain ⟨a, c, rfl, _⟩ := hrn
  rw [List.length_map] at hrn' ⊢
  have HZ := Lib.hid (And.intro hrn' hbb)
  clear hrn' hr hnil hb2 hs hp k1 k2 hl e1 hbb
  go_wp2_with fail
  go_ret
  exact ⟨_, rfl, HZ.out⟩
theorem now_any (h : Sq w sb mb wb jb now each order js) : Calls Tryz.prog 17 #[.pointer (some ⟨sb, 0, none⟩)] w fun e w' => e = .returned (.int .i64 now) ∧ w' = w := by
  have c5 := h.cell.2.2.2
  have hn := h.now
  have hc : Calls Tryz.prog 42 #[.pointer (some ⟨wb, 0, none⟩)] w fun e w' => e = .returned (.int .i64 now) ∧ w' = w := by
    clear c5 h
    go_enter Tryz.func42, Tryz.ntmps42
    go_wp2_with fail
    go_ret
    exact ⟨rfl, rfl⟩
  clear h hn
  go_enter Tryz.func17, Tryz.ntmps17
  go_wp2_with fail
  refine hc.mono ?_
  rintro e w1 ⟨rfl, rfl⟩
  go_wp2_with fail
  go_ret
  exact ⟨rfl, rfl⟩
theorem each_any (h : Sq w sb mb wb jb now each order js) : Calls Tryz.prog 19 #[.pointer (some ⟨sb, 0, none⟩)] w fun e w' => e = .returned (.int .i64 each) ∧ w' = w := by
  have c0 := h.cell.1
  clear h
  go_enter Tryz.func19, Tryz.ntmps19
  go_wp2_with fail
  go_ret
  exact ⟨rfl, rfl⟩
theorem order_any (h : Sq w sb mb wb jb now each order js) : Calls Tryz.prog 20 #[.pointer (some ⟨sb, 0, none⟩)] w fun e w' => e = .returned (.int .u64 order) ∧ w' = w := by
  have c1 := h.cell.2.1
  clear h
  go_enter Tryz.func20, Tryz.ntmps20
  go_wp2_with fail
  go_ret
  exact ⟨rfl, rfl⟩
end
end Go.Proofs.YtcodjknhnhdkfaaGreatDoor.Im
