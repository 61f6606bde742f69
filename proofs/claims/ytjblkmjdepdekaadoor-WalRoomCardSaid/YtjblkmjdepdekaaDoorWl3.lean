
/- logs: the greatest turn of all sectors -/
import Derived.Test.YtjblkmjdepdekaaDoorWl2
import Derived.Test.YtjblkmjdepdekaaDoorHr
namespace Go.Proofs.YtjblkmjdepdekaaDoor.Wl
open Go.RowKit Go.Lib Go.Joins Go.Proofs.YtjblkmjdepdekaaDoor.By Go.Proofs.YtjblkmjdepdekaaDoor.Dk Go.Proofs.YtjblkmjdepdekaaDoor.Oc Go.Proofs.YtjblkmjdepdekaaDoor.Rg Go.Proofs.YtjblkmjdepdekaaDoor.Ht
attribute [local go_sem] Oper.semAt_some

/-- a round that turns some blocks alone -/
theorem fr_round {p : Nat → Prop} {n₀ n₁ B : Nat} {W W' : World} (h : Fr p W W') (hp : ∀ k, p k → (n₀ ≤ k ∧ k < n₁) ∨ (B ≤ k ∧ ∀ o, W.heap[k]? = some o → o.isCells = true)) (h1 : n₁ ≤ B) (hB : B ≤ W.heap.size) : KeepsFrom B W W' ∧ Mid n₀ n₁ B W W' := by
  refine ⟨⟨h.size, fun k o hk ho hc => ?_⟩, ⟨h.os, h.tape, h.output, h.size, fun k hk hkB => h.block k (by omega) fun hpk => ?_⟩⟩
  · refine (h.block k (Array.getElem?_eq_some_iff.1 ho).1 fun hpk => ?_).trans ho
    rcases hp k hpk with ⟨_, h2⟩ | ⟨_, h2⟩
    · omega
    · rw [h2 o ho] at hc; cases hc
  · rcases hp k hpk with ⟨h2, h3⟩ | ⟨h2, _⟩ <;> omega
theorem fr_drew {p : Nat → Prop} (W : World) : Fr p W W.drew := ⟨rfl, rfl, rfl, Nat.le_refl _, fun _ _ _ => rfl⟩
/-- what a loop's record turns -/
theorem isB_but {l : Nat} {A A' : World} {r : Loop} {a : Option Addr} {len cap : Nat} {b : List UInt8} (h : IsB A a len cap b) (hl : A.heap[l]? = some (.loop r)) (hb : But l A A') : IsB A' a len cap b := by
  obtain ⟨h1, h2 | ⟨x, rfl, h3, h4, h5⟩⟩ := h
  · exact ⟨h1, .inl h2⟩
  · refine ⟨h1, .inr ⟨x, rfl, h3, h4, fun j u hu => ?_⟩⟩
    have hc := h5 j u hu
    rw [← hc]
    refine World.cell?_of_block (w := A) (hb.2.2.2.2 _ fun e => ?_)
    unfold World.cell? at hc
    rw [e, hl] at hc
    simp at hc
/-- the activation is left, its mark and all -/
theorem leaveV {fn : Func} {tmps : Array Value} {N D r : Nat} {w X : World} {v : Value} (hres : fn.results = #[.tmp r]) (ht : tmps.getD r undef = v) (hD : N ≤ D) (h : X.heap[D]? = some (.deferred (some []))) (hb : Below N w X) :
    LeavesInM Fence.wide 3 Tryd.prog fn tmps (fun e w' => e = .returned v ∧ Below N w w') [{ target := .collected D, args := #[] }] .returning X := by
  refine ⟨by simp, .inl ⟨D, _, rfl, run_takeDeferred h, ?_⟩⟩
  exact ⟨_, by rw [← ht]; exact results_tmp hres _ _ _, rfl, hb.trans ((but_put D X (.deferred none)).below hD)⟩
/-- the greatest of the first so many sectors -/
def lat (b : List UInt8) : Nat → Nat
  | 0 => 0
  | m + 1 => max (lat b m) (trn (getS b m))
theorem lat_u64 (b : List UInt8) {k : Nat} (hb : b.length = 64 * k) : ∀ m, m ≤ k → U64 (lat b m)
  | 0, _ => by unfold lat U64; omega
  | m + 1, h => by
    have h1 := lat_u64 b hb m (by omega)
    have h2 : U64 (trn (getS b m)) := unl8_u64 (by rw [List.length_take, length_getS hb (by omega)]; rfl)
    unfold lat
    unfold U64 at *
    omega
theorem part_sec {o k m : Nat} {x : Nat × Nat} {A : World} (h : PartC 64 o (64 * k) m x A) : m < k ∧ x = (o + 64 * m, 64) := by
  obtain ⟨h1, rfl⟩ := h
  have : m < k := by omega
  exact ⟨this, by rw [Nat.mul_comm m 64, show min 64 (64 * k - 64 * m) = 64 by omega]⟩
/-- one sector of many -/
theorem isB_sec {w : World} {g o cap k m : Nat} {b : List UInt8} (h : IsB w (some ⟨g, o, none⟩) (64 * k) cap b) (hm : m < k) : IsB w (some ⟨g, o + 64 * m, none⟩) 64 64 (getS b m) := by
  have h1 := Fm.IsB.sub h (i := 64 * m) (j := 64 * m + 64) (by omega) (by omega)
  obtain ⟨h2, h3 | ⟨x, h3, h4, h5, h6⟩⟩ := h1
  · cases h3.1
  · have e : (b.take (64 * m + 64)).drop (64 * m) = getS b m := by
      unfold getS; rw [List.take_add, List.drop_append, List.drop_of_length_le (by rw [List.length_take]; exact Nat.min_le_left _ _), List.nil_append]
      have : (b.take (64 * m)).length = 64 * m := by rw [List.length_take, h.1]; omega
      rw [this, Nat.sub_self, List.drop_zero]
    rw [e] at h2 h6
    exact ⟨by omega, .inr ⟨x, h3, by omega, by unfold maxLen; omega, h6⟩⟩
set_option maxRecDepth 20000 in
set_option maxHeartbeats 4000000 in
theorem latest_any (g o cap k : Nat) (b : List UInt8) (w : World) (hb : IsB w (some ⟨g, o, none⟩) (64 * k) cap b) (hk : 1 ≤ k ∧ k ≤ 4096) :
    Calls Tryd.prog 30 #[.slice (some ⟨g, o, none⟩) (64 * k : Nat) cap] w fun e w' => e = .returned (.int .u64 (lat b k : Nat)) ∧ Below w.heap.size w w' := by
  have hlb : b.length = 64 * k := hb.1
  have hcap : 64 * k ≤ cap ∧ cap ≤ 9223372036854775807 := by
    obtain ⟨h1, ⟨h2, _⟩ | ⟨x, h2, h3, h4, h5⟩⟩ := hb
    · cases h2
    · exact ⟨h3, by unfold maxLen at h4; omega⟩
  have HB := Lib.hid (And.intro hb hlb)
  refine (callsIn_wide (n := 3)).1 ?_
  refine callsIn_of_wp_marks Tryd.func30 rfl trivial ?_ rfl
  simp only [Tryd.ntmps30, List.size_toArray, List.length_cons, List.length_nil, Nat.reduceAdd, Nat.reduceSub, Array.replicate_succ, Array.replicate_zero, List.push_toArray, List.append_toArray, List.nil_append, List.cons_append]
  refine wpIn_wide.2 ?_
  clear hb hlb
  go_wp2_with fail
  refine (chunk_any _ _ _ 64 _ (by decide)).mono ?_
  rintro e w' ⟨rfl, rfl⟩
  obtain ⟨V, hV⟩ : ∃ V, V = ((w.alloc (.cells #[.int .u64 0] 35)).alloc (.cells #[.slice (some ⟨g, o, none⟩) (64 * k) cap] 32)).alloc (.cells #[.int .i64 64] 3) := ⟨_, rfl⟩
  have hbV : Below w.heap.size w V := by rw [hV]; exact (((Below.refl _ _).alloc (Nat.le_refl _) _).alloc (by simp) _).alloc (by simp; omega) _
  have hzV : V.heap.size = w.heap.size + 3 := by rw [hV]; simp
  have g0 : V.heap[w.heap.size]? = some (.cells #[.int .u64 0] 35 (0, 0)) := by
    rw [hV]; exact heap_old ((Below.refl _ _).alloc (Nat.le_refl _) _) (heap_old ((Below.refl _ _).alloc (Nat.le_refl _) _) (heap_alloc_new w _))
  have g1 : V.heap[w.heap.size + 1]? = some (.cells #[.slice (some ⟨g, o, none⟩) (64 * k) cap] 32 (0, 0)) := by
    have := heap_alloc_new (w.alloc (.cells #[.int .u64 0] 35)) (.cells #[.slice (some ⟨g, o, none⟩) (64 * k) cap] 32)
    rw [World.size_alloc] at this
    rw [hV]; exact heap_old ((Below.refl _ _).alloc (Nat.le_refl _) _) this
  have g2 : V.heap[w.heap.size + 1 + 1]? = some (.cells #[.int .i64 64] 3 (0, 0)) := by
    have := heap_alloc_new ((w.alloc (.cells #[.int .u64 0] 35)).alloc (.cells #[.slice (some ⟨g, o, none⟩) (64 * k) cap] 32)) (.cells #[.int .i64 64] 3)
    rw [World.size_alloc, World.size_alloc] at this
    rw [hV]; exact this
  go_wp2_with fail
  rw [← hV]
  have HV := Lib.hid (And.intro hbV (And.intro hzV (And.intro g0 (And.intro g1 g2))))
  clear hV hbV hzV g0 g1 g2
  refine (wpIn_wide (n := 3)).1 ?_
  refine range_all rfl (by omega) (gf := 57) (lb := #[.pointer (some ⟨w.heap.size + 1, 0, none⟩), .pointer (some ⟨w.heap.size + 1 + 1, 0, none⟩)]) rfl trivial (enters_of Tryd.func57 (by kernel_rfl) rfl)
    (chunk1_iter (3 - 1) 0 (w.heap.size + 1) 64 g o (64 * k) cap (w.heap.size + 1) (w.heap.size + 1 + 1) V (by decide) ⟨hcap.1, by omega, hcap.2⟩ ?hK).iter (fun _ => rfl)
    (fun m X => X.heap[w.heap.size]? = some (.cells #[.int .u64 (lat b m : Nat)] 35 (0, 0)) ∧ Below w.heap.size w X ∧ w.heap.size + 3 ≤ X.heap.size ∧ m ≤ k) (fun m X X' h hb => ⟨(hb.block _ (by have := HV.out.2.1; omega)).trans h.1, h.2.1.trans (hb.mono (by have := HV.out.2.1; omega)), Nat.le_trans h.2.2.1 hb.size, h.2.2.2⟩) ?h0 (fun m x X X' h hb => h) (fun m x X X' l r h hl hb => h) ?hround ?hdone
  case hK =>
    intro W hm
    exact ⟨cell_of_one ((hm.block _ (.inr (Nat.le_refl _)) (by have := HV.out.2.1; omega)).trans HV.out.2.2.2.1), cell_of_one ((hm.block _ (.inr (Nat.le_succ _)) (by have := HV.out.2.1; omega)).trans HV.out.2.2.2.2)⟩
  case h0 => exact ⟨HV.out.2.2.1, HV.out.1, by have := HV.out.2.1; omega, Nat.zero_le _⟩
  case hround =>
    rintro l m x X hlB ⟨rr, hlr⟩ hI hG
    dsimp only [encC]
    obtain ⟨hmk, rfl⟩ := part_sec hG
    gi_wp2_with fail
    refine ⟨Below.refl _ _, ?_⟩
    intro A2 hbut hI2 hG2
    have hib := isB_sec (HB.out.1.old hI2.2.1) hmk
    have hun : U64 (trn (getS b m)) := unl8_u64 (by rw [List.length_take, length_getS HB.out.2 hmk]; rfl)
    have hul := length_getS HB.out.2 hmk
    obtain ⟨T, hT⟩ : ∃ T, T = trn (getS b m) := ⟨_, rfl⟩
    obtain ⟨M, hM⟩ : ∃ M, M = lat b m := ⟨_, rfl⟩
    have htn := turnOf_any _ 64 64 (getS b m) A2.drew (hib.old (Below.refl _ _).drew) (by rw [hul]; decide)
    rw [← hT] at htn
    rw [← hM] at hI2
    have HX := Lib.hid (And.intro hI2 (And.intro htn (And.intro hT hM)))
    have hmix : Tryd.prog.follows .mixedOrders = true := by kernel_rfl
    clear hib hun hul htn hT hM
    gi_wp2_with fail
    refine begin_round 4 (fun Y => Y.heap[w.heap.size]? = some (.cells #[.int .u64 (M : Nat)] 35 (0, 0))) hmix (by kernel_rfl) HX.out.1.1 (fun hS0 => ?_)
    refine Ht.take (i := 0) ⟨some 8, _, _, _, _, _⟩ (.int .u64 (M : Nat)) rfl (by kernel_rfl) (by kernel_rfl) (by decide) (by kernel_rfl) (by kernel_rfl) (by kernel_rfl) hS0 (Or.inl ⟨by rfl, by (intro X hX; have := cell_of_one hX; go_simp)⟩) ?_
    simp only [Act.put, List.setIfInBounds_toArray, List.set_cons_zero, List.set_cons_succ]
    refine Ht.take (i := 1) ⟨some 9, _, _, _, _, _⟩ (.slice (some ⟨g, o + 64 * m, none⟩) 64 64) rfl (by kernel_rfl) (by kernel_rfl) (by decide) (by kernel_rfl) (by kernel_rfl) (by kernel_rfl) hS0 (Or.inl ⟨by rfl, by (intro X hX; go_simp)⟩) ?_
    simp only [Act.put, List.setIfInBounds_toArray, List.set_cons_zero, List.set_cons_succ]
    refine Ht.step (i := 2) ⟨some 10, _, _, _, _, _⟩ rfl (by kernel_rfl) (by rfl) (fun K hK => ?_)
    refine Ht.enter 46 #[.slice (some ⟨g, o + 64 * m, none⟩) 64 64] (by have hen := fun args w => enters_of (P := Tryd.prog) Tryd.func46 (by kernel_rfl) rfl args w; go_simp) HX.out.2.1 ?_
    rintro e W1 ⟨rfl, rfl⟩
    refine ⟨_, rfl, hK _ _ (fun _ => hS0) (fun _ => ?_)⟩
    clear hK K
    simp only [Act.put, List.setIfInBounds_toArray, List.set_cons_zero, List.set_cons_succ]
    refine Ht.take (i := 3) ⟨some 11, _, _, _, _, _⟩ (.int .u64 (if (T : Int) > (M : Int) then (T : Int) else (M : Int))) rfl (by kernel_rfl) (by kernel_rfl) (by decide) (by kernel_rfl) (by kernel_rfl) (by kernel_rfl) hS0 (Or.inl ⟨by rfl, by (intro X hX; go_simp)⟩) ?_
    simp only [Act.put, List.setIfInBounds_toArray, List.set_cons_zero, List.set_cons_succ]
    refine Ht.step (i := 4) ⟨none, _, _, _, _, _⟩ rfl (by kernel_rfl) (by rfl) (fun K hK => ?_)
    have c2 := cell_of_one hS0
    have f2 := free_of_one hS0
    go_simp
    refine hK _ _ (fun h => absurd rfl h) (fun _ => ?_)
    clear hK K
    refine done (by kernel_rfl) ?_
    rw [show (if M < T then (T : Int) else (M : Int)) = ((max M T : Nat) : Int) by split <;> omega]
    have hfr : Fr (fun j => j = w.heap.size) A2 (A2.setCell ⟨w.heap.size, 0, none⟩ (.int .u64 ((max M T : Nat) : Int))).drew := (Fr.setCell (p := fun j => j = w.heap.size) (Fr.refl _ A2) (.inl rfl) _).drew
    have hk := fr_round (n₀ := 0) (n₁ := w.heap.size + 1) (B := V.heap.size) hfr (fun j hj => .inl (by omega)) (by have := HV.out.2.1; omega) (by have := HV.out.2.1; have := HX.out.1.2.2.1; omega)
    refine ⟨hk.1, hk.2, ?_, HX.out.1.2.1.trans (hfr.below HX.out.1.2.1.size (fun j hj => by omega)), ?_, hmk⟩
    · have := one_setCell (u := .int .u64 ((max M T : Nat) : Int)) HX.out.1.1
      rw [HX.out.2.2.1, HX.out.2.2.2] at this ⊢
      exact this
    · have := HX.out.1.2.2.1; simp; omega
  case hdone =>
    intro D m2 X hD hS hI hK
    dsimp only
    obtain rfl : m2 = k := by have := hI.2.2.2; omega
    have c3 := cell_of_one hI.1
    have HX := Lib.hid (And.intro hI (And.intro hK hD))
    clear hI hK hD hS
    go_wp2_with fail
    exact leaveV rfl rfl (by have := HX.out.2.2; have := HV.out.2.1; omega) HX.out.2.1 HX.out.1.2.1
end Go.Proofs.YtjblkmjdepdekaaDoor.Wl
