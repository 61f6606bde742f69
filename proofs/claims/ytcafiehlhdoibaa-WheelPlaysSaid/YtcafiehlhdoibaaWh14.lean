
/- wheels: Copy -/
import Derived.Test.YtcafiehlhdoibaaWh13
namespace Go.Proofs.Ytcafiehlhdoibaa.Wh
open Go.RowKit Go.Lib Go.Sort Go.Maps Hp Ht
set_option linter.unusedVariables false
set_option maxRecDepth 20000
section
variable {S : Nat → Prop} {w : World} {wb : Nat} {now : Int} {most : Nat} {m : List (K × Int)}
theorem clone_any {b n : Nat} {f : K → Option Int} (h : Mq w b n f) : Calls Try.prog 32 #[.map (some b)] w fun e w' => e = .returned (.map (some w.heap.size)) ∧ Mq w' w.heap.size n f ∧ Below w.heap.size w w' := by
  obtain ⟨D, hm, hs, hD⟩ := h
  have hc := AnyW.maps_Clone_owns Try.mpCloneW 9 _ b n D w hm
  change Calls Try.prog 32 _ _ _ at hc
  refine hc.mono ?_
  rintro e w' ⟨rfl, h1, _, h2⟩
  exact ⟨rfl, ⟨D, h1, hs, hD⟩, h2⟩
theorem Wq.not_iter {ab n : Nat} {sv : Nat → Option Nat} {f h : K → Option Int} (q : Wq S w wb ab sv now most n f h) {ob : Option Nat} {r : Nat} {g : K → Option Int} {es : List (K × Int)} {cnt : Nat} (hr : Rgs w ob r g es cnt) : ¬ Bs wb ab sv r := by
  have hi : ∃ p a b c, w.heap[r]? = some (.mapIter p a b c) := by
    cases ob with
    | none => exact ⟨_, _, _, _, hr.1⟩
    | some b =>
      obtain ⟨n, D, lf, ⟨es, clock, since, seen, c0, h1, _, _, _, h2, _⟩, _⟩ := hr
      exact ⟨_, _, _, _, h2⟩
  obtain ⟨p, a, b, c, hb⟩ := hi
  rintro (rfl | rfl | ⟨s, hs, e⟩)
  · obtain ⟨cur2, h1, _⟩ := q.obj
    rw [hb] at h1; cases h1
  · obtain ⟨es, c, h1⟩ := q.at'.at
    rw [hb] at h1; cases h1
  · obtain ⟨m, hm⟩ := q.slot_some hs e
    obtain ⟨es, c, h1⟩ := hm.at
    rw [hb] at h1; cases h1
/-- a copy on its way -/
structure Cp (w : World) (ab wb2 ab2 r : Nat) (now : Int) (most n : Nat) (f : K → Option Int) (X : World) (es : List (K × Int)) (cnt : Nat) (sv' : Nat → Option Nat) (h' : K → Option Int) : Prop where
  rg : Rgs X (some ab) r f es cnt
  q : Wq (Bs wb2 ab2 sv') X wb2 ab2 sv' now most n f h'
  hh : ∀ k t, h' k = some t ↔ (k, t) ∈ es
  new : ∀ x, Bs wb2 ab2 sv' x → w.heap.size ≤ x
  fr : Fr (fun x => w.heap.size ≤ x) w X
theorem Cp.next {ab wb2 ab2 r n : Nat} {f h' : K → Option Int} {X Y : World} {es : List (K × Int)} {cnt cnt' : Nat} {sv' : Nat → Option Nat} (p : Cp w ab wb2 ab2 r now most n f X es cnt sv' h') (hr0 : w.heap.size ≤ r) {k : K} {t : Int}
    (hrg : Rgs Y (some ab) r f (es ++ [(k, t)]) cnt') (hg : X.grownBy Y (some r)) : Wq (Bs wb2 ab2 sv') Y wb2 ab2 sv' now most n f h' ∧ h' k = none ∧ Fr (fun x => w.heap.size ≤ x) w Y := by
  refine ⟨p.q.kept hg.size fun x hx => hg.block x (p.q.size x hx) (fun e => p.q.not_iter p.rg (Option.some.inj e ▸ hx)), ?_, p.fr.trans (Fr.grown hg (S := fun x => w.heap.size ≤ x) (.inl hr0)) fun x hx => .inl hx⟩
  cases e : h' k with
  | none => rfl
  | some t2 =>
    exfalso
    have h1 := (p.hh k t2).1 e
    have h2 := hrg.nodup
    rw [List.map_append, List.nodup_append] at h2
    exact h2.2.2 k (List.mem_map.2 ⟨_, h1, rfl⟩) k (by simp) rfl
theorem Cp.put {ab wb2 ab2 r n : Nat} {f h' : K → Option Int} {X Y Z : World} {es : List (K × Int)} {cnt cnt' : Nat} {sv' sv'' : Nat → Option Nat} {S'' : Nat → Prop} (p : Cp w ab wb2 ab2 r now most n f X es cnt sv' h') (hr0 : w.heap.size ≤ r) (hab : ab < w.heap.size) {k : K} {t : Int}
    (hrg : Rgs Y (some ab) r f (es ++ [(k, t)]) cnt') (hg : X.grownBy Y (some r)) (q'' : Wq S'' Z wb2 ab2 sv'' now most n f (upd h' k t)) (hs : ∀ x, S'' x → Bs wb2 ab2 sv' x ∨ Y.heap.size ≤ x) (fr : Fr (Bs wb2 ab2 sv') Y Z) : Cp w ab wb2 ab2 r now most n f Z (es ++ [(k, t)]) cnt' sv'' (upd h' k t) := by
  obtain ⟨qY, hk, frY⟩ := p.next hr0 hrg hg
  refine ⟨hrg.kept (fun b e => ?_) (fr.block r hrg.lt (qY.not_iter hrg)), q''.min, fun k' t' => ?_, fun x hx => ?_, frY.trans fr fun x hx => .inl (p.new x hx)⟩
  · cases e
    exact fr.block ab (Nat.lt_of_lt_of_le hab frY.size) fun e => by have := p.new ab e; omega
  · rw [upd_some, p.hh, List.mem_append, List.mem_singleton]
    constructor
    · rintro (⟨rfl, rfl⟩ | ⟨_, e⟩)
      · exact .inr rfl
      · exact .inl e
    · rintro (e | e)
      · exact .inr ⟨fun e2 => (by have := (p.hh k' t').2 e; rw [e2, hk] at this; cases this), e⟩
      · cases e; exact .inl ⟨rfl, rfl⟩
  · rcases hs x (q''.sub_own hx) with h | h
    · exact p.new x h
    · exact Nat.le_trans frY.size h
set_option maxHeartbeats 4000000 in
theorem copy_any (hq : Wv S w wb now most m) (hm : m.length ≤ 400000) : Calls Try.prog 22 #[.pointer (some ⟨wb, 0, none⟩)] w fun e w' =>
    ∃ wb2 S', e = .returned (.pointer (some ⟨wb2, 0, none⟩)) ∧ Wv S' w' wb2 now most m ∧ (∀ x, S' x → w.heap.size ≤ x) ∧ Below w.heap.size w w' := by
  have hmix : Try.prog.follows .mixedOrders = true := by kernel_rfl
  obtain ⟨ab, sv, f, q, hL⟩ := hq
  have c0 := q.cell.1
  have c1 := q.cell.2.1
  have c2 := q.cell.2.2.1
  have hbo := run_box
  obtain ⟨Z, hz, hZ1, hZ2, hZ3⟩ := wcn_zero
  have hC := set_cells hZ1 hZ3 (.int .i64 now) (.int .i64 ((most : Nat) : Int)) (.map (some w.heap.size))
  have hZ4 : ¬ Z.size < 2 := by omega
  have hZ5 : ¬ Z.size < 3 := by omega
  have hwl := q.size wb q.ownW
  have HQ := Lib.hid (And.intro q (And.intro hL (And.intro hm hC)))
  have hcl := clone_any (w := w.drew) (b := ab) (n := m.length) (f := f) (q.at'.kept rfl)
  clear q hL hm hZ1 hZ3 hC
  go_enter Try.func22, Try.ntmps22
  go_wp2_with fail
  refine begin' 99 (fun _ => True) hmix trivial (fun _ => ?_)
  refine later [13, 14, 15] (fun X => X.cell? ⟨wb, 0, none⟩ = some (.int .i64 now) ∧ X.cell? ⟨wb, 1, none⟩ = some (.int .i64 ((most : Nat) : Int)) ∧ X.cell? ⟨wb, 2, none⟩ = some (.map (some ab))) (⟨c0, c1, c2⟩) (fun hS0 => ?_)
  refine Ht.takeS 10 (i := 0) ⟨some 8, _, _, _, _, _⟩ (.pointer (some ⟨wb, 0, none⟩)) rfl (by kernel_rfl) (by kernel_rfl) (by kernel_rfl) (by kernel_rfl) (by kernel_rfl) hS0 (Or.inl ⟨by rfl, by (intro X hX; go_simp)⟩) ?_
  simp only [Act.put, List.setIfInBounds_toArray, List.set_cons_zero, List.set_cons_succ]
  refine Ht.takeS 10 (i := 1) ⟨some 9, _, _, _, _, _⟩ (.pointer (some ⟨wb, 0, none⟩)) rfl (by kernel_rfl) (by kernel_rfl) (by kernel_rfl) (by kernel_rfl) (by kernel_rfl) hS0 (Or.inl ⟨by rfl, by (intro X hX; have := hX.1; go_simp)⟩) ?_
  simp only [Act.put, List.setIfInBounds_toArray, List.set_cons_zero, List.set_cons_succ]
  refine Ht.takeS 10 (i := 2) ⟨some 10, _, _, _, _, _⟩ (.pointer (some ⟨wb, 0, none⟩)) rfl (by kernel_rfl) (by kernel_rfl) (by kernel_rfl) (by kernel_rfl) (by kernel_rfl) hS0 (Or.inl ⟨by rfl, by (intro X hX; go_simp)⟩) ?_
  simp only [Act.put, List.setIfInBounds_toArray, List.set_cons_zero, List.set_cons_succ]
  refine Ht.takeS 10 (i := 3) ⟨some 11, _, _, _, _, _⟩ (.int .i64 now) rfl (by kernel_rfl) (by kernel_rfl) (by kernel_rfl) (by kernel_rfl) (by kernel_rfl) hS0 (Or.inl ⟨by rfl, by (intro X hX; have := hX.1; go_simp)⟩) ?_
  simp only [Act.put, List.setIfInBounds_toArray, List.set_cons_zero, List.set_cons_succ]
  refine Ht.takeS 10 (i := 4) ⟨some 12, _, _, _, _, _⟩ (.pointer (some ⟨wb, 0, none⟩)) rfl (by kernel_rfl) (by kernel_rfl) (by kernel_rfl) (by kernel_rfl) (by kernel_rfl) hS0 (Or.inl ⟨by rfl, by (intro X hX; go_simp)⟩) ?_
  simp only [Act.put, List.setIfInBounds_toArray, List.set_cons_zero, List.set_cons_succ]
  refine Ht.takeS 10 (i := 5) ⟨some 13, _, _, _, _, _⟩ (.pointer (some ⟨wb, 0, none⟩)) rfl (by kernel_rfl) (by kernel_rfl) (by kernel_rfl) (by kernel_rfl) (by kernel_rfl) hS0 (Or.inl ⟨by rfl, by (intro X hX; have := hX.1; go_simp)⟩) ?_
  simp only [Act.put, List.setIfInBounds_toArray, List.set_cons_zero, List.set_cons_succ]
  refine Ht.takeS 10 (i := 6) ⟨some 14, _, _, _, _, _⟩ (.pointer (some ⟨wb, 1, none⟩)) rfl (by kernel_rfl) (by kernel_rfl) (by kernel_rfl) (by kernel_rfl) (by kernel_rfl) hS0 (Or.inl ⟨by rfl, by (intro X hX; go_simp)⟩) ?_
  simp only [Act.put, List.setIfInBounds_toArray, List.set_cons_zero, List.set_cons_succ]
  refine Ht.takeS 10 (i := 7) ⟨some 15, _, _, _, _, _⟩ (.int .i64 ((most : Nat) : Int)) rfl (by kernel_rfl) (by kernel_rfl) (by kernel_rfl) (by kernel_rfl) (by kernel_rfl) hS0 (Or.inl ⟨by rfl, by (intro X hX; have := hX.2.1; go_simp)⟩) ?_
  simp only [Act.put, List.setIfInBounds_toArray, List.set_cons_zero, List.set_cons_succ]
  refine Ht.takeS 10 (i := 8) ⟨some 16, _, _, _, _, _⟩ (.pointer (some ⟨wb, 0, none⟩)) rfl (by kernel_rfl) (by kernel_rfl) (by kernel_rfl) (by kernel_rfl) (by kernel_rfl) hS0 (Or.inl ⟨by rfl, by (intro X hX; go_simp)⟩) ?_
  simp only [Act.put, List.setIfInBounds_toArray, List.set_cons_zero, List.set_cons_succ]
  refine Ht.takeS 10 (i := 9) ⟨some 17, _, _, _, _, _⟩ (.pointer (some ⟨wb, 0, none⟩)) rfl (by kernel_rfl) (by kernel_rfl) (by kernel_rfl) (by kernel_rfl) (by kernel_rfl) hS0 (Or.inl ⟨by rfl, by (intro X hX; have := hX.1; go_simp)⟩) ?_
  simp only [Act.put, List.setIfInBounds_toArray, List.set_cons_zero, List.set_cons_succ]
  refine Ht.takeS 10 (i := 10) ⟨some 18, _, _, _, _, _⟩ (.pointer (some ⟨wb, 2, none⟩)) rfl (by kernel_rfl) (by kernel_rfl) (by kernel_rfl) (by kernel_rfl) (by kernel_rfl) hS0 (Or.inl ⟨by rfl, by (intro X hX; go_simp)⟩) ?_
  simp only [Act.put, List.setIfInBounds_toArray, List.set_cons_zero, List.set_cons_succ]
  refine Ht.takeS 10 (i := 11) ⟨some 19, _, _, _, _, _⟩ (.map (some ab)) rfl (by kernel_rfl) (by kernel_rfl) (by kernel_rfl) (by kernel_rfl) (by kernel_rfl) hS0 (Or.inl ⟨by rfl, by (intro X hX; have := hX.2.2; go_simp)⟩) ?_
  simp only [Act.put, List.setIfInBounds_toArray, List.set_cons_zero, List.set_cons_succ]
  refine Ht.stepS (i := 12) ⟨some 20, _, _, _, _, _⟩ rfl (by kernel_rfl) (by rfl) (fun K hK => ?_)
  refine Ht.enter 32 #[.map (some ab)] (by have hen := fun args w => enters_of (P := Try.prog) Try.func32 (by kernel_rfl) rfl args w; go_simp) (hcl) ?_
  rintro e V ⟨rfl, hmV, hbV⟩
  have hbV' : Below w.heap.size w V := ⟨hbV.os, hbV.tape, hbV.output, hbV.size, hbV.block⟩
  have HV := Lib.hid (And.intro hmV hbV')
  have e0 := (hbV.cell (p := ⟨wb, 0, none⟩) hwl).trans hS0.1
  have e1 := (hbV.cell (p := ⟨wb, 1, none⟩) hwl).trans hS0.2.1
  have e2 := (hbV.cell (p := ⟨wb, 2, none⟩) hwl).trans hS0.2.2
  clear hmV hbV hbV' hcl
  refine ⟨_, rfl, hK _ _ (fun hn => ⟨e0, e1, e2⟩) (fun hnx => ?_)⟩
  clear hK K hnx
  simp only [Act.put, List.setIfInBounds_toArray, List.set_cons_zero, List.set_cons_succ]
  clear e0 e1 e2
  refine Ht.stepS (i := 13) ⟨some 21, _, _, _, _, _⟩ rfl (by kernel_rfl) (by rfl) (fun K hK => ?_)
  go_simp
  refine hK _ _ (fun hn => absurd (by decide) hn) (fun hnx => ?_)
  clear hK K hnx
  try simp only [Act.put, List.setIfInBounds_toArray, List.set_cons_zero, List.set_cons_succ]
  refine Ht.stepS (i := 14) ⟨some 22, _, _, _, _, _⟩ rfl (by kernel_rfl) (by rfl) (fun K hK => ?_)
  go_simp
  refine hK _ _ (fun hn => absurd (by decide) hn) (fun hnx => ?_)
  clear hK K hnx
  try simp only [Act.put, List.setIfInBounds_toArray, List.set_cons_zero, List.set_cons_succ]
  refine Ht.stepS (i := 15) ⟨some 3, _, _, _, _, _⟩ rfl (by kernel_rfl) (by rfl) (fun K hK => ?_)
  go_simp
  refine hK _ _ (fun hn => absurd (by decide) hn) (fun hnx => ?_)
  clear hK K hnx
  try simp only [Act.put, List.setIfInBounds_toArray, List.set_cons_zero, List.set_cons_succ]
  refine doneS (by kernel_rfl) ?_
  obtain ⟨q, hL, hm, hC⟩ := HQ.out
  obtain ⟨hmV, hbV⟩ := HV.out
  obtain ⟨C, hCe⟩ : ∃ C, C = (((Z.setIfInBounds 0 (.int .i64 now)).setIfInBounds 1 (.int .i64 ((most : Nat) : Int))).setIfInBounds 2 (.map (some w.heap.size))) := ⟨_, rfl⟩
  rw [← hCe] at hC ⊢
  clear hCe hz hZ2 hZ4 hZ5 hbo
  obtain ⟨V2, hV2⟩ : ∃ X, X = V.alloc (.cells C 67) := ⟨_, rfl⟩
  have g2 := MapKept.heap_alloc V (.cells C 67)
  have hb2 : Below V.heap.size V V2 := by rw [hV2]; exact (Below.refl _ V).alloc (Nat.le_refl _) _
  have hzV := hbV.size
  have hmV2 : Mq V2 w.heap.size m.length f := hmV.kept (hb2.block _ hmV.lt)
  have q0 : Wq (Bs V.heap.size w.heap.size fun _ => none) V2 V.heap.size w.heap.size (fun _ => none) now most m.length f (fun _ => none) := wq_new (by rw [hV2]; exact g2.1) hC hmV2 q.okf q.cnt q.tick
  have hbw : Below w.heap.size w V2 := hbV.trans (hb2.mono hzV)
  have qw := q.below hbw
  have hsl : Sl V2 (some ab) f := ⟨_, qw.at'⟩
  have c20 := qw.cell.2.2.1
  rw [← hV2]
  have HX := Lib.hid (And.intro q0 (And.intro hbw (And.intro hzV (q.size ab q.ownA))))
  have HY := Lib.hid (And.intro hL hm)
  have hwk : ∀ k t, f k = some t → wk k := fun k t e => (q.okf k t e).1
  have z2 : V.heap.size < V2.heap.size := by rw [hV2]; simp
  have HZ2 := Lib.hid z2
  clear q0 hbw hmV2 hmV hbV hb2 g2 hC hV2 q qw c0 c1 c2 hS0 hL hm hzV z2
  go_wp2_with (first
    | (at_range; refine wpList_range_sl _ rfl _ _ rfl Try.underlying53 (some ab) f rfl hsl hwk ?_; intro w0 cnt0 hrg0 hg0 hs0)
    | go_in)
  try go_frame
  obtain ⟨q0, hbw, hzV, hab⟩ := HX.out
  have hp0 : Cp w ab V.heap.size w.heap.size V2.heap.size now most m.length f w0 [] cnt0 (fun _ => none) (fun _ => none) :=
    { rg := hrg0
      q := q0.kept hg0.size fun x hx => hg0.block x (q0.size x hx) (by simp)
      hh := fun k t => by simp
      new := fun x hx => by
        rcases hx with rfl | rfl | ⟨s, _, e⟩
        · exact hzV
        · exact Nat.le_refl _
        · cases e
      fr := ((Fr.of_below hbw).mono (fun x hx h => by omega)).trans (Fr.grownN hg0 (S := fun x => w.heap.size ≤ x) fun b e => by cases e) fun x hx => .inl hx }
  have HP := Lib.hid hp0
  have hr0 : w.heap.size ≤ V2.heap.size := hbw.size
  have HR0 := Lib.hid (And.intro hr0 hab)
  clear hp0 hrg0 hg0 hs0 q0 hbw hzV hr0 hab hsl
  go_loopw [4] (fun _ wr => ∃ es cnt sv' h', Cp w ab V.heap.size w.heap.size V2.heap.size now most m.length f wr es cnt sv' h') (fun _ wr => rl wr (some ab) V2.heap.size)
  case atStart => exact ⟨_, _, _, _, HP.out⟩
  case round =>
    obtain ⟨es, cnt, sv', h', hp⟩ := hrel
    have HC := Lib.hid hp
    have hrg := hp.rg
    clear hp
    go_wp2_with (first
      | (at_next; refine wpList_next_sl _ rfl _ rfl (some ab) V2.heap.size f es cnt rfl hrg ?_ ?_)
      | go_in)
    · intro hls
      have HLs := Lib.hid hls
      clear hls hrg
      go_wp2_with fail
      go_ret
      have p := HC.out
      have hfe : h' = f := ext_some fun k t => by rw [p.hh, HLs.out.2]
      subst hfe
      refine ⟨V.heap.size, _, by simp, ⟨_, _, _, p.q, HY.out.1⟩, p.new, ⟨p.fr.os, p.fr.tape, p.fr.output, p.fr.size, fun k hk => p.fr.block k hk (by omega)⟩⟩
    · intro k t w1 cnt1 hwk1 hf hrg1 hlt hg1 hs1 hen
      obtain ⟨qY, hk, frY⟩ := HC.out.next HR0.out.1 hrg1 hg1
      have hP := put_any qY (by have := HY.out.2; omega) hf hk
      have HW := Lib.hid (And.intro hrg1 (And.intro hlt hg1))
      have hrl := hrg.left_eq
      have HL := Lib.hid hrl
      clear hrg1 hlt hg1 hs1 hwk1 hf hrg qY hk frY hrl
      unfold ek er at hen hP
      unfold ek er
      go_wp2_with fail
      refine hP.mono ?_
      rintro e w3 ⟨rfl, S3, sv3, q3, s3, f3⟩
      have HZ := Lib.hid (And.intro q3 (And.intro s3 f3))
      clear q3 s3 f3 hP
      go_wp2_with fail
      have pz := HC.out.put HR0.out.1 HR0.out.2 HW.out.1 HW.out.2.2 HZ.out.1 HZ.out.2.1 HZ.out.2.2
      go_roundw
      case rel => exact ⟨_, _, _, _, pz⟩
      case measure => rw [pz.rg.left_eq, HL.out]; exact HW.out.2.1
end
end Go.Proofs.Ytcafiehlhdoibaa.Wh
