
/- graphs: stands -/
import Derived.Test.YtmlmacplkfnhkaaDgKB
namespace Go.Proofs.Ytmlmacplkfnhkaa.DgB
open Go.RowKit Go.Lib Hp Mv Dg Ht
set_option linter.unusedVariables false
set_option maxRecDepth 20000
attribute [local go_sem] Oper.semAt_some
theorem WI.of_start (R : Id → Id → Bool) (s : Id) : WI R s (fun z => (fun _ => false : Id → Bool) z = true) [s] :=
  ⟨fun y hy => by simp at hy, fun y hy => .inl (by simpa using hy), fun y hy hn z hz => by
    have := (WI.start R s).closed y (hy.imp_right fun e => by simp at e) hn z hz
    exact this.elim⟩
/-- two walks beside each other -/
structure Two (w : World) (ns : List Id) (E : Id → Id → Bool) (x o : Id) (wbd fbd cbd : Nat) (nxd : Id → Nat) (Td : Nat → Prop) (wbu fbu cbu : Nat) (nxu : Id → Nat) (Tu : Nat → Prop) (X : World)
    (Od : Nat → Prop) (rvd : Value) (Fd : Id → Bool) (nd : Nat) (rd : List Id) (Ou : Nat → Prop) (rvu : Value) (Fu : Id → Bool) (nu : Nat) (ru : List Id) : Prop where
  d : Wk Td Od X wbd fbd rvd ns E 53 cbd nxd Fd nd rd
  dw : WI E x (fun z => Fd z = true) rd
  u : Wk Tu Ou X wbu fbu rvu ns (fun a b => E b a) 47 cbu nxu Fu nu ru
  uw : WI (fun a b => E b a) o (fun z => Fu z = true) ru
  below : Below w.heap.size w X
  ownD : ∀ k, Od k → w.heap.size ≤ k
  ownU : ∀ k, Ou k → w.heap.size ≤ k
  dis : ∀ k, Od k → ¬ (Tu k ∨ Ou k)
  dis' : ∀ k, Ou k → ¬ (Td k ∨ Od k)
section
variable {w : World} {ns : List Id} {E : Id → Id → Bool} {x o : Id} {wbd fbd cbd : Nat} {nxd : Id → Nat} {Td : Nat → Prop} {wbu fbu cbu : Nat} {nxu : Id → Nat} {Tu : Nat → Prop} {X : World}
    {Od : Nat → Prop} {rvd : Value} {Fd : Id → Bool} {nd : Nat} {rd : List Id} {Ou : Nat → Prop} {rvu : Value} {Fu : Id → Bool} {nu : Nat} {ru : List Id}
theorem Two.go {Y : World} (h : Two w ns E x o wbd fbd cbd nxd Td wbu fbu cbu nxu Tu X Od rvd Fd nd rd Ou rvu Fu nu ru) (b : Below X.heap.size X Y) : Two w ns E x o wbd fbd cbd nxd Td wbu fbu cbu nxu Tu Y Od rvd Fd nd rd Ou rvu Fu nu ru :=
  ⟨h.d.below b (Nat.le_refl _), h.dw, h.u.below b (Nat.le_refl _), h.uw, h.below.trans (b.mono h.below.size), h.ownD, h.ownU, h.dis, h.dis'⟩
theorem below_fr {O : Nat → Prop} {Y : World} (hb : Below w.heap.size w X) (f : Fr O X Y) (ho : ∀ k, O k → w.heap.size ≤ k) : Below w.heap.size w Y :=
  ⟨f.os.trans hb.os, f.tape.trans hb.tape, f.output.trans hb.output, Nat.le_trans hb.size f.size, fun k hk => (f.block k (Nat.lt_of_lt_of_le hk hb.size) (fun e => by have := ho k e; omega)).trans (hb.block k hk)⟩
theorem Two.stepD {Y : World} {m : Nat} (h : Two w ns E x o wbd fbd cbd nxd Td wbu fbu cbu nxu Tu X Od rvd Fd nd rd Ou rvu Fu nu ru) (st : Stepped Td Od X Y wbd fbd ns E 53 cbd nxd x m) :
    ∃ Od rvd Fd nd rd, Two w ns E x o wbd fbd cbd nxd Td wbu fbu cbu nxu Tu Y Od rvd Fd nd rd Ou rvu Fu nu ru ∧ ns.length - nd + rd.length < m := by
  obtain ⟨O2, rv2, F2, n2, rest2, h1, h2, h3, h4, h5⟩ := st
  refine ⟨O2, rv2, F2, n2, rest2, ⟨h1, h2, h.u.fr h3 (fun k hk e => h.dis k e hk), h.uw, below_fr h.below h3 h.ownD, fun k hk => (h4 k hk).elim (h.ownD k) (fun e => Nat.le_trans h.below.size e), h.ownU, fun k hk e => ?_, fun k hk e => ?_⟩, h5⟩
  · rcases h4 k hk with hk | hk
    · exact h.dis k hk e
    · have := h.u.lt e; omega
  · rcases e with e | e
    · exact h.dis' k hk (.inl e)
    · rcases h4 k e with e | e
      · exact h.dis' k hk (.inr e)
      · have := h.u.size k hk; omega
theorem Two.stepU {Y : World} {m : Nat} (h : Two w ns E x o wbd fbd cbd nxd Td wbu fbu cbu nxu Tu X Od rvd Fd nd rd Ou rvu Fu nu ru) (st : Stepped Tu Ou X Y wbu fbu ns (fun a b => E b a) 47 cbu nxu o m) :
    ∃ Ou rvu Fu nu ru, Two w ns E x o wbd fbd cbd nxd Td wbu fbu cbu nxu Tu Y Od rvd Fd nd rd Ou rvu Fu nu ru ∧ ns.length - nu + ru.length < m := by
  obtain ⟨O2, rv2, F2, n2, rest2, h1, h2, h3, h4, h5⟩ := st
  refine ⟨O2, rv2, F2, n2, rest2, ⟨h.d.fr h3 (fun k hk e => h.dis' k e hk), h.dw, h1, h2, below_fr h.below h3 h.ownU, h.ownD, fun k hk => (h4 k hk).elim (h.ownU k) (fun e => Nat.le_trans h.below.size e), fun k hk e => ?_, fun k hk e => ?_⟩, h5⟩
  · rcases e with e | e
    · exact h.dis k hk (.inl e)
    · rcases h4 k e with e | e
      · exact h.dis k hk (.inr e)
      · have := h.d.size k hk; omega
  · rcases h4 k hk with hk | hk
    · exact h.dis' k hk e
    · have := h.d.lt e; omega
end
section
variable {S : Nat → Prop} {w : World} {gb : Nat} {mv : Option Nat} {ns : List Id} {E : Id → Id → Bool} {nb ob ub : Id → Nat}
set_option maxHeartbeats 4000000 in
theorem stands_any (q : Gq S w gb mv ns E nb ob ub) (x o : Id) (hx : x ∈ ns) (ho : o ∈ ns) (hN : ns.length ≤ 900000) : Calls Try.prog 27 #[.pointer (some ⟨gb, 0, none⟩), ek x, ek o] w fun e w' => (∃ b, e = .returned (.bool b) ∧ (b = true ↔ Re E x o)) ∧ Below w.heap.size w w' := by
  obtain ⟨V1, hV1⟩ : ∃ V, V = w.alloc (.cells #[kv x.1, .bool x.2] 67) := ⟨_, rfl⟩
  obtain ⟨V, hV⟩ : ∃ V, V = V1.alloc (.cells #[kv o.1, .bool o.2] 67) := ⟨_, rfl⟩
  have hb1 : Below w.heap.size w V1 := by rw [hV1]; exact (Below.refl _ w).alloc (Nat.le_refl _) _
  have hb2 : Below V1.heap.size V1 V := by rw [hV]; exact (Below.refl _ V1).alloc (Nat.le_refl _) _
  have hb : Below w.heap.size w V := hb1.trans (hb2.mono hb1.size)
  have q2 := q.below hb (Nat.le_refl _)
  have cx : V.cell? ⟨w.heap.size, 0, none⟩ = some (kv x.1) ∧ V.cell? ⟨w.heap.size, 1, none⟩ = some (.bool x.2) := by
    have h := cell_id w x
    rw [← hV1] at h
    exact ⟨bc hb2 h.1, bc hb2 h.2⟩
  have co : V.cell? ⟨V1.heap.size, 0, none⟩ = some (kv o.1) ∧ V.cell? ⟨V1.heap.size, 1, none⟩ = some (.bool o.2) := by rw [hV]; exact cell_id V1 o
  have hz : V1.heap.size = w.heap.size + 1 := by rw [hV1]; simp
  rw [hz] at co
  have HQ := Lib.hid (And.intro q2 (And.intro hx (And.intro ho (And.intro hN hb))))
  clear q q2 hx ho hN hb hb1 hb2 hz
  have hmix : Try.prog.follows .mixedOrders = true := by kernel_rfl
  unfold ek
  have HCx := Lib.hid (And.intro cx co)
  unfold kv at cx co ⊢
  go_enter Try.func27, Try.ntmps27
  go_wp2_with fail
  unfold kv at hV1 hV
  rw [← hV1]
  rw [← hV]
  clear hV hV1
  refine begin' 7 (fun Z => Below V.heap.size V Z) hmix ((Below.refl _ V).drew) (fun hS0 => ?_)
  refine Ht.takeD 8 (i := 0) ⟨some 9, _, _, _, _, _⟩ (.pointer (some ⟨gb, 0, none⟩)) rfl (by kernel_rfl) (by kernel_rfl) (by decide) (by kernel_rfl) (by kernel_rfl) (by kernel_rfl) hS0 (Or.inl ⟨by rfl, by (intro X hX; go_simp)⟩) ?_
  simp only [Act.put, List.setIfInBounds_toArray, List.set_cons_zero, List.set_cons_succ]
  refine Ht.takeD 8 (i := 1) ⟨some 10, _, _, _, _, _⟩ (.agg #[.string ⟨x.1.toArray⟩, .bool x.2]) rfl (by kernel_rfl) (by kernel_rfl) (by decide) (by kernel_rfl) (by kernel_rfl) (by kernel_rfl) hS0 (Or.inl ⟨by rfl, by (intro X hX; have := And.intro (bc hX cx.1) (bc hX cx.2); go_simp)⟩) ?_
  simp only [Act.put, List.setIfInBounds_toArray, List.set_cons_zero, List.set_cons_succ]
  refine Ht.takeD 8 (i := 3) ⟨some 12, _, _, _, _, _⟩ (.pointer (some ⟨gb, 0, none⟩)) rfl (by kernel_rfl) (by kernel_rfl) (by decide) (by kernel_rfl) (by kernel_rfl) (by kernel_rfl) hS0 (Or.inl ⟨by rfl, by (intro X hX; go_simp)⟩) ?_
  simp only [Act.put, List.setIfInBounds_toArray, List.set_cons_zero, List.set_cons_succ]
  refine Ht.takeD 8 (i := 4) ⟨some 13, _, _, _, _, _⟩ (.agg #[.string ⟨o.1.toArray⟩, .bool o.2]) rfl (by kernel_rfl) (by kernel_rfl) (by decide) (by kernel_rfl) (by kernel_rfl) (by kernel_rfl) hS0 (Or.inl ⟨by rfl, by (intro X hX; have := And.intro (bc hX co.1) (bc hX co.2); go_simp)⟩) ?_
  simp only [Act.put, List.setIfInBounds_toArray, List.set_cons_zero, List.set_cons_succ]
  refine Ht.step (i := 2) ⟨some 11, _, _, _, _, _⟩ rfl (by kernel_rfl) (by rfl) (fun K hK => ?_)
  refine Ht.enter 41 #[.pointer (some ⟨gb, 0, none⟩), .agg #[.string ⟨x.1.toArray⟩, .bool x.2]] (by have hen := fun args w => enters_of (P := Try.prog) Try.func41 (by kernel_rfl) rfl args w; go_simp) (down_any (HQ.out.1.below hS0 (Nat.le_refl _)) x HQ.out.2.1) ?_
  rintro e X1 ⟨v1, rfl, wbd, fbd, rvd, cbd, Td, Od, rfl, hkd, hnd⟩
  have b1 : Below V.heap.size V X1 := hS0.trans (hnd.below.mono hS0.size)
  refine ⟨_, rfl, hK _ _ (fun hn => b1) (fun hnx => ?_)⟩
  clear hK K hnx
  try simp only [Act.put, List.setIfInBounds_toArray, List.set_cons_zero, List.set_cons_succ]
  refine Ht.step (i := 5) ⟨some 14, _, _, _, _, _⟩ rfl (by kernel_rfl) (by rfl) (fun K hK => ?_)
  refine Ht.enter 30 #[.pointer (some ⟨gb, 0, none⟩), .agg #[.string ⟨o.1.toArray⟩, .bool o.2]] (by have hen := fun args w => enters_of (P := Try.prog) Try.func30 (by kernel_rfl) rfl args w; go_simp) (up_any (HQ.out.1.below b1 (Nat.le_refl _)) o HQ.out.2.2.1) ?_
  rintro e X2 ⟨v2, rfl, wbu, fbu, rvu, cbu, Tu, Ou, rfl, hku, hnu⟩
  have b2 : Below V.heap.size V X2 := b1.trans (hnu.below.mono b1.size)
  refine ⟨_, rfl, hK _ _ (fun hn => b2) (fun hnx => ?_)⟩
  clear hK K hnx
  try simp only [Act.put, List.setIfInBounds_toArray, List.set_cons_zero, List.set_cons_succ]
  refine Ht.takeD 8 (i := 6) ⟨some 7, _, _, _, _, _⟩ (.pointer (some ⟨wbd, 0, none⟩)) rfl (by kernel_rfl) (by kernel_rfl) (by decide) (by kernel_rfl) (by kernel_rfl) (by kernel_rfl) b2 (Or.inl ⟨by rfl, by (intro X hX; go_simp)⟩) ?_
  simp only [Act.put, List.setIfInBounds_toArray, List.set_cons_zero, List.set_cons_succ]
  refine Ht.step (i := 7) ⟨some 8, _, _, _, _, _⟩ rfl (by kernel_rfl) (by rfl) (fun K hK => ?_)
  go_simp
  refine hK _ _ (fun hn => absurd rfl hn) (fun hnx => ?_)
  clear hK K hnx
  try simp only [Act.put, List.setIfInBounds_toArray, List.set_cons_zero, List.set_cons_succ]
  refine done (by kernel_rfl) ?_
  have hd0 := hnd.own
  have h2 : Two V ns E x o wbd fbd cbd ob Td wbu fbu cbu ub Tu X2 Od rvd (fun _ => false) 0 [x] Ou rvu (fun _ => false) 0 [o] := by
    have kd := hkd.below hnu.below (Nat.le_refl _)
    have sV := HQ.out.1.size
    refine ⟨kd, WI.of_start E x, hku, WI.of_start _ o, b2, hnd.own, fun k hk => Nat.le_trans b1.size (hnu.own k hk), fun k hk e => ?_, fun k hk e => ?_⟩
    · have h1 := hkd.size k hk
      have h0 := hnd.own k hk
      have h0' : V.heap.size ≤ k := h0
      rcases e with e | e
      · rcases hnu.read k e with e | e
        · have := sV k e; omega
        · omega
      · have := hnu.own k e; omega
    · have h1 := hnu.own k hk
      have := hkd.lt e
      omega
  have H2 := Lib.hid h2
  clear h2 hd0 hkd hku hnd hnu b1 b2 hS0 cx co
  go_wp2_with fail
  go_loopw [16] (fun _ wr => ∃ Od rvd Fd nd rd Ou rvu Fu nu ru, Two V ns E x o wbd fbd cbd ob Td wbu fbu cbu ub Tu wr Od rvd Fd nd rd Ou rvu Fu nu ru) (fun _ wr => (ns.length - cntOf wr fbd + lenOf wr wbd) + (ns.length - cntOf wr fbu + lenOf wr wbu))
  case atStart => exact ⟨_, _, _, _, _, _, _, _, _, _, H2.out⟩
  case round =>
    obtain ⟨Od, rvd, Fd, nd, rd, Ou, rvu, Fu, nu, ru, p⟩ := hrel
    have HP := Lib.hid p
    have he1 := ends_any p.d
    have he2 := ends_any p.u
    clear p
    go_wp2_with fail
    refine he1.mono ?_
    rintro e W1 ⟨rfl, hW1⟩
    rw [hW1]
    clear hW1 W1
    by_cases h1 : rd = []
    · subst h1
      rw [decide_eq_true rfl] at he1 ⊢
      clear he2
      have hh := whas_any HP.out.d o (HP.out.d.nxt.ok o HQ.out.2.2.1)
      have HH := Lib.hid hh
      have co : wr.cell? ⟨w.heap.size + 1, 0, none⟩ = some (.string ⟨o.1.toArray⟩) ∧ wr.cell? ⟨w.heap.size + 1, 1, none⟩ = some (.bool o.2) := ⟨bc HP.out.below HCx.out.2.1, bc HP.out.below HCx.out.2.2⟩
      clear hh
      go_wp2_with fail
      refine he1.mono ?_
      rintro e W1 ⟨rfl, hW1⟩
      rw [hW1]
      clear hW1 W1
      clear he1
      go_wp2_with fail
      refine HH.out.mono ?_
      rintro e W2 ⟨rfl, hb2⟩
      go_wp2_with fail
      go_ret
      have hW := HP.out.dw.done o
      exact ⟨⟨_, by simp, hW⟩, (HQ.out.2.2.2.2.trans (HP.out.below.mono HQ.out.2.2.2.2.size)).trans (hb2.mono (Nat.le_trans HQ.out.2.2.2.2.size HP.out.below.size))⟩
    · rw [decide_eq_false h1] at he1 ⊢
      have HR1 := Lib.hid h1
      clear h1
      go_wp2_with fail
      refine he2.mono ?_
      rintro e W1 ⟨rfl, hW1⟩
      rw [hW1]
      clear hW1 W1
      by_cases h2 : ru = []
      · subst h2
        rw [decide_eq_true rfl]
        clear he2
        have hh := whas_any HP.out.u x (HP.out.u.nxt.ok x HQ.out.2.1)
        have HH := Lib.hid hh
        have cx : wr.cell? ⟨w.heap.size, 0, none⟩ = some (.string ⟨x.1.toArray⟩) ∧ wr.cell? ⟨w.heap.size, 1, none⟩ = some (.bool x.2) := ⟨bc HP.out.below HCx.out.1.1, bc HP.out.below HCx.out.1.2⟩
        clear hh
        go_wp2_with fail
        refine he1.mono ?_
        rintro e W1 ⟨rfl, hW1⟩
        rw [hW1]
        clear hW1 W1
        clear he1
        go_wp2_with fail
        refine HH.out.mono ?_
        rintro e W2 ⟨rfl, hb2⟩
        go_wp2_with fail
        go_ret
        have hW := (HP.out.uw.done x).trans (flip_iff (R := E) (s := x) (x := o))
        exact ⟨⟨_, by simp, hW⟩, (HQ.out.2.2.2.2.trans (HP.out.below.mono HQ.out.2.2.2.2.size)).trans (hb2.mono (Nat.le_trans HQ.out.2.2.2.2.size HP.out.below.size))⟩
      · rw [decide_eq_false h2]
        have HR2 := Lib.hid h2
        clear h2 he1 he2
        have hc1 := cost_any HP.out.d HR1.out
        go_wp2_with fail
        refine hc1.mono ?_
        rintro e W1 ⟨⟨c1, rfl⟩, hb1⟩
        have p1 := HP.out.go hb1
        have hc2 := cost_any p1.u HR2.out
        have HP1 := Lib.hid p1
        clear p1 hc1 hb1
        go_wp2_with fail
        refine hc2.mono ?_
        rintro e W2 ⟨⟨c2, rfl⟩, hb2⟩
        have p2 := HP1.out.go hb2
        have HP2 := Lib.hid p2
        clear hc2 hb2 p2
        by_cases hlt : c1 < c2
        · have hs := step_any HP2.out.d HP2.out.dw HR1.out HQ.out.2.2.2.1
          go_wp2_with fail
          refine hs.mono ?_
          rintro e W3 ⟨rfl, hst⟩
          obtain ⟨Od', rvd', Fd', nd', rd', p3, hm⟩ := HP2.out.stepD hst
          have H3 := Lib.hid (And.intro p3 hm)
          clear p3 hm hst hs
          go_wp2_with fail
          go_roundw
          case rel => exact ⟨_, _, _, _, _, _, _, _, _, _, H3.out.1⟩
          case measure =>
            have := H3.out.2
            rw [H3.out.1.d.cntOf, H3.out.1.d.lenOf, H3.out.1.u.cntOf, H3.out.1.u.lenOf, HP.out.d.cntOf, HP.out.d.lenOf, HP.out.u.cntOf, HP.out.u.lenOf]; omega
        · have hs := step_any HP2.out.u HP2.out.uw HR2.out HQ.out.2.2.2.1
          go_wp2_with fail
          refine hs.mono ?_
          rintro e W3 ⟨rfl, hst⟩
          obtain ⟨Ou', rvu', Fu', nu', ru', p3, hm⟩ := HP2.out.stepU hst
          have H3 := Lib.hid (And.intro p3 hm)
          clear p3 hm hst hs
          go_wp2_with fail
          go_roundw
          case rel => exact ⟨_, _, _, _, _, _, _, _, _, _, H3.out.1⟩
          case measure =>
            have := H3.out.2
            rw [H3.out.1.d.cntOf, H3.out.1.d.lenOf, H3.out.1.u.cntOf, H3.out.1.u.lenOf, HP.out.d.cntOf, HP.out.d.lenOf, HP.out.u.cntOf, HP.out.u.lenOf]; omega
end
end Go.Proofs.Ytmlmacplkfnhkaa.DgB

