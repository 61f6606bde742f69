
/- who is next: Cut, Next, Take, Copy -/
import Derived.Test.YtomkefaakgodhaaNx2
import Derived.Test.YtomkefaakgodhaaHpNE
namespace Go.Proofs.Ytomkefaakgodhaa.Nx
open Go.RowKit Go.Lib Go.Sort Go.Shelf Hp HpE Ht
set_option linter.unusedVariables false
set_option linter.unusedSectionVars false
set_option maxRecDepth 20000
section
variable {w : World} {rb : Nat} {p : Nat → Value} {T : Nat → Nat → Prop} {M : List O}
theorem Rq.del (h : Rq w rb p T M) (k : K) : (∀ x ∈ Nx.del k M, x.2.1 < 4) ∧ ((Nx.del k M).map (·.1)).Nodup ∧ ∀ x ∈ Nx.del k M, wk x.1 :=
  ⟨fun x hx => h.pri x (mem_del.1 hx).1, del_nodup k h.nodup, fun x hx => h.keys x (mem_del.1 hx).1⟩
theorem Rq.uniq (h : Rq w rb p T M) {k : K} {i j : Nat} (hi : k ∈ (lin M i).map (·.1)) (hj : k ∈ (lin M j).map (·.1)) : i = j := by
  obtain ⟨r, hr⟩ := key_lin.1 hi
  obtain ⟨r', hr'⟩ := key_lin.1 hj
  have := one_of h.nodup hr hr' rfl
  exact (Prod.mk.inj (Prod.mk.inj this).2).1
theorem Rq.delDeed (h : Rq w rb p T M) {q hb : Nat} (hq : q < 4) (hp : p q = .pointer (some ⟨hb, 0, none⟩)) {k : K} (hk : k ∈ (lin M q).map (·.1)) {w' : World} (hw : Hw (T q) w hb w' (Hp.cut k (lin M q))) : Rw (bk rb T) w rb w' (Nx.del k M) := by
  obtain ⟨a1, a2, a3⟩ := h.del k
  refine h.deed hq hp hw (List.Perm.of_eq (lin_del M k q).symm) (fun j hj hne => ?_) a1 a2 a3
  rw [lin_del]
  exact cut_not fun e => hne (h.uniq e hk)
end
theorem cut_ln0 (w : World) (k : K) : Calls Try.prog 25 #[.pointer none, ek k] w fun e w' => e = .returned (.bool false) ∧ w' = w := cut_nil w k
section
variable {S : Nat → Prop} {w : World} {rb : Nat} {M : List O}
theorem Rv.Cut (h : Rv S w rb M) {k : K} (hk : wk k) (hn : M.length ≤ 1000000) : Calls Try.prog 11 #[.pointer (some ⟨rb, 0, none⟩), ek k] w fun e w' => e = .returned (.bool (decide (k ∈ M.map (·.1)))) ∧ Rw S w rb w' (del k M) := by
  obtain ⟨p, T, h, rfl⟩ := h
  obtain ⟨d, hd⟩ : ∃ d, d = decide (k ∈ M.map (·.1)) := ⟨_, rfl⟩
  rw [← hd]
  have hL := lineOf_any h hk
  have H := Lib.hid (And.intro h (And.intro hn hd))
  have hC0 := fun W => cut_nil W k
  have hC := fun (T : Nat → Prop) (W : World) (b : Nat) (m : List (K × Int)) (hv : Hv T W b m) (hm : m.length ≤ 1000000) => cut_any hv hk hm
  have HC := Lib.hid hC
  clear h hn hd hC
  obtain ⟨kv, hkv⟩ : ∃ v, v = ek k := ⟨_, rfl⟩
  rw [← hkv] at hL hC0 ⊢
  have HV := Lib.hid hkv
  clear hkv
  go_enter Try.func11, Try.ntmps11
  go_wp2_with fail
  refine hL.mono ?_
  rintro e w1 ⟨⟨i, hi, hm, rfl⟩ | ⟨hm, rfl⟩, hb⟩
  · obtain ⟨r, hr⟩ := key_lin.1 hm
    obtain rfl : d = true := by rw [H.out.2.2]; exact decide_eq_true (key_in hr)
    have h1 := H.out.1.old hb
    rcases h1.line i hi with ⟨h2, h3⟩ | ⟨b, h2, hv⟩
    · rw [h3] at hm; cases hm
    · have hcut := HC.out _ _ _ _ hv (by have := lin_len M i; have := H.out.2.1; omega)
      rw [← HV.out] at hcut
      have HB := Lib.hid (And.intro hb (And.intro h1 (And.intro h2 (And.intro hi hm))))
      rw [h2]
      clear hb h1 h2 hv hi hr hL hC0 hm
      go_wp2_with fail
      refine hcut.mono ?_
      rintro e w2 ⟨rfl, hw⟩
      have HW := Lib.hid hw
      have hdd : decide (k ∈ (lin M i).map (·.1)) = true := decide_eq_true HB.out.2.2.2.2
      rw [hdd]
      clear hcut hw hdd
      go_wp2_with fail
      go_ret
      exact ⟨rfl, Rw.trans (HB.out.2.1.delDeed HB.out.2.2.2.1 HB.out.2.2.1 HB.out.2.2.2.2 HW.out) HB.out.1⟩
  · obtain rfl : d = false := by rw [H.out.2.2]; exact decide_eq_false hm
    have hm' := Lib.hid hm
    have HB := Lib.hid hb
    clear hb hL hm
    go_wp2_with fail
    refine (hC0 _).mono ?_
    rintro e w2 ⟨rfl, rfl⟩
    clear hC0
    go_wp2_with fail
    go_ret
    refine ⟨rfl, ?_⟩
    rw [del_not hm'.out]
    exact Rw.same ⟨_, _, H.out.1, rfl⟩ HB.out
theorem Rv.Next_no (h : Rv S w rb []) : Calls Try.prog 16 #[.pointer (some ⟨rb, 0, none⟩)] w fun e w' => e = .returned (.tuple #[.string ⟨#[]⟩, .bool false]) ∧ Below w.heap.size w w' := by
  obtain ⟨p, T, h, rfl⟩ := h
  have hL := first_row h (by simp)
  have hF := first_none w
  clear h
  unfold none0 at hF
  go_enter Try.func16, Try.ntmps16
  go_wp2_with fail
  refine hL.mono ?_
  rintro e w1 ⟨⟨i, hi, hm, _, rfl⟩ | ⟨_, rfl⟩, rfl⟩
  · exact absurd rfl hm
  clear hL
  go_wp2_with fail
  refine hF.mono ?_
  rintro e w2 ⟨rfl, hb⟩
  have HB := Lib.hid hb
  clear hF hb
  go_wp2_with fail
  refine bodyPost_ret (results_tmp2 rfl _ _ _) rfl ?_
  exact ⟨rfl, (HB.out.trans ((Below.refl _ _).alloc (Nat.le_refl _) _ |>.mono HB.out.size))⟩
theorem Rv.Next_yes (h : Rv S w rb M) (hne : M ≠ []) (hn : M.length ≤ 1000000) : Calls Try.prog 16 #[.pointer (some ⟨rb, 0, none⟩)] w fun e w' => ∃ x, Fst M x ∧ e = .returned (.tuple #[ek x.1, .bool true]) ∧ Below w.heap.size w w' := by
  obtain ⟨p, T, h, rfl⟩ := h
  have hL := first_row h hn
  have H := Lib.hid h
  clear h
  go_enter Try.func16, Try.ntmps16
  go_wp2_with fail
  refine hL.mono ?_
  rintro e w1 ⟨⟨i, hi, hm, hlow, rfl⟩ | ⟨h0, rfl⟩, rfl⟩
  case inr => exact absurd h0 hne
  rcases H.out.line i hi with ⟨h2, h3⟩ | ⟨b, h2, hv⟩
  · exact absurd h3 hm
  have hF := first_some hv hm
  rw [h2]
  clear hL hv h2 hm hn hne
  go_wp2_with fail
  refine hF.mono ?_
  rintro e w2 ⟨x, hx, rfl, hb⟩
  have HB := Lib.hid (And.intro hb (fst_of hlow (k := x.1) (r := x.2) hx))
  clear hF hb hlow hx
  obtain ⟨kv, hkv⟩ : ∃ v, v = ek x.1 := ⟨_, rfl⟩
  obtain ⟨rv, hrv⟩ : ∃ v, v = er x.2 := ⟨_, rfl⟩
  unfold item
  rw [← hkv, ← hrv]
  have HV := Lib.hid hkv
  unfold ek at hkv
  unfold er at hrv
  subst hkv
  subst hrv
  go_wp2_with fail
  refine bodyPost_ret (results_tmp2 rfl _ _ _) rfl ?_
  exact ⟨(x.1, i, x.2), HB.out.2, rfl, (HB.out.1.trans ((Below.refl _ _).alloc (Nat.le_refl _) _ |>.mono HB.out.1.size))⟩
theorem Rv.Take_no (h : Rv S w rb []) : Calls Try.prog 12 #[.pointer (some ⟨rb, 0, none⟩)] w fun e w' => e = .returned (.tuple #[.string ⟨#[]⟩, .bool false]) ∧ Below w.heap.size w w' := by
  obtain ⟨p, T, h, rfl⟩ := h
  have hL := first_row h (by simp)
  have hF := pop_none w
  clear h
  unfold none0 at hF
  go_enter Try.func12, Try.ntmps12
  go_wp2_with fail
  refine hL.mono ?_
  rintro e w1 ⟨⟨i, hi, hm, _, rfl⟩ | ⟨_, rfl⟩, rfl⟩
  · exact absurd rfl hm
  clear hL
  go_wp2_with fail
  refine hF.mono ?_
  rintro e w2 ⟨rfl, hb⟩
  have HB := Lib.hid hb
  clear hF hb
  go_wp2_with fail
  refine bodyPost_ret (results_tmp2 rfl _ _ _) rfl ?_
  exact ⟨rfl, (HB.out.trans ((Below.refl _ _).alloc (Nat.le_refl _) _ |>.mono HB.out.size))⟩
theorem Rw.more {w' w'' : World} (h : Rw S w rb w' M) (e : Below w'.heap.size w' w'') : Rw S w rb w'' M := by
  obtain ⟨S', h1, h2, h3⟩ := h
  exact ⟨S', h1.old e, h2.trans (Fr.of_below (S := fun _ => False) e) (fun x hx => hx.elim), h3⟩
theorem Rv.Take_yes (h : Rv S w rb M) (hne : M ≠ []) (hn : M.length ≤ 1000000) : Calls Try.prog 12 #[.pointer (some ⟨rb, 0, none⟩)] w fun e w' => ∃ x, Fst M x ∧ e = .returned (.tuple #[ek x.1, .bool true]) ∧ Rw S w rb w' (del x.1 M) := by
  obtain ⟨p, T, h, rfl⟩ := h
  have hL := first_row h hn
  have H := Lib.hid h
  clear h
  go_enter Try.func12, Try.ntmps12
  go_wp2_with fail
  refine hL.mono ?_
  rintro e w1 ⟨⟨i, hi, hm, hlow, rfl⟩ | ⟨h0, rfl⟩, rfl⟩
  case inr => exact absurd h0 hne
  rcases H.out.line i hi with ⟨h2, h3⟩ | ⟨b, h2, hv⟩
  · exact absurd h3 hm
  have hF := pop_some hv hm (by have := lin_len M i; omega)
  have HP := Lib.hid (And.intro hi h2)
  rw [h2]
  clear hL hv h2 hm hn hne hi
  go_wp2_with fail
  refine hF.mono ?_
  rintro e w2 ⟨x, hx, rfl, hw⟩
  have HB := Lib.hid (And.intro (H.out.delDeed HP.out.1 HP.out.2 (List.mem_map.2 ⟨x, hx.1, rfl⟩) hw) (fst_of hlow (k := x.1) (r := x.2) hx))
  clear hF hw hlow hx
  obtain ⟨kv, hkv⟩ : ∃ v, v = ek x.1 := ⟨_, rfl⟩
  obtain ⟨rv, hrv⟩ : ∃ v, v = er x.2 := ⟨_, rfl⟩
  unfold item
  rw [← hkv, ← hrv]
  unfold ek at hkv
  unfold er at hrv
  subst hkv
  subst hrv
  go_wp2_with fail
  refine bodyPost_ret (results_tmp2 rfl _ _ _) rfl ?_
  exact ⟨(x.1, i, x.2), HB.out.2, rfl, HB.out.1.more ((Below.refl _ _).alloc (Nat.le_refl _) _)⟩
end
theorem copy_ln {T : Nat → Prop} {w : World} {v : Value} {m : List (K × Int)} (h : Ln T w v m) (hn : m.length ≤ 1000000) : Calls Try.prog 28 #[v] w fun e w' => ∃ v' T', e = .returned v' ∧ Ln T' w' v' m ∧ (∀ k, T' k → w.heap.size ≤ k ∧ k < w'.heap.size) ∧ Below w.heap.size w w' := by
  rcases h with ⟨rfl, rfl⟩ | ⟨b, rfl, h⟩
  · refine (copy_nil w).mono ?_
    rintro e w' ⟨rfl, rfl⟩
    exact ⟨_, fun _ => False, rfl, .inl ⟨rfl, rfl⟩, fun k h => h.elim, Below.refl _ _⟩
  · refine (copy_any h hn).mono ?_
    rintro e w' ⟨c, S', rfl, h1, h2, h3⟩
    exact ⟨_, S', rfl, .inr ⟨c, rfl, h1⟩, fun k hk => ⟨h2 k hk, h1.size k hk⟩, h3⟩
section
variable {w : World} {rb : Nat} {p : Nat → Value} {T : Nat → Nat → Prop} {M : List O}
/-- a line's new heap, or none, is laid in -/
theorem Rq.laid (h : Rq w rb p T M) {q : Nat} (hq : q < 4) {w1 : World} (hb1 : Below w.heap.size w w1) {T1 : Nat → Prop} {v : Value} {m : List (K × Int)} (hv : Ln T1 w1 v m) (hT : ∀ k, T1 k → w.heap.size ≤ k ∧ k < w1.heap.size) {W : World} (hW : W = w1.setCell ⟨rb, q, none⟩ v)
    {M' : List O} (hm : m.Perm (lin M' q)) (hot : ∀ j, j < 4 → j ≠ q → lin M' j = lin M j) (hpri : ∀ x ∈ M', x.2.1 < 4) (hnd : (M'.map (·.1)).Nodup) (hk : ∀ x ∈ M', wk x.1) :
    Rq W rb (fun i => if i = q then v else p i) (fun i => if i = q then T1 else T i) M' := by
  have ho : ∀ k, k ≠ rb → W.heap[k]? = w1.heap[k]? := fun k hk => by rw [hW]; exact heap_setCell_other _ _ _ _ hk
  have hz : W.heap.size = w1.heap.size := by rw [hW]; simp
  have hs1 := hb1.size
  have hlt := h.lt
  refine ⟨?_, fun i hi => ?_, fun i j k hi hj => ?_, fun i k hi => ?_, fun i k hi => ?_, hpri, hnd, hk⟩
  · have h1 := (hb1.block rb hlt).trans h.obj
    rw [hW, Lib.heap_setCell_same h1]
    rcases (by omega : q = 0 ∨ q = 1 ∨ q = 2 ∨ q = 3) with rfl | rfl | rfl | rfl <;> rfl
  · try simp only
    by_cases e : i = q
    · rw [if_pos e, if_pos e, e]
      exact (hv.perm hm).kept (by omega) fun k hk => ho k (by have := (hT k hk).1; omega)
    · rw [if_neg e, if_neg e, hot i hi e]
      exact (h.line i hi).kept (by omega) fun k hk => (ho k (h.away i k hi hk)).trans (hb1.block k (h.size i k hi hk))
  · try simp only
    by_cases e : i = q <;> by_cases e2 : j = q
    · intro _ _; rw [e, e2]
    · rw [if_pos e, if_neg e2]
      intro a b
      have := h.size j k hj b; have := (hT k a).1; omega
    · rw [if_neg e, if_pos e2]
      intro a b
      have := h.size i k hi a; have := (hT k b).1; omega
    · rw [if_neg e, if_neg e2]
      exact h.apart i j k hi hj
  · try simp only
    by_cases e : i = q
    · rw [if_pos e]; intro a; have := (hT k a).1; omega
    · rw [if_neg e]; exact h.away i k hi
  · try simp only
    by_cases e : i = q
    · rw [if_pos e]; intro a; have := (hT k a).2; omega
    · rw [if_neg e]; intro a; have := h.size i k hi a; omega
end
/-- the lines ahead of one -/
def low (M : List O) (i : Nat) : List O := M.filter fun x => decide (x.2.1 < i)
theorem lin_low (M : List O) (i j : Nat) : lin (low M i) j = if j < i then lin M j else [] := by
  unfold lin low
  rw [List.filter_filter]
  split
  · rename_i h
    congr 1
    refine List.filter_congr fun x _ => ?_
    by_cases e : x.2.1 = j
    · simp [e, h]
    · simp [e]
  · rename_i h
    rw [List.filter_eq_nil_iff.2 fun x _ => ?_]
    · rfl
    · simp; omega
theorem low_all {M : List O} (h : ∀ x ∈ M, x.2.1 < 4) : low M 4 = M := List.filter_eq_self.2 fun x hx => by simpa using h x hx
set_option maxHeartbeats 4000000 in
theorem Rv.Copy {S : Nat → Prop} {w : World} {rb : Nat} {M : List O} (h : Rv S w rb M) (hn : M.length ≤ 1000000) : Calls Try.prog 14 #[.pointer (some ⟨rb, 0, none⟩)] w fun e w' => ∃ cb S', e = .returned (.pointer (some ⟨cb, 0, none⟩)) ∧ Rv S' w' cb M ∧ (∀ k, S' k → w.heap.size ≤ k) ∧ Below w.heap.size w w' := by
  have hmix : Try.prog.follows .mixedOrders = true := by kernel_rfl
  obtain ⟨p, T, h, rfl⟩ := h
  have H := Lib.hid (And.intro h hn)
  have hN := new_row w
  clear h hn
  go_enter Try.func14, Try.ntmps14
  go_wp2_with fail
  refine hN.mono ?_
  rintro e w0 ⟨rfl, ⟨p0, T0, h0, hT0⟩, hb0⟩
  obtain ⟨cb, hcb⟩ : ∃ c, c = w.heap.size := ⟨_, rfl⟩
  rw [← hcb] at h0 hT0 ⊢
  obtain ⟨c0, c1, c2, c3⟩ := (H.out.1.old hb0).cells
  have H0 := Lib.hid (And.intro h0 (And.intro hT0 (And.intro hb0 hcb)))
  clear h0 hT0 hb0 hN hcb
  go_wp2_with fail
  go_loopw [13] (fun s wr => ∃ (i : Nat) (p' : Nat → Value) (T' : Nat → Nat → Prop), s = .int .i64 ((i : Nat) : Int) ∧ i ≤ 4 ∧ Rq wr cb p' T' (low M i) ∧ (∀ k, bk cb T' k → w.heap.size ≤ k) ∧ Below w.heap.size w wr) (fun s _ => 4 - (RowKit.intOf s).toNat)
  case atStart => exact ⟨0, p0, T0, rfl, by omega, by rw [show low M 0 = [] from List.filter_eq_nil_iff.2 fun x _ => by simp]; exact H0.out.1, fun k hk => by
    rw [← H0.out.2.1] at hk; have := H0.out.2.2.2; omega, H0.out.2.2.1⟩
  case round =>
    obtain ⟨i, p', T', rfl, hi, hr, hT', hb⟩ := hrel
    by_cases hlt : i < 4
    · have hln := copy_ln ((H.out.1.old hb).line i hlt) (by have := lin_len M i; have := H.out.2; omega)
      have hx := fun W => ix p hlt W
      have hlt' : ((i : Nat) : Int) < 4 := by omega
      have HR := Lib.hid (And.intro hr (And.intro hT' (And.intro hb hlt)))
      have hcl := hr.lt
      clear hr hT' hb hi c0 c1 c2 c3
      have hqq : i = 0 ∨ i = 1 ∨ i = 2 ∨ i = 3 := by omega
      clear hlt
      go_wp2_with fail
      clear hx hlt'
      rcases hqq with rfl | rfl | rfl | rfl
      · skip
        have hcs : ∀ X, Below wr.heap.size wr X → cb < X.heap.size := fun X hX => Nat.lt_of_lt_of_le hcl hX.size
        refine begin' 7 (fun ZZ => Below wr.heap.size wr ZZ) hmix ((Below.refl _ wr).drew) (fun hS0 => ?_)
        refine Ht.takeD 8 (i := 0) ⟨some 17, _, _, _, _, _⟩ (.pointer (some ⟨cb, 0, none⟩)) rfl (by kernel_rfl) (by kernel_rfl) (by decide) (by kernel_rfl) (by kernel_rfl) (by kernel_rfl) hS0 (Or.inl ⟨by rfl, by (intro X hX; go_simp)⟩) ?_
        simp only [Act.put, List.setIfInBounds_toArray, List.set_cons_zero, List.set_cons_succ]
        refine Ht.takeD 8 (i := 1) ⟨some 18, _, _, _, _, _⟩ (.int .i64 0) rfl (by kernel_rfl) (by kernel_rfl) (by decide) (by kernel_rfl) (by kernel_rfl) (by kernel_rfl) hS0 (Or.inl ⟨by rfl, by (intro X hX; go_simp)⟩) ?_
        simp only [Act.put, List.setIfInBounds_toArray, List.set_cons_zero, List.set_cons_succ]
        refine Ht.takeD 8 (i := 2) ⟨some 19, _, _, _, _, _⟩ (p 0) rfl (by kernel_rfl) (by kernel_rfl) (by decide) (by kernel_rfl) (by kernel_rfl) (by kernel_rfl) hS0 (Or.inl ⟨by rfl, by (intro X hX; go_simp)⟩) ?_
        simp only [Act.put, List.setIfInBounds_toArray, List.set_cons_zero, List.set_cons_succ]
        refine Ht.takeD 8 (i := 4) ⟨some 21, _, _, _, _, _⟩ (.pointer (some ⟨cb, 0, none⟩)) rfl (by kernel_rfl) (by kernel_rfl) (by decide) (by kernel_rfl) (by kernel_rfl) (by kernel_rfl) hS0 (Or.inl ⟨by rfl, by (intro X hX; have := hcs X hX; go_simp)⟩) ?_
        simp only [Act.put, List.setIfInBounds_toArray, List.set_cons_zero, List.set_cons_succ]
        refine Ht.takeD 8 (i := 5) ⟨some 22, _, _, _, _, _⟩ (.pointer (some ⟨cb, 0, none⟩)) rfl (by kernel_rfl) (by kernel_rfl) (by decide) (by kernel_rfl) (by kernel_rfl) (by kernel_rfl) hS0 (Or.inl ⟨by rfl, by (intro X hX; go_simp)⟩) ?_
        simp only [Act.put, List.setIfInBounds_toArray, List.set_cons_zero, List.set_cons_succ]
        refine Ht.step (i := 3) ⟨some 20, _, _, _, _, _⟩ rfl (by kernel_rfl) (by rfl) (fun K hK => ?_)
        refine Ht.enter 28 #[p 0] (by have hen := fun args w => enters_of (P := Try.prog) Try.func28 (by kernel_rfl) rfl args w; go_simp) (copy_ln ((H.out.1.old (HR.out.2.2.1.trans (hS0.mono HR.out.2.2.1.size))).line 0 (by omega)) (by have := lin_len M 0; have := H.out.2; omega)) ?_
        rintro e w2 ⟨v', T1, rfl, hv2, hT1, hb2⟩
        have hb3 : Below wr.heap.size wr w2 := hS0.trans (hb2.mono hS0.size)
        have hcc := HR.out.1.cells
        have hc0 := (hb3.cell (p := ⟨cb, 0, none⟩) hcl).trans hcc.1
        have hfz : w2.frozen? ⟨cb, 0, none⟩ = false := by
          have := (hb3.block cb hcl).trans HR.out.1.obj
          simp [World.frozen?, this]
        obtain ⟨a, rfl⟩ := hv2.shape
        have hcl2 : cb < w2.heap.size := Nat.lt_of_lt_of_le hcl hb3.size
        have HN := Lib.hid (And.intro hv2 (And.intro hT1 hb3))
        clear hv2 hb2 hT1 hcc
        refine ⟨_, rfl, hK _ _ (fun hn => hb3) (fun hnx => ?_)⟩
        clear hK K hnx
        try simp only [Act.put, List.setIfInBounds_toArray, List.set_cons_zero, List.set_cons_succ]
        refine Ht.step (i := 6) ⟨some 23, _, _, _, _, _⟩ rfl (by kernel_rfl) (by rfl) (fun K hK => ?_)
        go_simp
        refine hK _ _ (fun hn => hb3) (fun hnx => ?_)
        clear hK K hnx
        try simp only [Act.put, List.setIfInBounds_toArray, List.set_cons_zero, List.set_cons_succ]
        refine Ht.step (i := 7) ⟨none, _, _, _, _, _⟩ rfl (by kernel_rfl) (by rfl) (fun K hK => ?_)
        go_simp
        refine hK _ _ (fun hn => absurd rfl hn) (fun hnx => ?_)
        clear hK K hnx
        try simp only [Act.put, List.setIfInBounds_toArray, List.set_cons_zero, List.set_cons_succ]
        refine done (by kernel_rfl) ?_
        obtain ⟨W, hW⟩ : ∃ W, W = w2.setCell ⟨cb, 0, none⟩ (.pointer a) := ⟨_, rfl⟩
        rw [← hW]
        have hz : W.heap.size = w2.heap.size := by rw [hW]; simp
        obtain ⟨b1, b2, b3⟩ : (∀ x ∈ low M (0 + 1), x.2.1 < 4) ∧ ((low M (0 + 1)).map (·.1)).Nodup ∧ ∀ x ∈ low M (0 + 1), wk x.1 := ⟨fun x hx => H.out.1.pri x (List.mem_filter.1 hx).1, H.out.1.nodup.sublist (List.filter_sublist.map _), fun x hx => H.out.1.keys x (List.mem_filter.1 hx).1⟩
        have hl := HR.out.1.laid (q := 0) (by omega) HN.out.2.2 HN.out.1 HN.out.2.1 hW (M' := low M (0 + 1)) (List.Perm.of_eq (by rw [lin_low, if_pos (by omega)])) (fun j hj hne => by
          rw [lin_low, lin_low]
          by_cases e : j < 0
          · rw [if_pos e, if_pos (by omega)]
          · rw [if_neg e, if_neg (by omega)]) b1 b2 b3
        have hB : Below w.heap.size w W := by
          rw [hW]
          exact (HR.out.2.2.1.trans (HN.out.2.2.mono HR.out.2.2.1.size)).setCell (HR.out.2.1 cb (.inl rfl)) _
        have HL := Lib.hid (And.intro hl hB)
        clear hl hB b1 b2 b3 hW hc0 hfz hcl2 hz hS0 hcs hln
        go_wp2_with fail
        go_roundw
        case rel =>
          refine ⟨0 + 1, _, _, rfl, by omega, HL.out.1, fun k hk => ?_, HL.out.2⟩
          rcases hk with hk | ⟨i, hi, hk⟩
          · exact HR.out.2.1 k (.inl hk)
          · try simp only at hk
            by_cases e : i = 0
            · rw [if_pos e] at hk
              have := (HN.out.2.1 k hk).1
              have e2 : wr.drew.heap.size = wr.heap.size := rfl
              have := HR.out.2.2.1.size
              omega
            · rw [if_neg e] at hk
              exact HR.out.2.1 k (.inr ⟨i, hi, hk⟩)
        case measure => simp only [RowKit.intOf]; omega
      · skip
        have hcs : ∀ X, Below wr.heap.size wr X → cb < X.heap.size := fun X hX => Nat.lt_of_lt_of_le hcl hX.size
        refine begin' 7 (fun ZZ => Below wr.heap.size wr ZZ) hmix ((Below.refl _ wr).drew) (fun hS0 => ?_)
        refine Ht.takeD 8 (i := 0) ⟨some 17, _, _, _, _, _⟩ (.pointer (some ⟨cb, 0, none⟩)) rfl (by kernel_rfl) (by kernel_rfl) (by decide) (by kernel_rfl) (by kernel_rfl) (by kernel_rfl) hS0 (Or.inl ⟨by rfl, by (intro X hX; go_simp)⟩) ?_
        simp only [Act.put, List.setIfInBounds_toArray, List.set_cons_zero, List.set_cons_succ]
        refine Ht.takeD 8 (i := 1) ⟨some 18, _, _, _, _, _⟩ (.int .i64 1) rfl (by kernel_rfl) (by kernel_rfl) (by decide) (by kernel_rfl) (by kernel_rfl) (by kernel_rfl) hS0 (Or.inl ⟨by rfl, by (intro X hX; go_simp)⟩) ?_
        simp only [Act.put, List.setIfInBounds_toArray, List.set_cons_zero, List.set_cons_succ]
        refine Ht.takeD 8 (i := 2) ⟨some 19, _, _, _, _, _⟩ (p 1) rfl (by kernel_rfl) (by kernel_rfl) (by decide) (by kernel_rfl) (by kernel_rfl) (by kernel_rfl) hS0 (Or.inl ⟨by rfl, by (intro X hX; go_simp)⟩) ?_
        simp only [Act.put, List.setIfInBounds_toArray, List.set_cons_zero, List.set_cons_succ]
        refine Ht.takeD 8 (i := 4) ⟨some 21, _, _, _, _, _⟩ (.pointer (some ⟨cb, 0, none⟩)) rfl (by kernel_rfl) (by kernel_rfl) (by decide) (by kernel_rfl) (by kernel_rfl) (by kernel_rfl) hS0 (Or.inl ⟨by rfl, by (intro X hX; have := hcs X hX; go_simp)⟩) ?_
        simp only [Act.put, List.setIfInBounds_toArray, List.set_cons_zero, List.set_cons_succ]
        refine Ht.takeD 8 (i := 5) ⟨some 22, _, _, _, _, _⟩ (.pointer (some ⟨cb, 0, none⟩)) rfl (by kernel_rfl) (by kernel_rfl) (by decide) (by kernel_rfl) (by kernel_rfl) (by kernel_rfl) hS0 (Or.inl ⟨by rfl, by (intro X hX; go_simp)⟩) ?_
        simp only [Act.put, List.setIfInBounds_toArray, List.set_cons_zero, List.set_cons_succ]
        refine Ht.step (i := 3) ⟨some 20, _, _, _, _, _⟩ rfl (by kernel_rfl) (by rfl) (fun K hK => ?_)
        refine Ht.enter 28 #[p 1] (by have hen := fun args w => enters_of (P := Try.prog) Try.func28 (by kernel_rfl) rfl args w; go_simp) (copy_ln ((H.out.1.old (HR.out.2.2.1.trans (hS0.mono HR.out.2.2.1.size))).line 1 (by omega)) (by have := lin_len M 1; have := H.out.2; omega)) ?_
        rintro e w2 ⟨v', T1, rfl, hv2, hT1, hb2⟩
        have hb3 : Below wr.heap.size wr w2 := hS0.trans (hb2.mono hS0.size)
        have hcc := HR.out.1.cells
        have hc1 := (hb3.cell (p := ⟨cb, 1, none⟩) hcl).trans hcc.2.1
        have hfz : w2.frozen? ⟨cb, 1, none⟩ = false := by
          have := (hb3.block cb hcl).trans HR.out.1.obj
          simp [World.frozen?, this]
        obtain ⟨a, rfl⟩ := hv2.shape
        have hcl2 : cb < w2.heap.size := Nat.lt_of_lt_of_le hcl hb3.size
        have HN := Lib.hid (And.intro hv2 (And.intro hT1 hb3))
        clear hv2 hb2 hT1 hcc
        refine ⟨_, rfl, hK _ _ (fun hn => hb3) (fun hnx => ?_)⟩
        clear hK K hnx
        try simp only [Act.put, List.setIfInBounds_toArray, List.set_cons_zero, List.set_cons_succ]
        refine Ht.step (i := 6) ⟨some 23, _, _, _, _, _⟩ rfl (by kernel_rfl) (by rfl) (fun K hK => ?_)
        go_simp
        refine hK _ _ (fun hn => hb3) (fun hnx => ?_)
        clear hK K hnx
        try simp only [Act.put, List.setIfInBounds_toArray, List.set_cons_zero, List.set_cons_succ]
        refine Ht.step (i := 7) ⟨none, _, _, _, _, _⟩ rfl (by kernel_rfl) (by rfl) (fun K hK => ?_)
        go_simp
        refine hK _ _ (fun hn => absurd rfl hn) (fun hnx => ?_)
        clear hK K hnx
        try simp only [Act.put, List.setIfInBounds_toArray, List.set_cons_zero, List.set_cons_succ]
        refine done (by kernel_rfl) ?_
        obtain ⟨W, hW⟩ : ∃ W, W = w2.setCell ⟨cb, 1, none⟩ (.pointer a) := ⟨_, rfl⟩
        rw [← hW]
        have hz : W.heap.size = w2.heap.size := by rw [hW]; simp
        obtain ⟨b1, b2, b3⟩ : (∀ x ∈ low M (1 + 1), x.2.1 < 4) ∧ ((low M (1 + 1)).map (·.1)).Nodup ∧ ∀ x ∈ low M (1 + 1), wk x.1 := ⟨fun x hx => H.out.1.pri x (List.mem_filter.1 hx).1, H.out.1.nodup.sublist (List.filter_sublist.map _), fun x hx => H.out.1.keys x (List.mem_filter.1 hx).1⟩
        have hl := HR.out.1.laid (q := 1) (by omega) HN.out.2.2 HN.out.1 HN.out.2.1 hW (M' := low M (1 + 1)) (List.Perm.of_eq (by rw [lin_low, if_pos (by omega)])) (fun j hj hne => by
          rw [lin_low, lin_low]
          by_cases e : j < 1
          · rw [if_pos e, if_pos (by omega)]
          · rw [if_neg e, if_neg (by omega)]) b1 b2 b3
        have hB : Below w.heap.size w W := by
          rw [hW]
          exact (HR.out.2.2.1.trans (HN.out.2.2.mono HR.out.2.2.1.size)).setCell (HR.out.2.1 cb (.inl rfl)) _
        have HL := Lib.hid (And.intro hl hB)
        clear hl hB b1 b2 b3 hW hc1 hfz hcl2 hz hS0 hcs hln
        go_wp2_with fail
        go_roundw
        case rel =>
          refine ⟨1 + 1, _, _, rfl, by omega, HL.out.1, fun k hk => ?_, HL.out.2⟩
          rcases hk with hk | ⟨i, hi, hk⟩
          · exact HR.out.2.1 k (.inl hk)
          · try simp only at hk
            by_cases e : i = 1
            · rw [if_pos e] at hk
              have := (HN.out.2.1 k hk).1
              have e2 : wr.drew.heap.size = wr.heap.size := rfl
              have := HR.out.2.2.1.size
              omega
            · rw [if_neg e] at hk
              exact HR.out.2.1 k (.inr ⟨i, hi, hk⟩)
        case measure => simp only [RowKit.intOf]; omega
      · skip
        have hcs : ∀ X, Below wr.heap.size wr X → cb < X.heap.size := fun X hX => Nat.lt_of_lt_of_le hcl hX.size
        refine begin' 7 (fun ZZ => Below wr.heap.size wr ZZ) hmix ((Below.refl _ wr).drew) (fun hS0 => ?_)
        refine Ht.takeD 8 (i := 0) ⟨some 17, _, _, _, _, _⟩ (.pointer (some ⟨cb, 0, none⟩)) rfl (by kernel_rfl) (by kernel_rfl) (by decide) (by kernel_rfl) (by kernel_rfl) (by kernel_rfl) hS0 (Or.inl ⟨by rfl, by (intro X hX; go_simp)⟩) ?_
        simp only [Act.put, List.setIfInBounds_toArray, List.set_cons_zero, List.set_cons_succ]
        refine Ht.takeD 8 (i := 1) ⟨some 18, _, _, _, _, _⟩ (.int .i64 2) rfl (by kernel_rfl) (by kernel_rfl) (by decide) (by kernel_rfl) (by kernel_rfl) (by kernel_rfl) hS0 (Or.inl ⟨by rfl, by (intro X hX; go_simp)⟩) ?_
        simp only [Act.put, List.setIfInBounds_toArray, List.set_cons_zero, List.set_cons_succ]
        refine Ht.takeD 8 (i := 2) ⟨some 19, _, _, _, _, _⟩ (p 2) rfl (by kernel_rfl) (by kernel_rfl) (by decide) (by kernel_rfl) (by kernel_rfl) (by kernel_rfl) hS0 (Or.inl ⟨by rfl, by (intro X hX; go_simp)⟩) ?_
        simp only [Act.put, List.setIfInBounds_toArray, List.set_cons_zero, List.set_cons_succ]
        refine Ht.takeD 8 (i := 4) ⟨some 21, _, _, _, _, _⟩ (.pointer (some ⟨cb, 0, none⟩)) rfl (by kernel_rfl) (by kernel_rfl) (by decide) (by kernel_rfl) (by kernel_rfl) (by kernel_rfl) hS0 (Or.inl ⟨by rfl, by (intro X hX; have := hcs X hX; go_simp)⟩) ?_
        simp only [Act.put, List.setIfInBounds_toArray, List.set_cons_zero, List.set_cons_succ]
        refine Ht.takeD 8 (i := 5) ⟨some 22, _, _, _, _, _⟩ (.pointer (some ⟨cb, 0, none⟩)) rfl (by kernel_rfl) (by kernel_rfl) (by decide) (by kernel_rfl) (by kernel_rfl) (by kernel_rfl) hS0 (Or.inl ⟨by rfl, by (intro X hX; go_simp)⟩) ?_
        simp only [Act.put, List.setIfInBounds_toArray, List.set_cons_zero, List.set_cons_succ]
        refine Ht.step (i := 3) ⟨some 20, _, _, _, _, _⟩ rfl (by kernel_rfl) (by rfl) (fun K hK => ?_)
        refine Ht.enter 28 #[p 2] (by have hen := fun args w => enters_of (P := Try.prog) Try.func28 (by kernel_rfl) rfl args w; go_simp) (copy_ln ((H.out.1.old (HR.out.2.2.1.trans (hS0.mono HR.out.2.2.1.size))).line 2 (by omega)) (by have := lin_len M 2; have := H.out.2; omega)) ?_
        rintro e w2 ⟨v', T1, rfl, hv2, hT1, hb2⟩
        have hb3 : Below wr.heap.size wr w2 := hS0.trans (hb2.mono hS0.size)
        have hcc := HR.out.1.cells
        have hc2 := (hb3.cell (p := ⟨cb, 2, none⟩) hcl).trans hcc.2.2.1
        have hfz : w2.frozen? ⟨cb, 2, none⟩ = false := by
          have := (hb3.block cb hcl).trans HR.out.1.obj
          simp [World.frozen?, this]
        obtain ⟨a, rfl⟩ := hv2.shape
        have hcl2 : cb < w2.heap.size := Nat.lt_of_lt_of_le hcl hb3.size
        have HN := Lib.hid (And.intro hv2 (And.intro hT1 hb3))
        clear hv2 hb2 hT1 hcc
        refine ⟨_, rfl, hK _ _ (fun hn => hb3) (fun hnx => ?_)⟩
        clear hK K hnx
        try simp only [Act.put, List.setIfInBounds_toArray, List.set_cons_zero, List.set_cons_succ]
        refine Ht.step (i := 6) ⟨some 23, _, _, _, _, _⟩ rfl (by kernel_rfl) (by rfl) (fun K hK => ?_)
        go_simp
        refine hK _ _ (fun hn => hb3) (fun hnx => ?_)
        clear hK K hnx
        try simp only [Act.put, List.setIfInBounds_toArray, List.set_cons_zero, List.set_cons_succ]
        refine Ht.step (i := 7) ⟨none, _, _, _, _, _⟩ rfl (by kernel_rfl) (by rfl) (fun K hK => ?_)
        go_simp
        refine hK _ _ (fun hn => absurd rfl hn) (fun hnx => ?_)
        clear hK K hnx
        try simp only [Act.put, List.setIfInBounds_toArray, List.set_cons_zero, List.set_cons_succ]
        refine done (by kernel_rfl) ?_
        obtain ⟨W, hW⟩ : ∃ W, W = w2.setCell ⟨cb, 2, none⟩ (.pointer a) := ⟨_, rfl⟩
        rw [← hW]
        have hz : W.heap.size = w2.heap.size := by rw [hW]; simp
        obtain ⟨b1, b2, b3⟩ : (∀ x ∈ low M (2 + 1), x.2.1 < 4) ∧ ((low M (2 + 1)).map (·.1)).Nodup ∧ ∀ x ∈ low M (2 + 1), wk x.1 := ⟨fun x hx => H.out.1.pri x (List.mem_filter.1 hx).1, H.out.1.nodup.sublist (List.filter_sublist.map _), fun x hx => H.out.1.keys x (List.mem_filter.1 hx).1⟩
        have hl := HR.out.1.laid (q := 2) (by omega) HN.out.2.2 HN.out.1 HN.out.2.1 hW (M' := low M (2 + 1)) (List.Perm.of_eq (by rw [lin_low, if_pos (by omega)])) (fun j hj hne => by
          rw [lin_low, lin_low]
          by_cases e : j < 2
          · rw [if_pos e, if_pos (by omega)]
          · rw [if_neg e, if_neg (by omega)]) b1 b2 b3
        have hB : Below w.heap.size w W := by
          rw [hW]
          exact (HR.out.2.2.1.trans (HN.out.2.2.mono HR.out.2.2.1.size)).setCell (HR.out.2.1 cb (.inl rfl)) _
        have HL := Lib.hid (And.intro hl hB)
        clear hl hB b1 b2 b3 hW hc2 hfz hcl2 hz hS0 hcs hln
        go_wp2_with fail
        go_roundw
        case rel =>
          refine ⟨2 + 1, _, _, rfl, by omega, HL.out.1, fun k hk => ?_, HL.out.2⟩
          rcases hk with hk | ⟨i, hi, hk⟩
          · exact HR.out.2.1 k (.inl hk)
          · try simp only at hk
            by_cases e : i = 2
            · rw [if_pos e] at hk
              have := (HN.out.2.1 k hk).1
              have e2 : wr.drew.heap.size = wr.heap.size := rfl
              have := HR.out.2.2.1.size
              omega
            · rw [if_neg e] at hk
              exact HR.out.2.1 k (.inr ⟨i, hi, hk⟩)
        case measure => simp only [RowKit.intOf]; omega
      · skip
        have hcs : ∀ X, Below wr.heap.size wr X → cb < X.heap.size := fun X hX => Nat.lt_of_lt_of_le hcl hX.size
        refine begin' 7 (fun ZZ => Below wr.heap.size wr ZZ) hmix ((Below.refl _ wr).drew) (fun hS0 => ?_)
        refine Ht.takeD 8 (i := 0) ⟨some 17, _, _, _, _, _⟩ (.pointer (some ⟨cb, 0, none⟩)) rfl (by kernel_rfl) (by kernel_rfl) (by decide) (by kernel_rfl) (by kernel_rfl) (by kernel_rfl) hS0 (Or.inl ⟨by rfl, by (intro X hX; go_simp)⟩) ?_
        simp only [Act.put, List.setIfInBounds_toArray, List.set_cons_zero, List.set_cons_succ]
        refine Ht.takeD 8 (i := 1) ⟨some 18, _, _, _, _, _⟩ (.int .i64 3) rfl (by kernel_rfl) (by kernel_rfl) (by decide) (by kernel_rfl) (by kernel_rfl) (by kernel_rfl) hS0 (Or.inl ⟨by rfl, by (intro X hX; go_simp)⟩) ?_
        simp only [Act.put, List.setIfInBounds_toArray, List.set_cons_zero, List.set_cons_succ]
        refine Ht.takeD 8 (i := 2) ⟨some 19, _, _, _, _, _⟩ (p 3) rfl (by kernel_rfl) (by kernel_rfl) (by decide) (by kernel_rfl) (by kernel_rfl) (by kernel_rfl) hS0 (Or.inl ⟨by rfl, by (intro X hX; go_simp)⟩) ?_
        simp only [Act.put, List.setIfInBounds_toArray, List.set_cons_zero, List.set_cons_succ]
        refine Ht.takeD 8 (i := 4) ⟨some 21, _, _, _, _, _⟩ (.pointer (some ⟨cb, 0, none⟩)) rfl (by kernel_rfl) (by kernel_rfl) (by decide) (by kernel_rfl) (by kernel_rfl) (by kernel_rfl) hS0 (Or.inl ⟨by rfl, by (intro X hX; have := hcs X hX; go_simp)⟩) ?_
        simp only [Act.put, List.setIfInBounds_toArray, List.set_cons_zero, List.set_cons_succ]
        refine Ht.takeD 8 (i := 5) ⟨some 22, _, _, _, _, _⟩ (.pointer (some ⟨cb, 0, none⟩)) rfl (by kernel_rfl) (by kernel_rfl) (by decide) (by kernel_rfl) (by kernel_rfl) (by kernel_rfl) hS0 (Or.inl ⟨by rfl, by (intro X hX; go_simp)⟩) ?_
        simp only [Act.put, List.setIfInBounds_toArray, List.set_cons_zero, List.set_cons_succ]
        refine Ht.step (i := 3) ⟨some 20, _, _, _, _, _⟩ rfl (by kernel_rfl) (by rfl) (fun K hK => ?_)
        refine Ht.enter 28 #[p 3] (by have hen := fun args w => enters_of (P := Try.prog) Try.func28 (by kernel_rfl) rfl args w; go_simp) (copy_ln ((H.out.1.old (HR.out.2.2.1.trans (hS0.mono HR.out.2.2.1.size))).line 3 (by omega)) (by have := lin_len M 3; have := H.out.2; omega)) ?_
        rintro e w2 ⟨v', T1, rfl, hv2, hT1, hb2⟩
        have hb3 : Below wr.heap.size wr w2 := hS0.trans (hb2.mono hS0.size)
        have hcc := HR.out.1.cells
        have hc3 := (hb3.cell (p := ⟨cb, 3, none⟩) hcl).trans hcc.2.2.2
        have hfz : w2.frozen? ⟨cb, 3, none⟩ = false := by
          have := (hb3.block cb hcl).trans HR.out.1.obj
          simp [World.frozen?, this]
        obtain ⟨a, rfl⟩ := hv2.shape
        have hcl2 : cb < w2.heap.size := Nat.lt_of_lt_of_le hcl hb3.size
        have HN := Lib.hid (And.intro hv2 (And.intro hT1 hb3))
        clear hv2 hb2 hT1 hcc
        refine ⟨_, rfl, hK _ _ (fun hn => hb3) (fun hnx => ?_)⟩
        clear hK K hnx
        try simp only [Act.put, List.setIfInBounds_toArray, List.set_cons_zero, List.set_cons_succ]
        refine Ht.step (i := 6) ⟨some 23, _, _, _, _, _⟩ rfl (by kernel_rfl) (by rfl) (fun K hK => ?_)
        go_simp
        refine hK _ _ (fun hn => hb3) (fun hnx => ?_)
        clear hK K hnx
        try simp only [Act.put, List.setIfInBounds_toArray, List.set_cons_zero, List.set_cons_succ]
        refine Ht.step (i := 7) ⟨none, _, _, _, _, _⟩ rfl (by kernel_rfl) (by rfl) (fun K hK => ?_)
        go_simp
        refine hK _ _ (fun hn => absurd rfl hn) (fun hnx => ?_)
        clear hK K hnx
        try simp only [Act.put, List.setIfInBounds_toArray, List.set_cons_zero, List.set_cons_succ]
        refine done (by kernel_rfl) ?_
        obtain ⟨W, hW⟩ : ∃ W, W = w2.setCell ⟨cb, 3, none⟩ (.pointer a) := ⟨_, rfl⟩
        rw [← hW]
        have hz : W.heap.size = w2.heap.size := by rw [hW]; simp
        obtain ⟨b1, b2, b3⟩ : (∀ x ∈ low M (3 + 1), x.2.1 < 4) ∧ ((low M (3 + 1)).map (·.1)).Nodup ∧ ∀ x ∈ low M (3 + 1), wk x.1 := ⟨fun x hx => H.out.1.pri x (List.mem_filter.1 hx).1, H.out.1.nodup.sublist (List.filter_sublist.map _), fun x hx => H.out.1.keys x (List.mem_filter.1 hx).1⟩
        have hl := HR.out.1.laid (q := 3) (by omega) HN.out.2.2 HN.out.1 HN.out.2.1 hW (M' := low M (3 + 1)) (List.Perm.of_eq (by rw [lin_low, if_pos (by omega)])) (fun j hj hne => by
          rw [lin_low, lin_low]
          by_cases e : j < 3
          · rw [if_pos e, if_pos (by omega)]
          · rw [if_neg e, if_neg (by omega)]) b1 b2 b3
        have hB : Below w.heap.size w W := by
          rw [hW]
          exact (HR.out.2.2.1.trans (HN.out.2.2.mono HR.out.2.2.1.size)).setCell (HR.out.2.1 cb (.inl rfl)) _
        have HL := Lib.hid (And.intro hl hB)
        clear hl hB b1 b2 b3 hW hc3 hfz hcl2 hz hS0 hcs hln
        go_wp2_with fail
        go_roundw
        case rel =>
          refine ⟨3 + 1, _, _, rfl, by omega, HL.out.1, fun k hk => ?_, HL.out.2⟩
          rcases hk with hk | ⟨i, hi, hk⟩
          · exact HR.out.2.1 k (.inl hk)
          · try simp only at hk
            by_cases e : i = 3
            · rw [if_pos e] at hk
              have := (HN.out.2.1 k hk).1
              have e2 : wr.drew.heap.size = wr.heap.size := rfl
              have := HR.out.2.2.1.size
              omega
            · rw [if_neg e] at hk
              exact HR.out.2.1 k (.inr ⟨i, hi, hk⟩)
        case measure => simp only [RowKit.intOf]; omega
    · have hlt' : ¬ ((i : Nat) : Int) < 4 := by omega
      obtain rfl : i = 4 := by omega
      rw [low_all H.out.1.pri] at hr
      have HR := Lib.hid (And.intro hr (And.intro hT' hb))
      clear hr hT' hb hi hlt c0 c1 c2 c3
      go_wp2_with fail
      go_ret
      exact ⟨cb, rfl, bk cb T', ⟨p', T', HR.out.1, rfl⟩, HR.out.2.1, HR.out.2.2⟩
end Go.Proofs.Ytomkefaakgodhaa.Nx
