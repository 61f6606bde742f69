
/- ReadyTakes: names, who is ahead, two rows apart -/
import Derived.Test.YtomkefaakgodhaaNxC
import Derived.Lib.BufferRead
namespace Go.Proofs.Ytomkefaakgodhaa.Nx
open Go.RowKit Go.Lib Go.Sort Go.Shelf Hp HpE Ht Rg
set_option linter.unusedVariables false
set_option linter.unusedSectionVars false
set_option maxRecDepth 20000
attribute [local go_sem] Oper.semAt_some
/-- the i-th name -/
def nmOf (i : Nat) : K := [UInt8.ofNat (97 + i / 10), UInt8.ofNat (97 + i % 10)]
theorem nm_inj {i j : Nat} (hi : i < 100) (hj : j < 100) (h : nmOf i = nmOf j) : i = j := by
  unfold nmOf at h
  simp only [List.cons.injEq, and_true] at h
  obtain ⟨h1, h2⟩ := h
  have e1 := congrArg UInt8.toNat h1
  have e2 := congrArg UInt8.toNat h2
  simp only [UInt8.toNat_ofNat'] at e1 e2
  omega
theorem two_cells (w : World) (a b : Value) (t : TypeId) : ∀ j x, [a, b][j]? = some x → (w.alloc (.cells #[a, b] t)).cell? ((⟨w.heap.size, 0, none⟩ : Addr).add j) = some x := HpE.cell_two w a b t
theorem name_any (i : Nat) (hi : i < 100) (w : World) : Calls Try.prog 19 #[.int .i64 ((i : Nat) : Int)] w fun e w' => e = .returned (ek (nmOf i)) ∧ Below w.heap.size w w' := by
  obtain ⟨a, ha⟩ : ∃ a : UInt8, a = UInt8.ofNat (97 + i / 10) := ⟨_, rfl⟩
  obtain ⟨b, hb⟩ : ∃ b : UInt8, b = UInt8.ofNat (97 + i % 10) := ⟨_, rfl⟩
  have hat : a.toNat = 97 + i / 10 := by rw [ha, UInt8.toNat_ofNat']; omega
  have hbt : b.toNat = 97 + i % 10 := by rw [hb, UInt8.toNat_ofNat']; omega
  have hcv : (convert 49 9 (.slice (some ⟨w.heap.size, 0, none⟩) 2 2)).run Try.prog (w.alloc (.cells #[.int .u8 ((a.toNat : Nat) : Int), .int .u8 ((b.toNat : Nat) : Int)] 5)) = .ok (.string ⟨#[a, b]⟩) (w.alloc (.cells #[.int .u8 ((a.toNat : Nat) : Int), .int .u8 ((b.toNat : Nat) : Int)] 5)) :=
    run_convert_bytes_back _ 49 9 5 ⟨w.heap.size, 0, none⟩ 2 [a, b] Try.underlying49 Try.underlying5 Try.underlying9 (fun j hj => two_cells _ _ _ _ j _ (by
      match j, hj with
      | 0, _ => rfl
      | 1, _ => rfl))
  have q1 : ((i : Nat) : Int).tdiv 10 = ((i / 10 : Nat) : Int) := by rw [Int.tdiv_eq_ediv_of_nonneg (by omega)]; omega
  have q2 : ((i : Nat) : Int).tmod 10 = ((i % 10 : Nat) : Int) := by rw [Int.tmod_eq_emod_of_nonneg (by omega)]; omega
  have u1 : IntKind.u8.wrap (97 + ((i / 10 : Nat) : Int)) = ((a.toNat : Nat) : Int) := by rw [hat, IntKind.wrap_u8]; omega
  have u2 : IntKind.u8.wrap (97 + ((i % 10 : Nat) : Int)) = ((b.toNat : Nat) : Int) := by rw [hbt, IntKind.wrap_u8]; omega
  have hn : nmOf i = [a, b] := by unfold nmOf; rw [ha, hb]
  rw [hn]
  have q3 : IntKind.u8.wrap ((i / 10 : Nat) : Int) = ((i / 10 : Nat) : Int) := by rw [IntKind.wrap_u8]; omega
  have q4 : IntKind.u8.wrap ((i % 10 : Nat) : Int) = ((i % 10 : Nat) : Int) := by rw [IntKind.wrap_u8]; omega
  have q5 : wrap64 ((i / 10 : Nat) : Int) = ((i / 10 : Nat) : Int) := by unfold wrap64; omega
  have b1 : Below w.heap.size w (w.alloc (.cells #[.int .u8 ((a.toNat : Nat) : Int), .int .u8 ((b.toNat : Nat) : Int)] 5)) := (Below.refl _ w).alloc (Nat.le_refl _) _
  have HB := Lib.hid b1
  clear hat hbt ha hb hn b1 hi
  generalize ((a.toNat : Nat) : Int) = A at *
  generalize ((b.toNat : Nat) : Int) = B at *
  generalize ((i / 10 : Nat) : Int) = D at *
  generalize ((i % 10 : Nat) : Int) = E at *
  generalize ((i : Nat) : Int) = I at *
  go_enter Try.func19, Try.ntmps19
  go_wp2_with fail
  go_ret
  exact ⟨rfl, HB.out⟩
/-- one, as a value -/
def ov (x : O) : Value := .agg #[ek x.1, .int .i64 ((x.2.1 : Nat) : Int), er x.2.2]
theorem eql_str (x y : K) : ((x.toArray == y.toArray) = (x == y)) := by simp
set_option maxHeartbeats 1000000 in
theorem ahead_any (x y : O) (w : World) : Calls Try.prog 20 #[ov x, ov y] w fun e w' => e = .returned (.bool (ah x y)) ∧ Below w.heap.size w w' := by
  obtain ⟨k, p, r⟩ := x
  obtain ⟨k', p', r'⟩ := y
  obtain ⟨d, hd⟩ : ∃ d, d = ah (k, p, r) (k', p', r') := ⟨_, rfl⟩
  rw [← hd]
  have e1 : Op.bytesLess k k' = decide (k < k') := bytesLess_eq k k'
  have hc : (p ≠ p' ∧ d = decide (p < p')) ∨ (p = p' ∧ ((r < r' ∧ d = true) ∨ (r' < r ∧ d = false) ∨ (r = r' ∧ d = decide (k < k')))) := by
    by_cases h : p = p'
    · subst h
      refine .inr ⟨rfl, ?_⟩
      rcases Int.lt_trichotomy r r' with h1 | h1 | h1
      · exact .inl ⟨h1, by rw [hd]; simp [ah, ltp, h1]⟩
      · subst h1
        exact .inr (.inr ⟨rfl, by rw [hd]; simp [ah, ltp]⟩)
      · refine .inr (.inl ⟨h1, ?_⟩)
        rw [hd]
        have h2 : ¬ r < r' := by omega
        have h3 : r ≠ r' := by omega
        simp [ah, ltp, h2, h3]
    · exact .inl ⟨h, by rw [hd]; simp [ah, h]⟩
  clear hd
  unfold ov ek er
  rcases hc with ⟨h, rfl⟩ | ⟨rfl, ⟨h, rfl⟩ | ⟨h, rfl⟩ | ⟨rfl, rfl⟩⟩
  · have h' : ((p : Nat) : Int) ≠ ((p' : Nat) : Int) := by omega
    have hd : decide (p < p') = decide (((p : Nat) : Int) < ((p' : Nat) : Int)) := by simp
    rw [hd]
    clear h hd
    generalize ((p : Nat) : Int) = P at *
    generalize ((p' : Nat) : Int) = P' at *
    go_enter Try.func20, Try.ntmps20
    go_wp2_with fail
    go_ret
    exact ⟨rfl, ((Below.refl _ _).alloc (Nat.le_refl _) _).alloc (by simp) _⟩
  all_goals
    generalize ((p : Nat) : Int) = P at *
    go_enter Try.func20, Try.ntmps20
    go_wp2_with fail
    go_ret
    exact ⟨by first | rfl | simp_all, ((Below.refl _ _).alloc (Nat.le_refl _) _).alloc (by simp) _⟩
/-- the i-th one -/
def itm (l : List Int) (i : Nat) : O := (nmOf i, (l.getD i 0).toNat % 4, (((l.getD i 0).toNat / 4 : Nat) : Int))
def ups (l : List Int) (j : Nat) : List O := (List.range j).map (itm l)
def dns (l : List Int) (n j : Nat) : List O := (List.range j).map fun i => itm l (n - 1 - i)
theorem ups_succ (l : List Int) (j : Nat) : ups l (j + 1) = ups l j ++ [itm l j] := by unfold ups; rw [List.range_succ, List.map_append]; rfl
theorem dns_succ (l : List Int) (n j : Nat) : dns l n (j + 1) = dns l n j ++ [itm l (n - 1 - j)] := by unfold dns; rw [List.range_succ, List.map_append]; rfl
theorem mem_ups {l : List Int} {j : Nat} {x : O} : x ∈ ups l j ↔ ∃ i, i < j ∧ itm l i = x := by unfold ups; rw [List.mem_map]; simp only [List.mem_range]
theorem mem_dns {l : List Int} {n j : Nat} {x : O} : x ∈ dns l n j ↔ ∃ i, i < j ∧ itm l (n - 1 - i) = x := by unfold dns; rw [List.mem_map]; simp only [List.mem_range]
theorem ups_new {l : List Int} {j : Nat} (hj : j < 100) : nmOf j ∉ (ups l j).map (·.1) := fun h => by
  obtain ⟨p, r, h⟩ := key_of' h
  obtain ⟨i, hi, e⟩ := mem_ups.1 h
  have := nm_inj (i := i) (j := j) (by omega) hj (congrArg (·.1) e)
  omega
theorem dns_new {l : List Int} {n j : Nat} (hn : n < 100) (hj : j < n) : nmOf (n - 1 - j) ∉ (dns l n j).map (·.1) := fun h => by
  obtain ⟨p, r, h⟩ := key_of' h
  obtain ⟨i, hi, e⟩ := mem_dns.1 h
  have := nm_inj (i := n - 1 - i) (j := n - 1 - j) (by omega) (by omega) (congrArg (·.1) e)
  omega
theorem nodup_of {M : List O} (h : (M.map (·.1)).Nodup) : M.Nodup := by
  induction M with
  | nil => exact List.nodup_nil
  | cons x l ih =>
    rw [List.map_cons, List.nodup_cons] at h
    exact List.nodup_cons.2 ⟨fun e => h.1 (List.mem_map.2 ⟨x, e, rfl⟩), ih h.2⟩
theorem ups_dns {l : List Int} {n : Nat} (h1 : ((ups l n).map (·.1)).Nodup) (h2 : ((dns l n n).map (·.1)).Nodup) : (dns l n n).Perm (ups l n) := by
  refine (List.perm_ext_iff_of_nodup (nodup_of h2) (nodup_of h1)).2 fun x => ?_
  rw [mem_ups, mem_dns]
  constructor
  · rintro ⟨i, hi, e⟩; exact ⟨n - 1 - i, by omega, e⟩
  · rintro ⟨i, hi, e⟩; exact ⟨n - 1 - i, by omega, by rw [← e]; congr 1; omega⟩
/-- two rows apart, both from a block on, and none of Nt -/
def Tw (B : Nat) (Nt : Nat → Prop) (X : World) (ra rb : Nat) (M M' : List O) : Prop :=
  ∃ Sa Sb, Rv Sa X ra M ∧ Rv Sb X rb M' ∧ (∀ k, Sa k → ¬ Sb k) ∧ (∀ k, Sa k → B ≤ k ∧ ¬ Nt k) ∧ (∀ k, Sb k → B ≤ k ∧ ¬ Nt k)
section
variable {B : Nat} {Nt : Nat → Prop} {X Y : World} {ra rb : Nat} {M M' : List O}
theorem Tw.old (h : Tw B Nt X ra rb M M') (e : Below X.heap.size X Y) : Tw B Nt Y ra rb M M' := by
  obtain ⟨Sa, Sb, h1, h2, h3⟩ := h
  exact ⟨Sa, Sb, h1.old e, h2.old e, h3⟩
theorem Tw.turn (h : Tw B Nt X ra rb M M') : Tw B Nt X rb ra M' M := by
  obtain ⟨Sa, Sb, h1, h2, h3, h4, h5⟩ := h
  exact ⟨Sb, Sa, h2, h1, fun k hk hk2 => h3 k hk2 hk, h5, h4⟩
theorem Tw.perm {M2 : List O} (h : Tw B Nt X ra rb M M') (e : M'.Perm M2) : Tw B Nt X ra rb M M2 := by
  obtain ⟨Sa, Sb, h1, h2, h3⟩ := h
  exact ⟨Sa, Sb, h1, h2.perm e, h3⟩
theorem Tw.also {Nt' : Nat → Prop} (h : Tw B Nt X ra rb M M') (e : ∀ k, Nt' k → Nt k ∨ X.heap.size ≤ k) : Tw B Nt' X ra rb M M' := by
  obtain ⟨Sa, Sb, h1, h2, h3, h4, h5⟩ := h
  exact ⟨Sa, Sb, h1, h2, h3, fun k hk => ⟨(h4 k hk).1, fun hn => (e k hn).elim (h4 k hk).2 (fun e => by have := h1.size k hk; omega)⟩, fun k hk => ⟨(h5 k hk).1, fun hn => (e k hn).elim (h5 k hk).2 (fun e => by have := h2.size k hk; omega)⟩⟩
theorem Tw.a (h : Tw B Nt X ra rb M M') (hB : B ≤ X.heap.size) (hN : ∀ k, Nt k → k < X.heap.size) :
    ∃ Sa, Rv Sa X ra M ∧ ∀ Y M2, Rw Sa X ra Y M2 → Tw B Nt Y ra rb M2 M' ∧ Below B X Y ∧ (∀ k, Nt k → Y.heap[k]? = X.heap[k]?) := by
  obtain ⟨Sa, Sb, h1, h2, h3, h4, h5⟩ := h
  refine ⟨Sa, h1, fun Y M2 ⟨S', g1, g2, g3⟩ => ⟨⟨S', Sb, g1, h2.fr g2 (fun k hk hk2 => h3 k hk2 hk), fun k hk hk2 => ?_, fun k hk => ⟨?_, fun hn => ?_⟩, h5⟩, g2.below hB fun k hk => (h4 k hk).1, fun k hk => g2.block k (hN k hk) fun e => (h4 k e).2 hk⟩⟩
  · rcases g3 k hk with e | e
    · exact h3 k e hk2
    · have := h2.size k hk2; omega
  · rcases g3 k hk with e | e
    · exact (h4 k e).1
    · omega
  · rcases g3 k hk with e | e
    · exact (h4 k e).2 hn
    · have := hN k hn; omega
theorem Tw.fr (h : Tw B Nt X ra rb M M') (e : Fr Nt X Y) : Tw B Nt Y ra rb M M' := by
  obtain ⟨Sa, Sb, h1, h2, h3, h4, h5⟩ := h
  exact ⟨Sa, Sb, h1.fr e fun k hk => (h4 k hk).2, h2.fr e fun k hk => (h5 k hk).2, h3, h4, h5⟩
end
theorem del_one {M : List O} (hn : (M.map (·.1)).Nodup) {x : O} (hx : x ∈ M) : (Nx.del x.1 M).length + 1 = M.length := by
  induction M with
  | nil => cases hx
  | cons y l ih =>
    rw [List.map_cons, List.nodup_cons] at hn
    by_cases e : y.1 = x.1
    · have h1 : Nx.del x.1 (y :: l) = Nx.del x.1 l := by unfold Nx.del; rw [List.filter_cons_of_neg (by simp [e])]
      rw [h1, del_not (fun h => hn.1 (e ▸ h))]
      rfl
    · have h1 : Nx.del x.1 (y :: l) = y :: Nx.del x.1 l := by unfold Nx.del; rw [List.filter_cons_of_pos (by simp [e])]
      rcases List.mem_cons.1 hx with rfl | hx
      · exact absurd rfl e
      · rw [h1, List.length_cons, List.length_cons, ih hn.2 hx]
/-- one laid in a cell over another one -/
theorem put3 {W : World} {b : Nat} {v0 v1 v2 u0 u1 u2 : Value} {t : TypeId} (h : W.heap[b]? = some (.cells #[v0, v1, v2] t (0, 0))) :
    (((W.setCell ⟨b, 0, none⟩ u0).setCell ⟨b, 1, none⟩ u1).setCell ⟨b, 2, none⟩ u2).heap[b]? = some (.cells #[u0, u1, u2] t (0, 0)) ∧ Fr (fun k => k = b) W (((W.setCell ⟨b, 0, none⟩ u0).setCell ⟨b, 1, none⟩ u1).setCell ⟨b, 2, none⟩ u2) := by
  refine ⟨?_, ⟨rfl, rfl, rfl, by simp, fun k hk hn => ?_⟩⟩
  · rw [Lib.heap_setCell_same (Lib.heap_setCell_same (Lib.heap_setCell_same h _) _) _]; rfl
  · rw [heap_setCell_other _ _ _ _ hn, heap_setCell_other _ _ _ _ hn, heap_setCell_other _ _ _ _ hn]
theorem three {W : World} {b : Nat} {v0 v1 v2 : Value} {t : TypeId} (h : W.heap[b]? = some (.cells #[v0, v1, v2] t (0, 0))) : W.cell? ⟨b, 0, none⟩ = some v0 ∧ W.cell? ⟨b, 1, none⟩ = some v1 ∧ W.cell? ⟨b, 2, none⟩ = some v2 ∧ ∀ k, W.frozen? ⟨b, k, none⟩ = false := by
  refine ⟨?_, ?_, ?_, fun k => ?_⟩ <;> simp [World.cell?, World.frozen?, h]
end Go.Proofs.Ytomkefaakgodhaa.Nx
