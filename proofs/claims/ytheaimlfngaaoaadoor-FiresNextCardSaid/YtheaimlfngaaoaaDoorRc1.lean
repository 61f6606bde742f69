
/- the document's answer for an expression: texts that are cut, numbers -/
import Derived.Test.YtheaimlfngaaoaaDoorCnY
namespace Go.Proofs.YtheaimlfngaaoaaDoor.Cn
open Go.RowKit Go.Lib Go.Proofs.YtheaimlfngaaoaaDoor.Ht
set_option linter.unusedVariables false

set_option maxRecDepth 20000 in
set_option maxHeartbeats 4000000 in
theorem rat_any (s : L) (hs : s.length ≤ 1000) (c : UInt8) (w : World) :
    Calls Tryd.prog 37 #[S s, .int .u8 (c.toNat : Nat)] w fun e w' => e = .returned (.int .i64 (fiI c s)) ∧ w' = w := by
  have hz := size_S s
  go_enter Tryd.func37, Tryd.ntmps37
  go_wp2_with fail
  go_loopw [5] (fun i wr => ∃ k : Nat, i = .int .i64 (k : Nat) ∧ k ≤ s.length ∧ c ∉ s.take k ∧ wr = w) (fun i _ => s.length - (RowKit.intOf i).toNat)
  case atStart => exact ⟨0, rfl, Nat.zero_le _, by simp, rfl⟩
  case round =>
    obtain ⟨k, rfl, hk, hno, rfl⟩ := hrel
    have HN := Lib.hid hno
    clear hno
    by_cases hlt : k < s.length
    · have hkI : ((k : Nat) : Int) < ((s.length : Nat) : Int) := by omega
      have hkb : (0 : Int) ≤ (k : Nat) ∧ ((k : Nat) : Int) < ((⟨s.toArray⟩ : ByteArray).size : Nat) := by rw [hz]; omega
      obtain ⟨b, hb⟩ : ∃ b, s[k] = b := ⟨_, rfl⟩
      have hbb : (⟨s.toArray⟩ : ByteArray)[k]'(by rw [hz]; exact hlt) = b := hb
      have HG := Lib.hid (show s[k]? = some b by rw [List.getElem?_eq_getElem hlt, hb])
      clear hb
      by_cases hc : b = c
      · subst hc
        have hfi : fiI b s = (k : Nat) := by
          have : fi b s = some k := by
            cases e : fi b s with
            | none => exact absurd (List.mem_of_getElem? HG.out) (fi_none.1 e)
            | some j =>
              obtain ⟨h1, h2, h3⟩ := fi_some e
              congr 1
              rcases Nat.lt_trichotomy j k with h | h | h
              · exfalso
                refine HN.out ?_
                have h4 : s[j]? = some b := by
                  rw [h2, List.getElem?_append_right (by rw [List.length_take]; omega)]
                  simp [List.length_take, Nat.min_eq_left (Nat.le_of_lt h1)]
                exact List.mem_of_getElem? (i := j) (by rw [List.getElem?_take_of_lt h]; exact h4)
              · exact h
              · exfalso
                refine h3 ?_
                exact List.mem_of_getElem? (i := k) (by rw [List.getElem?_take_of_lt h]; exact HG.out)
          unfold fiI; rw [this]
        have HF := Lib.hid hfi
        clear hfi
        go_wp2_with fail
        go_ret
        exact ⟨by rw [HF.out]; rfl, rfl⟩
      · have hne : ¬ (b.toNat : Int) = (c.toNat : Int) := fun h => hc (UInt8.toNat_inj.1 (by omega))
        have hneN : ¬ b.toNat = c.toNat := fun h => hc (UInt8.toNat_inj.1 h)
        have HC := Lib.hid hc
        clear hc
        go_wp2_with fail
        refine ⟨⟨k + 1, by simp, by omega, ?_, trivial⟩, by simp [RowKit.intOf]; omega⟩
        rw [List.take_add_one, HG.out, List.mem_append, not_or]
        exact ⟨HN.out, by simp; exact fun h => HC.out h.symm⟩
    · have hkI : ¬ ((k : Nat) : Int) < ((s.length : Nat) : Int) := by omega
      have hno := HN.out
      rw [show k = s.length by omega, List.take_length] at hno
      have hfi : fiI c s = -1 := by unfold fiI; rw [fi_none.2 hno]
      have HF := Lib.hid hfi
      clear hfi hno
      go_wp2_with fail
      go_ret
      exact ⟨by rw [HF.out]; rfl, rfl⟩
theorem cell_at {w : World} {g D : Nat} {cur : Array Value} {t : TypeId} {v : Value} (h : w.heap[g]? = some (.cells cur t (0, 0))) (hc : cur[D]? = some v) : w.cell? ⟨g, D, none⟩ = some v := by
  simp [World.cell?, h, hc]
theorem own_set {w : World} {B : Nat} {e : TypeId} {g n cap : Nat} {xs : List Value} (h : w.ownsRow B e 1 (.slice (some ⟨g, 0, none⟩) n cap) n xs) {D : Nat} (hD : D < n) (v : Value) :
    (w.setCell ⟨g, D, none⟩ v).ownsRow B e 1 (.slice (some ⟨g, 0, none⟩) n cap) n (xs.set D v) := by
  refine ⟨by rw [List.length_set]; exact h.1, .inr ?_⟩
  rcases h.2 with ⟨h0, _⟩ | ⟨g', cap', cur, h0, hbg, hg, hnc, hcm, hcs, htake⟩
  · cases h0
  · cases h0
    refine ⟨g, cap, cur.setIfInBounds D v, rfl, hbg, heap_setCell_same w g D _ _ v hg, hnc, hcm, by rw [Array.size_setIfInBounds]; exact hcs, ?_⟩
    rw [Array.toList_setIfInBounds, List.take_set, htake]
/-- a text's pieces in a row of the call's own -/
abbrev strs (l : List L) : List Value := l.map fun x => S x
set_option maxRecDepth 20000 in
set_option maxHeartbeats 8000000 in
theorem rsplit_any (s : L) (hs : s.length ≤ 1000) (c : UInt8) (w : World) :
    Calls Tryd.prog 20 #[S s, .int .u8 (c.toNat : Nat)] w fun e w' => (∃ v, e = .returned v ∧ w'.ownsRow w.heap.size 9 1 v (sp c s).length (strs (sp c s))) ∧ Below w.heap.size w w' := by
  obtain ⟨i0, hi0, hz0, hz1, hz2⟩ := info_parts info9
  have hz := size_S s
  have hsI : ((s.length : Nat) : Int) ≤ 1000 := by omega
  have hmix : Tryd.prog.follows .mixedOrders = true := by kernel_rfl
  go_enter Tryd.func20, Tryd.ntmps20
  go_wp2_with fail
  go_loopw [6, 5] (fun i v wr => ∃ k : Nat, i = .int .i64 (k : Nat) ∧ k ≤ s.length ∧ wr.ownsRow w.heap.size 9 1 v (sp c (s.take k)).length (strs (sp c (s.take k))) ∧ Below w.heap.size w wr) (fun i _ _ => s.length - (RowKit.intOf i).toNat)
  case atStart =>
    refine ⟨0, rfl, Nat.zero_le _, ?_, (Below.refl _ _).alloc (Nat.le_refl _) _⟩
    exact ⟨rfl, .inr ⟨w.heap.size, 1, _, rfl, Nat.le_refl _, heap_alloc_new w _, Nat.le_refl _, by decide, rfl, rfl⟩⟩
  case round =>
    obtain ⟨k, rfl, hk, hown, hbel⟩ := hrel
    by_cases hlt : k < s.length
    · have hkI : ((k : Nat) : Int) < ((s.length : Nat) : Int) := by omega
      have hkb : (0 : Int) ≤ (k : Nat) ∧ ((k : Nat) : Int) < ((⟨s.toArray⟩ : ByteArray).size : Nat) := by rw [hz]; omega
      obtain ⟨b, hb⟩ : ∃ b, s[k] = b := ⟨_, rfl⟩
      have hbb : (⟨s.toArray⟩ : ByteArray)[k]'(by rw [hz]; exact hlt) = b := hb
      have htk : s.take (k + 1) = s.take k ++ [b] := by rw [List.take_add_one, List.getElem?_eq_getElem hlt, hb]; rfl
      obtain ⟨d, h, e1, e2⟩ := sp_snoc c b (s.take k)
      rw [← htk] at e2
      have hdl : (sp c (s.take k)).length = d.length + 1 := by rw [e1, List.length_append]; rfl
      have hdk : d.length ≤ k := by
        have h1 := sp_length c (s.take k)
        have h2 : (s.take k).count c ≤ (s.take k).length := List.count_le_length
        rw [List.length_take] at h2
        omega
      have HK := Lib.hid (And.intro hb (And.intro htk e2))
      clear hb htk e2
      rw [e1] at hown
      rw [List.length_append, List.length_singleton] at hown
      clear hdl
      by_cases hc : b = c
      · subst hc
        have HB := Lib.hid hbel
        clear hbel
        go_wp2_with (at_builtin; refine wpList_append_own _ rfl _ _ 31 rfl w.heap.size 9 i0 (.string ⟨#[]⟩) 1 16 Tryd.underlying31 hi0 hz0 hz1 hz2 rfl (by decide) _ _ _ rfl (hown.alloc _) ⟨wr.heap.size, 0, none⟩ 1 1 [S []] rfl rfl ?c1 ?c2 ?c3 ?c4 ?c5 ?_)
        case c2 => rfl
        case c3 => have : maxLen = 9223372036854775807 := rfl; omega
        case c4 => omega
        case c5 => have := HB.out.size; first | omega | (simp; omega)
        intro v' w3 hown' hgrow _
        have hb3 : Below w.heap.size w w3 := (HB.out.alloc HB.out.size _).grown hgrow (by have := HB.out.size; simp; omega) (fun g hg => (hown.lt g hg).1)
        obtain ⟨ao, cp, rfl⟩ : ∃ ao cp, v' = .slice ao (d.length + 1 + 1) cp := by
          rcases hown'.2 with ⟨rfl, h9⟩ | ⟨g, cap, cur, rfl, _⟩
          · omega
          · exact ⟨_, _, rfl⟩
        have HR := Lib.hid (And.intro hown' hb3)
        clear hown' hgrow hb3 hown
        go_wp2_with fail
        refine ⟨⟨k + 1, by simp, by omega, ?_, HR.out.2⟩, by simp [RowKit.intOf]; omega⟩
        have e3 : sp b (s.take (k + 1)) = d ++ [h] ++ [[]] := by rw [HK.out.2.2]; simp
        rw [e3]
        have e4 : (d ++ [h] ++ [[]]).length = d.length + 1 + 1 := by simp
        rw [e4]
        have e5 : strs (d ++ [h] ++ [[]]) = strs (d ++ [h]) ++ [S []] := by simp [strs]
        rw [e5]
        simpa [strs] using HR.out.1
      · obtain ⟨N, hN⟩ : ∃ N, N = d.length + 1 := ⟨_, rfl⟩
        obtain ⟨D, hD⟩ : ∃ D, D = d.length := ⟨_, rfl⟩
        rw [← hN] at hown
        rcases hown.2 with ⟨rfl, h9⟩ | ⟨g, cap, cur, rfl, hbg, hg, hnc, hcm, hcs, htake⟩
        · omega
        have hcur : cur[D]? = some (S h) := by
          have h1 : (cur.toList.take (N * 1))[D]? = some (S h) := by
            rw [htake, hD]; simp [strs]
          rw [List.getElem?_take_of_lt (by omega)] at h1
          simpa using h1
        have hset := own_set hown (D := D) (by omega) (S (h ++ [b]))
        have hset2 : (strs (d ++ [h])).set D (S (h ++ [b])) = strs (d ++ [h ++ [b]]) := by rw [hD]; simp [strs]
        rw [hset2] at hset
        have hw1 : IntKind.i64.wrap (((N : Nat) : Int) - 1) = ((D : Nat) : Int) := by rw [IntWalk.i64_in _ (by omega)]; omega
        have hDN : (0 : Int) ≤ ((D : Nat) : Int) ∧ ((D : Nat) : Int) < ((N : Nat) : Int) := by omega
        have hk1 : IntKind.i64.wrap (((k : Nat) : Int) + 1) = ((k : Nat) : Int) + 1 := IntWalk.i64_in _ (by omega)
        have hhl : h.length ≤ 1000 := by
          have h1 : h ∈ sp c (s.take k) := by rw [e1]; simp
          have := (sp_mem_len h1).1
          rw [List.length_take] at this
          omega
        have hzh := size_S h
        have hb2 : (0 : Int) ≤ ((k : Nat) : Int) + 1 ∧ ((k : Nat) : Int) + 1 ≤ ((s.length : Nat) : Int) := by omega
        have hb3 : ((k : Nat) : Int) ≤ ((k : Nat) : Int) + 1 := by omega
        have hhl2 : h.length ≤ 9223372036854775806 := by omega
        have hsl : (⟨s.toArray⟩ : ByteArray).extract k (k + 1) = ⟨#[b]⟩ := by
          rw [sub_S, show k + 1 - k = 1 by omega]
          have : (s.drop k).take 1 = [b] := by rw [List.drop_eq_getElem_cons hlt, HK.out.1]; rfl
          rw [this]
        have hsa : (⟨h.toArray⟩ : ByteArray) ++ ⟨#[b]⟩ = ⟨(h ++ [b]).toArray⟩ := by
          apply ByteArray.ext; simp
        have hcI : ¬ (b.toNat : Int) = (c.toNat : Int) := fun h => hc (UInt8.toNat_inj.1 (by omega))
        have hcN : ¬ b.toNat = c.toNat := fun h => hc (UInt8.toNat_inj.1 h)
        have HS1 := Lib.hid (show wr.drew.heap[g]? = some (.cells cur 9 (0, 0)) from hg)
        have HO := Lib.hid (And.intro hset (And.intro hbel (And.intro hbg (And.intro hN (And.intro hc e1)))))
        clear hset hset2 hown hbel hbg hN hD hc e1 htake hcs hnc hcm hdk hg
        go_wp2_with fail
        -- REGION7
        refine begin' 17 (fun Y => Y.heap[g]? = some (.cells cur 9 (0, 0))) hmix HS1.out (fun hS0 => ?_)
        refine Ht.takeD 8 (i := 0) ⟨some 22, _, _, _, _, _⟩ (.slice (some ⟨g, 0, none⟩) N cap) rfl (by kernel_rfl) (by kernel_rfl) (by decide) (by kernel_rfl) (by kernel_rfl) (by kernel_rfl) hS0 (Or.inl ⟨by rfl, by (intro X hX; go_simp)⟩) ?_
        simp only [Act.put, List.setIfInBounds_toArray, List.set_cons_zero, List.set_cons_succ]
        refine Ht.takeD 8 (i := 1) ⟨some 23, _, _, _, _, _⟩ (.slice (some ⟨g, 0, none⟩) N cap) rfl (by kernel_rfl) (by kernel_rfl) (by decide) (by kernel_rfl) (by kernel_rfl) (by kernel_rfl) hS0 (Or.inl ⟨by rfl, by (intro X hX; go_simp)⟩) ?_
        simp only [Act.put, List.setIfInBounds_toArray, List.set_cons_zero, List.set_cons_succ]
        refine Ht.takeD 8 (i := 2) ⟨some 24, _, _, _, _, _⟩ (.int .i64 (N : Nat)) rfl (by kernel_rfl) (by kernel_rfl) (by decide) (by kernel_rfl) (by kernel_rfl) (by kernel_rfl) hS0 (Or.inl ⟨by rfl, by (intro X hX; go_simp)⟩) ?_
        simp only [Act.put, List.setIfInBounds_toArray, List.set_cons_zero, List.set_cons_succ]
        refine Ht.takeD 8 (i := 3) ⟨some 25, _, _, _, _, _⟩ (.int .i64 (D : Nat)) rfl (by kernel_rfl) (by kernel_rfl) (by decide) (by kernel_rfl) (by kernel_rfl) (by kernel_rfl) hS0 (Or.inl ⟨by rfl, by (intro X hX; have := hw1; go_simp)⟩) ?_
        simp only [Act.put, List.setIfInBounds_toArray, List.set_cons_zero, List.set_cons_succ]
        refine Ht.takeD 8 (i := 4) ⟨some 26, _, _, _, _, _⟩ (.slice (some ⟨g, 0, none⟩) N cap) rfl (by kernel_rfl) (by kernel_rfl) (by decide) (by kernel_rfl) (by kernel_rfl) (by kernel_rfl) hS0 (Or.inl ⟨by rfl, by (intro X hX; go_simp)⟩) ?_
        simp only [Act.put, List.setIfInBounds_toArray, List.set_cons_zero, List.set_cons_succ]
        refine Ht.takeD 8 (i := 5) ⟨some 27, _, _, _, _, _⟩ (.slice (some ⟨g, 0, none⟩) N cap) rfl (by kernel_rfl) (by kernel_rfl) (by decide) (by kernel_rfl) (by kernel_rfl) (by kernel_rfl) hS0 (Or.inl ⟨by rfl, by (intro X hX; go_simp)⟩) ?_
        simp only [Act.put, List.setIfInBounds_toArray, List.set_cons_zero, List.set_cons_succ]
        refine Ht.takeD 8 (i := 6) ⟨some 28, _, _, _, _, _⟩ (.int .i64 (N : Nat)) rfl (by kernel_rfl) (by kernel_rfl) (by decide) (by kernel_rfl) (by kernel_rfl) (by kernel_rfl) hS0 (Or.inl ⟨by rfl, by (intro X hX; go_simp)⟩) ?_
        simp only [Act.put, List.setIfInBounds_toArray, List.set_cons_zero, List.set_cons_succ]
        refine Ht.takeD 8 (i := 7) ⟨some 29, _, _, _, _, _⟩ (.int .i64 (D : Nat)) rfl (by kernel_rfl) (by kernel_rfl) (by decide) (by kernel_rfl) (by kernel_rfl) (by kernel_rfl) hS0 (Or.inl ⟨by rfl, by (intro X hX; have := hw1; go_simp)⟩) ?_
        simp only [Act.put, List.setIfInBounds_toArray, List.set_cons_zero, List.set_cons_succ]
        refine Ht.takeD 8 (i := 8) ⟨some 30, _, _, _, _, _⟩ (.pointer (some ⟨g, D, none⟩)) rfl (by kernel_rfl) (by kernel_rfl) (by decide) (by kernel_rfl) (by kernel_rfl) (by kernel_rfl) hS0 (Or.inl ⟨by rfl, by (intro X hX; have := hDN; go_simp)⟩) ?_
        simp only [Act.put, List.setIfInBounds_toArray, List.set_cons_zero, List.set_cons_succ]
        refine Ht.takeD 8 (i := 9) ⟨some 31, _, _, _, _, _⟩ (S h) rfl (by kernel_rfl) (by kernel_rfl) (by decide) (by kernel_rfl) (by kernel_rfl) (by kernel_rfl) hS0 (Or.inl ⟨by rfl, by (intro X hX; have := cell_at hX hcur; go_simp)⟩) ?_
        simp only [Act.put, List.setIfInBounds_toArray, List.set_cons_zero, List.set_cons_succ]
        refine Ht.takeD 8 (i := 10) ⟨some 32, _, _, _, _, _⟩ (S s) rfl (by kernel_rfl) (by kernel_rfl) (by decide) (by kernel_rfl) (by kernel_rfl) (by kernel_rfl) hS0 (Or.inl ⟨by rfl, by (intro X hX; go_simp)⟩) ?_
        simp only [Act.put, List.setIfInBounds_toArray, List.set_cons_zero, List.set_cons_succ]
        refine Ht.takeD 8 (i := 11) ⟨some 33, _, _, _, _, _⟩ (.int .i64 (k : Nat)) rfl (by kernel_rfl) (by kernel_rfl) (by decide) (by kernel_rfl) (by kernel_rfl) (by kernel_rfl) hS0 (Or.inl ⟨by rfl, by (intro X hX; go_simp)⟩) ?_
        simp only [Act.put, List.setIfInBounds_toArray, List.set_cons_zero, List.set_cons_succ]
        refine Ht.takeD 8 (i := 12) ⟨some 34, _, _, _, _, _⟩ (.int .i64 (k : Nat)) rfl (by kernel_rfl) (by kernel_rfl) (by decide) (by kernel_rfl) (by kernel_rfl) (by kernel_rfl) hS0 (Or.inl ⟨by rfl, by (intro X hX; go_simp)⟩) ?_
        simp only [Act.put, List.setIfInBounds_toArray, List.set_cons_zero, List.set_cons_succ]
        refine Ht.takeD 8 (i := 13) ⟨some 35, _, _, _, _, _⟩ (.int .i64 ((k : Nat) + 1)) rfl (by kernel_rfl) (by kernel_rfl) (by decide) (by kernel_rfl) (by kernel_rfl) (by kernel_rfl) hS0 (Or.inl ⟨by rfl, by (intro X hX; have := hk1; go_simp)⟩) ?_
        simp only [Act.put, List.setIfInBounds_toArray, List.set_cons_zero, List.set_cons_succ]
        refine Ht.takeD 8 (i := 14) ⟨some 36, _, _, _, _, _⟩ (.string ⟨#[b]⟩) rfl (by kernel_rfl) (by kernel_rfl) (by decide) (by kernel_rfl) (by kernel_rfl) (by kernel_rfl) hS0 (Or.inl ⟨by rfl, by (intro X hX; have := And.intro hsl (And.intro hb2 hb3); go_simp)⟩) ?_
        simp only [Act.put, List.setIfInBounds_toArray, List.set_cons_zero, List.set_cons_succ]
        refine Ht.takeD 8 (i := 15) ⟨some 37, _, _, _, _, _⟩ (S (h ++ [b])) rfl (by kernel_rfl) (by kernel_rfl) (by decide) (by kernel_rfl) (by kernel_rfl) (by kernel_rfl) hS0 (Or.inl ⟨by rfl, by (intro X hX; have := And.intro hsa hhl2; go_simp)⟩) ?_
        simp only [Act.put, List.setIfInBounds_toArray, List.set_cons_zero, List.set_cons_succ]
        refine Ht.takeD 8 (i := 16) ⟨some 38, _, _, _, _, _⟩ (.pointer (some ⟨g, D, none⟩)) rfl (by kernel_rfl) (by kernel_rfl) (by decide) (by kernel_rfl) (by kernel_rfl) (by kernel_rfl) hS0 (Or.inl ⟨by rfl, by (intro X hX; have := hDN; go_simp)⟩) ?_
        simp only [Act.put, List.setIfInBounds_toArray, List.set_cons_zero, List.set_cons_succ]
        refine Ht.step (i := 17) ⟨none, _, _, _, _, _⟩ rfl (by kernel_rfl) (by rfl) (fun K hK => ?_)
        have hcc := cell_at hS0 hcur
        have hff : wr.drew.frozen? ⟨g, D, none⟩ = false := by simp [World.frozen?, hS0]
        go_simp
        refine hK _ _ (fun h => absurd rfl h) (fun _ => ?_)
        clear hK K
        try simp only [Act.put, List.setIfInBounds_toArray, List.set_cons_zero, List.set_cons_succ]
        refine done (by kernel_rfl) ?_
        -- END7
        go_wp2_with fail
        refine ⟨⟨k + 1, by simp, by omega, ?_, (HO.out.2.1.trans (Below.drew (Below.refl _ _))).setCell (p := ⟨g, D, none⟩) HO.out.2.2.1 _⟩, by simp [RowKit.intOf]; omega⟩
        have e3 : sp c (s.take (k + 1)) = d ++ [h ++ [b]] := by rw [HK.out.2.2, if_neg HO.out.2.2.2.2.1]
        have e4 : (d ++ [h ++ [b]]).length = N := by rw [HO.out.2.2.2.1]; simp
        rw [e3, e4]
        exact HO.out.1
    · have hkI : ¬ ((k : Nat) : Int) < ((s.length : Nat) : Int) := by omega
      rw [show k = s.length by omega, List.take_length] at hown
      go_wp2_with fail
      go_ret
      exact ⟨⟨_, rfl, hown⟩, hbel⟩
end Go.Proofs.YtheaimlfngaaoaaDoor.Cn
