
/- dag: the order of a chain, walked -/
import Derived.Test.YtmlmacplkfnhkaaDgS
namespace Go.Proofs.Ytmlmacplkfnhkaa.DgA
open Go.RowKit Go.Lib Hp Mv Dg Ht Ao
set_option linter.unusedVariables false
set_option maxRecDepth 20000
attribute [local go_sem] Oper.semAt_some
/-- how many of those that one stands on aren't told, behind the first j -/
def ms (ns : List Id) (j : Nat) : Id → Option Int := fun x => if x ∈ ns then some (if (j : Int) < x.1 then 1 else 0) else none
def rl (k : Nat) : List Int := (List.range k).map fun (i : Nat) => (i : Int)
theorem rl_len (k : Nat) : (rl k).length = k := by unfold rl; simp
theorem rl_snoc (k : Nat) : rl k ++ [(k : Int)] = rl (k + 1) := by unfold rl; rw [List.range_succ, List.map_append]; rfl
/-- a slice's length -/
def lenV : Value → Nat
  | .slice _ n _ => n
  | _ => 0
def ms1 (es : List Id) : Id → Option Int := fun x => if x ∈ es then some (if 0 < x.1 then 1 else 0) else none
section
variable {S : Nat → Prop} {w : World} {gb M : Nat} {ns : List Id} {E : Id → Id → Bool} {nb ob ub : Id → Nat}
theorem ms1_upd (es : List Id) (y : Id) : updI (ms1 es) y (if 0 < y.1 then 1 else 0) = ms1 (es ++ [y]) := by
  funext x
  unfold updI ms1
  by_cases e : x = y
  · subst e; simp
  · simp [e]
set_option maxHeartbeats 8000000 in
theorem ord_chain {k : Nat} (q : Gq S w gb (some M) ns E nb ob ub) (c : Ch ns E k) (hk : 1 ≤ k) (hN : k ≤ 900000) : Calls Try.prog 17 #[.pointer (some ⟨gb, 0, none⟩)] w fun e w' => ∃ v, e = .returned v ∧ w'.ownsRow w.heap.size 3 1 v (rl k).length ((rl k).map kv) ∧ Below w.heap.size w w' := by
  have hlen := c.len q.nd
  obtain ⟨V1, hV1⟩ : ∃ V, V = w.alloc (.cells #[.slice none 0 0] 82) := ⟨_, rfl⟩
  obtain ⟨V2, hV2⟩ : ∃ V, V = V1.alloc (.map #[] 0) := ⟨_, rfl⟩
  have b1 : Below w.heap.size w V1 := by rw [hV1]; exact below_new _ _
  have b2 : Below V1.heap.size V1 V2 := by rw [hV2]; exact below_new _ _
  have s1 : V1.heap.size = w.heap.size + 1 := by rw [hV1]; simp
  have t1 : V1.heap[w.heap.size]? = some (.cells #[.slice none 0 0] 82 (0, 0)) := by rw [hV1]; exact (MapKept.heap_alloc w _).1
  have m2 : V2.heap[V1.heap.size]? = some (.map #[] 0) := by rw [hV2]; exact (MapKept.heap_alloc V1 _).1
  have bV : Below w.heap.size w V2 := b1.trans (b2.mono b1.size)
  have o0 : Ob S w gb M ns E nb ob ub w.heap.size V1.heap.size V2 (ms1 []) 0 (.slice none 0 0) [] (.slice none 0 0) [] :=
    ⟨q.below bV (Nat.le_refl _), bV, q.size, ⟨Nat.le_refl _, by omega⟩, (empty_map m2).congr (fun x _ => by unfold mf ms1; simp), ⟨(b2.block _ (by omega)).trans t1, ⟨rfl, .inl ⟨rfl, rfl⟩⟩⟩, ⟨rfl, .inl ⟨rfl, rfl⟩⟩, fun b e => by cases e⟩
  have hmN : Mq V2 M ns.length (nf ns nb) := by
    rcases o0.q.map with ⟨e, _⟩ | ⟨b', e, h⟩
    · cases e
    · obtain rfl := Option.some.inj e; exact h
  obtain ⟨W0, cnt0, hrun, hrg0, hgr0, hsz0⟩ := hmN.range kindN
  have o1 := o0.below ((Below.refl _ V2).grown hgr0 (Nat.le_refl _) (fun j hj => by cases hj))
  have r0 : w.heap.size ≤ V2.heap.size := bV.size
  have cg := q.cell
  have hg1 := q.size gb q.ownG
  have hg2 : gb < w.heap.size + 1 := by omega
  have s2 : V2.heap.size = w.heap.size + 1 + 1 := by rw [hV2, hV1]; simp
  rw [s1] at o0 o1 m2
  rw [s2] at hrun hrg0
  rw [hV2, hV1] at hrun
  have H0 := Lib.hid (And.intro o1 (And.intro hrg0 (And.intro c (And.intro hk (And.intro hN (And.intro hlen r0))))))
  clear o0 o1 hrg0 c hk hN hlen r0 t1 m2 bV b1 b2 hmN hgr0 hsz0 q s1 s2 hV1 hV2
  have hmix : Try.prog.follows .mixedOrders = true := by kernel_rfl
  have hmm := @run_makeMap Try.prog
  go_enter Try.func17, Try.ntmps17
  go_wp2_with fail
  try go_frame
  clear hrun cg hg1 hg2
  go_loopw [6] (fun _ wr => ∃ es cnt tv, Ob S w gb M ns E nb ob ub w.heap.size (w.heap.size + 1) wr (ms1 es) es.length tv (if ci 0 ∈ es then [0] else []) (.slice none 0 0) [] ∧ Rgs Try.prog 44 ek wk wr M (w.heap.size + 1 + 1) (nf ns nb) es cnt) (fun _ wr => wr.rangeLeft M (w.heap.size + 1 + 1))
  case atStart => exact ⟨[], cnt0, _, H0.out.1, H0.out.2.1⟩
  case round =>
    obtain ⟨es, cnt, tv, p, hrg⟩ := hrel
    have HP := Lib.hid p
    have HL := Lib.hid hrg.left_eq
    have HRG := Lib.hid hrg
    clear p
    go_wp2_with (first
      | (at_next; refine Mv.wpList_nextQ kindN _ rfl _ rfl M (w.heap.size + 1 + 1) _ es cnt rfl hrg ?_ ?_)
      | go_in)
    · intro hdone
      have p := HP.out
      have hmem : ∀ x, x ∈ es ↔ x ∈ ns := fun x => by
        constructor
        · intro hx
          have h1 := (HRG.out.mem hx).2
          unfold nf at h1
          by_cases e : x ∈ ns
          · exact e
          · rw [if_neg e] at h1; cases h1
        · intro hx
          exact hdone x (p.q.ok x hx).1 (by unfold nf; rw [if_pos hx]; rfl)
      have hes : es.length = k := by
        have a := Mv.len_sub es ns HRG.out.nodup fun x hx => (hmem x).1 hx
        have b := Mv.len_sub ns es p.q.nd fun x hx => (hmem x).2 hx
        have := H0.out.2.2.2.2.2.1; omega
      have e1 : ms1 es = ms ns 0 := by
        funext x
        unfold ms1 ms
        simp only [hmem x]
        rfl
      rw [e1, hes, if_pos ((hmem _).2 ((H0.out.2.2.1.mem _).2 ⟨0, by have := H0.out.2.2.2.1; omega, rfl⟩))] at p
      have HP2 := Lib.hid p
      clear p hmem hes e1 hdone hrg
      go_wp2_with fail
      go_loopw [3] (fun lv wr => ∃ j tv, j ≤ k ∧ Ob S w gb M ns E nb ob ub w.heap.size (w.heap.size + 1) wr (ms ns j) k tv (if j < k then [(j : Int)] else []) lv (rl j)) (fun lv _ => k - lenV lv)
      case atStart => exact ⟨0, tv, Nat.zero_le _, by rw [if_pos (by have := H0.out.2.2.2.1; omega)]; exact HP2.out⟩
      case round =>
        obtain ⟨j, tv, hj, p⟩ := hrel
        obtain ⟨a3, c3, rfl⟩ := own_shape p.row
        have ct : wr.cell? ⟨w.heap.size, 0, none⟩ = some tv := by rw [cell_of_row wr _ _ _ _ _ p.tree.box]; rfl
        obtain ⟨at3, dt3, rfl⟩ := own_shape p.tree.own
        by_cases hjk : j < k
        · rw [if_pos hjk] at p ct
          rw [rl_len] at *
          rw [show [((j : Nat) : Int)].length = 1 from rfl] at p ct
          have hpo := pop_any p.tree
          have HPj := Lib.hid (And.intro p hjk)
          unfold kv at hpo
          clear p hjk hj
          go_wp2_with fail
          refine hpo.mono ?_
          rintro e W1 ⟨rfl, tv1, t1, f1, hb1⟩
          have p1 := HPj.out.1.setTree t1 f1 (.inl hb1)
          have bU := below_new W1 (.cells #[kv (j : Int)] 3)
          have cU : (W1.alloc (.cells #[kv (j : Int)] 3)).cell? ⟨W1.heap.size, 0, none⟩ = some (kv (j : Int)) := by
            have h := (MapKept.heap_alloc W1 (.cells #[kv (j : Int)] 3)).1
            exact (cell_of_row _ _ 0 _ _ _ h).trans rfl
          have owU := (p1.below bU).row
          obtain ⟨v9, w9, hra, hv9, gZ, hb9⟩ := push_k (j : Int) owU (by rw [rl_len]; have := HPj.out.2; have := H0.out.2.2.2.2.1; omega) ⟨W1.heap.size, 0, none⟩ cU (Nat.le_trans p1.b.size bU.size) 25
          rw [rl_snoc] at hv9
          have p2 := p1.setRow bU hv9 gZ hb9
          obtain ⟨a9, c9, rfl⟩ := own_shape hv9
          rw [rl_len] at hra p2
          have H2 := Lib.hid p2
          clear p1 p2 t1 f1 hb1 hpo bU cU owU hv9 gZ hb9 ct
          unfold kv at hra
          go_wp2_with (first
            | (at_builtin; refine BigFrame.wpList_want (by rfl) fun _ hK => wp_app _ _ rfl rfl rfl hra (hK _ _ ?_); clear hK)
            | go_in)
          clear hra
          have c0 := H2.out.q.cell
          have hcn : ci j ∈ ns := (H0.out.2.2.1.mem _).2 ⟨j, HPj.out.2, rfl⟩
          have lk : ∀ X, Below w9.heap.size w9 X → (Instr.lookup 40 (.map (some M)) (.agg #[.int .i64 (j : Int), .bool false]) false).run Try.prog X = .ok (.pointer (some ⟨nb (ci j), 0, none⟩)) X := fun X hX => by
            have := H2.out.q.look (Y := X) (fun b e => hX.block b (H2.out.q.size b (H2.out.q.ownM b e))) (H2.out.q.ok _ hcn).1
            rw [if_pos hcn] at this; exact this
          have nd := (H2.out.q.nodeC hcn).2.2
          obtain ⟨n3, hU3⟩ := H2.out.q.users _ hcn
          have HU3 := Lib.hid hU3
          clear hU3
          generalize nb (ci j) = nj at *
          obtain ⟨uj, huj⟩ : ∃ u, u = ub (ci j) := ⟨_, rfl⟩
          rw [← huj] at nd
          have HUJ := Lib.hid huj
          clear huj
          refine begin' 10 (fun ZZ => Below w9.heap.size w9 ZZ) hmix ((Below.refl _ w9).drew) (fun hS0 => ?_)
          refine Ht.takeD 8 (i := 0) ⟨some 47, _, _, _, _, _⟩ (.pointer (some ⟨gb, 0, none⟩)) rfl (by kernel_rfl) (by kernel_rfl) (by decide) (by kernel_rfl) (by kernel_rfl) (by kernel_rfl) hS0 (Or.inl ⟨by rfl, by (intro X hX; go_simp)⟩) ?_
          simp only [Act.put, List.setIfInBounds_toArray, List.set_cons_zero, List.set_cons_succ]
          refine Ht.takeD 8 (i := 1) ⟨some 48, _, _, _, _, _⟩ (.pointer (some ⟨gb, 0, none⟩)) rfl (by kernel_rfl) (by kernel_rfl) (by decide) (by kernel_rfl) (by kernel_rfl) (by kernel_rfl) hS0 (Or.inl ⟨by rfl, by (intro X hX; go_simp)⟩) ?_
          simp only [Act.put, List.setIfInBounds_toArray, List.set_cons_zero, List.set_cons_succ]
          refine Ht.takeD 8 (i := 2) ⟨some 49, _, _, _, _, _⟩ (.pointer (some ⟨gb, 0, none⟩)) rfl (by kernel_rfl) (by kernel_rfl) (by decide) (by kernel_rfl) (by kernel_rfl) (by kernel_rfl) hS0 (Or.inl ⟨by rfl, by (intro X hX; go_simp)⟩) ?_
          simp only [Act.put, List.setIfInBounds_toArray, List.set_cons_zero, List.set_cons_succ]
          refine Ht.takeD 8 (i := 3) ⟨some 50, _, _, _, _, _⟩ (.map (some M)) rfl (by kernel_rfl) (by kernel_rfl) (by decide) (by kernel_rfl) (by kernel_rfl) (by kernel_rfl) hS0 (Or.inl ⟨by rfl, by (intro X hX; have := bc hX c0; go_simp)⟩) ?_
          simp only [Act.put, List.setIfInBounds_toArray, List.set_cons_zero, List.set_cons_succ]
          refine Ht.takeD 8 (i := 4) ⟨some 51, _, _, _, _, _⟩ (.int .i64 (j : Int)) rfl (by kernel_rfl) (by kernel_rfl) (by decide) (by kernel_rfl) (by kernel_rfl) (by kernel_rfl) hS0 (Or.inl ⟨by rfl, by (intro X hX; go_simp)⟩) ?_
          simp only [Act.put, List.setIfInBounds_toArray, List.set_cons_zero, List.set_cons_succ]
          refine Ht.step (i := 5) ⟨some 52, _, _, _, _, _⟩ rfl (by kernel_rfl) (by rfl) (fun K hK => ?_)
          refine Ht.enter 14 #[.int .i64 (j : Int)] (by have hen := fun args w => enters_of (P := Try.prog) Try.func14 (by kernel_rfl) rfl args w; go_simp) (idOf_any (j : Int) _) ?_
          rintro e X1 ⟨rfl, hx1⟩
          have b3 : Below w9.heap.size w9 X1 := hS0.trans (hx1.mono hS0.size)
          obtain ⟨W3, cnt3, hrun3, hrg3, hgr3, hsz3⟩ := (HU3.out.kept (b3.block _ HU3.out.lt)).range kindS
          have p3 := (H2.out.below b3).below ((Below.refl _ X1).grown hgr3 (Nat.le_refl _) (fun j hj => by cases hj))
          have r3w : w.heap.size ≤ X1.heap.size := Nat.le_trans H2.out.b.size b3.size
          rw [← HUJ.out] at hrun3
          unfold ek kv
          refine ⟨_, rfl, hK _ _ (fun hn => b3) (fun hnx => ?_)⟩
          clear hK K hnx
          try simp only [Act.put, List.setIfInBounds_toArray, List.set_cons_zero, List.set_cons_succ]
          refine Ht.takeD 8 (i := 6) ⟨some 53, _, _, _, _, _⟩ (.pointer (some ⟨nj, 0, none⟩)) rfl (by kernel_rfl) (by kernel_rfl) (by decide) (by kernel_rfl) (by kernel_rfl) (by kernel_rfl) b3 (Or.inl ⟨by rfl, by (intro X hX; have := lk X hX; go_simp)⟩) ?_
          simp only [Act.put, List.setIfInBounds_toArray, List.set_cons_zero, List.set_cons_succ]
          refine Ht.takeD 8 (i := 7) ⟨some 54, _, _, _, _, _⟩ (.pointer (some ⟨nj, 0, none⟩)) rfl (by kernel_rfl) (by kernel_rfl) (by decide) (by kernel_rfl) (by kernel_rfl) (by kernel_rfl) b3 (Or.inl ⟨by rfl, by (intro X hX; go_simp)⟩) ?_
          simp only [Act.put, List.setIfInBounds_toArray, List.set_cons_zero, List.set_cons_succ]
          refine Ht.takeD 8 (i := 8) ⟨some 55, _, _, _, _, _⟩ (.pointer (some ⟨nj, 2, none⟩)) rfl (by kernel_rfl) (by kernel_rfl) (by decide) (by kernel_rfl) (by kernel_rfl) (by kernel_rfl) b3 (Or.inl ⟨by rfl, by (intro X hX; go_simp)⟩) ?_
          simp only [Act.put, List.setIfInBounds_toArray, List.set_cons_zero, List.set_cons_succ]
          refine Ht.takeD 8 (i := 9) ⟨some 56, _, _, _, _, _⟩ (.map (some uj)) rfl (by kernel_rfl) (by kernel_rfl) (by decide) (by kernel_rfl) (by kernel_rfl) (by kernel_rfl) b3 (Or.inl ⟨by rfl, by (intro X hX; have := bc hX nd; go_simp)⟩) ?_
          simp only [Act.put, List.setIfInBounds_toArray, List.set_cons_zero, List.set_cons_succ]
          refine Ht.step (i := 10) ⟨some 57, _, _, _, _, _⟩ rfl (by kernel_rfl) (by rfl) (fun K hK => ?_)
          go_simp
          refine hK _ _ (fun hn => absurd rfl hn) (fun hnx => ?_)
          clear hK K hnx
          try simp only [Act.put, List.setIfInBounds_toArray, List.set_cons_zero, List.set_cons_succ]
          refine done (by kernel_rfl) ?_
          obtain ⟨r3, hr3⟩ : ∃ r, r = X1.heap.size := ⟨_, rfl⟩
          rw [← hr3] at hrg3 r3w ⊢
          have H3 := Lib.hid (And.intro p3 (And.intro hrg3 r3w))
          clear hS0 lk nd c0 hrun3 hrg3 hgr3 hsz3 p3 r3w hr3 b3 hx1
          go_wp2_with fail
          try go_frame
          go_loopw [9] (fun _ wr => ∃ es cnt tv, Ob S w gb M ns E nb ob ub w.heap.size (w.heap.size + 1) wr (ms ns (j + es.length)) k tv (if es = [] then [] else [((j + 1 : Nat) : Int)]) (.slice a9 (j + 1) c9) (rl (j + 1)) ∧ Rgs Try.prog 44 ek wk wr (ub (ci j)) r3 (sf fun y => E y (ci j)) es cnt) (fun _ wr => wr.rangeLeft (ub (ci j)) r3)
          case atStart => exact ⟨[], cnt3, tv1, by rw [if_pos rfl]; exact H3.out.1, H3.out.2.1⟩
          case round =>
            obtain ⟨es3, cnt4, tv3, p4, hrg4⟩ := hrel
            have HP4 := Lib.hid p4
            have HL4 := Lib.hid hrg4.left_eq
            have HRG4 := Lib.hid hrg4
            clear p4
            go_wp2_with (first
              | (at_next; refine Mv.wpList_nextQ kindS _ rfl _ rfl (ub (ci j)) r3 _ es3 cnt4 rfl hrg4 ?_ ?_)
              | go_in)
            · intro hdone
              have p4 := HP4.out
              have hE : ∀ z ∈ es3, z = ci (j + 1) ∧ j + 1 < k := fun z hz => by
                have h1 := (HRG4.out.mem hz).2
                rw [sf_some, H0.out.2.2.1.edge] at h1
                obtain ⟨i, hi, e1, e2⟩ := h1
                have := ci_inj e2
                subst this
                exact ⟨e1, hi⟩
              have hpost : Ob S w gb M ns E nb ob ub w.heap.size (w.heap.size + 1) wr (ms ns (j + 1)) k tv3 (if j + 1 < k then [((j + 1 : Nat) : Int)] else []) (.slice a9 (j + 1) c9) (rl (j + 1)) := by
                by_cases hjk : j + 1 < k
                · have hin : ci (j + 1) ∈ es3 := hdone _ (p4.q.ok _ ((H0.out.2.2.1.mem _).2 ⟨j + 1, hjk, rfl⟩)).1 (by rw [sf_some, H0.out.2.2.1.edge]; exact ⟨j, hjk, rfl, rfl⟩)
                  have hl1 : es3.length = 1 := by
                    have a := Mv.len_sub es3 [ci (j + 1)] HRG4.out.nodup fun z hz => by rw [(hE z hz).1]; simp
                    have b := List.length_pos_of_mem hin
                    simp at a; omega
                  have hne : es3 ≠ [] := fun e => by rw [e] at hl1; simp at hl1
                  rw [hl1, if_neg hne] at p4
                  rw [if_pos hjk]; exact p4
                · have hnil : es3 = [] := List.eq_nil_iff_forall_not_mem.2 fun z hz => hjk (hE z hz).2
                  rw [hnil, if_pos rfl] at p4
                  rw [if_neg hjk]
                  have e2 : ms ns (j + ([] : List Id).length) = ms ns (j + 1) := by
                    funext x
                    unfold ms
                    by_cases hx : x ∈ ns
                    · rw [if_pos hx, if_pos hx]
                      obtain ⟨i, hi, rfl⟩ := (H0.out.2.2.1.mem x).1 hx
                      have hjk2 := HPj.out.2
                      have h3 : ¬ ((j + ([] : List Id).length : Nat) : Int) < (ci i).1 := by show ¬ ((j + 0 : Nat) : Int) < (i : Int); omega
                      have h4 : ¬ ((j + 1 : Nat) : Int) < (ci i).1 := by show ¬ ((j + 1 : Nat) : Int) < (i : Int); omega
                      rw [if_neg h3, if_neg h4]
                    · rw [if_neg hx, if_neg hx]
                  rw [e2] at p4
                  exact p4
              have HPost := Lib.hid hpost
              clear hpost hE p4 hdone hrg4
              go_wp2_with fail
              go_roundw
              case rel => exact ⟨j + 1, tv3, by have := HPj.out.2; omega, HPost.out⟩
              case measure => have := HPj.out.2; simp [lenV]; omega
            · rintro ⟨y, v, w4, cnt5, hwy, hfy, hny, hrg5, hlt5, hg5, hs5⟩ hen
              dsimp only at hen ⊢
              have hEy : E y (ci j) = true := by
                have h1 := hfy
                unfold sf at h1
                by_cases e : E y (ci j) = true
                · exact e
                · rw [if_neg e] at h1; cases h1
              obtain ⟨hyi, hj1⟩ : y = ci (j + 1) ∧ j + 1 < k := by
                obtain ⟨i, hi, e1, e2⟩ := (H0.out.2.2.1.edge _ _).1 hEy
                have := ci_inj e2
                subst this
                exact ⟨e1, hi⟩
              have hnil : es3 = [] := List.eq_nil_iff_forall_not_mem.2 fun z hz => by
                have h1 := (HRG4.out.mem hz).2
                rw [sf_some, H0.out.2.2.1.edge] at h1
                obtain ⟨i, hi, e1, e2⟩ := h1
                have := ci_inj e2
                subst this
                rw [e1, ← hyi] at hz
                exact hny hz
              have hyn : y ∈ ns := (H0.out.2.2.1.mem _).2 ⟨j + 1, hj1, hyi⟩
              have p4 := HP4.out
              rw [hnil, if_pos rfl] at p4
              have p5 := p4.but (rgs_obj hrg4) H3.out.2.2 hg5
              have bA := below_new w4 (.cells #[kv y.1, .bool y.2] 44)
              have cA := cell_id w4 y
              obtain ⟨Y, hY⟩ : ∃ Y, Y = w4.alloc (.cells #[kv y.1, .bool y.2] 44) := ⟨_, rfl⟩
              rw [← hY] at bA cA
              have p6 := p5.below bA
              have hul : ub (ci j) < w.heap.size := p6.small _ (p6.q.ownN _ hcn).2.2
              have rgY := hrg5.kept (Y := Y) (bA.block _ (Nat.lt_of_lt_of_le hul p5.b.size)) (bA.block _ hrg5.lt)
              have hmsy : mf (ms ns j) y = some (.int .i64 1) := by
                unfold mf ms
                rw [if_pos hyn, hyi]
                have h3 : (j : Int) < (ci (j + 1)).1 := by show (j : Int) < ((j + 1 : Nat) : Int); omega
                rw [if_pos h3]; rfl
              have hlm : ∀ X, Below Y.heap.size Y X → (Instr.lookup 83 (.map (some (w.heap.size + 1))) (.agg #[.int .i64 y.1, .bool y.2]) false).run Try.prog X = .ok (.int .i64 1) X := fun X hX => by
                have h1 := p6.miss.look1 kindM (Y := X) (hX.block _ p6.miss.lt) hwy
                have h2 : mf (ms ns (j + ([] : List Id).length)) y = some (.int .i64 1) := hmsy
                rw [h2] at h1; exact h1
              have hsome : (mf (ms ns (j + ([] : List Id).length)) y).isSome = true := by
                have h2 : mf (ms ns (j + ([] : List Id).length)) y = some (.int .i64 1) := hmsy
                rw [h2]; rfl
              obtain ⟨st, v0, hSt, hent⟩ := (p6.miss.kept (Y := Y.drew) rfl).entry kindM hwy hsome
              obtain ⟨Z, hrZ, hmZ, gZ, _⟩ := (p6.miss.kept (Y := Y.drew) rfl).store kindM (by have := H0.out.2.2.2.2.1; unfold maxLen; omega) hwy hsome hSt (.int .i64 0)
              have gZ' : Y.grownBy Z (some (w.heap.size + 1)) := ⟨gZ.os, gZ.tape, gZ.output, gZ.size, gZ.block⟩
              have hmZ' : Mi Z (w.heap.size + 1) k (ms ns (j + 1)) := by
                refine hmZ.congr fun x _ => ?_
                show Mv.upd (mf (ms ns j)) y (.int .i64 0) x = mf (ms ns (j + 1)) x
                rw [← mf_upd]
                unfold mf
                congr 1
                unfold updI ms
                by_cases e : x = y
                · rw [if_pos e, e, if_pos hyn, hyi]
                  have h3 : ¬ ((j + 1 : Nat) : Int) < (ci (j + 1)).1 := by show ¬ ((j + 1 : Nat) : Int) < ((j + 1 : Nat) : Int); omega
                  rw [if_neg h3]
                · rw [if_neg e]
                  by_cases hx : x ∈ ns
                  · rw [if_pos hx, if_pos hx]
                    obtain ⟨i, hi, rfl⟩ := (H0.out.2.2.1.mem x).1 hx
                    have hne : i ≠ j + 1 := fun e2 => e (by rw [e2, hyi])
                    have h4 : ((j : Int) < (ci i).1) ↔ (((j + 1 : Nat) : Int) < (ci i).1) := by show (j : Int) < (i : Int) ↔ ((j + 1 : Nat) : Int) < (i : Int); omega
                    simp only [h4]
                  · rw [if_neg hx, if_neg hx]
              have p7 := p6.setMiss gZ' hmZ'
              have rgZ := rgY.kept (Y := Z) (gZ'.block _ (Nat.lt_of_lt_of_le hul p6.b.size) (fun e => by have := Option.some.inj e; omega)) (gZ'.block _ rgY.lt (fun e => by
                obtain ⟨a, b, c, d, h3⟩ := rgs_obj rgY
                obtain ⟨e1, cl, h2⟩ := p6.miss.obj
                rw [Option.some.inj e, h2] at h3; cases h3))
              have c0Z := p7.q.cell
              have lkZ : ∀ X, Below Z.heap.size Z X → (Instr.lookup 40 (.map (some M)) (.agg #[.int .i64 y.1, .bool y.2]) false).run Try.prog X = .ok (.pointer (some ⟨nb y, 0, none⟩)) X := fun X hX => by
                have := p7.q.look (Y := X) (fun b e => hX.block b (p7.q.size b (p7.q.ownM b e))) (p7.q.ok _ hyn).1
                rw [if_pos hyn] at this; exact this
              have lmZ : (Instr.lookup 83 (.map (some (w.heap.size + 1))) (.agg #[.int .i64 y.1, .bool y.2]) false).run Try.prog Z = .ok (.int .i64 0) Z := by
                have h1 := p7.miss.look1 kindM (Y := Z) rfl hwy
                have h2 : mf (ms ns (j + 1)) y = some (.int .i64 0) := by
                  unfold mf ms
                  rw [if_pos hyn, hyi]
                  have h3 : ¬ ((j + 1 : Nat) : Int) < (ci (j + 1)).1 := by show ¬ ((j + 1 : Nat) : Int) < ((j + 1 : Nat) : Int); omega
                  rw [if_neg h3]; rfl
                rw [h2] at h1; exact h1
              have ndZ := (p7.q.nodeC hyn).1
              have cAZ : Z.cell? ⟨w4.heap.size, 0, none⟩ = some (kv y.1) ∧ Z.cell? ⟨w4.heap.size, 1, none⟩ = some (.bool y.2) := by
                have hJ := World.block_lt_of_cell? _ _ cA.1
                have hne : w4.heap.size ≠ w.heap.size + 1 := fun e => by have := p5.miss.lt; omega
                have e1 := gZ'.block _ hJ (fun e => hne (Option.some.inj e))
                have h1 := cA.1
                have h2 := cA.2
                unfold World.cell? at h1 h2 ⊢
                rw [e1]; exact ⟨h1, h2⟩
              have tZ : Tr w.heap.size Z.drew w.heap.size tv3 [] := p7.tree.kept (fun _ _ => rfl)
              have hpu := push_any tZ p7.b.size y.1
              have HZ := Lib.hid (And.intro p7 (And.intro rgZ (And.intro hlt5 (And.intro hyi (And.intro hnil (And.intro hul hj1))))))
              have hsub : IntKind.i64.wrap 0 = 0 := by rfl
              unfold ek kv at hen hent
              unfold goInt at hent hrZ
              unfold kv at hpu
              unfold ek
              unfold kv at cA hY ndZ cAZ ⊢
              clear p4 p5 p6 p7 rgY rgZ hlt5 hny hul hyn hmZ hmZ' gZ gZ' hrg4 hrg5 hg5 hs5 hwy hfy hyi bA hmsy hsome hSt hnil hEy hj1 tZ
              go_wp2_with fail
              rw [← hY]
              generalize w4.heap.size = J at *
              clear hY hen
              generalize nb y = ny at *
          
              refine begin' 6 (fun ZZ => Below Y.heap.size Y ZZ) hmix ((Below.refl _ Y).drew) (fun hS0 => ?_)
              refine Ht.takeD 8 (i := 0) ⟨some 62, _, _, _, _, _⟩ (.map (some (w.heap.size + 1))) rfl (by kernel_rfl) (by kernel_rfl) (by decide) (by kernel_rfl) (by kernel_rfl) (by kernel_rfl) hS0 (Or.inl ⟨by rfl, by (intro X hX; go_simp)⟩) ?_
              simp only [Act.put, List.setIfInBounds_toArray, List.set_cons_zero, List.set_cons_succ]
              refine Ht.takeD 8 (i := 1) ⟨some 63, _, _, _, _, _⟩ (.agg #[.int .i64 y.1, .bool y.2]) rfl (by kernel_rfl) (by kernel_rfl) (by decide) (by kernel_rfl) (by kernel_rfl) (by kernel_rfl) hS0 (Or.inl ⟨by rfl, by (intro X hX; have := And.intro (bc hX cA.1) (bc hX cA.2); go_simp)⟩) ?_
              simp only [Act.put, List.setIfInBounds_toArray, List.set_cons_zero, List.set_cons_succ]
              refine Ht.takeD 8 (i := 2) ⟨some 64, _, _, _, _, _⟩ (.int .i64 1) rfl (by kernel_rfl) (by kernel_rfl) (by decide) (by kernel_rfl) (by kernel_rfl) (by kernel_rfl) hS0 (Or.inl ⟨by rfl, by (intro X hX; have := hlm X hX; go_simp)⟩) ?_
              simp only [Act.put, List.setIfInBounds_toArray, List.set_cons_zero, List.set_cons_succ]
              refine Ht.takeD 8 (i := 3) ⟨some 65, _, _, _, _, _⟩ (.int .i64 0) rfl (by kernel_rfl) (by kernel_rfl) (by decide) (by kernel_rfl) (by kernel_rfl) (by kernel_rfl) hS0 (Or.inl ⟨by rfl, by (intro X hX; go_simp)⟩) ?_
              simp only [Act.put, List.setIfInBounds_toArray, List.set_cons_zero, List.set_cons_succ]
              refine Ht.step (i := 4) ⟨some 66, _, _, _, _, _⟩ rfl (by kernel_rfl) (by rfl) (fun K hK => ?_)
              go_simp
              refine hK _ _ (fun hn => hS0) (fun hnx => ?_)
              clear hK K hnx
              try simp only [Act.put, List.setIfInBounds_toArray, List.set_cons_zero, List.set_cons_succ]
              refine Ht.takeD 8 (i := 5) ⟨some 67, _, _, _, _, _⟩ (.int .i64 ((st : Nat) : Int)) rfl (by kernel_rfl) (by kernel_rfl) (by decide) (by kernel_rfl) (by kernel_rfl) (by kernel_rfl) hS0 (Or.inl ⟨by rfl, by (intro X hX; go_simp)⟩) ?_
              simp only [Act.put, List.setIfInBounds_toArray, List.set_cons_zero, List.set_cons_succ]
              refine Ht.step (i := 6) ⟨none, _, _, _, _, _⟩ rfl (by kernel_rfl) (by rfl) (fun K hK => ?_)
              go_simp
              refine hK _ _ (fun hn => absurd rfl hn) (fun hnx => ?_)
              clear hK K hnx
              try simp only [Act.put, List.setIfInBounds_toArray, List.set_cons_zero, List.set_cons_succ]
              refine done (by kernel_rfl) ?_
              clear hS0 hrZ hent hlm cA
              go_wp2_with fail
              refine begin' 9 (fun ZZ => Below Z.heap.size Z ZZ) hmix ((Below.refl _ Z).drew) (fun hS0 => ?_)
              refine Ht.takeD 8 (i := 0) ⟨some 72, _, _, _, _, _⟩ (.pointer (some ⟨gb, 0, none⟩)) rfl (by kernel_rfl) (by kernel_rfl) (by decide) (by kernel_rfl) (by kernel_rfl) (by kernel_rfl) hS0 (Or.inl ⟨by rfl, by (intro X hX; go_simp)⟩) ?_
              simp only [Act.put, List.setIfInBounds_toArray, List.set_cons_zero, List.set_cons_succ]
              refine Ht.takeD 8 (i := 1) ⟨some 73, _, _, _, _, _⟩ (.pointer (some ⟨gb, 0, none⟩)) rfl (by kernel_rfl) (by kernel_rfl) (by decide) (by kernel_rfl) (by kernel_rfl) (by kernel_rfl) hS0 (Or.inl ⟨by rfl, by (intro X hX; go_simp)⟩) ?_
              simp only [Act.put, List.setIfInBounds_toArray, List.set_cons_zero, List.set_cons_succ]
              refine Ht.takeD 8 (i := 2) ⟨some 74, _, _, _, _, _⟩ (.pointer (some ⟨gb, 0, none⟩)) rfl (by kernel_rfl) (by kernel_rfl) (by decide) (by kernel_rfl) (by kernel_rfl) (by kernel_rfl) hS0 (Or.inl ⟨by rfl, by (intro X hX; go_simp)⟩) ?_
              simp only [Act.put, List.setIfInBounds_toArray, List.set_cons_zero, List.set_cons_succ]
              refine Ht.takeD 8 (i := 3) ⟨some 75, _, _, _, _, _⟩ (.map (some M)) rfl (by kernel_rfl) (by kernel_rfl) (by decide) (by kernel_rfl) (by kernel_rfl) (by kernel_rfl) hS0 (Or.inl ⟨by rfl, by (intro X hX; have := bc hX c0Z; go_simp)⟩) ?_
              simp only [Act.put, List.setIfInBounds_toArray, List.set_cons_zero, List.set_cons_succ]
              refine Ht.takeD 8 (i := 4) ⟨some 76, _, _, _, _, _⟩ (.agg #[.int .i64 y.1, .bool y.2]) rfl (by kernel_rfl) (by kernel_rfl) (by decide) (by kernel_rfl) (by kernel_rfl) (by kernel_rfl) hS0 (Or.inl ⟨by rfl, by (intro X hX; have := And.intro (bc hX cAZ.1) (bc hX cAZ.2); go_simp)⟩) ?_
              simp only [Act.put, List.setIfInBounds_toArray, List.set_cons_zero, List.set_cons_succ]
              refine Ht.takeD 8 (i := 5) ⟨some 77, _, _, _, _, _⟩ (.pointer (some ⟨ny, 0, none⟩)) rfl (by kernel_rfl) (by kernel_rfl) (by decide) (by kernel_rfl) (by kernel_rfl) (by kernel_rfl) hS0 (Or.inl ⟨by rfl, by (intro X hX; have := lkZ X hX; go_simp)⟩) ?_
              simp only [Act.put, List.setIfInBounds_toArray, List.set_cons_zero, List.set_cons_succ]
              refine Ht.takeD 8 (i := 6) ⟨some 78, _, _, _, _, _⟩ (.pointer (some ⟨ny, 0, none⟩)) rfl (by kernel_rfl) (by kernel_rfl) (by decide) (by kernel_rfl) (by kernel_rfl) (by kernel_rfl) hS0 (Or.inl ⟨by rfl, by (intro X hX; go_simp)⟩) ?_
              simp only [Act.put, List.setIfInBounds_toArray, List.set_cons_zero, List.set_cons_succ]
              refine Ht.takeD 8 (i := 7) ⟨some 79, _, _, _, _, _⟩ (.pointer (some ⟨ny, 0, none⟩)) rfl (by kernel_rfl) (by kernel_rfl) (by decide) (by kernel_rfl) (by kernel_rfl) (by kernel_rfl) hS0 (Or.inl ⟨by rfl, by (intro X hX; go_simp)⟩) ?_
              simp only [Act.put, List.setIfInBounds_toArray, List.set_cons_zero, List.set_cons_succ]
              refine Ht.takeD 8 (i := 8) ⟨some 80, _, _, _, _, _⟩ (.int .i64 y.1) rfl (by kernel_rfl) (by kernel_rfl) (by decide) (by kernel_rfl) (by kernel_rfl) (by kernel_rfl) hS0 (Or.inl ⟨by rfl, by (intro X hX; have := bc hX ndZ; go_simp)⟩) ?_
              simp only [Act.put, List.setIfInBounds_toArray, List.set_cons_zero, List.set_cons_succ]
              refine Ht.step (i := 9) ⟨some 81, _, _, _, _, _⟩ rfl (by kernel_rfl) (by rfl) (fun K hK => ?_)
              refine Ht.enter 32 #[.pointer (some ⟨w.heap.size, 0, none⟩), .int .i64 y.1] (by have hen := fun args w => enters_of (P := Try.prog) Try.func32 (by kernel_rfl) rfl args w; go_simp) (hpu) ?_
              rintro e Q ⟨rfl, tv5, t5, f5, hb5⟩
              have p8 := (show Ob S w gb M ns E nb ob ub w.heap.size (w.heap.size + 1) Z.drew (ms ns (j + 1)) k tv3 [] (.slice a9 (j + 1) c9) (rl (j + 1)) from HZ.out.1.below ((Below.refl _ Z).drew)).setTree t5 f5 hb5
              have n1 : ¬ (ub (ci j) = w.heap.size ∨ tv3.ownBlock = some (ub (ci j))) := by
                have hul := HZ.out.2.2.2.2.2.1
                rintro (e | e)
                · omega
                · have := (own_obj HZ.out.1.tree.own e).1; omega
              have n2 : ¬ (r3 = w.heap.size ∨ tv3.ownBlock = some r3) := by
                obtain ⟨a, b, c, d, h3⟩ := rgs_obj HZ.out.2.1
                rintro (e | e)
                · rw [e, HZ.out.1.tree.box] at h3; cases h3
                · obtain ⟨_, cur, h2⟩ := own_obj HZ.out.1.tree.own e
                  rw [h3] at h2; cases h2
              have rg8 := HZ.out.2.1.kept (Y := Q) (f5.block _ (Nat.lt_of_lt_of_le HZ.out.2.2.2.2.2.1 HZ.out.1.b.size) n1) (f5.block _ HZ.out.2.1.lt n2)
              have H8 := Lib.hid (And.intro p8 rg8)
              clear p8 rg8 n1 n2 t5 f5 hb5
              refine ⟨_, rfl, hK _ _ (fun hn => absurd rfl hn) (fun hnx => ?_)⟩
              clear hK K hnx
              try simp only [Act.put, List.setIfInBounds_toArray, List.set_cons_zero, List.set_cons_succ]
              refine done (by kernel_rfl) ?_
              clear hS0 lkZ c0Z cAZ ndZ hpu lmZ
              go_wp2_with fail
              go_roundw
              case rel =>
                have hy1 : y.1 = ((j + 1 : Nat) : Int) := by rw [HZ.out.2.2.2.1]; rfl
                have p8 := H8.out.1
                rw [hy1] at p8
                refine ⟨es3 ++ [y], cnt5, tv5, ?_, H8.out.2⟩
                rw [HZ.out.2.2.2.2.1, if_neg (by simp)]
                exact p8
              case measure => rw [H8.out.2.left_eq, HL4.out]; exact HZ.out.2.2.1
        · have hje : j = k := by omega
          rw [if_neg hjk] at p ct
          rw [rl_len] at *
          have HPj := Lib.hid (And.intro p hje)
          clear p hjk hj hje
          go_wp2_with fail
          go_ret
          have p := HPj.out.1
          refine ⟨.slice a3 j c3, by simp, ?_, p.b⟩
          have h := p.row
          rw [rl_len] at h
          rw [← HPj.out.2, rl_len]; exact h
    · rintro ⟨y, v, w1, cnt1, hwy, hfy, hny, hrg1, hlt1, hg1, hs1⟩ hen
      dsimp only at hen ⊢
      have hyv : y ∈ ns ∧ v = .pointer (some ⟨nb y, 0, none⟩) := by
        have h1 := hfy
        unfold nf at h1
        by_cases e : y ∈ ns
        · rw [if_pos e] at h1; exact ⟨e, (Option.some.inj h1).symm⟩
        · rw [if_neg e] at h1; cases h1
      obtain ⟨hyn, rfl⟩ := hyv
      obtain ⟨i, hik, hyi⟩ := (H0.out.2.2.1.mem y).1 hyn
      have hy1 : y.1 = (i : Int) := by rw [hyi]; rfl
      have p1 := HP.out.but (rgs_obj hrg) (by omega) hg1
      have bA := below_new w1 (.cells #[kv y.1, .bool y.2] 44)
      have cA := cell_id w1 y
      obtain ⟨Y, hY⟩ : ∃ Y, Y = w1.alloc (.cells #[kv y.1, .bool y.2] 44) := ⟨_, rfl⟩
      rw [← hY] at bA cA
      have p2 := p1.below bA
      have hMl : M < w.heap.size := p2.small M (p2.q.ownM M rfl)
      have rgY := hrg1.kept (Y := Y) (bA.block _ (Nat.lt_of_lt_of_le hMl p1.b.size)) (bA.block _ hrg1.lt)
      obtain ⟨n0, hO⟩ := p2.q.on y hyn
      have hn0 : n0 = if i = 0 then 0 else 1 := H0.out.2.2.1.on_card hik (fun x hx => (p2.q.ok x hx).1) (hyi ▸ hO)
      have hl : ∀ X, Below Y.heap.size Y X → ∀ ty, (Builtin.len_ #[49] ty #[.map (some (ob y))]).run Try.prog X = .ok (.int .i64 (n0 : Nat)) X := fun X hX ty => hO.len kindS (hX.block _ hO.lt) ty
      have nd1 := (p2.q.nodeC hyn).2.1
      have hle : es.length ≤ 900000 := by
        have h1 : es.length ≤ ns.length := Mv.len_sub _ _ hrg.nodup fun x hx => by
          have := (hrg.mem hx).2
          unfold nf at this
          by_cases e : x ∈ ns
          · exact e
          · rw [if_neg e] at this; cases this
        have := H0.out.2.2.2.2.1; have := H0.out.2.2.2.2.2.1; omega
      obtain ⟨Z, hrZ, hmZ, gZ, sZ⟩ := Mv.Mp.put kindM (w := Y.drew) (p2.miss.kept rfl) (by unfold maxLen; omega) hwy (.int .i64 (n0 : Nat))
      rw [show (mf (ms1 es) y).isSome = false by rw [mf_some]; unfold ms1; rw [if_neg hny]; rfl] at hmZ
      have gZ' : Y.grownBy Z (some (w.heap.size + 1)) := ⟨gZ.os, gZ.tape, gZ.output, gZ.size, gZ.block⟩
      have hmZ' : Mi Z (w.heap.size + 1) (es ++ [y]).length (ms1 (es ++ [y])) := by
        show Mv.Mp Try.prog 44 ek wk Z (w.heap.size + 1) (es ++ [y]).length (mf (ms1 (es ++ [y])))
        rw [← ms1_upd, mf_upd, show (es ++ [y]).length = es.length + 1 by simp]
        rw [show (if 0 < y.1 then (1 : Int) else 0) = ((n0 : Nat) : Int) by
          rw [hn0, hy1]
          by_cases e : i = 0
          · subst e; simp
          · rw [if_neg e, if_pos (by omega)]; rfl]
        exact hmZ
      have p3 := p2.setMiss gZ' hmZ'
      have rgZ := rgY.kept (Y := Z) (gZ'.block M (Nat.lt_of_lt_of_le hMl p2.b.size) (fun e => by have := Option.some.inj e; omega)) (gZ'.block _ rgY.lt (fun e => by have := Option.some.inj e; omega))
      have ndZ := p3.q.nodeC hyn
      have hOZ := hO.kept (Y := Z) (gZ'.block _ hO.lt (fun e => by have h1 := p2.small _ (p2.q.ownN y hyn).2.1; have := Option.some.inj e; omega))
      have hlZ : ∀ ty, (Builtin.len_ #[49] ty #[.map (some (ob y))]).run Try.prog Z = .ok (.int .i64 (n0 : Nat)) Z := fun ty => hOZ.len kindS rfl ty
      have HY := Lib.hid (And.intro p3 (And.intro rgZ (And.intro hlt1 (And.intro hyi (And.intro hny (And.intro hMl hyn))))))
      have HN0 := Lib.hid hn0
      unfold ek kv at hen hrZ
      unfold ek
      unfold kv at cA hY ndZ ⊢
      clear p1 p2 p3 rgY rgZ hlt1 hny hMl hyn hmZ hmZ' gZ gZ' sZ hO hOZ hn0 hle hrg hrg1 hg1 hs1 hwy hfy hyi hy1 bA hik
      go_wp2_with fail
      rw [← hY]
      generalize w1.heap.size = J at *
      clear hY hen
      generalize nb y = ny at *
      generalize ob y = oy at *
      refine begin' 7 (fun ZZ => Below Y.heap.size Y ZZ) hmix ((Below.refl _ Y).drew) (fun hS0 => ?_)
      refine Ht.takeD 8 (i := 0) ⟨some 21, _, _, _, _, _⟩ (.map (some (w.heap.size + 1))) rfl (by kernel_rfl) (by kernel_rfl) (by decide) (by kernel_rfl) (by kernel_rfl) (by kernel_rfl) hS0 (Or.inl ⟨by rfl, by (intro X hX; go_simp)⟩) ?_
      simp only [Act.put, List.setIfInBounds_toArray, List.set_cons_zero, List.set_cons_succ]
      refine Ht.takeD 8 (i := 1) ⟨some 22, _, _, _, _, _⟩ (.agg #[.int .i64 y.1, .bool y.2]) rfl (by kernel_rfl) (by kernel_rfl) (by decide) (by kernel_rfl) (by kernel_rfl) (by kernel_rfl) hS0 (Or.inl ⟨by rfl, by (intro X hX; have := And.intro (bc hX cA.1) (bc hX cA.2); go_simp)⟩) ?_
      simp only [Act.put, List.setIfInBounds_toArray, List.set_cons_zero, List.set_cons_succ]
      refine Ht.takeD 8 (i := 2) ⟨some 23, _, _, _, _, _⟩ (.pointer (some ⟨ny, 0, none⟩)) rfl (by kernel_rfl) (by kernel_rfl) (by decide) (by kernel_rfl) (by kernel_rfl) (by kernel_rfl) hS0 (Or.inl ⟨by rfl, by (intro X hX; go_simp)⟩) ?_
      simp only [Act.put, List.setIfInBounds_toArray, List.set_cons_zero, List.set_cons_succ]
      refine Ht.takeD 8 (i := 3) ⟨some 24, _, _, _, _, _⟩ (.pointer (some ⟨ny, 0, none⟩)) rfl (by kernel_rfl) (by kernel_rfl) (by decide) (by kernel_rfl) (by kernel_rfl) (by kernel_rfl) hS0 (Or.inl ⟨by rfl, by (intro X hX; go_simp)⟩) ?_
      simp only [Act.put, List.setIfInBounds_toArray, List.set_cons_zero, List.set_cons_succ]
      refine Ht.takeD 8 (i := 4) ⟨some 25, _, _, _, _, _⟩ (.pointer (some ⟨ny, 1, none⟩)) rfl (by kernel_rfl) (by kernel_rfl) (by decide) (by kernel_rfl) (by kernel_rfl) (by kernel_rfl) hS0 (Or.inl ⟨by rfl, by (intro X hX; go_simp)⟩) ?_
      simp only [Act.put, List.setIfInBounds_toArray, List.set_cons_zero, List.set_cons_succ]
      refine Ht.takeD 8 (i := 5) ⟨some 26, _, _, _, _, _⟩ (.map (some oy)) rfl (by kernel_rfl) (by kernel_rfl) (by decide) (by kernel_rfl) (by kernel_rfl) (by kernel_rfl) hS0 (Or.inl ⟨by rfl, by (intro X hX; have := bc hX nd1; go_simp)⟩) ?_
      simp only [Act.put, List.setIfInBounds_toArray, List.set_cons_zero, List.set_cons_succ]
      refine Ht.takeD 8 (i := 6) ⟨some 27, _, _, _, _, _⟩ (.int .i64 ((n0 : Nat) : Int)) rfl (by kernel_rfl) (by kernel_rfl) (by decide) (by kernel_rfl) (by kernel_rfl) (by kernel_rfl) hS0 (Or.inl ⟨by rfl, by (intro X hX; have := hl X hX; go_simp)⟩) ?_
      simp only [Act.put, List.setIfInBounds_toArray, List.set_cons_zero, List.set_cons_succ]
      refine Ht.step (i := 7) ⟨none, _, _, _, _, _⟩ rfl (by kernel_rfl) (by rfl) (fun K hK => ?_)
      go_simp
      refine hK _ _ (fun hn => absurd rfl hn) (fun hnx => ?_)
      clear hK K hnx
      try simp only [Act.put, List.setIfInBounds_toArray, List.set_cons_zero, List.set_cons_succ]
      refine done (by kernel_rfl) ?_
      clear hS0 hrZ hl nd1 cA
      have hn0' := HN0.out
      clear HN0
      by_cases hi0 : i = 0
      · rw [if_pos hi0] at hn0'
        subst hn0'
        have htl : (if ci 0 ∈ es then [(0 : Int)] else []) = [] := by rw [if_neg (by have h1 := HY.out.2.2.2.2.1; have h2 := HY.out.2.2.2.1; rw [hi0] at h2; rw [← h2]; exact h1)]
        have p3 := HY.out.1
        rw [htl] at p3
        have hpu := push_any p3.tree p3.b.size y.1
        have HP3 := Lib.hid p3
        have HI := Lib.hid hi0
        unfold kv at hpu
        clear p3 hi0 htl
        go_wp2_with fail
        refine hpu.mono ?_
        rintro e Q ⟨rfl, tv2, t2, f2, hb2⟩
        have p4 := HP3.out.setTree t2 f2 hb2
        have nrM : ¬ (M = w.heap.size ∨ tv.ownBlock = some M) := by
          have hMl := HY.out.2.2.2.2.2.1
          rintro (e | e)
          · omega
          · have := (own_obj HP3.out.tree.own e).1; omega
        have nrr : ¬ (w.heap.size + 1 + 1 = w.heap.size ∨ tv.ownBlock = some (w.heap.size + 1 + 1)) := by
          rintro (e | e)
          · omega
          · obtain ⟨_, cur, h2⟩ := own_obj HP3.out.tree.own e
            obtain ⟨a, b, c, d, h3⟩ := rgs_obj HY.out.2.1
            rw [h3] at h2; cases h2
        have rg4 := HY.out.2.1.kept (Y := Q) (f2.block M (Nat.lt_of_lt_of_le HY.out.2.2.2.2.2.1 HP3.out.b.size) nrM) (f2.block _ HY.out.2.1.lt nrr)
        have H4 := Lib.hid (And.intro p4 rg4)
        clear p4 rg4 t2 f2 hb2 nrM nrr hpu hlZ ndZ
        go_wp2_with fail
        go_roundw
        case rel =>
          refine ⟨es ++ [y], cnt1, tv2, ?_, H4.out.2⟩
          have e0 : ci 0 ∈ es ++ [y] := by have h2 := HY.out.2.2.2.1; rw [HI.out] at h2; rw [← h2]; simp
          have e1 : y.1 = 0 := by have h2 := HY.out.2.2.2.1; rw [HI.out] at h2; rw [h2]; rfl
          have h4 := H4.out.1
          rw [e1] at h4
          rw [if_pos e0]; exact h4
        case measure => rw [H4.out.2.left_eq, HL.out]; exact HY.out.2.2.1
      · rw [if_neg hi0] at hn0'
        subst hn0'
        have HI := Lib.hid hi0
        clear hi0
        go_wp2_with fail
        go_roundw
        case rel =>
          refine ⟨es ++ [y], cnt1, tv, ?_, HY.out.2.1⟩
          have e0 : (ci 0 ∈ es ++ [y]) ↔ ci 0 ∈ es := by
            rw [List.mem_append, List.mem_singleton]
            refine or_iff_left fun e => ?_
            have h2 := HY.out.2.2.2.1
            rw [← e] at h2
            exact HI.out (ci_inj h2).symm
          have h3 := HY.out.1
          rw [show (if ci 0 ∈ es ++ [y] then [(0 : Int)] else []) = if ci 0 ∈ es then [0] else [] by simp only [e0]]
          exact h3
        case measure => rw [HY.out.2.1.left_eq, HL.out]; exact HY.out.2.2.1
end
end Go.Proofs.Ytmlmacplkfnhkaa.DgA

