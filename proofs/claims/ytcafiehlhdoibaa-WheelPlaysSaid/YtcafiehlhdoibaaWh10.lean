
/- wheels: Turn -/
import Derived.Test.YtcafiehlhdoibaaWh9
namespace Go.Proofs.Ytcafiehlhdoibaa.Wh
open Go.RowKit Go.Lib Go.Sort Go.Maps Hp Ht
set_option linter.unusedVariables false
set_option maxRecDepth 20000
theorem wp_delete {o : Oper} {a : Act} {W W' : World} {F : Act → World → Prop} {Q : Exit → Act → World → Prop} {v u v' : Value} (s x : Operand) (t tk : TypeId)
    (ho : o.op = .call { callee := .builtin .delete, args := #[s, x], argTypes := #[t, tk] }) (hs : a.eval s = v) (hx : a.eval x = u)
    (hr : (Builtin.delete_ #[t, tk] o.type #[v, u]).run Try.prog W = .ok v' W') (h : F (a.put o.dst v') W') : o.wp Try.prog a W F Q := by
  unfold Oper.wp execOp
  simp only [ho, resolve, invoke, builtin, Sem.run_bind, Sem.run_pure, Result.andThen_ok, List.map_toArray, List.map_cons, List.map_nil, hs, hx, hr]
  exact h
section
variable {S : Nat → Prop} {w : World} {wb ab : Nat} {sv : Nat → Option Nat} {now : Int} {most n : Nat} {f : K → Option Int}
theorem cells_one (V : World) (k : K) (t : Int) : ∀ j u, (cs [(k, t)])[j]? = some u → (V.alloc (.cells #[ek k, er t] 42)).cell? ((⟨V.heap.size, 0, none⟩ : Addr).add j) = some u := by
  intro j u hj
  match j, hj with
  | 0, hj | 1, hj =>
    simp [cs] at hj
    subst hj
    simp [Addr.add]
set_option maxHeartbeats 4000000 in
theorem turn_core (q : Wq S w wb ab sv now most n f f) (hn : n ≤ 400000) {to : Int} (hto : Tk to) (hle : now ≤ to) : Calls Try.prog 20 #[.pointer (some ⟨wb, 0, none⟩), .int .i64 to] w fun e w' =>
    ∃ v row sv' n' f' h' told ls X W0, e = .returned (.tuple #[v, .int .i64 0]) ∧ ls.Perm told ∧ Srt ls ∧ Src w' v ls ∧ Ls (dn now f (pc now to + 1)) row ∧ Tn S wb ab to most n f (frm now f (pc now to + 1)) row W0 row.length X sv' n' f' h' v told ∧ Fr (fun x => v.ownBlock = some x) X w' ∧ Fr S w W0 := by
  have hmix : Try.prog.follows .mixedOrders = true := by kernel_rfl
  have hp := passed_any q hn hto hle
  have c0 := q.cell.1
  have hto2 : to ≤ 1099511627776 := hto.2
  have HH := Lib.hid (And.intro q (And.intro hn hto))
  clear q hn hto
  go_enter Try.func20, Try.ntmps20
  go_wp2_with fail
  refine hp.mono ?_
  rintro e w1 ⟨v1, row, rfl, p⟩
  obtain ⟨q, hn, hto⟩ := HH.out
  clear HH hp
  have d0 := p.q.cell.1
  have fz := p.q.frozen 0
  obtain ⟨W0, hW0⟩ : ∃ W0, W0 = w1.setCell ⟨wb, 0, none⟩ (.int .i64 to) := ⟨_, rfl⟩
  obtain ⟨q2, fr2⟩ := p.q.setNow hto (fun k t e => by
    have := frm_some.1 e
    exact (pc_turn q.tick hto (q.okf k t this.1).2 hle (by omega)).2) hW0
  have R : Rw f (frm now f (pc now to + 1)) row := by
    refine ⟨p.row.1, fun k t e => (dn_some.1 ((p.row.2 k t).1 e)).1, fun k t e => (frm_some.1 e).1, fun k t e => ?_⟩
    have e1 := dn_some.1 ((p.row.2 k t).1 e)
    cases e2 : frm now f (pc now to + 1) k with
    | none => rfl
    | some t2 =>
      have e3 := frm_some.1 e2
      rw [e1.1] at e3
      have := Option.some.inj e3.1
      subst this
      omega
  have o0 : Own W0 w.heap.size v1 row := own_kept p.own fun b hb => by
    obtain ⟨_, _, cur, h3⟩ := own_cell p.own hb
    exact fr2.block b (own_cell p.own hb).2.1 (fun e => by
      have := q.size b e
      have := (own_cell p.own hb).1
      omega)
  have frw : Fr S w W0 := p.fr.trans fr2 fun x hx => .inl hx
  have T0 : Tn S wb ab to most n f (frm now f (pc now to + 1)) row W0 0 W0 sv n f (frm now f (pc now to + 1)) (.slice none 0 0) [] :=
    ⟨q2.min, fun x hx => .inl (q2.sub_own hx), ⟨rfl, .inl ⟨rfl, rfl⟩⟩, by simp, fun k t => by simp, fun k t => by simp, by simp, Fr.refl _ _⟩
  have hrl : row.length ≤ n := by
    obtain ⟨l, h1, h2⟩ := q.cnt
    rw [← h2]
    exact p.row.le h1 fun k t e => (dn_some.1 e).1
  obtain ⟨a1, k1, rfl⟩ := own_shape p.own
  obtain ⟨rn, hrn⟩ : ∃ rn, rn = row.length := ⟨_, rfl⟩
  have hS0 := q.size
  have HP := Lib.hid (And.intro p.row (And.intro R (And.intro o0 (And.intro frw (And.intro T0 (And.intro hrl (And.intro hn (And.intro hrn (And.intro q.okf hS0)))))))))
  clear q hn hto p q2 fr2 R o0 frw T0 hrl hS0 hle c0
  rw [← hrn]
  clear hrn
  go_wp2_with fail
  rw [← hW0]
  clear hW0 d0 fz hto2
  go_loopw [7, 31] (fun tv iv wr => ∃ v told j sv' n' f' h', v = tv ∧ iv = .int .i64 ((j : Nat) : Int) ∧ j ≤ rn ∧ Tn S wb ab to most n f (frm now f (pc now to + 1)) row W0 j wr sv' n' f' h' v told) (fun _ iv _ => rn - (RowKit.intOf iv).toNat)
  case atStart => exact ⟨_, [], 0, sv, n, f, _, rfl, rfl, Nat.zero_le _, HP.out.2.2.2.2.1⟩
  case round =>
    obtain ⟨v, told, j, sv', n', f', h', hv, hi, hj, T⟩ := hrel
    subst hv hi
    by_cases hjx : j < rn
    · obtain ⟨p1, R, o0, frw, T0, hrl, hn, hrn, okf, hS0⟩ := HP.out
      have hjr : j < row.length := by omega
      have hj4 : ((j : Nat) : Int) ≤ 1000000 := by omega
      have hor : Own wr w.heap.size (.slice a1 row.length k1) row := own_kept o0 fun b hb => by
        have h1 := own_cell o0 hb
        exact T.fr.block b h1.2.1 (fun e => by have := hS0 b e; omega)
      obtain ⟨g, hg, hcell⟩ : ∃ g, a1 = some ⟨g, 0, none⟩ ∧ (wr.cell? ⟨g, j * 2, none⟩ = some (ek (el row j).1) ∧ wr.cell? ⟨g, j * 2 + 1, none⟩ = some (er (el row j).2)) := by
        rcases src_own hor with ⟨h1, _⟩ | ⟨g, c, h1, h2⟩
        · rw [h1] at hjr; simp at hjr
        · cases h1
          exact ⟨g, rfl, h2 j hjr⟩
      subst hg
      obtain ⟨k1c, r1c⟩ := hcell
      obtain ⟨k, hk⟩ : ∃ k, k = (el row j).1 := ⟨_, rfl⟩
      obtain ⟨t, ht⟩ : ∃ t, t = (el row j).2 := ⟨_, rfl⟩
      obtain ⟨V, hV⟩ : ∃ V, V = wr.alloc (.cells #[.string ⟨k.toArray⟩, .int .i64 t] 42) := ⟨_, rfl⟩
      have hbV : Below wr.heap.size wr V := by rw [hV]; exact (Below.refl _ wr).alloc (Nat.le_refl _) _
      have TV := T.later hbV
      have oV : V.heap[wr.heap.size]? = some (.cells #[.string ⟨k.toArray⟩, .int .i64 t] 42 (0, 0)) := by rw [hV]; exact (MapKept.heap_alloc wr _).1
      have cV0 : V.cell? ⟨wr.heap.size, 0, none⟩ = some (.string ⟨k.toArray⟩) := by rw [cell_of_row _ _ _ _ _ _ oV]; rfl
      have cV1 : V.cell? ⟨wr.heap.size, 1, none⟩ = some (.int .i64 t) := by rw [cell_of_row _ _ _ _ _ _ oV]; rfl
      unfold ek at k1c
      unfold er at r1c
      rw [← hk] at k1c
      rw [← ht] at r1c
      have hjc : ((j : Nat) : Int) < ((rn : Nat) : Int) := by omega
      by_cases hlt : to < t
      · have hP := put_any TV.q (by have := TV.nn; omega) (k := k) (t := t) (by rw [hk, ht]; exact TV.there R hjr) (by rw [hk]; exact TV.fresh R hjr)
        unfold ek er at hP
        have HX := Lib.hid (And.intro TV (And.intro R (And.intro hjr (And.intro hk (And.intro ht (And.intro hlt (And.intro hj hjx)))))))
        clear TV T R hjr hor hk ht hbV p1 o0 frw T0 hrl hn hrn okf hS0 hj hjx oV
        go_wp2_with fail
        rw [← hV]
        refine hP.mono ?_
        rintro e w3 ⟨rfl, S3, sv3, q3, s3, f3⟩
        have HZ := Lib.hid (And.intro q3 (And.intro s3 f3))
        clear q3 s3 f3 hP hV cV0 cV1 k1c r1c
        go_wp2_with fail
        go_roundw
        case rel =>
          obtain ⟨TV, R, hjr, hk, ht, hlt, hj, hjx⟩ := HX.out
          obtain ⟨q3, s3, f3⟩ := HZ.out
          rw [hk, ht] at q3
          exact ⟨v, told, j + 1, sv3, n', f', _, rfl, by simp, hjx, TV.put R hjr (ht ▸ hlt) q3 s3 f3⟩
        case measure => have := HX.out.2.2.2.2.2.2; simp [RowKit.intOf]; omega
      · have hge : t ≤ to := by omega
        have hatd : Mq V.drew ab n' f' := TV.q.at'.kept rfl
        have hth : f' k = some t := by rw [hk, ht]; exact TV.there R hjr
        obtain ⟨V3, run3, hM3, hg3⟩ := hatd.drop kindA (k := k) (by exact (TV.q.okf k t hth).1) (by rw [hth]; rfl) 0
        have hg3' : V.grownBy V3 (some ab) := ⟨hg3.os, hg3.tape, hg3.output, hg3.size, hg3.block⟩
        have cA := TV.q.cell.2.2.1
        have hrlt : wr.heap.size < V.heap.size := by rw [hV]; simp
        have o3 : V3.heap[wr.heap.size]? = some (.cells #[.string ⟨k.toArray⟩, .int .i64 t] 42 (0, 0)) := (hg3'.block _ hrlt (fun e => TV.q.not_row oV (.inr (.inl (Option.some.inj e))))).trans oV
        have c30 : V3.cell? ⟨wr.heap.size, 0, none⟩ = some (.string ⟨k.toArray⟩) := by rw [cell_of_row _ _ _ _ _ _ o3]; rfl
        have c31 : V3.cell? ⟨wr.heap.size, 1, none⟩ = some (.int .i64 t) := by rw [cell_of_row _ _ _ _ _ _ o3]; rfl
        have ho3 : Own V3 W0.heap.size v told := own_kept TV.own fun b hb => hg3'.block b (own_cell TV.own hb).2.1 (fun e => by
          obtain ⟨_, _, cur, h3⟩ := own_cell TV.own hb
          exact TV.q.not_row h3 (.inr (.inl (Option.some.inj e))))
        have htl : told.length ≤ 1000000 := by have := TV.nn; omega
        have hz3 : W0.heap.size ≤ V3.heap.size := Nat.le_trans TV.fr.size hg3'.size
        have hV3lt : wr.heap.size < V3.heap.size := Nat.lt_of_lt_of_le hrlt hg3'.size
        have HX := Lib.hid (And.intro TV (And.intro R (And.intro hjr (And.intro hk (And.intro ht (And.intro hge (And.intro hM3 (And.intro hg3' (And.intro ho3 (And.intro htl (And.intro hz3 (And.intro hj hjx))))))))))))
        have HR := Lib.hid run3
        clear TV T R hjr hor hk ht hbV p1 o0 frw T0 hrl hn hrn okf hS0 hj hjx oV hatd hth run3 hM3 hg3 hg3' o3 ho3 htl hz3
        unfold ek at HR
        go_wp2_with fail
        rw [← hV]
        clear hV
        refine begin' 99 (fun _ => True) hmix trivial (fun _ => ?_)
        refine later [6] (fun X => X.cell? ⟨wb, 2, none⟩ = some (.map (some ab)) ∧ X.cell? ⟨wr.heap.size, 0, none⟩ = some (.string ⟨k.toArray⟩)) (⟨cA, cV0⟩) (fun hS0 => ?_)
        refine Ht.takeS 10 (i := 0) ⟨some 42, _, _, _, _, _⟩ (.pointer (some ⟨wb, 0, none⟩)) rfl (by kernel_rfl) (by kernel_rfl) (by kernel_rfl) (by kernel_rfl) (by kernel_rfl) hS0 (Or.inl ⟨by rfl, by (intro X hX; go_simp)⟩) ?_
        simp only [Act.put, List.setIfInBounds_toArray, List.set_cons_zero, List.set_cons_succ]
        refine Ht.takeS 10 (i := 1) ⟨some 43, _, _, _, _, _⟩ (.pointer (some ⟨wb, 0, none⟩)) rfl (by kernel_rfl) (by kernel_rfl) (by kernel_rfl) (by kernel_rfl) (by kernel_rfl) hS0 (Or.inl ⟨by rfl, by (intro X hX; have := hX.1; go_simp)⟩) ?_
        simp only [Act.put, List.setIfInBounds_toArray, List.set_cons_zero, List.set_cons_succ]
        refine Ht.takeS 10 (i := 2) ⟨some 44, _, _, _, _, _⟩ (.pointer (some ⟨wb, 2, none⟩)) rfl (by kernel_rfl) (by kernel_rfl) (by kernel_rfl) (by kernel_rfl) (by kernel_rfl) hS0 (Or.inl ⟨by rfl, by (intro X hX; go_simp)⟩) ?_
        simp only [Act.put, List.setIfInBounds_toArray, List.set_cons_zero, List.set_cons_succ]
        refine Ht.takeS 10 (i := 3) ⟨some 45, _, _, _, _, _⟩ (.map (some ab)) rfl (by kernel_rfl) (by kernel_rfl) (by kernel_rfl) (by kernel_rfl) (by kernel_rfl) hS0 (Or.inl ⟨by rfl, by (intro X hX; have := hX.1; go_simp)⟩) ?_
        simp only [Act.put, List.setIfInBounds_toArray, List.set_cons_zero, List.set_cons_succ]
        refine Ht.takeS 10 (i := 4) ⟨some 46, _, _, _, _, _⟩ (.pointer (some ⟨wr.heap.size, 0, none⟩)) rfl (by kernel_rfl) (by kernel_rfl) (by kernel_rfl) (by kernel_rfl) (by kernel_rfl) hS0 (Or.inl ⟨by rfl, by (intro X hX; go_simp)⟩) ?_
        simp only [Act.put, List.setIfInBounds_toArray, List.set_cons_zero, List.set_cons_succ]
        refine Ht.takeS 10 (i := 5) ⟨some 47, _, _, _, _, _⟩ (.string ⟨k.toArray⟩) rfl (by kernel_rfl) (by kernel_rfl) (by kernel_rfl) (by kernel_rfl) (by kernel_rfl) hS0 (Or.inl ⟨by rfl, by (intro X hX; have := hX.2; go_simp)⟩) ?_
        simp only [Act.put, List.setIfInBounds_toArray, List.set_cons_zero, List.set_cons_succ]
        refine Ht.stepS (i := 6) ⟨none, _, _, _, _, _⟩ rfl (by kernel_rfl) (by rfl) (fun K hK => ?_)
        refine wp_delete _ _ _ _ rfl rfl rfl (by have := HR.out; exact this) ?_
        refine hK _ _ (fun hn => absurd (by decide) hn) (fun hnx => ?_)
        clear hK K hnx cA cV0 cV1 hS0
        try simp only [Act.put]
        refine doneS (by kernel_rfl) ?_
        have hcs := cells_one V3 k t
        have HC := Lib.hid hcs
        clear hcs
        unfold ek er at HC
        go_wp2_with (first
          | (at_builtin; refine wpList_push _ rfl _ _ rfl W0.heap.size v told rfl (HX.out.2.2.2.2.2.2.2.2.1.alloc _) HX.out.2.2.2.2.2.2.2.2.2.1 ⟨V3.heap.size, 0, none⟩ 1 k t rfl HC.out (by have := HX.out.2.2.2.2.2.2.2.2.2.2.1; simp; omega) ?_; intro v9 w9 ho9 hg9)
          | go_in)
        obtain ⟨TV, R, hjr, hk, ht, hge, hM3, hg3, ho3, htl, hz3, hj, hjx⟩ := HX.out
        have hgA : V3.grownBy (V3.alloc (.cells #[.string ⟨k.toArray⟩, .int .i64 t] 42)) none := World.grownBy_alloc V3 _ none
        have hg2 : V3.grownBy w9 v.ownBlock := (hgA.but v.ownBlock).trans hg9
        go_roundw
        case rel => exact ⟨_, told ++ [(k, t)], j + 1, sv', n' - 1, del f' k, h', rfl, by simp, hjx, by
          have hx : (k, t) = el row j := by rw [hk, ht]
          rw [hx] at ho9 ⊢
          rw [hk] at hM3 ⊢
          exact TV.cut R hjr (ht ▸ hge) hM3 hg3 ho9 hg2⟩
        case measure => have := HX.out.2.2.2.2.2.2.2.2.2.2.2; simp [RowKit.intOf]; omega
    · have hje : j = rn := by omega
      subst hje
      obtain ⟨p1, R, o0, frw, T0, hrl, hn, hrn, okf, hS0⟩ := HP.out
      have htl : told.length ≤ 1000000 := by have := T.nn; omega
      have hS := sort_any wr T.own T.fr.size htl
      obtain ⟨a2, k2, rfl⟩ := own_shape T.own
      have HX := Lib.hid (And.intro T (And.intro p1 (And.intro frw hrn)))
      clear T R p1 o0 frw T0 hrl hn hrn okf hS0 htl
      generalize told.length = tl at *
      go_wp2_with fail
      refine hS.mono ?_
      rintro e w3 ⟨rfl, ls, s1, s2, s3, s4⟩
      have HZ := Lib.hid (And.intro s1 (And.intro s2 (And.intro s3 s4)))
      clear s1 s2 s3 s4 hS
      go_wp2_with fail
      refine bodyPost_ret (results_tmp2 rfl _ _ _) rfl ?_
      obtain ⟨T, p1, frw, hrn⟩ := HX.out
      obtain ⟨s1, s2, s3, s4⟩ := HZ.out
      rw [hrn] at T
      exact ⟨_, row, sv', n', f', h', told, ls, _, W0, by simp, s1, s2, s3, p1, T, s4, frw⟩
end
end Go.Proofs.Ytcafiehlhdoibaa.Wh
