
/- the law's same; rows joined; a wheel's copy -/
import Derived.Test.YtcafiehlhdoibaaWh19
import Derived.Test.YtcafiehlhdoibaaWh14
namespace Go.Proofs.Ytcafiehlhdoibaa.Wh
open Go.RowKit Go.Lib Go.Sort Go.Maps Hp Ht
set_option linter.unusedVariables false
set_option maxRecDepth 20000
theorem neq_same (W : World) (k : K) (t : Int) : (binOp .neq 42 (.agg #[.string ⟨k.toArray⟩, .int .i64 t]) (.agg #[.string ⟨k.toArray⟩, .int .i64 t])).run Try.prog W = .ok (.bool false) W := by
  go_simp
theorem same_any (X : World) {va vb : Value} {l : List (K × Int)} (ha : Src X va l) (hb : Src X vb l) (hl : l.length ≤ 1000000) :
    Calls Try.prog 17 #[va, vb] X fun e Y => e = .returned (.bool true) ∧ ∃ d, Y = X.drewN d := by
  obtain ⟨a1, c1, rfl⟩ := ha.shape
  obtain ⟨a2, c2, rfl⟩ := hb.shape
  obtain ⟨n, hn⟩ : ∃ n, n = l.length := ⟨_, rfl⟩
  have HS := Lib.hid (And.intro ha (And.intro hb (And.intro hl hn)))
  rw [← hn]
  clear ha hb hl hn
  go_enter Try.func17, Try.ntmps17
  go_wp2_with fail
  go_loopw [13] (fun cv wr => ∃ (i d : Nat), cv = .int .i64 ((i : Nat) : Int) ∧ i ≤ n ∧ wr = X.drewN d) (fun cv _ => n - (RowKit.intOf cv).toNat)
  case atStart => exact ⟨0, 0, rfl, Nat.zero_le _, rfl⟩
  case round =>
    obtain ⟨i, d, hcv, hin, hwr⟩ := hrel
    subst hcv
    by_cases hix : i < n
    · obtain ⟨ha, hb, hl, hn⟩ := HS.out
      have hil : i < l.length := by omega
      obtain ⟨g1, e1, k1, t1⟩ : ∃ g, a1 = some ⟨g, 0, none⟩ ∧ X.cell? ⟨g, i * 2, none⟩ = some (ek (el l i).1) ∧ X.cell? ⟨g, i * 2 + 1, none⟩ = some (er (el l i).2) := by
        rcases ha with ⟨h1, _⟩ | ⟨g, c, h1, h2⟩
        · rw [h1] at hil; simp at hil
        · cases h1; exact ⟨g, rfl, h2 i hil⟩
      obtain ⟨g2, e2, k2, t2⟩ : ∃ g, a2 = some ⟨g, 0, none⟩ ∧ X.cell? ⟨g, i * 2, none⟩ = some (ek (el l i).1) ∧ X.cell? ⟨g, i * 2 + 1, none⟩ = some (er (el l i).2) := by
        rcases hb with ⟨h1, _⟩ | ⟨g, c, h1, h2⟩
        · rw [h1] at hil; simp at hil
        · cases h1; exact ⟨g, rfl, h2 i hil⟩
      subst e1 e2
      have f1 : wr.cell? ⟨g1, i * 2, none⟩ = some (ek (el l i).1) := by rw [hwr]; exact k1
      have f2 : wr.cell? ⟨g1, i * 2 + 1, none⟩ = some (er (el l i).2) := by rw [hwr]; exact t1
      have f3 : wr.cell? ⟨g2, i * 2, none⟩ = some (ek (el l i).1) := by rw [hwr]; exact k2
      have f4 : wr.cell? ⟨g2, i * 2 + 1, none⟩ = some (er (el l i).2) := by rw [hwr]; exact t2
      have hq : ∀ m, wr.drewN m = X.drewN (d + m) := fun m => by rw [hwr]; simp [World.drewN, Nat.add_assoc]
      have HQ := Lib.hid hq
      generalize (el l i).1 = k at *
      generalize (el l i).2 = t at *
      have hnq := fun W => neq_same W k t
      have hic : ((i : Nat) : Int) < ((n : Nat) : Int) := by omega
      have hi0 : (0 : Int) ≤ ((i : Nat) : Int) := by omega
      have hi4 : ((i : Nat) : Int) ≤ 1000000 := by omega
      have HI := Lib.hid hix
      unfold ek er at *
      clear ha hb hl hn hil k1 k2 t1 t2 hin hix hq hwr
      go_wp2_with fail
      go_quiet (fail)
      go_wp2_with fail
      go_roundw
      case rel => exact ⟨i + 1, _, by simp, HI.out, HQ.out _⟩
      case measure => have := HI.out; simp [RowKit.intOf]; omega
    · have hie : n = i := by omega
      subst hie
      go_wp2_with fail
      go_ret
      exact ⟨by simp, d, rfl⟩
/-- 'append(row, timers...)' -/
theorem run_push_all (X : World) {B : Nat} {u v : Value} {l0 l : List (K × Int)} (hu : Own X B u l0) (h : Src X v l) (hB : B ≤ X.heap.size) (hl0 : l0.length ≤ 1000000) (hl : l.length ≤ 1000000) (ty : TypeId) :
    ∃ v2 X2, (Builtin.append_ #[29, 29] ty #[u, v]).run Try.prog X = .ok v2 X2 ∧ Own X2 B v2 (l0 ++ l) ∧ Below B X X2 := by
  obtain ⟨i0, hi0, hz0, hz1, hz2⟩ := info_parts infoT
  rcases h with ⟨rfl, rfl⟩ | ⟨g, c, rfl, hc⟩
  · exact ⟨u, X, run_append_owned_none X B 29 ty 42 i0 2 Try.underlying29 hi0 u _ _ hu, by rw [List.append_nil]; exact hu, Below.refl _ _⟩
  · have hcs : ∀ j w, (cs l)[j]? = some w → X.cell? ((⟨g, 0, none⟩ : Addr).add j) = some w := by
      intro j w hj
      have hjl : j < l.length * 2 := by
        have := (List.getElem?_eq_some_iff.1 hj).1
        rwa [cs_len] at this
      have h2 := cs_get l (j / 2) (by omega)
      have h3 := hc (j / 2) (by omega)
      rw [Addr.add_mid, Nat.zero_add, ← hj]
      rcases Nat.mod_two_eq_zero_or_one j with e | e
      · rw [show j = j / 2 * 2 by omega, h2.1]; exact h3.1
      · rw [show j = j / 2 * 2 + 1 by omega, h2.2]; exact h3.2
    obtain ⟨v2, X2, r2, o2, g2, _⟩ := run_append_own (P := Try.prog) X B 29 ty 42 i0 _ 2 24 Try.underlying29 hi0 hz0 hz1 hz2 rfl (by decide) _ l0.length (cs l0) hu ⟨g, 0, none⟩ l.length c (cs l) (cs_len l) hcs (cs_one l) (by unfold maxLen; omega) (by omega) hB
    refine ⟨v2, X2, r2, ?_, ⟨g2.os, g2.tape, g2.output, g2.size, fun k hk => g2.block k (by omega) (fun e => by have := (hu.lt k e.symm).1; omega)⟩⟩
    unfold Own
    rw [cs_app, List.length_append]; exact o2
section
variable {B : Nat} {N : Nat → Prop} {X : World} {wb : Nat} {now : Int} {most : Nat} {m : List (K × Int)}
theorem Ow.to {N' : Nat → Prop} (h : Ow B N X wb now most m) (hN : ∀ x, B ≤ x → ¬ N x → x < X.heap.size → ¬ N' x) : Ow B N' X wb now most m := by
  obtain ⟨S, q, hs⟩ := h
  exact ⟨S, q, fun x hx => ⟨(hs x hx).1, hN x (hs x hx).1 (hs x hx).2 (q.size x hx)⟩⟩
theorem Ow.keep {P : Nat → Prop} {Y : World} (h : Ow B N X wb now most m) (f : Fr P X Y) (hd : ∀ x, B ≤ x → ¬ N x → x < X.heap.size → ¬ P x) : Ow B N Y wb now most m := by
  obtain ⟨S, q, hs⟩ := h
  exact ⟨S, q.kept f.size fun k hk => f.block k (q.size k hk) (hd k (hs k hk).1 (hs k hk).2 (q.size k hk)), hs⟩
theorem Ow.copy (h : Ow B N X wb now most m) (hm : m.length ≤ 400000) : Calls Try.prog 22 #[.pointer (some ⟨wb, 0, none⟩)] X fun e Y =>
    ∃ wb2, e = .returned (.pointer (some ⟨wb2, 0, none⟩)) ∧ Ow B (fun x => N x ∨ (X.heap.size ≤ x ∧ x < Y.heap.size)) Y wb now most m ∧ Ow X.heap.size (fun _ => False) Y wb2 now most m ∧ Below X.heap.size X Y := by
  obtain ⟨S, q, hs⟩ := h
  refine (copy_any q hm).mono ?_
  rintro e Y ⟨wb2, S', rfl, q', hs', b⟩
  exact ⟨wb2, rfl, (Ow.more ⟨S, q, hs⟩ b (N' := fun x => X.heap.size ≤ x ∧ x < Y.heap.size) fun x e => e.1), ⟨S', q', fun x hx => ⟨hs' x hx, fun e => e⟩⟩, b⟩
theorem Ow.at' (h : Ow B N X wb now most m) {f : K → Option Int} (hf : Ls f m) {k : K} (hk : wk k) : Calls Try.prog 15 #[.pointer (some ⟨wb, 0, none⟩), ek k] X fun e w' => e = .returned (.tuple #[.int .i64 ((f k).getD 0), .bool (f k).isSome]) ∧ w' = X := by
  obtain ⟨S, q, hs⟩ := h
  exact at_any q hf hk
end
/-- a name, as it is written in the law's midst -/
theorem name_cv (i : Nat) (hi : i < 100) : ∃ a1 a2 A1 A2 : Int, ((i : Nat) : Int).tdiv 10 = a1 ∧ ((i : Nat) : Int).tmod 10 = a2 ∧ wrap64 a1 = a1 ∧ wrap64 a2 = a2 ∧ IntKind.u8.wrap a1 = a1 ∧ IntKind.u8.wrap a2 = a2 ∧ 97 + a1 = A1 ∧ 97 + a2 = A2 ∧ IntKind.u8.wrap A1 = A1 ∧ IntKind.u8.wrap A2 = A2 ∧
    ∀ w : World, (convert 51 9 (.slice (some ⟨w.heap.size, 0, none⟩) 2 2)).run Try.prog (w.alloc (.cells #[.int .u8 A1, .int .u8 A2] 5)) = .ok (.string ⟨(nm i).toArray⟩) (w.alloc (.cells #[.int .u8 A1, .int .u8 A2] 5)) := by
  have q1 : ((i : Nat) : Int).tdiv 10 = ((i / 10 : Nat) : Int) := by rw [Int.tdiv_eq_ediv_of_nonneg (by omega)]; omega
  have q2 : ((i : Nat) : Int).tmod 10 = ((i % 10 : Nat) : Int) := by rw [Int.tmod_eq_emod_of_nonneg (by omega)]; omega
  have b1 : i / 10 < 10 := by omega
  have b2 : i % 10 < 10 := by omega
  refine ⟨((i / 10 : Nat) : Int), ((i % 10 : Nat) : Int), 97 + ((i / 10 : Nat) : Int), 97 + ((i % 10 : Nat) : Int), q1, q2, by unfold wrap64; omega, by unfold wrap64; omega, IntWalk.u8_in _ (by omega), IntWalk.u8_in _ (by omega), rfl, rfl, IntWalk.u8_in _ (by omega), IntWalk.u8_in _ (by omega), fun w => ?_⟩
  have hn : nm i = [UInt8.ofNat (97 + i / 10), UInt8.ofNat (97 + i % 10)] := rfl
  rw [hn]
  obtain ⟨c1, hc1⟩ : ∃ c, c = UInt8.ofNat (97 + i / 10) := ⟨_, rfl⟩
  obtain ⟨c2, hc2⟩ : ∃ c, c = UInt8.ofNat (97 + i % 10) := ⟨_, rfl⟩
  rw [← hc1, ← hc2]
  have e1 : 97 + ((i / 10 : Nat) : Int) = ((c1.toNat : Nat) : Int) := by rw [hc1, UInt8.toNat_ofNat']; omega
  have e2 : 97 + ((i % 10 : Nat) : Int) = ((c2.toNat : Nat) : Int) := by rw [hc2, UInt8.toNat_ofNat']; omega
  rw [e1, e2]
  refine run_convert_bytes_back (w.alloc (.cells #[.int .u8 ((c1.toNat : Nat) : Int), .int .u8 ((c2.toNat : Nat) : Int)] 5)) 51 9 5 ⟨w.heap.size, 0, none⟩ 2 [c1, c2] Try.underlying51 Try.underlying5 Try.underlying9 (fun j hj => ?_)
  match j, hj with
  | 0, _ | 1, _ =>
    simp only [Addr.add]
    simp
theorem wp_append' {o : Oper} {a : Act} {W W' : World} {F : Act → World → Prop} {Q : Exit → Act → World → Prop} {v u v' : Value} (s x : Operand) (t : TypeId)
    (ho : o.op = .call { callee := .builtin .append, args := #[s, x], argTypes := #[t, t] }) (hs : a.eval s = v) (hx : a.eval x = u)
    (hr : (Builtin.append_ #[t, t] o.type #[v, u]).run Try.prog W = .ok v' W') (h : F (a.put o.dst v') W') : o.wp Try.prog a W F Q := by
  unfold Oper.wp execOp
  simp only [ho, resolve, invoke, builtin, Sem.run_bind, Sem.run_pure, Result.andThen_ok, List.map_toArray, List.map_cons, List.map_nil, hs, hx, hr]
  exact h
/-- two turns tell what one tells -/
theorem srt_join {x y z m : List (K × Int)} {s t : Int} (hst : s ≤ t) (hx : x.Perm (m.filter fun p => decide (p.2 ≤ s))) (hy : y.Perm ((m.filter fun p => decide (s < p.2)).filter fun p => decide (p.2 ≤ t))) (hz : z.Perm (m.filter fun p => decide (p.2 ≤ t))) (sx : Srt x) (sy : Srt y) (sz : Srt z) : z = x ++ y := by
  refine srt_unique sz ?_ ?_
  · intro i j hij hj
    rw [List.length_append] at hj
    have hel : ∀ k, k < x.length → el (x ++ y) k = el x k := fun k hk => by unfold el; rw [List.getD_eq_getElem?_getD, List.getD_eq_getElem?_getD, List.getElem?_append_left hk]
    have her : ∀ k, x.length ≤ k → el (x ++ y) k = el y (k - x.length) := fun k hk => by unfold el; rw [List.getD_eq_getElem?_getD, List.getD_eq_getElem?_getD, List.getElem?_append_right hk]
    by_cases h1 : j < x.length
    · rw [hel i (by omega), hel j h1]; exact sx i j hij h1
    · by_cases h2 : i < x.length
      · rw [hel i h2, her j (by omega)]
        have e1 := (List.mem_filter.1 (hx.mem_iff.1 (el_mem h2))).2
        have e2 := (List.mem_filter.1 (List.mem_filter.1 (hy.mem_iff.1 (el_mem (show j - x.length < y.length by omega)))).1).2
        simp only [decide_eq_true_eq] at e1 e2
        rw [ltp_false]
        omega
      · rw [her i (by omega), her j (by omega)]
        exact sy _ _ (by omega) (by omega)
  · refine hz.trans (List.Perm.trans ?_ (hx.append hy).symm)
    have h := (List.filter_append_perm (fun p : K × Int => decide (p.2 ≤ s)) (m.filter fun p => decide (p.2 ≤ t))).symm
    have e1 : ((m.filter fun p => decide (p.2 ≤ t)).filter fun p => decide (p.2 ≤ s)) = m.filter fun p => decide (p.2 ≤ s) := by
      rw [List.filter_filter]
      congr 1
      funext p
      by_cases h1 : p.2 ≤ s
      · simp [h1]; omega
      · simp [h1]
    have e2 : ((m.filter fun p => decide (p.2 ≤ t)).filter fun p => !decide (p.2 ≤ s)) = (m.filter fun p => decide (s < p.2)).filter fun p => decide (p.2 ≤ t) := by
      rw [List.filter_filter, List.filter_filter]
      congr 1
      funext p
      by_cases h1 : p.2 ≤ s
      · have h3 : ¬ s < p.2 := by omega
        simp [h1, h3]
      · have h3 : s < p.2 := by omega
        simp [h1, h3]
    rw [e1, e2] at h
    exact h
theorem left_same (m : List (K × Int)) {s t : Int} (hst : s ≤ t) : ((m.filter fun p => decide (s < p.2)).filter fun p => decide (t < p.2)) = m.filter fun p => decide (t < p.2) := by
  rw [List.filter_filter]
  congr 1
  funext p
  by_cases h1 : t < p.2
  · have h3 : s < p.2 := by omega
    simp [h1, h3]
  · simp [h1]
end Go.Proofs.Ytcafiehlhdoibaa.Wh
