
/- WheelPlays: a copy that is turned -/
import Derived.Test.YtcafiehlhdoibaaWh25
import Derived.Test.YtcafiehlhdoibaaWh21
namespace Go.Proofs.Ytcafiehlhdoibaa.Wh
open Go.RowKit Go.Lib Go.Sort Go.Maps Hp Ht
set_option linter.unusedVariables false
set_option maxRecDepth 20000
set_option maxHeartbeats 8000000 in
theorem do_copy {B : Nat} {N : Nat → Prop} {X : World} {wb mb : Nat} {lv : Value} {most : Nat} {now : Int} {m : List (K × Int)} (h : Pl B N X wb mb lv most now m now m) (hB : B ≤ X.heap.size) (hN : ∀ x, N x → x < X.heap.size) (hm : m.length ≤ 100) {k : K} (hk : wk k) {kind ticks : Int} (hkind : ¬ kind = 0 ∧ ¬ kind = 1 ∧ ¬ kind = 2 ∧ ¬ kind = 3 ∧ ¬ kind = 4)
    (ht : -1125899906842624 ≤ ticks ∧ ticks ≤ 1125899906842624) (hmost : 1 ≤ most ∧ most ≤ 65536) :
    Calls Try.prog 9 #[.pointer (some ⟨wb, 0, none⟩), .pointer (some ⟨mb, 0, none⟩), .agg #[.int .i64 kind, ek k, .int .i64 ticks]] X (Done B N X wb mb most m) := by
  have hmix : Try.prog.follows .mixedOrders = true := by kernel_rfl
  obtain ⟨z, hz, hF⟩ := find_is h.w.nd (by omega) k
  obtain ⟨la, lc, rfl⟩ := own_shape h.r
  obtain ⟨lv, hlv⟩ : ∃ lv, lv = Value.slice la m.length lc := ⟨_, rfl⟩
  obtain ⟨n, hn⟩ : ∃ n, n = m.length := ⟨_, rfl⟩
  obtain ⟨V, hV⟩ : ∃ V, V = X.alloc (.cells #[.int .i64 kind, .string ⟨k.toArray⟩, .int .i64 ticks] 33) := ⟨_, rfl⟩
  obtain ⟨ab, hab⟩ : ∃ ab, ab = X.heap.size := ⟨_, rfl⟩
  have hbV : Below X.heap.size X V := by rw [hV]; exact (Below.refl _ _).alloc (Nat.le_refl _) _
  have hA : V.heap[ab]? = some (.cells #[.int .i64 kind, .string ⟨k.toArray⟩, .int .i64 ticks] 33 (0, 0)) := by rw [hV, hab]; exact (MapKept.heap_alloc _ _).1
  have p := h.also (N' := fun x => x = ab) hbV (fun x e => by omega)
  have a0 : V.cell? ⟨ab, 0, none⟩ = some (.int .i64 kind) := by rw [cell_of_row _ _ _ _ _ _ hA]; rfl
  have a1 : V.cell? ⟨ab, 1, none⟩ = some (.string ⟨k.toArray⟩) := by rw [cell_of_row _ _ _ _ _ _ hA]; rfl
  have a2 : V.cell? ⟨ab, 2, none⟩ = some (.int .i64 ticks) := by rw [cell_of_row _ _ _ _ _ _ hA]; rfl
  have c0 := p.cells.1
  have c1 := p.cells.2.1
  have c2 := p.cells.2.2.1
  have hF2 : ∀ W, W.heap = V.heap → Calls Try.prog 16 #[.slice la m.length lc, .string ⟨k.toArray⟩] W fun e Y => e = .returned (.int .i64 z) ∧ Y = W := fun W e => hF W _ ((src_own p.r).kept fun _ _ _ _ => by rw [e])
  have htk := h.w.tk
  have hT0 : -1125899906842624 ≤ now + ticks ∧ now + ticks ≤ 2251799813685248 := by have := htk.1; have := htk.2; unfold MT at *; omega
  obtain ⟨T, hT⟩ : ∃ T, T = now + ticks := ⟨_, rfl⟩
  have hw1 : IntKind.i64.wrap (now + ticks) = T := by rw [IntWalk.i64_in, hT] <;> omega
  have hw2 : wrap64 (now + ticks) = T := by rw [hT]; unfold wrap64; omega
  rw [← hT] at hT0
  have hsz : V.heap.size = X.heap.size + 1 := by rw [hV]; simp
  rw [← hn] at h p
  have H0 := Lib.hid (And.intro h (And.intro p (And.intro hbV (And.intro hz (And.intro hn (And.intro hsz (And.intro hA htk)))))))
  rw [← hn] at hF2 c2
  have HZ := Lib.hid (And.intro hT hab)
  clear h p hF hn hA hlv hbV hz hT htk
  unfold ek
  go_enter Try.func9, Try.ntmps9
  go_wp2_with fail
  rw [← hV, ← hab]
  clear hV hab
  go_quiet ((go_at_call 16; exact Calls.quiet_of_same (hF2 _ (by simp))))
  
  go_wp2_with fail
  go_quiet (fail)
  rename_i q1 _ _
  obtain ⟨k0, k1, k2, k3, k4⟩ := hkind
  obtain ⟨h, p, hbV, hz, hn, hsz, hA, htk⟩ := H0.out
  have hAd := (p.old (below_drewN V (q1 + nq))).copy (by omega)
  have hok := p.w.ok
  have HB := Lib.hid (And.intro h (And.intro hbV (And.intro hm (And.intro htk (And.intro hok hmost)))))
  clear H0 p hbV hz hn hA htk h hF2 hw1 hw2 hsz HZ hok hm hmost hT0
  go_wp2_with fail
  refine hAd.mono ?_
  rintro e W2 ⟨wb2, rfl, o2, b2⟩
  have hAd2 := o2.turn b2.size (fun x e => e.elim) (by have := HB.out.2.2.1; omega) (to := 1099511627776) ⟨by omega, by unfold MT; omega⟩ (by have := HB.out.2.2.2.1.2; unfold MT at this; omega)
  have H2 := Lib.hid b2
  clear o2 b2 hAd a0 a1 a2 c0 c1 c2
  go_wp2_with fail
  refine hAd2.mono ?_
  rintro e W3 ⟨gv, ls, rfl, _, _, _, n3, o3, f3⟩
  have e3 : (m.filter fun x => decide ((1099511627776 : Int) < x.2)) = [] := by
    rw [List.filter_eq_nil_iff]
    intro x hx
    have := (HB.out.2.2.2.2.1 x hx).2.2
    unfold MT at this
    simp only [decide_eq_true_eq]; omega
  rw [e3] at o3
  have b3 := f3.below H2.out H2.out.size
  have hAd3 := o3.add b3.size (fun x e => e.elim (fun e => e.elim) fun e => (n3 x e).2) Ls.nil (k := [111, 116, 104, 101, 114]) (t := 1099511627776) (by decide) (by unfold wk maxLen; decide) ⟨by omega, by unfold MT; omega⟩ rfl (by have := HB.out.2.2.2.2.2.1; simp; omega) (by decide)
  have H3 := Lib.hid b3
  unfold ek at hAd3
  clear o3 b3 f3 n3 e3 hAd2
  go_wp2_with fail
  refine hAd3.mono ?_
  rintro e W4 ⟨rfl, o4, f4⟩
  have hLen := o4.len
  have H4 := Lib.hid (f4.below H3.out H3.out.size)
  simp only [List.nil_append, List.length_cons, List.length_nil] at hLen
  clear o4 f4 hAd3
  go_wp2_with fail
  refine hLen.mono ?_
  rintro e W5 ⟨rfl, rfl⟩
  go_wp2_with fail
  go_ret
  exact done_same HB.out.1 (by simp) (HB.out.2.1.trans (((below_drewN V (q1 + nq)).trans (⟨H4.out.os, H4.out.tape, H4.out.output, H4.out.size, H4.out.block⟩ : Below V.heap.size _ _)).mono HB.out.2.1.size))
end Go.Proofs.Ytcafiehlhdoibaa.Wh
