
/- heaps of string and uint64: First, Pop -/
import Derived.Test.YtomkefaakgodhaaHpKE
namespace Go.Proofs.Ytomkefaakgodhaa.HpE
open Go.RowKit Go.Lib Go.Sort Hp Ht
set_option linter.unusedVariables false
set_option maxRecDepth 20000
theorem results_c2 {fn : Func} {p a : Tmp} {ty : TypeId} (h : fn.results = #[.cell p ty, .tmp a]) (tmps : Array Value) (P : Program) (w : World) :
    (results fn tmps).run P w =
      ((asAddr (tmps.getD p undef)).run P w).andThen fun x w₁ => ((loadVar ty x).run P w₁).andThen fun v w₂ => .ok (.tuple #[v, tmps.getD a undef]) w₂ := by
  simp only [results, h]
  simp [Sem.run_bind, Result.andThen]
theorem frFrozen {S : Nat → Prop} {w w' : World} (h : Fr S w w') {a : Addr} (hl : a.block < w.heap.size) (hn : ¬ S a.block) : w'.frozen? a = w.frozen? a := by
  have hb := h.block a.block hl hn
  unfold World.frozen?
  rw [hb]
/-- no item -/
def none0 : Value := .agg #[.string ⟨#[]⟩, .int .u64 0]
def item (x : K × Int) : Value := .agg #[ek x.1, er x.2]
/-- the first one -/
def Lst (m : List (K × Int)) (x : K × Int) : Prop := x ∈ m ∧ ∀ y ∈ m, ltp y x = false
theorem Lst.one {m : List (K × Int)} {x y : K × Int} (h : Lst m x) (k : Lst m y) : x = y := by
  rcases ltp_tri Hp.tot_str x y with e | e | e
  · rw [k.2 x h.1] at e; cases e
  · exact e
  · rw [h.2 y k.1] at e; cases e
theorem Lst.perm {m m' : List (K × Int)} {x : K × Int} (h : Lst m x) (e : m.Perm m') : Lst m' x := ⟨e.mem_iff.1 h.1, fun y hy => h.2 y (e.mem_iff.2 hy)⟩
theorem Lst.ahead {m : List (K × Int)} {x y : K × Int} (h : Lst m x) (hy : y ∈ m) (hne : y ≠ x) : ltp x y = true := by
  rcases ltp_tri Hp.tot_str x y with e | e | e
  · exact e
  · exact absurd e.symm hne
  · rw [h.2 y hy] at e; cases e
section
variable {S : Nat → Prop} {w : World} {hb : Nat} {iv mv : Value} {l m : List (K × Int)} {f : K → Option Nat}
theorem Hv.len (h : Hv S w hb m) : Calls Try.prog 32 #[.pointer (some ⟨hb, 0, none⟩)] w fun e w' => e = .returned (.int .i64 ((m.length : Nat) : Int)) ∧ w' = w := by
  obtain ⟨iv, mv, l, f, hq, hh, hpm⟩ := h
  rw [← hpm.length_eq]
  exact len_any hq
theorem first_nil (h : Hv S w hb []) : Calls Try.prog 31 #[.pointer (some ⟨hb, 0, none⟩)] w fun e w' => e = .returned (.tuple #[none0, .bool false]) ∧ Below w.heap.size w w' := by
  have hL := (h.old (e := (Below.refl w.heap.size w).alloc (Nat.le_refl _) (.cells #[.string ⟨#[]⟩, .int .u64 0] 63))).len
  unfold none0
  clear h
  go_enter Try.func31, Try.ntmps31
  go_wp2_with fail
  refine hL.mono ?_
  rintro e w1 ⟨rfl, rfl⟩
  go_wp2_with fail
  (try simp only [Exit.inBlock, Exit.then])
  refine bodyPost_ret (v := .tuple #[.agg #[.string ⟨#[]⟩, .int .u64 0], .bool false]) ?_ rfl ⟨rfl, ?_⟩
  · rw [results_c2 rfl]
    go_simp
  · (repeat' (first | exact Below.refl _ _ | refine Below.setCell ?_ (by simp <;> omega) _ | refine Below.alloc ?_ (by simp <;> omega) _))
theorem first_some (h : Hv S w hb m) (hm : m ≠ []) : Calls Try.prog 31 #[.pointer (some ⟨hb, 0, none⟩)] w fun e w' => ∃ x, Lst m x ∧ e = .returned (.tuple #[item x, .bool true]) ∧ Below w.heap.size w w' := by
  have hL := (h.old (e := (Below.refl w.heap.size w).alloc (Nat.le_refl _) (.cells #[.string ⟨#[]⟩, .int .u64 0] 63))).len
  obtain ⟨iv, mv, l, f, hq, hh, hpm⟩ := h
  have hl0 : 0 < l.length := by rw [hpm.length_eq]; exact List.length_pos_iff.2 hm
  have hx : Lst m (el l 0) := ⟨hpm.mem_iff.1 (el_mem hl0), fun y hy => by
    obtain ⟨j, hj, rfl⟩ := mem_el (hpm.mem_iff.2 hy)
    exact hh.least (swo Hp.tot_str) j hj⟩
  obtain ⟨g, cap, b, rfl, hB, rfl, hM, hSg, hSb, hgb, hbb, hgm⟩ := hq.at hl0
  have hI := hq.items
  have k1 := hB.key hl0
  have r1 := hB.rank hl0
  have hlt := hq.size hb hq.own
  have hgt := hB.lt
  have hlm := hpm.length_eq
  obtain ⟨p1, hp1⟩ : ∃ x, x = (el l 0).1 := ⟨_, rfl⟩
  obtain ⟨q1, hq1⟩ : ∃ x, x = (el l 0).2 := ⟨_, rfl⟩
  have hx1 : el l 0 = (p1, q1) := by rw [hp1, hq1]
  rw [hx1] at hx
  rw [← hp1] at k1
  rw [← hq1] at r1
  rw [← hlm] at hL
  obtain ⟨n, hln⟩ : ∃ n, n = l.length := ⟨_, rfl⟩
  rw [← hln] at hL hI hl0
  have hn0 : ((n : Nat) : Int) ≠ 0 := by omega
  have hix : (0 : Int) < ((n : Nat) : Int) := by omega
  have HX := Lib.hid hx
  unfold ek at k1
  unfold er at r1
  simp only [Nat.zero_mul, Nat.zero_add] at k1 r1
  clear hq hh hpm hx hB hM hSg hSb hgb hbb hgm hlm hp1 hq1 hx1 hln hm
  go_enter Try.func31, Try.ntmps31
  go_wp2_with fail
  refine hL.mono ?_
  rintro e w1 ⟨rfl, rfl⟩
  clear hL
  go_wp2_with fail
  (try simp only [Exit.inBlock, Exit.then])
  refine bodyPost_ret (v := .tuple #[item (p1, q1), .bool true]) ?_ rfl ⟨(p1, q1), HX.out, rfl, ?_⟩
  · rw [results_c2 rfl]
    unfold item ek er
    go_simp
  · (repeat' (first | exact Below.refl _ _ | refine Below.setCell ?_ (by simp <;> omega) _ | refine Below.alloc ?_ (by simp <;> omega) _))
theorem pop_nil (h : Hv S w hb []) : Calls Try.prog 27 #[.pointer (some ⟨hb, 0, none⟩)] w fun e w' => e = .returned (.tuple #[none0, .bool false]) ∧ Below w.heap.size w w' := by
  have hF := first_nil (h.old (e := (Below.refl w.heap.size w).alloc (Nat.le_refl _) (.cells #[.string ⟨#[]⟩, .int .u64 0] 63)))
  have hbx := box2 w (.string ⟨#[]⟩) (.int .u64 0) 63
  have hb1 : Below w.heap.size w (w.alloc (.cells #[.string ⟨#[]⟩, .int .u64 0] 63)) := (Below.refl w.heap.size w).alloc (Nat.le_refl _) _
  have hz : (w.alloc (.cells #[.string ⟨#[]⟩, .int .u64 0] 63)).heap.size = w.heap.size + 1 := by simp
  have hfz : ∀ k, (w.alloc (.cells #[.string ⟨#[]⟩, .int .u64 0] 63)).frozen? ⟨w.heap.size, k, none⟩ = false := fun k => by
    have := (MapKept.heap_alloc w (.cells #[.string ⟨#[]⟩, .int .u64 0] 63)).1
    unfold World.frozen?; rw [this]; simp
  have HF := Lib.hid (And.intro hF (And.intro hbx (And.intro hb1 (And.intro hz hfz))))
  unfold none0 at HF ⊢
  clear h hF hbx hb1 hz hfz
  go_enter Try.func27, Try.ntmps27
  go_wp2_with fail
  refine HF.out.1.mono ?_
  rintro e w2 ⟨rfl, hb2⟩
  have hbw : Below w.heap.size w w2 := HF.out.2.2.1.trans (hb2.mono (by rw [HF.out.2.2.2.1]; omega))
  have c0 := (hb2.cell (p := ⟨w.heap.size, 0, none⟩) (by rw [HF.out.2.2.2.1]; simp)).trans HF.out.2.1.1
  have c1 := (hb2.cell (p := ⟨w.heap.size, 1, none⟩) (by rw [HF.out.2.2.2.1]; simp)).trans HF.out.2.1.2
  have f0 := (hb2.frozen (p := ⟨w.heap.size, 0, none⟩) (by rw [HF.out.2.2.2.1]; simp)).trans (HF.out.2.2.2.2 0)
  have f1 := (hb2.frozen (p := ⟨w.heap.size, 1, none⟩) (by rw [HF.out.2.2.2.1]; simp)).trans (HF.out.2.2.2.2 1)
  have hz2 : w.heap.size < w2.heap.size := World.block_lt_of_cell? _ _ c0
  have HB := Lib.hid hbw
  clear hbw hb2
  go_wp2_with fail
  (try simp only [Exit.inBlock, Exit.then])
  refine bodyPost_ret (v := .tuple #[.agg #[.string ⟨#[]⟩, .int .u64 0], .bool false]) ?_ rfl ⟨rfl, ?_⟩
  · rw [results_c2 rfl]
    go_simp
  · have hbw := HB.out
    (repeat' (first | exact hbw | refine Below.setCell ?_ (by simp <;> omega) _ | refine Below.alloc ?_ (by simp <;> omega) _))
theorem pop_some (h : Hv S w hb m) (hm : m ≠ []) (hn : m.length ≤ 1000000) : Calls Try.prog 27 #[.pointer (some ⟨hb, 0, none⟩)] w fun e w' => ∃ x, Lst m x ∧ e = .returned (.tuple #[item x, .bool true]) ∧ Hw S w hb w' (cut x.1 m) := by
  have hF := first_some (h.old (e := (Below.refl w.heap.size w).alloc (Nat.le_refl _) (.cells #[.string ⟨#[]⟩, .int .u64 0] 63))) hm
  have hbx := box2 w (.string ⟨#[]⟩) (.int .u64 0) 63
  have hb1 : Below w.heap.size w (w.alloc (.cells #[.string ⟨#[]⟩, .int .u64 0] 63)) := (Below.refl w.heap.size w).alloc (Nat.le_refl _) _
  have hz : (w.alloc (.cells #[.string ⟨#[]⟩, .int .u64 0] 63)).heap.size = w.heap.size + 1 := by simp
  have hfz : ∀ k, (w.alloc (.cells #[.string ⟨#[]⟩, .int .u64 0] 63)).frozen? ⟨w.heap.size, k, none⟩ = false := fun k => by
    have := (MapKept.heap_alloc w (.cells #[.string ⟨#[]⟩, .int .u64 0] 63)).1
    unfold World.frozen?; rw [this]; simp
  have HF := Lib.hid (And.intro hF (And.intro hbx (And.intro hb1 (And.intro hz hfz))))
  have HH := Lib.hid (And.intro h (And.intro hm hn))
  unfold item at HF ⊢
  clear h hF hbx hb1 hz hfz hm hn
  go_enter Try.func27, Try.ntmps27
  go_wp2_with fail
  refine HF.out.1.mono ?_
  rintro e w2 ⟨⟨p, q⟩, hx, rfl, hb2⟩
  have hbw : Below w.heap.size w w2 := HF.out.2.2.1.trans (hb2.mono (by rw [HF.out.2.2.2.1]; omega))
  have c0 := (hb2.cell (p := ⟨w.heap.size, 0, none⟩) (by rw [HF.out.2.2.2.1]; simp)).trans HF.out.2.1.1
  have c1 := (hb2.cell (p := ⟨w.heap.size, 1, none⟩) (by rw [HF.out.2.2.2.1]; simp)).trans HF.out.2.1.2
  have f0 := (hb2.frozen (p := ⟨w.heap.size, 0, none⟩) (by rw [HF.out.2.2.2.1]; simp)).trans (HF.out.2.2.2.2 0)
  have f1 := (hb2.frozen (p := ⟨w.heap.size, 1, none⟩) (by rw [HF.out.2.2.2.1]; simp)).trans (HF.out.2.2.2.2 1)
  have hz2 : w.heap.size < w2.heap.size := World.block_lt_of_cell? _ _ c0
  have HB := Lib.hid (And.intro hbw hx)
  clear hbw hb2 hx
  have HC := Lib.hid (And.intro c0 (And.intro c1 (And.intro f0 (And.intro f1 hz2))))
  unfold ek er
  go_wp2_with fail
  have hbV : Below w2.heap.size w2 (w2.alloc (.cells #[(.string ⟨p.toArray⟩), (.int .u64 q)] 63)) := (Below.refl _ _).alloc (Nat.le_refl _) _
  have hbx : (w2.alloc (.cells #[(.string ⟨p.toArray⟩), (.int .u64 q)] 63)).cell? ⟨w2.heap.size, 0, none⟩ = some ((.string ⟨p.toArray⟩)) ∧ (w2.alloc (.cells #[(.string ⟨p.toArray⟩), (.int .u64 q)] 63)).cell? ⟨w2.heap.size, 1, none⟩ = some ((.int .u64 q)) := box2 w2 _ _ _
  have hsV : (w2.alloc (.cells #[(.string ⟨p.toArray⟩), (.int .u64 q)] 63)).heap.size = w2.heap.size + 1 := by simp
  obtain ⟨V, hV⟩ : ∃ V, V = w2.alloc (.cells #[(.string ⟨p.toArray⟩), (.int .u64 q)] 63) := ⟨_, rfl⟩
  rw [← hV] at hbV hbx hsV ⊢
  clear hV c0 c1 f0 f1 hz2
  have hbwV : Below w.heap.size w V := HB.out.1.trans (hbV.mono HB.out.1.size)
  obtain ⟨iv, mv, l, f, hq, hh, hpm⟩ := HH.out.1
  have hl0 : 0 < l.length := by rw [hpm.length_eq]; exact List.length_pos_iff.2 HH.out.2.1
  have hx2 : Lst m (el l 0) := ⟨hpm.mem_iff.1 (el_mem hl0), fun y hy => by
    obtain ⟨j, hj, rfl⟩ := mem_el (hpm.mem_iff.2 hy)
    exact hh.least (swo Hp.tot_str) j hj⟩
  have hxe : el l 0 = (p, q) := hx2.one HB.out.2
  have hd : Calls Try.prog 37 #[.pointer (some ⟨hb, 0, none⟩), .int .i64 0] V fun e w' => e = .returned (.tuple #[]) ∧ ∃ m, Hw S V hb w' m ∧ (m ++ [el l 0]).Perm l := drop_any (hq.old hbwV) hh hl0 (by rw [hpm.length_eq]; exact HH.out.2.2)
  rw [hxe] at hd
  have hend : ∀ z : List (K × Int), (z ++ [(p, q)]).Perm l → z.Perm (cut p m) := fun z hz => (cut_of hz hq.pl.nodup).trans (cut_perm hpm)
  have hns : ∀ k, S k → k < w.heap.size := hq.size
  have HD := Lib.hid (And.intro hd (And.intro hend (And.intro hns (And.intro hbwV (And.intro hbV (And.intro hbx hsV))))))
  clear hd hend hns hbwV hbV hbx hsV hq hh hpm hl0 hx2 hxe
  refine HD.out.1.mono ?_
  rintro e w3 ⟨rfl, z, ⟨S', hv, hfr, hsub⟩, hpz⟩
  obtain ⟨_, _, hns, hbwV, hbV, hbx, hsV⟩ := HD.out
  obtain ⟨c0, c1, f0, f1, hz2⟩ := HC.out
  have n1 : ¬ S w.heap.size := fun e => by have := hns _ e; omega
  have n2 : ¬ S w2.heap.size := fun e => by have := hns _ e; omega
  have d0 := hfr.cell ((hbV.cell (p := ⟨w.heap.size, 0, none⟩) hz2).trans c0) n1
  have d1 := hfr.cell ((hbV.cell (p := ⟨w.heap.size, 1, none⟩) hz2).trans c1) n1
  have g0 := (frFrozen hfr (a := ⟨w.heap.size, 0, none⟩) (by simp; omega) n1).trans ((hbV.frozen (p := ⟨w.heap.size, 0, none⟩) hz2).trans f0)
  have g1 := (frFrozen hfr (a := ⟨w.heap.size, 1, none⟩) (by simp; omega) n1).trans ((hbV.frozen (p := ⟨w.heap.size, 1, none⟩) hz2).trans f1)
  have d2 := hfr.cell hbx.1 n2
  have d3 := hfr.cell hbx.2 n2
  have n3 : ¬ S' w.heap.size := fun e => by
    rcases hsub _ e with h | h
    · exact n1 h
    · have := hbV.size; omega
  obtain ⟨S3, h31, h32, h33, h34⟩ : ∃ S3, Hv S3 w3 hb (cut p m) ∧ Fr S w w3 ∧ (∀ x, S3 x → S x ∨ w.heap.size ≤ x) ∧ ¬ S3 w.heap.size := ⟨S', hv.perm (HD.out.2.1 z hpz), (Fr.of_below (S := S) hbwV).trans hfr fun x hx => .inl hx, fun x hx => by
    rcases hsub x hx with h | h
    · exact .inl h
    · have := hbwV.size; right; omega, n3⟩
  have HX := Lib.hid (And.intro h31 (And.intro h32 (And.intro h33 h34)))
  clear h31 h32 h33 h34 n3 hv hfr hsub hpz hns hbwV hbV hbx hsV c0 c1 f0 f1 hz2 n1 n2
  go_wp2_with fail
  (try simp only [Exit.inBlock, Exit.then])
  refine bodyPost_ret (v := .tuple #[.agg #[(.string ⟨p.toArray⟩), (.int .u64 q)], .bool true]) ?_ rfl ⟨(p, q), HB.out.2, rfl, ?_⟩
  · rw [results_c2 rfl]
    go_simp
  · obtain ⟨h1, h2, h3, n3⟩ := HX.out
    have hg : w3.grownBy ((w3.setCell ⟨w.heap.size, 0, none⟩ ((.string ⟨p.toArray⟩))).setCell ⟨w.heap.size, 1, none⟩ ((.int .u64 q))) (some w.heap.size) := Lib.grownBy_setB (Lib.grownBy_setCell w3 w.heap.size _ _) _ _
    exact ⟨S3, h1.kept hg.size fun k hk => hg.block k (h1.size k hk) (fun e => n3 ((Option.some.inj e) ▸ hk)), h2.trans (Fr.grown (S := fun x => x = w.heap.size) hg (.inl rfl)) (fun x hx => .inr (Nat.le_of_eq hx.symm)), h3⟩
end
end Go.Proofs.Ytomkefaakgodhaa.HpE

