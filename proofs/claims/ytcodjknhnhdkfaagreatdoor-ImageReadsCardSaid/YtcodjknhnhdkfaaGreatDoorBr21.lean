/- graphs: walks, how they lie; what is next -/
import Derived.Test.YtcodjknhnhdkfaaGreatDoorBr20
namespace Go.Proofs.YtcodjknhnhdkfaaGreatDoor.DgB
open Go.RowKit Go.Lib Hp Mv Dg Ht
set_option linter.unusedVariables false
set_option maxRecDepth 20000
/-- what tells who is next, as a function: its number, the box that it holds -/
def fnv (fid : FuncId) (cb : Nat) : Value := .func (.func fid) #[] #[.pointer (some ⟨cb, 0, none⟩)]
/-- .. says so, as long as the blocks of T are as they are -/
structure Nx (T : Nat → Prop) (w : World) (ns : List Id) (R : Id → Id → Bool) (fid : FuncId) (cb : Nat) (nx : Id → Nat) : Prop where
  call : ∀ Y : World, w.heap.size ≤ Y.heap.size → (∀ k, T k → Y.heap[k]? = w.heap[k]?) → ∀ x ∈ ns, Calls Tryz.prog fid #[ek x, .pointer (some ⟨cb, 0, none⟩)] Y fun e Y' => e = .returned (.map (some (nx x))) ∧ Below Y.heap.size Y Y'
  fn : (fid = 110 ∨ fid = 109)
  set : ∀ x ∈ ns, ∃ n, Mq w (nx x) n (sf fun y => R x y)
  own : ∀ x ∈ ns, T (nx x)
  size : ∀ k, T k → k < w.heap.size
  edge : ∀ x y, R x y = true → y ∈ ns
  ok : ∀ x ∈ ns, wk x
theorem Nx.kept {T : Nat → Prop} {w Y : World} {ns : List Id} {R : Id → Id → Bool} {fid : FuncId} {cb : Nat} {nx : Id → Nat} (h : Nx T w ns R fid cb nx) (hs : w.heap.size ≤ Y.heap.size) (e : ∀ k, T k → Y.heap[k]? = w.heap[k]?) : Nx T Y ns R fid cb nx where
  call Z hz ez x hx := h.call Z (Nat.le_trans hs hz) (fun k hk => (ez k hk).trans (e k hk)) x hx
  fn := h.fn
  set x hx := by obtain ⟨n, hm⟩ := h.set x hx; exact ⟨n, hm.kept (e _ (h.own x hx))⟩
  own := h.own
  size k hk := Nat.lt_of_lt_of_le (h.size k hk) hs
  edge := h.edge
  ok := h.ok
section
variable {S : Nat → Prop} {w : World} {gb : Nat} {mv : Option Nat} {ns : List Id} {E : Id → Id → Bool} {nb ob ub : Id → Nat}
theorem upFn_any (q : Gq S w gb mv ns E nb ob ub) {cb : Nat} (hc : w.cell? ⟨cb, 0, none⟩ = some (.pointer (some ⟨gb, 0, none⟩))) (x : Id) (hx : x ∈ ns) :
    Calls Tryz.prog 110 #[ek x, .pointer (some ⟨cb, 0, none⟩)] w fun e w' => e = .returned (.map (some (ub x))) ∧ Below w.heap.size w w' := by
  obtain ⟨V, hV⟩ : ∃ V, V = w.alloc (.cells #[kv x.1, .bool x.2] 115) := ⟨_, rfl⟩
  have hb : Below w.heap.size w V := by rw [hV]; exact (Below.refl _ w).alloc (Nat.le_refl _) _
  have q2 := q.below hb (Nat.le_refl _)
  have c0 := q2.cell
  have hcV : V.cell? ⟨cb, 0, none⟩ = some (.pointer (some ⟨gb, 0, none⟩)) := (hb.cell (p := ⟨cb, 0, none⟩) (World.block_lt_of_cell? _ _ hc)).trans hc
  have hl : ∀ n, (Instr.lookup 104 (.map mv) (.agg #[kv x.1, .bool x.2]) false).run Tryz.prog (V.drewN n) = .ok (.pointer (some ⟨nb x, 0, none⟩)) (V.drewN n) := fun n => by
    have := q2.look (Y := V.drewN n) (fun b e => rfl) (q2.ok x hx).1
    rw [if_pos hx] at this; exact this
  have hn := (q2.nodeC hx).2.2
  obtain ⟨c1, c2⟩ := cell_id w x
  rw [← hV] at c1 c2
  have HB := Lib.hid hb
  clear q2 q hb hc hx
  unfold ek
  generalize kv x.1 = k1 at *
  generalize x.2 = k2 at *
  generalize nb x = nx at *
  generalize ub x = ox at *
  go_enter Tryz.func110, Tryz.ntmps110
  go_wp2_with fail
  rw [← hV]
  clear hV
  go_quiet (fail)
  go_wp2_with fail
  go_ret
  exact ⟨by simp, below_drewN HB.out _⟩
theorem downFn_any (q : Gq S w gb mv ns E nb ob ub) {cb : Nat} (hc : w.cell? ⟨cb, 0, none⟩ = some (.pointer (some ⟨gb, 0, none⟩))) (x : Id) (hx : x ∈ ns) :
    Calls Tryz.prog 109 #[ek x, .pointer (some ⟨cb, 0, none⟩)] w fun e w' => e = .returned (.map (some (ob x))) ∧ Below w.heap.size w w' := by
  obtain ⟨V, hV⟩ : ∃ V, V = w.alloc (.cells #[kv x.1, .bool x.2] 115) := ⟨_, rfl⟩
  have hb : Below w.heap.size w V := by rw [hV]; exact (Below.refl _ w).alloc (Nat.le_refl _) _
  have q2 := q.below hb (Nat.le_refl _)
  have c0 := q2.cell
  have hcV : V.cell? ⟨cb, 0, none⟩ = some (.pointer (some ⟨gb, 0, none⟩)) := (hb.cell (p := ⟨cb, 0, none⟩) (World.block_lt_of_cell? _ _ hc)).trans hc
  have hl : ∀ n, (Instr.lookup 104 (.map mv) (.agg #[kv x.1, .bool x.2]) false).run Tryz.prog (V.drewN n) = .ok (.pointer (some ⟨nb x, 0, none⟩)) (V.drewN n) := fun n => by
    have := q2.look (Y := V.drewN n) (fun b e => rfl) (q2.ok x hx).1
    rw [if_pos hx] at this; exact this
  have hn := (q2.nodeC hx).2.1
  obtain ⟨c1, c2⟩ := cell_id w x
  rw [← hV] at c1 c2
  have HB := Lib.hid hb
  clear q2 q hb hc hx
  unfold ek
  generalize kv x.1 = k1 at *
  generalize x.2 = k2 at *
  generalize nb x = nx at *
  generalize ob x = ox at *
  go_enter Tryz.func109, Tryz.ntmps109
  go_wp2_with fail
  rw [← hV]
  clear hV
  go_quiet (fail)
  go_wp2_with fail
  go_ret
  exact ⟨by simp, below_drewN HB.out _⟩
/-- who stands on it, by 'up' -/
theorem Gq.up (q : Gq S w gb mv ns E nb ob ub) {cb : Nat} (hc : w.cell? ⟨cb, 0, none⟩ = some (.pointer (some ⟨gb, 0, none⟩))) : Nx (fun k => S k ∨ k = cb) w ns (fun a b => E b a) 110 cb ub where
  call Y hs e x hx := upFn_any (q.kept hs fun k hk => e k (.inl hk)) (by unfold World.cell? at hc ⊢; rw [e cb (.inr rfl)]; exact hc) x hx
  fn := .inl rfl
  set x hx := q.users x hx
  own x hx := .inl (q.ownN x hx).2.2
  size k hk := by
    rcases hk with hk | rfl
    · exact q.size k hk
    · exact World.block_lt_of_cell? _ _ hc
  edge x y h := (q.edge _ _ h).1
  ok x hx := (q.ok x hx).1
theorem Gq.down (q : Gq S w gb mv ns E nb ob ub) {cb : Nat} (hc : w.cell? ⟨cb, 0, none⟩ = some (.pointer (some ⟨gb, 0, none⟩))) : Nx (fun k => S k ∨ k = cb) w ns E 109 cb ob where
  call Y hs e x hx := downFn_any (q.kept hs fun k hk => e k (.inl hk)) (by unfold World.cell? at hc ⊢; rw [e cb (.inr rfl)]; exact hc) x hx
  fn := .inr rfl
  set x hx := q.on x hx
  own x hx := .inl (q.ownN x hx).2.1
  size k hk := by
    rcases hk with hk | rfl
    · exact q.size k hk
    · exact World.block_lt_of_cell? _ _ hc
  edge x y h := (q.edge _ _ h).2
  ok x hx := (q.ok x hx).1
end
/-- ids in a row of cells -/
def rc : List Id → List Value
  | [] => []
  | x :: l => kv x.1 :: .bool x.2 :: rc l
theorem rc_len : ∀ l : List Id, (rc l).length = l.length * 2
  | [] => rfl
  | x :: l => by simp [rc, rc_len l]; omega
theorem rc_app : ∀ l m : List Id, rc (l ++ m) = rc l ++ rc m
  | [], m => rfl
  | x :: l, m => by simp [rc, rc_app l m]
/-- a walk in memory; its own blocks are those of O, what it only reads those of T -/
structure Wk (T O : Nat → Prop) (w : World) (wb fb : Nat) (rv : Value) (ns : List Id) (R : Id → Id → Bool) (fid : FuncId) (cb : Nat) (nx : Id → Nat) (F : Id → Bool) (n : Nat) (rest : List Id) : Prop where
  nxt : Nx T w ns R fid cb nx
  obj : w.heap[wb]? = some (.cells #[fnv fid cb, .map (some fb), rv] 184 (0, 0))
  found : Mq w fb n (sf F)
  row : w.ownsRow 0 115 2 rv rest.length (rc rest)
  fin : ∀ x, F x = true → x ∈ ns
  rin : ∀ x ∈ rest, x ∈ ns
  len : rest.length ≤ n + 1
  ownW : O wb
  ownF : O fb
  ownR : ∀ b, rv.ownBlock = some b → O b
  dis : ∀ k, T k → ¬ O k
  size : ∀ k, O k → k < w.heap.size
section
variable {T O : Nat → Prop} {w : World} {wb fb : Nat} {rv : Value} {ns : List Id} {R : Id → Id → Bool} {fid : FuncId} {cb : Nat} {nx : Id → Nat} {F : Id → Bool} {n : Nat} {rest : List Id}
theorem own_kept {w Y : World} {B : Nat} {t : TypeId} {k n : Nat} {v : Value} {xs : List Value} (h : w.ownsRow B t k v n xs) (e : ∀ b, v.ownBlock = some b → Y.heap[b]? = w.heap[b]?) : Y.ownsRow B t k v n xs := by
  rcases h with ⟨h0, h | ⟨g, cap, cur, rfl, h1, h2, h3⟩⟩
  · exact ⟨h0, .inl h⟩
  · refine ⟨h0, .inr ⟨g, cap, cur, rfl, h1, (e g ?_).trans h2, h3⟩⟩
    rfl
theorem own_shape {w : World} {B : Nat} {e : TypeId} {k : Nat} {v : Value} {n : Nat} {xs : List Value} (h : w.ownsRow B e k v n xs) : ∃ ao cp, v = .slice ao n cp := by
  rcases h.2 with ⟨rfl, rfl⟩ | ⟨g, cap, cur, rfl, _⟩
  · exact ⟨none, 0, rfl⟩
  · exact ⟨_, cap, rfl⟩
theorem Wk.kept {Y : World} (h : Wk T O w wb fb rv ns R fid cb nx F n rest) (hs : w.heap.size ≤ Y.heap.size) (e : ∀ k, T k ∨ O k → Y.heap[k]? = w.heap[k]?) : Wk T O Y wb fb rv ns R fid cb nx F n rest where
  nxt := h.nxt.kept hs fun k hk => e k (.inl hk)
  obj := (e wb (.inr h.ownW)).trans h.obj
  found := h.found.kept (e fb (.inr h.ownF))
  row := own_kept h.row fun b hb => e b (.inr (h.ownR b hb))
  fin := h.fin
  rin := h.rin
  len := h.len
  ownW := h.ownW
  ownF := h.ownF
  ownR := h.ownR
  dis := h.dis
  size k hk := Nat.lt_of_lt_of_le (h.size k hk) hs
theorem Wk.lt (h : Wk T O w wb fb rv ns R fid cb nx F n rest) {k : Nat} (hk : T k ∨ O k) : k < w.heap.size := hk.elim (h.nxt.size k) (h.size k)
theorem Wk.below {Y : World} {B : Nat} (h : Wk T O w wb fb rv ns R fid cb nx F n rest) (b : Below B w Y) (hB : w.heap.size ≤ B) : Wk T O Y wb fb rv ns R fid cb nx F n rest :=
  h.kept b.size fun k hk => b.block k (Nat.lt_of_lt_of_le (h.lt hk) hB)
theorem Wk.fr {Z : Nat → Prop} {Y : World} (h : Wk T O w wb fb rv ns R fid cb nx F n rest) (e : Fr Z w Y) (hd : ∀ k, T k ∨ O k → ¬ Z k) : Wk T O Y wb fb rv ns R fid cb nx F n rest :=
  h.kept e.size fun k hk => e.block k (h.lt hk) (hd k hk)
theorem Wk.cells (h : Wk T O w wb fb rv ns R fid cb nx F n rest) : w.cell? ⟨wb, 0, none⟩ = some (fnv fid cb) ∧ w.cell? ⟨wb, 1, none⟩ = some (.map (some fb)) ∧ w.cell? ⟨wb, 2, none⟩ = some rv := by
  refine ⟨?_, ?_, ?_⟩ <;> (rw [cell_of_row w _ _ _ _ _ h.obj]; rfl)
theorem Wk.n_le (h : Wk T O w wb fb rv ns R fid cb nx F n rest) : n ≤ ns.length :=
  h.found.card_le kindS fun k _ hk => by
    rw [sf_some] at hk
    exact h.fin k hk
/-- whether all are found -/
theorem ends_any (h : Wk T O w wb fb rv ns R fid cb nx F n rest) : Calls Tryz.prog 94 #[.pointer (some ⟨wb, 0, none⟩)] w fun e w' => e = .returned (.bool (decide (rest = []))) ∧ w' = w := by
  have c := h.cells.2.2
  obtain ⟨a, cp, rfl⟩ := own_shape h.row
  clear h
  go_enter Tryz.func94, Tryz.ntmps94
  go_wp2_with fail
  go_ret
  refine ⟨?_, rfl⟩
  cases rest <;> simp <;> omega
end
end Go.Proofs.YtcodjknhnhdkfaaGreatDoor.DgB
namespace Go.Proofs.YtcodjknhnhdkfaaGreatDoor.DgB
open Go.RowKit Go.Lib Hp Mv Dg Ht
set_option linter.unusedVariables false
set_option maxRecDepth 20000
attribute [local go_sem] Oper.semAt_some
theorem bc {V X : World} (h : Below V.heap.size V X) {a : Addr} {v : Value} (c : V.cell? a = some v) : X.cell? a = some v := (h.cell (World.block_lt_of_cell? _ _ c)).trans c
theorem sf_getD (p : Id → Bool) (x : Id) : (sf p x).getD unit = unit := by unfold sf; split <;> rfl
section
variable {T O : Nat → Prop} {w : World} {wb fb : Nat} {rv : Value} {ns : List Id} {R : Id → Id → Bool} {fid : FuncId} {cb : Nat} {nx : Id → Nat} {F : Id → Bool} {n : Nat} {rest : List Id}
set_option maxHeartbeats 1000000 in
theorem whas_any (h : Wk T O w wb fb rv ns R fid cb nx F n rest) (x : Id) (hx : wk x) : Calls Tryz.prog 97 #[.pointer (some ⟨wb, 0, none⟩), ek x] w fun e w' => e = .returned (.bool (F x)) ∧ Below w.heap.size w w' := by
  obtain ⟨V, hV⟩ : ∃ V, V = w.alloc (.cells #[kv x.1, .bool x.2] 115) := ⟨_, rfl⟩
  have hb : Below w.heap.size w V := by rw [hV]; exact (Below.refl _ w).alloc (Nat.le_refl _) _
  have h2 := h.below hb (Nat.le_refl _)
  have c1 := h2.cells.2.1
  have hl : ∀ X, Below V.heap.size V X → (Instr.lookup 120 (.map (some fb)) (.agg #[kv x.1, .bool x.2]) true).run Tryz.prog X = .ok (.tuple #[.agg #[], .bool (F x)]) X := fun X hX => by
    have := h2.found.look kindS (Y := X) (hX.block fb h2.found.lt) hx
    rw [sf_getD, sf_some] at this
    exact this
  have ci := cell_id w x
  rw [← hV] at ci
  have HB := Lib.hid hb
  clear h2 h hb
  unfold ek
  generalize kv x.1 = k1 at *
  generalize x.2 = k2 at *
  generalize F x = fx at *
  have hmix : Tryz.prog.follows .mixedOrders = true := by kernel_rfl
  go_enter Tryz.func97, Tryz.ntmps97
  go_wp2_with fail
  rw [← hV]
  clear hV
  refine begin' 11 (fun Z => Below V.heap.size V Z) hmix ((Below.refl _ V).drew) (fun hS0 => ?_)
  refine Ht.takeD 8 (i := 0) ⟨some 8, _, _, _, _, _⟩ (.pointer (some ⟨wb, 0, none⟩)) rfl (by kernel_rfl) (by kernel_rfl) (by decide) (by kernel_rfl) (by kernel_rfl) (by kernel_rfl) hS0 (Or.inl ⟨by rfl, by (intro X hX; go_simp)⟩) ?_
  simp only [Act.put, List.setIfInBounds_toArray, List.set_cons_zero, List.set_cons_succ]
  refine Ht.takeD 8 (i := 1) ⟨some 9, _, _, _, _, _⟩ (.pointer (some ⟨wb, 0, none⟩)) rfl (by kernel_rfl) (by kernel_rfl) (by decide) (by kernel_rfl) (by kernel_rfl) (by kernel_rfl) hS0 (Or.inl ⟨by rfl, by (intro X hX; go_simp)⟩) ?_
  simp only [Act.put, List.setIfInBounds_toArray, List.set_cons_zero, List.set_cons_succ]
  refine Ht.takeD 8 (i := 2) ⟨some 10, _, _, _, _, _⟩ (.pointer (some ⟨wb, 1, none⟩)) rfl (by kernel_rfl) (by kernel_rfl) (by decide) (by kernel_rfl) (by kernel_rfl) (by kernel_rfl) hS0 (Or.inl ⟨by rfl, by (intro X hX; go_simp)⟩) ?_
  simp only [Act.put, List.setIfInBounds_toArray, List.set_cons_zero, List.set_cons_succ]
  refine Ht.takeD 8 (i := 3) ⟨some 11, _, _, _, _, _⟩ (.map (some fb)) rfl (by kernel_rfl) (by kernel_rfl) (by decide) (by kernel_rfl) (by kernel_rfl) (by kernel_rfl) hS0 (Or.inl ⟨by rfl, by (intro X hX; have := bc hX c1; go_simp)⟩) ?_
  simp only [Act.put, List.setIfInBounds_toArray, List.set_cons_zero, List.set_cons_succ]
  refine Ht.takeD 8 (i := 4) ⟨some 12, _, _, _, _, _⟩ (.agg #[k1, .bool k2]) rfl (by kernel_rfl) (by kernel_rfl) (by decide) (by kernel_rfl) (by kernel_rfl) (by kernel_rfl) hS0 (Or.inl ⟨by rfl, by (intro X hX; have := And.intro (bc hX ci.1) (bc hX ci.2); go_simp)⟩) ?_
  simp only [Act.put, List.setIfInBounds_toArray, List.set_cons_zero, List.set_cons_succ]
  refine Ht.takeD 8 (i := 5) ⟨some 13, _, _, _, _, _⟩ (.tuple #[.agg #[], .bool fx]) rfl (by kernel_rfl) (by kernel_rfl) (by decide) (by kernel_rfl) (by kernel_rfl) (by kernel_rfl) hS0 (Or.inl ⟨by rfl, by (intro X hX; have := hl X hX; go_simp)⟩) ?_
  simp only [Act.put, List.setIfInBounds_toArray, List.set_cons_zero, List.set_cons_succ]
  refine Ht.takeD 8 (i := 6) ⟨some 7, _, _, _, _, _⟩ (.tuple #[.agg #[], .bool fx]) rfl (by kernel_rfl) (by kernel_rfl) (by decide) (by kernel_rfl) (by kernel_rfl) (by kernel_rfl) hS0 (Or.inl ⟨by rfl, by (intro X hX; go_simp)⟩) ?_
  simp only [Act.put, List.setIfInBounds_toArray, List.set_cons_zero, List.set_cons_succ]
  refine Ht.takeD 8 (i := 7) ⟨some 14, _, _, _, _, _⟩ (.agg #[]) rfl (by kernel_rfl) (by kernel_rfl) (by decide) (by kernel_rfl) (by kernel_rfl) (by kernel_rfl) hS0 (Or.inl ⟨by rfl, by (intro X hX; go_simp)⟩) ?_
  simp only [Act.put, List.setIfInBounds_toArray, List.set_cons_zero, List.set_cons_succ]
  refine Ht.takeD 8 (i := 8) ⟨some 15, _, _, _, _, _⟩ (.bool fx) rfl (by kernel_rfl) (by kernel_rfl) (by decide) (by kernel_rfl) (by kernel_rfl) (by kernel_rfl) hS0 (Or.inl ⟨by rfl, by (intro X hX; go_simp)⟩) ?_
  simp only [Act.put, List.setIfInBounds_toArray, List.set_cons_zero, List.set_cons_succ]
  have b1 : Below V.heap.size V (V.drew.alloc (.cells #[] 136)) := (Below.refl _ V).drew.alloc (Nat.le_refl _) _
  refine Ht.step (i := 9) ⟨some 5, _, _, _, _, _⟩ rfl (by kernel_rfl) (by rfl) (fun K hK => ?_)
  go_simp
  refine hK _ _ (fun hn => b1) (fun hnx => ?_)
  clear hK K hnx
  try simp only [Act.put, List.setIfInBounds_toArray, List.set_cons_zero, List.set_cons_succ]
  refine Ht.step (i := 10) ⟨none, _, _, _, _, _⟩ rfl (by kernel_rfl) (by rfl) (fun K hK => ?_)
  go_simp
  refine hK _ _ (fun hn => b1) (fun hnx => ?_)
  clear hK K hnx
  try simp only [Act.put, List.setIfInBounds_toArray, List.set_cons_zero, List.set_cons_succ]
  refine Ht.step (i := 11) ⟨some 6, _, _, _, _, _⟩ rfl (by kernel_rfl) (by rfl) (fun K hK => ?_)
  go_simp
  refine hK _ _ (fun hn => absurd rfl hn) (fun hnx => ?_)
  clear hK K hnx
  try simp only [Act.put, List.setIfInBounds_toArray, List.set_cons_zero, List.set_cons_succ]
  refine done (by kernel_rfl) ?_
  go_wp2_with fail
  go_ret
  exact ⟨by simp, HB.out.trans (b1.mono HB.out.size)⟩
theorem last_of {l : List Id} (h : l ≠ []) : ∃ i x, l = i ++ [x] := ⟨l.dropLast, l.getLast h, (List.dropLast_concat_getLast h).symm⟩
theorem Wk.top (h : Wk T O w wb fb rv ns R fid cb nx F n rest) {i : List Id} {x : Id} (e : rest = i ++ [x]) :
    ∃ g c cur, rv = .slice (some ⟨g, 0, none⟩) (i.length + 1) c ∧ i.length + 1 ≤ c ∧ w.cell? ⟨g, i.length * 2, none⟩ = some (kv x.1) ∧ w.cell? ⟨g, i.length * 2 + 1, none⟩ = some (.bool x.2) ∧ x ∈ ns ∧ O g ∧ g ≠ wb ∧ g ≠ fb ∧ w.heap[g]? = some (.cells cur 115 (0, 0)) ∧ w.ownsRow 0 115 2 (.slice (some ⟨g, 0, none⟩) i.length c) i.length (rc i) := by
  subst e
  have hx : x ∈ ns := h.rin x (by simp)
  obtain ⟨h0, h1 | ⟨g, cap, cur, rfl, hB, hg, h2, h3, h4, h5⟩⟩ := h.row
  · exact absurd h1.2 (by simp)
  · rw [List.length_append, List.length_singleton] at *
    have hcur : (rc (i ++ [x])).length = (i.length + 1) * 2 := by rw [rc_len]; simp
    have hk : ∀ k u, (rc (i ++ [x]))[k]? = some u → w.cell? ⟨g, k, none⟩ = some u := fun k u hu => by
      rw [cell_of_row w g _ cur _ _ hg]
      rw [← h5] at hu
      have hlt : k < (i.length + 1) * 2 := by
        have := (List.getElem?_eq_some_iff.1 hu).1
        rw [List.length_take] at this; omega
      rw [List.getElem?_take_of_lt hlt, Array.getElem?_toList] at hu
      exact hu
    refine ⟨g, cap, cur, rfl, h2, hk _ _ ?_, hk _ _ ?_, hx, h.ownR g rfl, fun e => ?_, fun e => ?_, hg, ?_⟩
    · rw [rc_app, List.getElem?_append_right (by rw [rc_len]; exact Nat.le_refl _), rc_len, Nat.sub_self]; rfl
    · rw [rc_app, List.getElem?_append_right (by rw [rc_len]; omega), rc_len, show i.length * 2 + 1 - i.length * 2 = 1 by omega]; rfl
    · have h6 := h.obj
      rw [← e, hg] at h6
      have h7 := (Obj.cells.inj (Option.some.inj h6)).2.1
      exact absurd h7 (by decide)
    · subst e
      exact h.found.ne hg rfl
    · refine ⟨rc_len i, .inr ⟨g, cap, cur, rfl, hB, hg, by omega, h3, h4, ?_⟩⟩
      have e1 : cur.toList.take (i.length * 2) = (cur.toList.take ((i.length + 1) * 2)).take (i.length * 2) := by rw [List.take_take, Nat.min_eq_left (by omega)]
      rw [e1, h5, rc_app, List.take_append_of_le_length (by rw [rc_len]; exact Nat.le_refl _), List.take_of_length_le (by rw [rc_len]; exact Nat.le_refl _)]
end
end Go.Proofs.YtcodjknhnhdkfaaGreatDoor.DgB
namespace Go.Proofs.YtcodjknhnhdkfaaGreatDoor.DgB
open Go.RowKit Go.Lib Hp Mv Dg Ht
set_option linter.unusedVariables false
set_option maxRecDepth 20000
attribute [local go_sem] Oper.semAt_some
section
variable {T O : Nat → Prop} {w : World} {wb fb : Nat} {rv : Value} {ns : List Id} {R : Id → Id → Bool} {fid : FuncId} {cb : Nat} {nx : Id → Nat} {F : Id → Bool} {n : Nat} {rest : List Id}
theorem big {m M c : Nat} (h : M = m + 1) (hc : M ≤ c) (hm : c ≤ maxLen) : IntKind.i64.wrap (((M : Nat) : Int) - 1) = ((m : Nat) : Int) ∧ wrap64 (((M : Nat) : Int) - 1) = ((m : Nat) : Int) ∧ ((m : Nat) : Int) < ((M : Nat) : Int) ∧ M ≤ 9223372036854775807 := by
  unfold maxLen at hm
  have h1 : M ≤ 9223372036854775807 := by omega
  refine ⟨?_, ?_, by omega, h1⟩
  · rw [Go.IntWalk.i64_in _ ⟨by omega, by omega⟩]; omega
  · unfold wrap64; omega
set_option maxHeartbeats 1000000 in
theorem cost_up (h : Wk T O w wb fb rv ns R 110 cb nx F n rest) (hne : rest ≠ []) : Calls Tryz.prog 95 #[.pointer (some ⟨wb, 0, none⟩)] w fun e w' => (∃ c, e = .returned (.int .i64 c)) ∧ Below w.heap.size w w' := by
  obtain ⟨i, x, hi⟩ := last_of hne
  obtain ⟨g, c, cur, rfl, hic, cx1, cx2, hx, _, _, _, _, hrow⟩ := h.top hi
  have hcm : c ≤ maxLen := by
    rcases h.row.2 with h1 | ⟨g', cap, cur', e, _, _, _, h4, _⟩
    · exact absurd h1.1 (by simp)
    · have e2 := (Value.slice.inj e).2.2; rw [e2]; exact h4
  obtain ⟨M, hM⟩ : ∃ M, M = i.length + 1 := ⟨_, rfl⟩
  obtain ⟨hw1, hw2, hlt, hMx⟩ := big hM (by omega) hcm
  have cc := h.cells
  unfold fnv at cc
  rw [← hM] at cc
  have hcall : ∀ X, Below w.heap.size w X → Calls Tryz.prog 110 #[ek x, .pointer (some ⟨cb, 0, none⟩)] X fun e w' => e = .returned (.map (some (nx x))) ∧ Below X.heap.size X w' := fun X hX => h.nxt.call X hX.size (fun k hk => hX.block k (h.nxt.size k hk)) x hx
  obtain ⟨n', hset⟩ := h.nxt.set x hx
  have hl1 : ∀ X, Below w.heap.size w X → ∀ ty, (Builtin.len_ #[120] ty #[.map (some fb)]).run Tryz.prog X = .ok (.int .i64 (n : Nat)) X := fun X hX ty => h.found.len kindS (hX.block fb h.found.lt) ty
  have hl2 : ∀ X, Below w.heap.size w X → ∀ ty, (Builtin.len_ #[120] ty #[.map (some (nx x))]).run Tryz.prog X = .ok (.int .i64 (n' : Nat)) X := fun X hX ty => hset.len kindS (hX.block _ hset.lt) ty
  clear h hi hrow hset hne hic hcm hx hM
  obtain ⟨m, hm⟩ : ∃ m, m = i.length := ⟨_, rfl⟩
  rw [← hm] at cx1 cx2 hw1 hw2 hlt
  clear hm
  unfold ek at hcall
  generalize kv x.1 = x1 at *
  generalize x.2 = x2 at *
  generalize nx x = nxx at *
  have hmix : Tryz.prog.follows .mixedOrders = true := by kernel_rfl
  go_enter Tryz.func95, Tryz.ntmps95
  go_wp2_with fail
  refine begin' 24 (fun Z => Below w.heap.size w Z) hmix ((Below.refl _ w).drew) (fun hS0 => ?_)
  refine Ht.takeD 8 (i := 0) ⟨some 3, _, _, _, _, _⟩ (.pointer (some ⟨wb, 0, none⟩)) rfl (by kernel_rfl) (by kernel_rfl) (by decide) (by kernel_rfl) (by kernel_rfl) (by kernel_rfl) hS0 (Or.inl ⟨by rfl, by (intro X hX; go_simp)⟩) ?_
  simp only [Act.put, List.setIfInBounds_toArray, List.set_cons_zero, List.set_cons_succ]
  refine Ht.takeD 8 (i := 1) ⟨some 4, _, _, _, _, _⟩ (.pointer (some ⟨wb, 0, none⟩)) rfl (by kernel_rfl) (by kernel_rfl) (by decide) (by kernel_rfl) (by kernel_rfl) (by kernel_rfl) hS0 (Or.inl ⟨by rfl, by (intro X hX; go_simp)⟩) ?_
  simp only [Act.put, List.setIfInBounds_toArray, List.set_cons_zero, List.set_cons_succ]
  refine Ht.takeD 8 (i := 2) ⟨some 5, _, _, _, _, _⟩ (.pointer (some ⟨wb, 1, none⟩)) rfl (by kernel_rfl) (by kernel_rfl) (by decide) (by kernel_rfl) (by kernel_rfl) (by kernel_rfl) hS0 (Or.inl ⟨by rfl, by (intro X hX; go_simp)⟩) ?_
  simp only [Act.put, List.setIfInBounds_toArray, List.set_cons_zero, List.set_cons_succ]
  refine Ht.takeD 8 (i := 3) ⟨some 6, _, _, _, _, _⟩ (.map (some fb)) rfl (by kernel_rfl) (by kernel_rfl) (by decide) (by kernel_rfl) (by kernel_rfl) (by kernel_rfl) hS0 (Or.inl ⟨by rfl, by (intro X hX; have := bc hX cc.2.1; go_simp)⟩) ?_
  simp only [Act.put, List.setIfInBounds_toArray, List.set_cons_zero, List.set_cons_succ]
  refine Ht.takeD 8 (i := 4) ⟨some 7, _, _, _, _, _⟩ (.int .i64 ((n : Nat) : Int)) rfl (by kernel_rfl) (by kernel_rfl) (by decide) (by kernel_rfl) (by kernel_rfl) (by kernel_rfl) hS0 (Or.inl ⟨by rfl, by (intro X hX; have := hl1 X hX; go_simp)⟩) ?_
  simp only [Act.put, List.setIfInBounds_toArray, List.set_cons_zero, List.set_cons_succ]
  refine Ht.takeD 8 (i := 5) ⟨some 8, _, _, _, _, _⟩ (.pointer (some ⟨wb, 0, none⟩)) rfl (by kernel_rfl) (by kernel_rfl) (by decide) (by kernel_rfl) (by kernel_rfl) (by kernel_rfl) hS0 (Or.inl ⟨by rfl, by (intro X hX; go_simp)⟩) ?_
  simp only [Act.put, List.setIfInBounds_toArray, List.set_cons_zero, List.set_cons_succ]
  refine Ht.takeD 8 (i := 6) ⟨some 9, _, _, _, _, _⟩ (.pointer (some ⟨wb, 0, none⟩)) rfl (by kernel_rfl) (by kernel_rfl) (by decide) (by kernel_rfl) (by kernel_rfl) (by kernel_rfl) hS0 (Or.inl ⟨by rfl, by (intro X hX; go_simp)⟩) ?_
  simp only [Act.put, List.setIfInBounds_toArray, List.set_cons_zero, List.set_cons_succ]
  refine Ht.takeD 8 (i := 7) ⟨some 10, _, _, _, _, _⟩ (.pointer (some ⟨wb, 0, none⟩)) rfl (by kernel_rfl) (by kernel_rfl) (by decide) (by kernel_rfl) (by kernel_rfl) (by kernel_rfl) hS0 (Or.inl ⟨by rfl, by (intro X hX; go_simp)⟩) ?_
  simp only [Act.put, List.setIfInBounds_toArray, List.set_cons_zero, List.set_cons_succ]
  refine Ht.takeD 8 (i := 8) ⟨some 11, _, _, _, _, _⟩ (.func (.func 110) #[] #[.pointer (some ⟨cb, 0, none⟩)]) rfl (by kernel_rfl) (by kernel_rfl) (by decide) (by kernel_rfl) (by kernel_rfl) (by kernel_rfl) hS0 (Or.inl ⟨by rfl, by (intro X hX; have := bc hX cc.1; go_simp)⟩) ?_
  simp only [Act.put, List.setIfInBounds_toArray, List.set_cons_zero, List.set_cons_succ]
  refine Ht.takeD 8 (i := 9) ⟨some 12, _, _, _, _, _⟩ (.pointer (some ⟨wb, 0, none⟩)) rfl (by kernel_rfl) (by kernel_rfl) (by decide) (by kernel_rfl) (by kernel_rfl) (by kernel_rfl) hS0 (Or.inl ⟨by rfl, by (intro X hX; go_simp)⟩) ?_
  simp only [Act.put, List.setIfInBounds_toArray, List.set_cons_zero, List.set_cons_succ]
  refine Ht.takeD 8 (i := 10) ⟨some 13, _, _, _, _, _⟩ (.pointer (some ⟨wb, 0, none⟩)) rfl (by kernel_rfl) (by kernel_rfl) (by decide) (by kernel_rfl) (by kernel_rfl) (by kernel_rfl) hS0 (Or.inl ⟨by rfl, by (intro X hX; go_simp)⟩) ?_
  simp only [Act.put, List.setIfInBounds_toArray, List.set_cons_zero, List.set_cons_succ]
  refine Ht.takeD 8 (i := 11) ⟨some 14, _, _, _, _, _⟩ (.pointer (some ⟨wb, 2, none⟩)) rfl (by kernel_rfl) (by kernel_rfl) (by decide) (by kernel_rfl) (by kernel_rfl) (by kernel_rfl) hS0 (Or.inl ⟨by rfl, by (intro X hX; go_simp)⟩) ?_
  simp only [Act.put, List.setIfInBounds_toArray, List.set_cons_zero, List.set_cons_succ]
  refine Ht.takeD 8 (i := 12) ⟨some 15, _, _, _, _, _⟩ (.slice (some ⟨g, 0, none⟩) M c) rfl (by kernel_rfl) (by kernel_rfl) (by decide) (by kernel_rfl) (by kernel_rfl) (by kernel_rfl) hS0 (Or.inl ⟨by rfl, by (intro X hX; have := bc hX cc.2.2; go_simp)⟩) ?_
  simp only [Act.put, List.setIfInBounds_toArray, List.set_cons_zero, List.set_cons_succ]
  refine Ht.takeD 8 (i := 13) ⟨some 16, _, _, _, _, _⟩ (.pointer (some ⟨wb, 0, none⟩)) rfl (by kernel_rfl) (by kernel_rfl) (by decide) (by kernel_rfl) (by kernel_rfl) (by kernel_rfl) hS0 (Or.inl ⟨by rfl, by (intro X hX; go_simp)⟩) ?_
  simp only [Act.put, List.setIfInBounds_toArray, List.set_cons_zero, List.set_cons_succ]
  refine Ht.takeD 8 (i := 14) ⟨some 17, _, _, _, _, _⟩ (.pointer (some ⟨wb, 0, none⟩)) rfl (by kernel_rfl) (by kernel_rfl) (by decide) (by kernel_rfl) (by kernel_rfl) (by kernel_rfl) hS0 (Or.inl ⟨by rfl, by (intro X hX; go_simp)⟩) ?_
  simp only [Act.put, List.setIfInBounds_toArray, List.set_cons_zero, List.set_cons_succ]
  refine Ht.takeD 8 (i := 15) ⟨some 18, _, _, _, _, _⟩ (.pointer (some ⟨wb, 2, none⟩)) rfl (by kernel_rfl) (by kernel_rfl) (by decide) (by kernel_rfl) (by kernel_rfl) (by kernel_rfl) hS0 (Or.inl ⟨by rfl, by (intro X hX; go_simp)⟩) ?_
  simp only [Act.put, List.setIfInBounds_toArray, List.set_cons_zero, List.set_cons_succ]
  refine Ht.takeD 8 (i := 16) ⟨some 19, _, _, _, _, _⟩ (.slice (some ⟨g, 0, none⟩) M c) rfl (by kernel_rfl) (by kernel_rfl) (by decide) (by kernel_rfl) (by kernel_rfl) (by kernel_rfl) hS0 (Or.inl ⟨by rfl, by (intro X hX; have := bc hX cc.2.2; go_simp)⟩) ?_
  simp only [Act.put, List.setIfInBounds_toArray, List.set_cons_zero, List.set_cons_succ]
  refine Ht.takeD 8 (i := 17) ⟨some 20, _, _, _, _, _⟩ (.int .i64 ((M : Nat) : Int)) rfl (by kernel_rfl) (by kernel_rfl) (by decide) (by kernel_rfl) (by kernel_rfl) (by kernel_rfl) hS0 (Or.inl ⟨by rfl, by (intro X hX; go_simp)⟩) ?_
  simp only [Act.put, List.setIfInBounds_toArray, List.set_cons_zero, List.set_cons_succ]
  refine Ht.takeD 8 (i := 18) ⟨some 21, _, _, _, _, _⟩ (.int .i64 ((m : Nat) : Int)) rfl (by kernel_rfl) (by kernel_rfl) (by decide) (by kernel_rfl) (by kernel_rfl) (by kernel_rfl) hS0 (Or.inl ⟨by rfl, by (intro X hX; go_simp)⟩) ?_
  simp only [Act.put, List.setIfInBounds_toArray, List.set_cons_zero, List.set_cons_succ]
  refine Ht.takeD 8 (i := 19) ⟨some 22, _, _, _, _, _⟩ (.pointer (some ⟨g, m * 2, none⟩)) rfl (by kernel_rfl) (by kernel_rfl) (by decide) (by kernel_rfl) (by kernel_rfl) (by kernel_rfl) hS0 (Or.inl ⟨by rfl, by (intro X hX; go_simp)⟩) ?_
  simp only [Act.put, List.setIfInBounds_toArray, List.set_cons_zero, List.set_cons_succ]
  refine Ht.takeD 8 (i := 20) ⟨some 23, _, _, _, _, _⟩ (.agg #[x1, .bool x2]) rfl (by kernel_rfl) (by kernel_rfl) (by decide) (by kernel_rfl) (by kernel_rfl) (by kernel_rfl) hS0 (Or.inl ⟨by rfl, by (intro X hX; have := And.intro (bc hX cx1) (bc hX cx2); go_simp)⟩) ?_
  simp only [Act.put, List.setIfInBounds_toArray, List.set_cons_zero, List.set_cons_succ]
  refine Ht.step (i := 21) ⟨some 24, _, _, _, _, _⟩ rfl (by kernel_rfl) (by rfl) (fun K hK => ?_)
  refine Ht.enter 110 #[.agg #[x1, .bool x2], .pointer (some ⟨cb, 0, none⟩)] (by have hen := fun args w => enters_of (P := Tryz.prog) Tryz.func110 (by kernel_rfl) rfl args w; go_simp) (hcall _ hS0) ?_
  rintro e X1 ⟨rfl, hx1⟩
  have b1 : Below w.heap.size w X1 := hS0.trans (hx1.mono hS0.size)
  refine ⟨_, rfl, hK _ _ (fun hn => b1) (fun hnx => ?_)⟩
  clear hK K hnx
  try simp only [Act.put, List.setIfInBounds_toArray, List.set_cons_zero, List.set_cons_succ]
  refine Ht.takeD 8 (i := 22) ⟨some 25, _, _, _, _, _⟩ (.int .i64 ((n' : Nat) : Int)) rfl (by kernel_rfl) (by kernel_rfl) (by decide) (by kernel_rfl) (by kernel_rfl) (by kernel_rfl) b1 (Or.inl ⟨by rfl, by (intro X hX; have := hl2 X hX; go_simp)⟩) ?_
  simp only [Act.put, List.setIfInBounds_toArray, List.set_cons_zero, List.set_cons_succ]
  refine Ht.takeD 8 (i := 23) ⟨some 26, _, _, _, _, _⟩ (.int .i64 (IntKind.i64.wrap (((n : Nat) : Int) + ((n' : Nat) : Int)))) rfl (by kernel_rfl) (by kernel_rfl) (by decide) (by kernel_rfl) (by kernel_rfl) (by kernel_rfl) b1 (Or.inl ⟨by rfl, by (intro X hX; go_simp)⟩) ?_
  simp only [Act.put, List.setIfInBounds_toArray, List.set_cons_zero, List.set_cons_succ]
  refine Ht.step (i := 24) ⟨some 2, _, _, _, _, _⟩ rfl (by kernel_rfl) (by rfl) (fun K hK => ?_)
  go_simp
  refine hK _ _ (fun hn => absurd rfl hn) (fun hnx => ?_)
  clear hK K hnx
  try simp only [Act.put, List.setIfInBounds_toArray, List.set_cons_zero, List.set_cons_succ]
  refine done (by kernel_rfl) ?_
  go_wp2_with fail
  go_ret
  exact ⟨⟨_, rfl⟩, b1⟩
set_option maxHeartbeats 1000000 in
theorem cost_down (h : Wk T O w wb fb rv ns R 109 cb nx F n rest) (hne : rest ≠ []) : Calls Tryz.prog 95 #[.pointer (some ⟨wb, 0, none⟩)] w fun e w' => (∃ c, e = .returned (.int .i64 c)) ∧ Below w.heap.size w w' := by
  obtain ⟨i, x, hi⟩ := last_of hne
  obtain ⟨g, c, cur, rfl, hic, cx1, cx2, hx, _, _, _, _, hrow⟩ := h.top hi
  have hcm : c ≤ maxLen := by
    rcases h.row.2 with h1 | ⟨g', cap, cur', e, _, _, _, h4, _⟩
    · exact absurd h1.1 (by simp)
    · have e2 := (Value.slice.inj e).2.2; rw [e2]; exact h4
  obtain ⟨M, hM⟩ : ∃ M, M = i.length + 1 := ⟨_, rfl⟩
  obtain ⟨hw1, hw2, hlt, hMx⟩ := big hM (by omega) hcm
  have cc := h.cells
  unfold fnv at cc
  rw [← hM] at cc
  have hcall : ∀ X, Below w.heap.size w X → Calls Tryz.prog 109 #[ek x, .pointer (some ⟨cb, 0, none⟩)] X fun e w' => e = .returned (.map (some (nx x))) ∧ Below X.heap.size X w' := fun X hX => h.nxt.call X hX.size (fun k hk => hX.block k (h.nxt.size k hk)) x hx
  obtain ⟨n', hset⟩ := h.nxt.set x hx
  have hl1 : ∀ X, Below w.heap.size w X → ∀ ty, (Builtin.len_ #[120] ty #[.map (some fb)]).run Tryz.prog X = .ok (.int .i64 (n : Nat)) X := fun X hX ty => h.found.len kindS (hX.block fb h.found.lt) ty
  have hl2 : ∀ X, Below w.heap.size w X → ∀ ty, (Builtin.len_ #[120] ty #[.map (some (nx x))]).run Tryz.prog X = .ok (.int .i64 (n' : Nat)) X := fun X hX ty => hset.len kindS (hX.block _ hset.lt) ty
  clear h hi hrow hset hne hic hcm hx hM
  obtain ⟨m, hm⟩ : ∃ m, m = i.length := ⟨_, rfl⟩
  rw [← hm] at cx1 cx2 hw1 hw2 hlt
  clear hm
  unfold ek at hcall
  generalize kv x.1 = x1 at *
  generalize x.2 = x2 at *
  generalize nx x = nxx at *
  have hmix : Tryz.prog.follows .mixedOrders = true := by kernel_rfl
  go_enter Tryz.func95, Tryz.ntmps95
  go_wp2_with fail
  refine begin' 24 (fun Z => Below w.heap.size w Z) hmix ((Below.refl _ w).drew) (fun hS0 => ?_)
  refine Ht.takeD 8 (i := 0) ⟨some 3, _, _, _, _, _⟩ (.pointer (some ⟨wb, 0, none⟩)) rfl (by kernel_rfl) (by kernel_rfl) (by decide) (by kernel_rfl) (by kernel_rfl) (by kernel_rfl) hS0 (Or.inl ⟨by rfl, by (intro X hX; go_simp)⟩) ?_
  simp only [Act.put, List.setIfInBounds_toArray, List.set_cons_zero, List.set_cons_succ]
  refine Ht.takeD 8 (i := 1) ⟨some 4, _, _, _, _, _⟩ (.pointer (some ⟨wb, 0, none⟩)) rfl (by kernel_rfl) (by kernel_rfl) (by decide) (by kernel_rfl) (by kernel_rfl) (by kernel_rfl) hS0 (Or.inl ⟨by rfl, by (intro X hX; go_simp)⟩) ?_
  simp only [Act.put, List.setIfInBounds_toArray, List.set_cons_zero, List.set_cons_succ]
  refine Ht.takeD 8 (i := 2) ⟨some 5, _, _, _, _, _⟩ (.pointer (some ⟨wb, 1, none⟩)) rfl (by kernel_rfl) (by kernel_rfl) (by decide) (by kernel_rfl) (by kernel_rfl) (by kernel_rfl) hS0 (Or.inl ⟨by rfl, by (intro X hX; go_simp)⟩) ?_
  simp only [Act.put, List.setIfInBounds_toArray, List.set_cons_zero, List.set_cons_succ]
  refine Ht.takeD 8 (i := 3) ⟨some 6, _, _, _, _, _⟩ (.map (some fb)) rfl (by kernel_rfl) (by kernel_rfl) (by decide) (by kernel_rfl) (by kernel_rfl) (by kernel_rfl) hS0 (Or.inl ⟨by rfl, by (intro X hX; have := bc hX cc.2.1; go_simp)⟩) ?_
  simp only [Act.put, List.setIfInBounds_toArray, List.set_cons_zero, List.set_cons_succ]
  refine Ht.takeD 8 (i := 4) ⟨some 7, _, _, _, _, _⟩ (.int .i64 ((n : Nat) : Int)) rfl (by kernel_rfl) (by kernel_rfl) (by decide) (by kernel_rfl) (by kernel_rfl) (by kernel_rfl) hS0 (Or.inl ⟨by rfl, by (intro X hX; have := hl1 X hX; go_simp)⟩) ?_
  simp only [Act.put, List.setIfInBounds_toArray, List.set_cons_zero, List.set_cons_succ]
  refine Ht.takeD 8 (i := 5) ⟨some 8, _, _, _, _, _⟩ (.pointer (some ⟨wb, 0, none⟩)) rfl (by kernel_rfl) (by kernel_rfl) (by decide) (by kernel_rfl) (by kernel_rfl) (by kernel_rfl) hS0 (Or.inl ⟨by rfl, by (intro X hX; go_simp)⟩) ?_
  simp only [Act.put, List.setIfInBounds_toArray, List.set_cons_zero, List.set_cons_succ]
  refine Ht.takeD 8 (i := 6) ⟨some 9, _, _, _, _, _⟩ (.pointer (some ⟨wb, 0, none⟩)) rfl (by kernel_rfl) (by kernel_rfl) (by decide) (by kernel_rfl) (by kernel_rfl) (by kernel_rfl) hS0 (Or.inl ⟨by rfl, by (intro X hX; go_simp)⟩) ?_
  simp only [Act.put, List.setIfInBounds_toArray, List.set_cons_zero, List.set_cons_succ]
  refine Ht.takeD 8 (i := 7) ⟨some 10, _, _, _, _, _⟩ (.pointer (some ⟨wb, 0, none⟩)) rfl (by kernel_rfl) (by kernel_rfl) (by decide) (by kernel_rfl) (by kernel_rfl) (by kernel_rfl) hS0 (Or.inl ⟨by rfl, by (intro X hX; go_simp)⟩) ?_
  simp only [Act.put, List.setIfInBounds_toArray, List.set_cons_zero, List.set_cons_succ]
  refine Ht.takeD 8 (i := 8) ⟨some 11, _, _, _, _, _⟩ (.func (.func 109) #[] #[.pointer (some ⟨cb, 0, none⟩)]) rfl (by kernel_rfl) (by kernel_rfl) (by decide) (by kernel_rfl) (by kernel_rfl) (by kernel_rfl) hS0 (Or.inl ⟨by rfl, by (intro X hX; have := bc hX cc.1; go_simp)⟩) ?_
  simp only [Act.put, List.setIfInBounds_toArray, List.set_cons_zero, List.set_cons_succ]
  refine Ht.takeD 8 (i := 9) ⟨some 12, _, _, _, _, _⟩ (.pointer (some ⟨wb, 0, none⟩)) rfl (by kernel_rfl) (by kernel_rfl) (by decide) (by kernel_rfl) (by kernel_rfl) (by kernel_rfl) hS0 (Or.inl ⟨by rfl, by (intro X hX; go_simp)⟩) ?_
  simp only [Act.put, List.setIfInBounds_toArray, List.set_cons_zero, List.set_cons_succ]
  refine Ht.takeD 8 (i := 10) ⟨some 13, _, _, _, _, _⟩ (.pointer (some ⟨wb, 0, none⟩)) rfl (by kernel_rfl) (by kernel_rfl) (by decide) (by kernel_rfl) (by kernel_rfl) (by kernel_rfl) hS0 (Or.inl ⟨by rfl, by (intro X hX; go_simp)⟩) ?_
  simp only [Act.put, List.setIfInBounds_toArray, List.set_cons_zero, List.set_cons_succ]
  refine Ht.takeD 8 (i := 11) ⟨some 14, _, _, _, _, _⟩ (.pointer (some ⟨wb, 2, none⟩)) rfl (by kernel_rfl) (by kernel_rfl) (by decide) (by kernel_rfl) (by kernel_rfl) (by kernel_rfl) hS0 (Or.inl ⟨by rfl, by (intro X hX; go_simp)⟩) ?_
  simp only [Act.put, List.setIfInBounds_toArray, List.set_cons_zero, List.set_cons_succ]
  refine Ht.takeD 8 (i := 12) ⟨some 15, _, _, _, _, _⟩ (.slice (some ⟨g, 0, none⟩) M c) rfl (by kernel_rfl) (by kernel_rfl) (by decide) (by kernel_rfl) (by kernel_rfl) (by kernel_rfl) hS0 (Or.inl ⟨by rfl, by (intro X hX; have := bc hX cc.2.2; go_simp)⟩) ?_
  simp only [Act.put, List.setIfInBounds_toArray, List.set_cons_zero, List.set_cons_succ]
  refine Ht.takeD 8 (i := 13) ⟨some 16, _, _, _, _, _⟩ (.pointer (some ⟨wb, 0, none⟩)) rfl (by kernel_rfl) (by kernel_rfl) (by decide) (by kernel_rfl) (by kernel_rfl) (by kernel_rfl) hS0 (Or.inl ⟨by rfl, by (intro X hX; go_simp)⟩) ?_
  simp only [Act.put, List.setIfInBounds_toArray, List.set_cons_zero, List.set_cons_succ]
  refine Ht.takeD 8 (i := 14) ⟨some 17, _, _, _, _, _⟩ (.pointer (some ⟨wb, 0, none⟩)) rfl (by kernel_rfl) (by kernel_rfl) (by decide) (by kernel_rfl) (by kernel_rfl) (by kernel_rfl) hS0 (Or.inl ⟨by rfl, by (intro X hX; go_simp)⟩) ?_
  simp only [Act.put, List.setIfInBounds_toArray, List.set_cons_zero, List.set_cons_succ]
  refine Ht.takeD 8 (i := 15) ⟨some 18, _, _, _, _, _⟩ (.pointer (some ⟨wb, 2, none⟩)) rfl (by kernel_rfl) (by kernel_rfl) (by decide) (by kernel_rfl) (by kernel_rfl) (by kernel_rfl) hS0 (Or.inl ⟨by rfl, by (intro X hX; go_simp)⟩) ?_
  simp only [Act.put, List.setIfInBounds_toArray, List.set_cons_zero, List.set_cons_succ]
  refine Ht.takeD 8 (i := 16) ⟨some 19, _, _, _, _, _⟩ (.slice (some ⟨g, 0, none⟩) M c) rfl (by kernel_rfl) (by kernel_rfl) (by decide) (by kernel_rfl) (by kernel_rfl) (by kernel_rfl) hS0 (Or.inl ⟨by rfl, by (intro X hX; have := bc hX cc.2.2; go_simp)⟩) ?_
  simp only [Act.put, List.setIfInBounds_toArray, List.set_cons_zero, List.set_cons_succ]
  refine Ht.takeD 8 (i := 17) ⟨some 20, _, _, _, _, _⟩ (.int .i64 ((M : Nat) : Int)) rfl (by kernel_rfl) (by kernel_rfl) (by decide) (by kernel_rfl) (by kernel_rfl) (by kernel_rfl) hS0 (Or.inl ⟨by rfl, by (intro X hX; go_simp)⟩) ?_
  simp only [Act.put, List.setIfInBounds_toArray, List.set_cons_zero, List.set_cons_succ]
  refine Ht.takeD 8 (i := 18) ⟨some 21, _, _, _, _, _⟩ (.int .i64 ((m : Nat) : Int)) rfl (by kernel_rfl) (by kernel_rfl) (by decide) (by kernel_rfl) (by kernel_rfl) (by kernel_rfl) hS0 (Or.inl ⟨by rfl, by (intro X hX; go_simp)⟩) ?_
  simp only [Act.put, List.setIfInBounds_toArray, List.set_cons_zero, List.set_cons_succ]
  refine Ht.takeD 8 (i := 19) ⟨some 22, _, _, _, _, _⟩ (.pointer (some ⟨g, m * 2, none⟩)) rfl (by kernel_rfl) (by kernel_rfl) (by decide) (by kernel_rfl) (by kernel_rfl) (by kernel_rfl) hS0 (Or.inl ⟨by rfl, by (intro X hX; go_simp)⟩) ?_
  simp only [Act.put, List.setIfInBounds_toArray, List.set_cons_zero, List.set_cons_succ]
  refine Ht.takeD 8 (i := 20) ⟨some 23, _, _, _, _, _⟩ (.agg #[x1, .bool x2]) rfl (by kernel_rfl) (by kernel_rfl) (by decide) (by kernel_rfl) (by kernel_rfl) (by kernel_rfl) hS0 (Or.inl ⟨by rfl, by (intro X hX; have := And.intro (bc hX cx1) (bc hX cx2); go_simp)⟩) ?_
  simp only [Act.put, List.setIfInBounds_toArray, List.set_cons_zero, List.set_cons_succ]
  refine Ht.step (i := 21) ⟨some 24, _, _, _, _, _⟩ rfl (by kernel_rfl) (by rfl) (fun K hK => ?_)
  refine Ht.enter 109 #[.agg #[x1, .bool x2], .pointer (some ⟨cb, 0, none⟩)] (by have hen := fun args w => enters_of (P := Tryz.prog) Tryz.func109 (by kernel_rfl) rfl args w; go_simp) (hcall _ hS0) ?_
  rintro e X1 ⟨rfl, hx1⟩
  have b1 : Below w.heap.size w X1 := hS0.trans (hx1.mono hS0.size)
  refine ⟨_, rfl, hK _ _ (fun hn => b1) (fun hnx => ?_)⟩
  clear hK K hnx
  try simp only [Act.put, List.setIfInBounds_toArray, List.set_cons_zero, List.set_cons_succ]
  refine Ht.takeD 8 (i := 22) ⟨some 25, _, _, _, _, _⟩ (.int .i64 ((n' : Nat) : Int)) rfl (by kernel_rfl) (by kernel_rfl) (by decide) (by kernel_rfl) (by kernel_rfl) (by kernel_rfl) b1 (Or.inl ⟨by rfl, by (intro X hX; have := hl2 X hX; go_simp)⟩) ?_
  simp only [Act.put, List.setIfInBounds_toArray, List.set_cons_zero, List.set_cons_succ]
  refine Ht.takeD 8 (i := 23) ⟨some 26, _, _, _, _, _⟩ (.int .i64 (IntKind.i64.wrap (((n : Nat) : Int) + ((n' : Nat) : Int)))) rfl (by kernel_rfl) (by kernel_rfl) (by decide) (by kernel_rfl) (by kernel_rfl) (by kernel_rfl) b1 (Or.inl ⟨by rfl, by (intro X hX; go_simp)⟩) ?_
  simp only [Act.put, List.setIfInBounds_toArray, List.set_cons_zero, List.set_cons_succ]
  refine Ht.step (i := 24) ⟨some 2, _, _, _, _, _⟩ rfl (by kernel_rfl) (by rfl) (fun K hK => ?_)
  go_simp
  refine hK _ _ (fun hn => absurd rfl hn) (fun hnx => ?_)
  clear hK K hnx
  try simp only [Act.put, List.setIfInBounds_toArray, List.set_cons_zero, List.set_cons_succ]
  refine done (by kernel_rfl) ?_
  go_wp2_with fail
  go_ret
  exact ⟨⟨_, rfl⟩, b1⟩
theorem cost_any (h : Wk T O w wb fb rv ns R fid cb nx F n rest) (hne : rest ≠ []) : Calls Tryz.prog 95 #[.pointer (some ⟨wb, 0, none⟩)] w fun e w' => (∃ c, e = .returned (.int .i64 c)) ∧ Below w.heap.size w w' := by
  rcases h.nxt.fn with rfl | rfl
  · exact cost_up h hne
  · exact cost_down h hne
end
theorem five (w : World) (a b c d e : Obj) : let W := ((((w.alloc a).alloc b).alloc c).alloc d).alloc e
    W.heap[w.heap.size]? = some a ∧ W.heap[w.heap.size + 1 + 1]? = some c ∧ W.heap[w.heap.size + 1 + 1 + 1]? = some d ∧ W.heap[w.heap.size + 1 + 1 + 1 + 1]? = some e ∧ Below w.heap.size w W ∧ W.heap.size = w.heap.size + 1 + 1 + 1 + 1 + 1 := by
  intro W
  have h1 := MapKept.heap_alloc w a
  have h2 := MapKept.heap_alloc (w.alloc a) b
  have h3 := MapKept.heap_alloc ((w.alloc a).alloc b) c
  have h4 := MapKept.heap_alloc (((w.alloc a).alloc b).alloc c) d
  have h5 := MapKept.heap_alloc ((((w.alloc a).alloc b).alloc c).alloc d) e
  have s1 : (w.alloc a).heap.size = w.heap.size + 1 := by simp
  have s2 : ((w.alloc a).alloc b).heap.size = w.heap.size + 1 + 1 := by simp
  have s3 : (((w.alloc a).alloc b).alloc c).heap.size = w.heap.size + 1 + 1 + 1 := by simp
  have s4 : ((((w.alloc a).alloc b).alloc c).alloc d).heap.size = w.heap.size + 1 + 1 + 1 + 1 := by simp
  rw [s1] at h2
  rw [s2] at h3
  rw [s3] at h4
  rw [s4] at h5
  exact ⟨(h5.2 _ (by omega)).trans ((h4.2 _ (by omega)).trans ((h3.2 _ (by omega)).trans ((h2.2 _ (by omega)).trans h1.1))), (h5.2 _ (by omega)).trans ((h4.2 _ (by omega)).trans h3.1), (h5.2 _ (by omega)).trans h4.1, h5.1,
    (((((Below.refl _ w).alloc (Nat.le_refl _) a).alloc (by rw [s1]; omega) b).alloc (by rw [s2]; omega) c).alloc (by rw [s3]; omega) d).alloc (by rw [s4]; omega) e, by show (World.alloc _ _).heap.size = _; simp⟩
section
variable {S : Nat → Prop} {w : World} {gb : Nat} {mv : Option Nat} {ns : List Id} {E : Id → Id → Bool} {nb ob ub : Id → Nat}
/-- what a new walk has, and leaves -/
structure New (S : Nat → Prop) (w w' : World) (T O : Nat → Prop) : Prop where
  below : Below w.heap.size w w'
  read : ∀ k, T k → S k ∨ w.heap.size ≤ k
  own : ∀ k, O k → w.heap.size ≤ k
/-- a walk that was just made -/
def Made (S : Nat → Prop) (w w' : World) (v : Value) (ns : List Id) (R : Id → Id → Bool) (fid : FuncId) (nx : Id → Nat) (x : Id) : Prop := ∃ wb fb rv cb T O, v = .pointer (some ⟨wb, 0, none⟩) ∧ Wk T O w' wb fb rv ns R fid cb nx (fun _ => false) 0 [x] ∧ New S w w' T O
theorem up_any (q : Gq S w gb mv ns E nb ob ub) (x : Id) (hx : x ∈ ns) : Calls Tryz.prog 93 #[.pointer (some ⟨gb, 0, none⟩), ek x] w fun e w' => ∃ v, e = .returned v ∧ Made S w w' v ns (fun a b => E b a) 110 ub x := by
  have HQ := Lib.hid (And.intro q hx)
  obtain ⟨h1, h2, h3, h4, h5, h6⟩ := five w (.cells #[.pointer (some ⟨gb, 0, none⟩)] 67) (.cells #[kv x.1, .bool x.2] 115) (.map #[] 0) (.cells #[kv x.1, .bool x.2] 115) (.cells #[fnv 110 w.heap.size, .map (some (w.heap.size + 1 + 1)), .slice (some ⟨w.heap.size + 1 + 1 + 1, 0, none⟩) 1 1] 184)
  have H5 := Lib.hid (And.intro h1 (And.intro h2 (And.intro h3 (And.intro h4 (And.intro h5 h6)))))
  clear h1 h2 h3 h4 h5 h6 q hx
  have hmm := @run_makeMap Tryz.prog
  unfold ek
  go_enter Tryz.func93, Tryz.ntmps93
  go_wp2_with fail
  go_ret
  unfold fnv at H5
  obtain ⟨h1, h2, h3, h4, h5, h6⟩ := H5.out
  have q2 := HQ.out.1.below h5 (Nat.le_refl _)
  have hN := q2.up (cb := w.heap.size) (by rw [cell_of_row _ _ _ _ _ _ h1]; rfl)
  refine ⟨_, rfl, w.heap.size + 1 + 1 + 1 + 1, w.heap.size + 1 + 1, .slice (some ⟨w.heap.size + 1 + 1 + 1, 0, none⟩) 1 1, w.heap.size, _, (fun k => k = w.heap.size + 1 + 1 ∨ k = w.heap.size + 1 + 1 + 1 ∨ k = w.heap.size + 1 + 1 + 1 + 1), by simp, ⟨hN, h4, (empty_map h2).congr fun k _ => by unfold sf; simp, ?_, by simp, by simp; exact HQ.out.2, by simp, by simp, by simp, ?_, ?_, ?_⟩, h5, ?_, ?_⟩
  · exact ⟨by simp [rc], .inr ⟨_, 1, #[kv x.1, .bool x.2], rfl, Nat.zero_le _, h3, Nat.le_refl _, by unfold maxLen; omega, rfl, by simp [rc]⟩⟩
  · intro b hb; cases hb; simp
  · rintro k (hk | rfl) e
    · have := HQ.out.1.size k hk; omega
    · omega
  · intro k hk; rw [h6]; omega
  · exact fun k hk => hk.imp_right fun e => by omega
  · intro k hk; omega
theorem down_any (q : Gq S w gb mv ns E nb ob ub) (x : Id) (hx : x ∈ ns) : Calls Tryz.prog 92 #[.pointer (some ⟨gb, 0, none⟩), ek x] w fun e w' => ∃ v, e = .returned v ∧ Made S w w' v ns (E) 109 ob x := by
  have HQ := Lib.hid (And.intro q hx)
  obtain ⟨h1, h2, h3, h4, h5, h6⟩ := five w (.cells #[.pointer (some ⟨gb, 0, none⟩)] 67) (.cells #[kv x.1, .bool x.2] 115) (.map #[] 0) (.cells #[kv x.1, .bool x.2] 115) (.cells #[fnv 109 w.heap.size, .map (some (w.heap.size + 1 + 1)), .slice (some ⟨w.heap.size + 1 + 1 + 1, 0, none⟩) 1 1] 184)
  have H5 := Lib.hid (And.intro h1 (And.intro h2 (And.intro h3 (And.intro h4 (And.intro h5 h6)))))
  clear h1 h2 h3 h4 h5 h6 q hx
  have hmm := @run_makeMap Tryz.prog
  unfold ek
  go_enter Tryz.func92, Tryz.ntmps92
  go_wp2_with fail
  go_ret
  unfold fnv at H5
  obtain ⟨h1, h2, h3, h4, h5, h6⟩ := H5.out
  have q2 := HQ.out.1.below h5 (Nat.le_refl _)
  have hN := q2.down (cb := w.heap.size) (by rw [cell_of_row _ _ _ _ _ _ h1]; rfl)
  refine ⟨_, rfl, w.heap.size + 1 + 1 + 1 + 1, w.heap.size + 1 + 1, .slice (some ⟨w.heap.size + 1 + 1 + 1, 0, none⟩) 1 1, w.heap.size, _, (fun k => k = w.heap.size + 1 + 1 ∨ k = w.heap.size + 1 + 1 + 1 ∨ k = w.heap.size + 1 + 1 + 1 + 1), by simp, ⟨hN, h4, (empty_map h2).congr fun k _ => by unfold sf; simp, ?_, by simp, by simp; exact HQ.out.2, by simp, by simp, by simp, ?_, ?_, ?_⟩, h5, ?_, ?_⟩
  · exact ⟨by simp [rc], .inr ⟨_, 1, #[kv x.1, .bool x.2], rfl, Nat.zero_le _, h3, Nat.le_refl _, by unfold maxLen; omega, rfl, by simp [rc]⟩⟩
  · intro b hb; cases hb; simp
  · rintro k (hk | rfl) e
    · have := HQ.out.1.size k hk; omega
    · omega
  · intro k hk; rw [h6]; omega
  · exact fun k hk => hk.imp_right fun e => by omega
  · intro k hk; omega
end
end Go.Proofs.YtcodjknhnhdkfaaGreatDoor.DgB
