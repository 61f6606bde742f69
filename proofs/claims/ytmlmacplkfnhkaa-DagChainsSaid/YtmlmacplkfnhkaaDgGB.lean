
/- graphs: walks, how they lie; what is next -/
import Derived.Test.YtmlmacplkfnhkaaDgFB
namespace Go.Proofs.Ytmlmacplkfnhkaa.DgB
open Go.RowKit Go.Lib Hp Mv Dg Ht
set_option linter.unusedVariables false
set_option maxRecDepth 20000
/-- what tells who is next, as a function: its number, the box that it holds -/
def fnv (fid : FuncId) (cb : Nat) : Value := .func (.func fid) #[] #[.pointer (some ⟨cb, 0, none⟩)]
/-- .. says so, as long as the blocks of T are as they are -/
structure Nx (T : Nat → Prop) (w : World) (ns : List Id) (R : Id → Id → Bool) (fid : FuncId) (cb : Nat) (nx : Id → Nat) : Prop where
  call : ∀ Y : World, w.heap.size ≤ Y.heap.size → (∀ k, T k → Y.heap[k]? = w.heap[k]?) → ∀ x ∈ ns, Calls Try.prog fid #[ek x, .pointer (some ⟨cb, 0, none⟩)] Y fun e Y' => e = .returned (.map (some (nx x))) ∧ Below Y.heap.size Y Y'
  fn : (fid = 47 ∨ fid = 53)
  set : ∀ x ∈ ns, ∃ n, Mq w (nx x) n (sf fun y => R x y)
  own : ∀ x ∈ ns, T (nx x)
  size : ∀ k, T k → k < w.heap.size
  edge : ∀ x y, R x y = true → y ∈ ns
  ok : ∀ x ∈ ns, wk x
theorem Nx.kept {T : Nat → Prop} {w Y : World} {ns : List Id} {R : Id → Id → Bool} {fid : FuncId} {cb : Nat} {nx : Id → Nat} (h : Nx T w ns R fid cb nx) (hs : w.heap.size ≤ Y.heap.size) (e : ∀ k, T k → Y.heap[k]? = w.heap[k]?) : Nx T Y ns R fid cb nx where
  call Z hz ez x hx := h.call Z (Nat.le_trans hs hz) (fun k hk => (ez k hk).trans (e k hk)) x hx
  fn := h.fn
  set x hx := by obtain ⟨n, hm⟩ := h.set x hx; exact ⟨n, hm.kept (e _ (h.own x hx))⟩
  own := h.own
  size k hk := Nat.lt_of_lt_of_le (h.size k hk) hs
  edge := h.edge
  ok := h.ok
section
variable {S : Nat → Prop} {w : World} {gb : Nat} {mv : Option Nat} {ns : List Id} {E : Id → Id → Bool} {nb ob ub : Id → Nat}
theorem upFn_any (q : Gq S w gb mv ns E nb ob ub) {cb : Nat} (hc : w.cell? ⟨cb, 0, none⟩ = some (.pointer (some ⟨gb, 0, none⟩))) (x : Id) (hx : x ∈ ns) :
    Calls Try.prog 47 #[ek x, .pointer (some ⟨cb, 0, none⟩)] w fun e w' => e = .returned (.map (some (ub x))) ∧ Below w.heap.size w w' := by
  obtain ⟨V, hV⟩ : ∃ V, V = w.alloc (.cells #[kv x.1, .bool x.2] 67) := ⟨_, rfl⟩
  have hb : Below w.heap.size w V := by rw [hV]; exact (Below.refl _ w).alloc (Nat.le_refl _) _
  have q2 := q.below hb (Nat.le_refl _)
  have c0 := q2.cell
  have hcV : V.cell? ⟨cb, 0, none⟩ = some (.pointer (some ⟨gb, 0, none⟩)) := (hb.cell (p := ⟨cb, 0, none⟩) (World.block_lt_of_cell? _ _ hc)).trans hc
  have hl : ∀ n, (Instr.lookup 63 (.map mv) (.agg #[kv x.1, .bool x.2]) false).run Try.prog (V.drewN n) = .ok (.pointer (some ⟨nb x, 0, none⟩)) (V.drewN n) := fun n => by
    have := q2.look (Y := V.drewN n) (fun b e => rfl) (q2.ok x hx).1
    rw [if_pos hx] at this; exact this
  have hn := (q2.nodeC hx).2.2
  obtain ⟨c1, c2⟩ := cell_id w x
  rw [← hV] at c1 c2
  have HB := Lib.hid hb
  clear q2 q hb hc hx
  unfold ek
  generalize kv x.1 = k1 at *
  generalize x.2 = k2 at *
  generalize nb x = nx at *
  generalize ub x = ox at *
  go_enter Try.func47, Try.ntmps47
  go_wp2_with fail
  rw [← hV]
  clear hV
  go_quiet (fail)
  go_wp2_with fail
  go_ret
  exact ⟨by simp, below_drewN HB.out _⟩
theorem downFn_any (q : Gq S w gb mv ns E nb ob ub) {cb : Nat} (hc : w.cell? ⟨cb, 0, none⟩ = some (.pointer (some ⟨gb, 0, none⟩))) (x : Id) (hx : x ∈ ns) :
    Calls Try.prog 53 #[ek x, .pointer (some ⟨cb, 0, none⟩)] w fun e w' => e = .returned (.map (some (ob x))) ∧ Below w.heap.size w w' := by
  obtain ⟨V, hV⟩ : ∃ V, V = w.alloc (.cells #[kv x.1, .bool x.2] 67) := ⟨_, rfl⟩
  have hb : Below w.heap.size w V := by rw [hV]; exact (Below.refl _ w).alloc (Nat.le_refl _) _
  have q2 := q.below hb (Nat.le_refl _)
  have c0 := q2.cell
  have hcV : V.cell? ⟨cb, 0, none⟩ = some (.pointer (some ⟨gb, 0, none⟩)) := (hb.cell (p := ⟨cb, 0, none⟩) (World.block_lt_of_cell? _ _ hc)).trans hc
  have hl : ∀ n, (Instr.lookup 63 (.map mv) (.agg #[kv x.1, .bool x.2]) false).run Try.prog (V.drewN n) = .ok (.pointer (some ⟨nb x, 0, none⟩)) (V.drewN n) := fun n => by
    have := q2.look (Y := V.drewN n) (fun b e => rfl) (q2.ok x hx).1
    rw [if_pos hx] at this; exact this
  have hn := (q2.nodeC hx).2.1
  obtain ⟨c1, c2⟩ := cell_id w x
  rw [← hV] at c1 c2
  have HB := Lib.hid hb
  clear q2 q hb hc hx
  unfold ek
  generalize kv x.1 = k1 at *
  generalize x.2 = k2 at *
  generalize nb x = nx at *
  generalize ob x = ox at *
  go_enter Try.func53, Try.ntmps53
  go_wp2_with fail
  rw [← hV]
  clear hV
  go_quiet (fail)
  go_wp2_with fail
  go_ret
  exact ⟨by simp, below_drewN HB.out _⟩
/-- who stands on it, by 'up' -/
theorem Gq.up (q : Gq S w gb mv ns E nb ob ub) {cb : Nat} (hc : w.cell? ⟨cb, 0, none⟩ = some (.pointer (some ⟨gb, 0, none⟩))) : Nx (fun k => S k ∨ k = cb) w ns (fun a b => E b a) 47 cb ub where
  call Y hs e x hx := upFn_any (q.kept hs fun k hk => e k (.inl hk)) (by unfold World.cell? at hc ⊢; rw [e cb (.inr rfl)]; exact hc) x hx
  fn := .inl rfl
  set x hx := q.users x hx
  own x hx := .inl (q.ownN x hx).2.2
  size k hk := by
    rcases hk with hk | rfl
    · exact q.size k hk
    · exact World.block_lt_of_cell? _ _ hc
  edge x y h := (q.edge _ _ h).1
  ok x hx := (q.ok x hx).1
theorem Gq.down (q : Gq S w gb mv ns E nb ob ub) {cb : Nat} (hc : w.cell? ⟨cb, 0, none⟩ = some (.pointer (some ⟨gb, 0, none⟩))) : Nx (fun k => S k ∨ k = cb) w ns E 53 cb ob where
  call Y hs e x hx := downFn_any (q.kept hs fun k hk => e k (.inl hk)) (by unfold World.cell? at hc ⊢; rw [e cb (.inr rfl)]; exact hc) x hx
  fn := .inr rfl
  set x hx := q.on x hx
  own x hx := .inl (q.ownN x hx).2.1
  size k hk := by
    rcases hk with hk | rfl
    · exact q.size k hk
    · exact World.block_lt_of_cell? _ _ hc
  edge x y h := (q.edge _ _ h).2
  ok x hx := (q.ok x hx).1
end
/-- ids in a row of cells -/
def rc : List Id → List Value
  | [] => []
  | x :: l => kv x.1 :: .bool x.2 :: rc l
theorem rc_len : ∀ l : List Id, (rc l).length = l.length * 2
  | [] => rfl
  | x :: l => by simp [rc, rc_len l]; omega
theorem rc_app : ∀ l m : List Id, rc (l ++ m) = rc l ++ rc m
  | [], m => rfl
  | x :: l, m => by simp [rc, rc_app l m]
/-- a walk in memory; its own blocks are those of O, what it only reads those of T -/
structure Wk (T O : Nat → Prop) (w : World) (wb fb : Nat) (rv : Value) (ns : List Id) (R : Id → Id → Bool) (fid : FuncId) (cb : Nat) (nx : Id → Nat) (F : Id → Bool) (n : Nat) (rest : List Id) : Prop where
  nxt : Nx T w ns R fid cb nx
  obj : w.heap[wb]? = some (.cells #[fnv fid cb, .map (some fb), rv] 95 (0, 0))
  found : Mq w fb n (sf F)
  row : w.ownsRow 0 67 2 rv rest.length (rc rest)
  fin : ∀ x, F x = true → x ∈ ns
  rin : ∀ x ∈ rest, x ∈ ns
  len : rest.length ≤ n + 1
  ownW : O wb
  ownF : O fb
  ownR : ∀ b, rv.ownBlock = some b → O b
  dis : ∀ k, T k → ¬ O k
  size : ∀ k, O k → k < w.heap.size
section
variable {T O : Nat → Prop} {w : World} {wb fb : Nat} {rv : Value} {ns : List Id} {R : Id → Id → Bool} {fid : FuncId} {cb : Nat} {nx : Id → Nat} {F : Id → Bool} {n : Nat} {rest : List Id}
theorem own_kept {w Y : World} {B : Nat} {t : TypeId} {k n : Nat} {v : Value} {xs : List Value} (h : w.ownsRow B t k v n xs) (e : ∀ b, v.ownBlock = some b → Y.heap[b]? = w.heap[b]?) : Y.ownsRow B t k v n xs := by
  rcases h with ⟨h0, h | ⟨g, cap, cur, rfl, h1, h2, h3⟩⟩
  · exact ⟨h0, .inl h⟩
  · refine ⟨h0, .inr ⟨g, cap, cur, rfl, h1, (e g ?_).trans h2, h3⟩⟩
    rfl
theorem own_shape {w : World} {B : Nat} {e : TypeId} {k : Nat} {v : Value} {n : Nat} {xs : List Value} (h : w.ownsRow B e k v n xs) : ∃ ao cp, v = .slice ao n cp := by
  rcases h.2 with ⟨rfl, rfl⟩ | ⟨g, cap, cur, rfl, _⟩
  · exact ⟨none, 0, rfl⟩
  · exact ⟨_, cap, rfl⟩
theorem Wk.kept {Y : World} (h : Wk T O w wb fb rv ns R fid cb nx F n rest) (hs : w.heap.size ≤ Y.heap.size) (e : ∀ k, T k ∨ O k → Y.heap[k]? = w.heap[k]?) : Wk T O Y wb fb rv ns R fid cb nx F n rest where
  nxt := h.nxt.kept hs fun k hk => e k (.inl hk)
  obj := (e wb (.inr h.ownW)).trans h.obj
  found := h.found.kept (e fb (.inr h.ownF))
  row := own_kept h.row fun b hb => e b (.inr (h.ownR b hb))
  fin := h.fin
  rin := h.rin
  len := h.len
  ownW := h.ownW
  ownF := h.ownF
  ownR := h.ownR
  dis := h.dis
  size k hk := Nat.lt_of_lt_of_le (h.size k hk) hs
theorem Wk.lt (h : Wk T O w wb fb rv ns R fid cb nx F n rest) {k : Nat} (hk : T k ∨ O k) : k < w.heap.size := hk.elim (h.nxt.size k) (h.size k)
theorem Wk.below {Y : World} {B : Nat} (h : Wk T O w wb fb rv ns R fid cb nx F n rest) (b : Below B w Y) (hB : w.heap.size ≤ B) : Wk T O Y wb fb rv ns R fid cb nx F n rest :=
  h.kept b.size fun k hk => b.block k (Nat.lt_of_lt_of_le (h.lt hk) hB)
theorem Wk.fr {Z : Nat → Prop} {Y : World} (h : Wk T O w wb fb rv ns R fid cb nx F n rest) (e : Fr Z w Y) (hd : ∀ k, T k ∨ O k → ¬ Z k) : Wk T O Y wb fb rv ns R fid cb nx F n rest :=
  h.kept e.size fun k hk => e.block k (h.lt hk) (hd k hk)
theorem Wk.cells (h : Wk T O w wb fb rv ns R fid cb nx F n rest) : w.cell? ⟨wb, 0, none⟩ = some (fnv fid cb) ∧ w.cell? ⟨wb, 1, none⟩ = some (.map (some fb)) ∧ w.cell? ⟨wb, 2, none⟩ = some rv := by
  refine ⟨?_, ?_, ?_⟩ <;> (rw [cell_of_row w _ _ _ _ _ h.obj]; rfl)
theorem Wk.n_le (h : Wk T O w wb fb rv ns R fid cb nx F n rest) : n ≤ ns.length :=
  h.found.card_le kindS fun k _ hk => by
    rw [sf_some] at hk
    exact h.fin k hk
/-- whether all are found -/
theorem ends_any (h : Wk T O w wb fb rv ns R fid cb nx F n rest) : Calls Try.prog 42 #[.pointer (some ⟨wb, 0, none⟩)] w fun e w' => e = .returned (.bool (decide (rest = []))) ∧ w' = w := by
  have c := h.cells.2.2
  obtain ⟨a, cp, rfl⟩ := own_shape h.row
  clear h
  go_enter Try.func42, Try.ntmps42
  go_wp2_with fail
  go_ret
  refine ⟨?_, rfl⟩
  cases rest <;> simp <;> omega
end
end Go.Proofs.Ytmlmacplkfnhkaa.DgB

