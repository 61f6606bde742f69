
/- QuotaPlays: the law's loop: what holds ahead of each round; how many have some -/
import Derived.Test.YthbpgdeaaadlbaaQtM
import Derived.RangeFuncBox
namespace Go.Proofs.Ythbpgdeaaadlbaa.Qt
open Go.RowKit Go.Lib Go.Maps Go.WideElems Go.ChangeMaps Go.MapKept Go.Sort Hp Rg
set_option linter.unusedVariables false
set_option linter.unusedSectionVars false
set_option maxRecDepth 20000
/-- ahead of a round -/
def Ph (w : World) (B lb : Nat) (ea : Int) (b2 b4 b7 bH bM b8 b9 n : Nat) (j : Nat) (X : World) (v : Value) (tl : List K) (M H f g : K → Option Int) (nH nM : Nat) : Prop :=
  j ≤ n ∧ nH ≤ j ∧ nM ≤ j ∧ tl.length ≤ j ∧ St w X B lb ea tl.length j b2 b4 b7 bH bM b8 b9 b2 (.cells #[.int .i64 ea] 3 (0, 0)) v tl M H f g nH nM ∧ Lo tl M H f g
def PI (w : World) (B lb : Nat) (ea : Int) (b2 b4 b7 bH bM b8 b9 : Nat) (a : Option Addr) (n c : Nat) (a' : Act) (w' : World) : Prop :=
  ∃ (x : Nat → Value) (j : Nat) (v : Value) (tl : List K) (M H f g : K → Option Int) (nH nM : Nat), Ph w B lb ea b2 b4 b7 bH bM b8 b9 n j w' v tl M H f g nH nM ∧
    a' = { tmps := #[x 0, x 1, x 2, x 3, .pointer (some ⟨b4, 0, none⟩), .pointer (some ⟨lb, 0, none⟩), x 6, .pointer (some ⟨b7, 0, none⟩), .pointer (some ⟨b8, 0, none⟩), .pointer (some ⟨b9, 0, none⟩), .func (.func 8) #[] #[.pointer (some ⟨b7, 0, none⟩), .pointer (some ⟨b9, 0, none⟩), .pointer (some ⟨b2, 0, none⟩)], x 11, x 12, x 13, x 14, x 15, x 16, x 17, x 18, x 19, x 20, x 21, x 22, x 23, x 24, x 25, x 26, x 27, x 28, x 29, x 30, x 31, x 32, x 33, x 34, x 35, x 36, x 37, x 38, x 39, x 40, x 41, x 42, x 43, x 44, x 45, x 46, x 47, x 48, x 49, x 50, x 51, x 52, .slice a n c, .int .i64 ((n : Nat) : Int), .int .i64 ((j : Nat) : Int), x 56, x 57, x 58, x 59, x 60, x 61, x 62, x 63, x 64, x 65, x 66, x 67, x 68, x 69, x 70, x 71, x 72, x 73, x 74, x 75, x 76, x 77, x 78, x 79, x 80, x 81, x 82, x 83, x 84, x 85, x 86, x 87, x 88, x 89, x 90, x 91, x 92, x 93, x 94, x 95, x 96, x 97, x 98, x 99, x 100, x 101, x 102, x 103, x 104, x 105, x 106, x 107, x 108, x 109, x 110, x 111, x 112, x 113, x 114, x 115, x 116, x 117, x 118, x 119, x 120, x 121, x 122, x 123, x 124, x 125, x 126, x 127, x 128, x 129, x 130, x 131, x 132, x 133, x 134, x 135, x 136, x 137, x 138, x 139, x 140, x 141, x 142, x 143, x 144, x 145, x 146, x 147, x 148, x 149, x 150, x 151, x 152, x 153, x 154, x 155, x 156, x 157, x 158, x 159, x 160, x 161, x 162, x 163, x 164, x 165, x 166, x 167, x 168, x 169, x 170, x 171, x 172, x 173, x 174, x 175, x 176, x 177, x 178, x 179, x 180, x 181, x 182, x 183, x 184, x 185, x 186, x 187, x 188, x 189, x 190, x 191, x 192, x 193, x 194, x 195, x 196, x 197, x 198, x 199, x 200, x 201, x 202, x 203, x 204, x 205, x 206, x 207, x 208, x 209, x 210, x 211, x 212, x 213, x 214, x 215, x 216, x 217, x 218, x 219, x 220, x 221, x 222, x 223, x 224, x 225], defers := [] }
theorem PI.mk' {w : World} {B lb : Nat} {ea : Int} {b2 b4 b7 bH bM b8 b9 : Nat} {a : Option Addr} {n c : Nat} {w' : World} (t : Array Value) (j : Nat) {v : Value} {tl : List K} {M H f g : K → Option Int} {nH nM : Nat}
    (h : Ph w B lb ea b2 b4 b7 bH bM b8 b9 n j w' v tl M H f g nH nM)
    (ht : t = #[t.getD 0 undef, t.getD 1 undef, t.getD 2 undef, t.getD 3 undef, .pointer (some ⟨b4, 0, none⟩), .pointer (some ⟨lb, 0, none⟩), t.getD 6 undef, .pointer (some ⟨b7, 0, none⟩), .pointer (some ⟨b8, 0, none⟩), .pointer (some ⟨b9, 0, none⟩), .func (.func 8) #[] #[.pointer (some ⟨b7, 0, none⟩), .pointer (some ⟨b9, 0, none⟩), .pointer (some ⟨b2, 0, none⟩)], t.getD 11 undef, t.getD 12 undef, t.getD 13 undef, t.getD 14 undef, t.getD 15 undef, t.getD 16 undef, t.getD 17 undef, t.getD 18 undef, t.getD 19 undef, t.getD 20 undef, t.getD 21 undef, t.getD 22 undef, t.getD 23 undef, t.getD 24 undef, t.getD 25 undef, t.getD 26 undef, t.getD 27 undef, t.getD 28 undef, t.getD 29 undef, t.getD 30 undef, t.getD 31 undef, t.getD 32 undef, t.getD 33 undef, t.getD 34 undef, t.getD 35 undef, t.getD 36 undef, t.getD 37 undef, t.getD 38 undef, t.getD 39 undef, t.getD 40 undef, t.getD 41 undef, t.getD 42 undef, t.getD 43 undef, t.getD 44 undef, t.getD 45 undef, t.getD 46 undef, t.getD 47 undef, t.getD 48 undef, t.getD 49 undef, t.getD 50 undef, t.getD 51 undef, t.getD 52 undef, .slice a n c, .int .i64 ((n : Nat) : Int), .int .i64 ((j : Nat) : Int), t.getD 56 undef, t.getD 57 undef, t.getD 58 undef, t.getD 59 undef, t.getD 60 undef, t.getD 61 undef, t.getD 62 undef, t.getD 63 undef, t.getD 64 undef, t.getD 65 undef, t.getD 66 undef, t.getD 67 undef, t.getD 68 undef, t.getD 69 undef, t.getD 70 undef, t.getD 71 undef, t.getD 72 undef, t.getD 73 undef, t.getD 74 undef, t.getD 75 undef, t.getD 76 undef, t.getD 77 undef, t.getD 78 undef, t.getD 79 undef, t.getD 80 undef, t.getD 81 undef, t.getD 82 undef, t.getD 83 undef, t.getD 84 undef, t.getD 85 undef, t.getD 86 undef, t.getD 87 undef, t.getD 88 undef, t.getD 89 undef, t.getD 90 undef, t.getD 91 undef, t.getD 92 undef, t.getD 93 undef, t.getD 94 undef, t.getD 95 undef, t.getD 96 undef, t.getD 97 undef, t.getD 98 undef, t.getD 99 undef, t.getD 100 undef, t.getD 101 undef, t.getD 102 undef, t.getD 103 undef, t.getD 104 undef, t.getD 105 undef, t.getD 106 undef, t.getD 107 undef, t.getD 108 undef, t.getD 109 undef, t.getD 110 undef, t.getD 111 undef, t.getD 112 undef, t.getD 113 undef, t.getD 114 undef, t.getD 115 undef, t.getD 116 undef, t.getD 117 undef, t.getD 118 undef, t.getD 119 undef, t.getD 120 undef, t.getD 121 undef, t.getD 122 undef, t.getD 123 undef, t.getD 124 undef, t.getD 125 undef, t.getD 126 undef, t.getD 127 undef, t.getD 128 undef, t.getD 129 undef, t.getD 130 undef, t.getD 131 undef, t.getD 132 undef, t.getD 133 undef, t.getD 134 undef, t.getD 135 undef, t.getD 136 undef, t.getD 137 undef, t.getD 138 undef, t.getD 139 undef, t.getD 140 undef, t.getD 141 undef, t.getD 142 undef, t.getD 143 undef, t.getD 144 undef, t.getD 145 undef, t.getD 146 undef, t.getD 147 undef, t.getD 148 undef, t.getD 149 undef, t.getD 150 undef, t.getD 151 undef, t.getD 152 undef, t.getD 153 undef, t.getD 154 undef, t.getD 155 undef, t.getD 156 undef, t.getD 157 undef, t.getD 158 undef, t.getD 159 undef, t.getD 160 undef, t.getD 161 undef, t.getD 162 undef, t.getD 163 undef, t.getD 164 undef, t.getD 165 undef, t.getD 166 undef, t.getD 167 undef, t.getD 168 undef, t.getD 169 undef, t.getD 170 undef, t.getD 171 undef, t.getD 172 undef, t.getD 173 undef, t.getD 174 undef, t.getD 175 undef, t.getD 176 undef, t.getD 177 undef, t.getD 178 undef, t.getD 179 undef, t.getD 180 undef, t.getD 181 undef, t.getD 182 undef, t.getD 183 undef, t.getD 184 undef, t.getD 185 undef, t.getD 186 undef, t.getD 187 undef, t.getD 188 undef, t.getD 189 undef, t.getD 190 undef, t.getD 191 undef, t.getD 192 undef, t.getD 193 undef, t.getD 194 undef, t.getD 195 undef, t.getD 196 undef, t.getD 197 undef, t.getD 198 undef, t.getD 199 undef, t.getD 200 undef, t.getD 201 undef, t.getD 202 undef, t.getD 203 undef, t.getD 204 undef, t.getD 205 undef, t.getD 206 undef, t.getD 207 undef, t.getD 208 undef, t.getD 209 undef, t.getD 210 undef, t.getD 211 undef, t.getD 212 undef, t.getD 213 undef, t.getD 214 undef, t.getD 215 undef, t.getD 216 undef, t.getD 217 undef, t.getD 218 undef, t.getD 219 undef, t.getD 220 undef, t.getD 221 undef, t.getD 222 undef, t.getD 223 undef, t.getD 224 undef, t.getD 225 undef]) : PI w B lb ea b2 b4 b7 bH bM b8 b9 a n c { tmps := t, defers := [] } w' :=
  ⟨fun i => t.getD i undef, j, v, tl, M, H, f, g, nH, nM, h, congrArg (fun t => ({ tmps := t, defers := [] } : Act)) ht⟩
def PM (n : Nat) (a' : Act) : Nat := n - (RowKit.intOf (a'.tmps.getD 55 undef)).toNat
/-- the beginning -/
theorem St.start {w w2 : World} {lb b2 b4 : Nat} {ea : Int} (q : Lq (fun k => k = lb) w2 lb ea none none 0 0 (fun _ => none) (fun _ => none)) (r2 : w2.heap[b2]? = some (.cells #[.int .i64 ea] 3 (0, 0))) (r4 : w2.heap[b4]? = some (.cells #[.bool false] 4 (0, 0)))
    (hl : w.heap.size ≤ b2 ∧ b2 < b4 ∧ b4 < w2.heap.size ∧ w.heap.size ≤ lb ∧ b4 < lb) (hb : Below w.heap.size w w2) {X : World}
    (hX : X = ((((w2.alloc (.cells #[.slice none 0 0] 28)).alloc (.map #[] 0)).alloc (.map #[] 0)).alloc (.cells #[.map (some (w2.heap.size + 1))] 29)).alloc (.cells #[.map (some (w2.heap.size + 1 + 1))] 29)) :
    St w X (w2.heap.size + 1 + 1 + 1 + 1 + 1) lb ea 0 0 b2 b4 w2.heap.size (w2.heap.size + 1) (w2.heap.size + 1 + 1) (w2.heap.size + 1 + 1 + 1) (w2.heap.size + 1 + 1 + 1 + 1) b2 (.cells #[.int .i64 ea] 3 (0, 0)) (.slice none 0 0) [] (fun _ => none) (fun _ => none) (fun _ => none) (fun _ => none) 0 0 := by
  obtain ⟨A1, hA1⟩ : ∃ A, A = w2.alloc (.cells #[.slice none 0 0] 28) := ⟨_, rfl⟩
  obtain ⟨A2, hA2⟩ : ∃ A, A = A1.alloc (.map #[] 0) := ⟨_, rfl⟩
  obtain ⟨A3, hA3⟩ : ∃ A, A = A2.alloc (.map #[] 0) := ⟨_, rfl⟩
  obtain ⟨A4, hA4⟩ : ∃ A, A = A3.alloc (.cells #[.map (some (w2.heap.size + 1))] 29) := ⟨_, rfl⟩
  rw [← hA1, ← hA2, ← hA3, ← hA4] at hX
  have z1 : A1.heap.size = w2.heap.size + 1 := by rw [hA1]; simp
  have z2 : A2.heap.size = w2.heap.size + 1 + 1 := by rw [hA2]; simp [z1]
  have z3 : A3.heap.size = w2.heap.size + 1 + 1 + 1 := by rw [hA3]; simp [z2]
  have z4 : A4.heap.size = w2.heap.size + 1 + 1 + 1 + 1 := by rw [hA4]; simp [z3]
  have z5 : X.heap.size = w2.heap.size + 1 + 1 + 1 + 1 + 1 := by rw [hX]; simp [z4]
  have n1 : A1.heap[w2.heap.size]? = some (.cells #[.slice none 0 0] 28 (0, 0)) := by rw [hA1]; exact World.alloc_heap_new _ _
  have n2 : A2.heap[w2.heap.size + 1]? = some (.map #[] 0) := by rw [hA2, ← z1]; exact World.alloc_heap_new _ _
  have n3 : A3.heap[w2.heap.size + 1 + 1]? = some (.map #[] 0) := by rw [hA3, ← z2]; exact World.alloc_heap_new _ _
  have n4 : A4.heap[w2.heap.size + 1 + 1 + 1]? = some (.cells #[.map (some (w2.heap.size + 1))] 29 (0, 0)) := by rw [hA4, ← z3]; exact World.alloc_heap_new _ _
  have n5 : X.heap[w2.heap.size + 1 + 1 + 1 + 1]? = some (.cells #[.map (some (w2.heap.size + 1 + 1))] 29 (0, 0)) := by rw [hX, ← z4]; exact World.alloc_heap_new _ _
  have b1 : Below w2.heap.size w2 A1 := by rw [hA1]; exact (Below.refl _ _).alloc (Nat.le_refl _) _
  have b2' : Below A1.heap.size A1 A2 := by rw [hA2]; exact (Below.refl _ _).alloc (Nat.le_refl _) _
  have b3 : Below A2.heap.size A2 A3 := by rw [hA3]; exact (Below.refl _ _).alloc (Nat.le_refl _) _
  have b4' : Below A3.heap.size A3 A4 := by rw [hA4]; exact (Below.refl _ _).alloc (Nat.le_refl _) _
  have b5 : Below A4.heap.size A4 X := by rw [hX]; exact (Below.refl _ _).alloc (Nat.le_refl _) _
  have c4 : Below A3.heap.size A3 X := b4'.trans (b5.mono (by omega))
  have c3 : Below A2.heap.size A2 X := b3.trans (c4.mono (by omega))
  have c2 : Below A1.heap.size A1 X := b2'.trans (c3.mono (by omega))
  have c1 : Below w2.heap.size w2 X := b1.trans (c2.mono (by omega))
  refine ⟨⟨_, ⟨_, _, _, q.below c1 (Nat.le_refl _), Nat.le_refl _⟩, fun k hk => by omega, ⟨by omega, by omega, ?_, ?_, ?_, ?_, ?_, by omega⟩, fun k hk => by cases hk⟩, (c1.block _ (by omega)).trans r2, ⟨false, (c1.block _ (by omega)).trans r4⟩, (c2.block _ (by omega)).trans n1, (b5.block _ (by omega)).trans n4, n5, ?_, ?_, ⟨rfl, .inl ⟨rfl, rfl⟩⟩,
    ⟨by omega, by omega, by omega, by omega, by omega, by omega, by omega, by omega, by omega⟩, (c1.block _ (by omega)).trans r2, ⟨by omega, by omega, by omega, by omega, by omega, by omega, by simp [Value.ownBlock]⟩, hb.trans (c1.mono (by omega))⟩
  · have := q.size lb rfl; omega
  · have := q.size lb rfl; omega
  · have := q.size lb rfl; omega
  · have := q.size lb rfl; omega
  · have := q.size lb rfl; omega
  · have h := made A1
    rw [← hA2, z1] at h
    exact h.kept (c3.block _ (by omega))
  · have h := made A2
    rw [← hA3, z2] at h
    exact h.kept (c4.block _ (by omega))
/-- how many of these have some -/
def cnt (f : K → Option Int) (es : List K) : Nat := (es.filter fun k => decide (0 < (f k).getD 0)).length
theorem cnt_app (f : K → Option Int) (es : List K) (k : K) : cnt f (es ++ [k]) = if 0 < (f k).getD 0 then cnt f es + 1 else cnt f es := by
  unfold cnt
  rw [List.filter_append, List.length_append]
  by_cases h : 0 < (f k).getD 0 <;> simp [h]
theorem cnt_le (f : K → Option Int) (es : List K) : cnt f es ≤ es.length := List.length_filter_le _ _
/-- all that have some are told -/
theorem cnt_all {w X : World} {B lb : Nat} {ea : Int} {nm c b2 b4 b7 bH bM b8 b9 ab : Nat} {A : Obj} {v : Value} {tl : List K} {M H f g : K → Option Int} {nH nM : Nat} (h : St w X B lb ea nm c b2 b4 b7 bH bM b8 b9 ab A v tl M H f g nH nM) (lo : Lo tl M H f g)
    {es ls : List K} (hn : es.Nodup) (hm : ∀ k ∈ es, wk k) (hd : ∀ k, wk k → (f k).isSome = true → k ∈ es) (ks : Ks H ls) : cnt f es = ls.length := by
  unfold cnt
  have hl : ls.Nodup := by
    rw [List.nodup_iff_pairwise_ne]
    exact ks.1.imp fun {a b} h e => by rw [e] at h; exact List.lt_irrefl b h
  have h1 : ∀ k, k ∈ es.filter (fun k => decide (0 < (f k).getD 0)) ↔ k ∈ ls := fun k => by
    rw [List.mem_filter, decide_eq_true_eq, ks.2 k, h.pos k, decide_eq_true_eq]
    constructor
    · rintro ⟨a, b⟩
      have hw := hm k a
      exact ⟨hw, by rw [← lo.hs k hw]; exact b⟩
    · rintro ⟨a, b⟩
      rw [← lo.hs k a] at b
      refine ⟨hd k a ?_, b⟩
      cases e : f k with
      | none => rw [e] at b; simp at b
      | some x => rfl
  have a := Mv.len_sub _ ls (hn.filter _) fun k hk => (h1 k).1 hk
  have b := Mv.len_sub ls _ hl fun k hk => (h1 k).2 hk
  omega
theorem wp_append' {o : Oper} {a : Act} {W W' : World} {F : Act → World → Prop} {Q : Exit → Act → World → Prop} {v u v' : Value} (s x : Operand) (t : TypeId)
    (ho : o.op = .call { callee := .builtin .append, args := #[s, x], argTypes := #[t, t] }) (hs : a.eval s = v) (hx : a.eval x = u)
    (hr : (Builtin.append_ #[t, t] o.type #[v, u]).run Try.prog W = .ok v' W') (h : F (a.put o.dst v') W') : o.wp Try.prog a W F Q := by
  unfold Oper.wp execOp
  simp only [ho, resolve, invoke, builtin, Sem.run_bind, Sem.run_pure, Result.andThen_ok, List.map_toArray, List.map_cons, List.map_nil, hs, hx, hr]
  exact h
theorem below_drewN {B : Nat} {a w : World} (h : Below B a w) (n : Nat) : Below B a (w.drewN n) := ⟨h.os, h.tape, h.output, h.size, h.block⟩
/-- what a round's last look finds -/
theorem St.facts {w X : World} {B lb : Nat} {ea : Int} {nm c b2 b4 b7 bH bM b8 b9 ab : Nat} {A : Obj} {v : Value} {tl : List K} {M H f g : K → Option Int} {nH nM : Nat} (h : St w X B lb ea nm c b2 b4 b7 bH bM b8 b9 ab A v tl M H f g nH nM) (lo : Lo tl M H f g) (k : K) (hk : wk k) (hl : tl.length ≤ 1000000) :
    (∀ W, W.heap = X.heap → Calls Try.prog 13 #[.pointer (some ⟨lb, 0, none⟩), .string ⟨k.toArray⟩] W fun e w' => e = .returned (.int .i64 (has H k)) ∧ w' = W) ∧
    (∀ W, W.heap = X.heap → Calls Try.prog 14 #[.pointer (some ⟨lb, 0, none⟩), .string ⟨k.toArray⟩] W fun e w' => e = .returned (.int .i64 (may ea M k)) ∧ w' = W) ∧
    (∀ W, W.heap = X.heap → Calls Try.prog 8 #[.string ⟨k.toArray⟩, .pointer (some ⟨b7, 0, none⟩), .pointer (some ⟨b9, 0, none⟩), .pointer (some ⟨b2, 0, none⟩)] W fun e w' => e = .returned (.int .i64 (may ea M k)) ∧ w' = W) ∧
    (∀ n, (Instr.lookup 29 (.map (some bH)) (.string ⟨k.toArray⟩) false).run Try.prog (X.drewN n) = .ok (.int .i64 (has H k)) (X.drewN n)) ∧ X.cell? ⟨b8, 0, none⟩ = some (.map (some bH)) ∧ X.cell? ⟨b9, 0, none⟩ = some (.map (some bM)) :=
  ⟨h.Has k hk, h.May k hk, h.mayL lo k hk hl, fun n => by rw [← lo.hs k hk]; exact Qt.look1 h.mH (Y := X.drewN n) rfl hk, (c1_of h.e8).1, (c1_of h.e9).1⟩
/-- what has been told so far -/
def IE (w : World) (zz b4 b8 bH nH N : Nat) (f : K → Option Int) (ls : List K) (m : Nat) (A : World) : Prop :=
  A.heap[zz]? = some (.cells #[.string ⟨(if m = 0 then [] else ls.getD (m - 1) [] : K).toArray⟩] 9 (0, 0)) ∧ A.heap[zz + 1]? = some (.cells #[.int .i64 ((m : Nat) : Int)] 3 (0, 0)) ∧ (∃ rb, A.heap[b4]? = some (.cells #[.bool rb] 4 (0, 0))) ∧
    A.heap[b8]? = some (.cells #[.map (some bH)] 29 (0, 0)) ∧ Mq A bH nH f ∧ Below w.heap.size w A ∧ N ≤ A.heap.size
theorem IE.calm {w : World} {zz b4 b8 bH nH N : Nat} {f : K → Option Int} {ls : List K} {m : Nat} {A A' : World} (h : IE w zz b4 b8 bH nH N f ls m A) (e : Calmly N A A') (hb : bH < N) (hw : w.heap.size ≤ N) : IE w zz b4 b8 bH nH N f ls m A' := by
  obtain ⟨h1, h2, ⟨rb, h3⟩, h4, h5, h6, h7⟩ := h
  have e1 : A.heap[bH]? = some A.heap[bH] := Array.getElem?_eq_getElem (by omega)
  exact ⟨e.cell h1, e.cell h2, ⟨rb, e.cell h3⟩, e.cell h4, h5.kept (by rw [e.same bH _ (.inl hb) e1, e1]), h6.trans (e.below hw h7), Nat.le_trans h7 e.size⟩
theorem ie_end {w : World} {zz b4 b8 bH nH N : Nat} {f : K → Option Int} {ls : List K} {m : Nat} {A Z : World} (h : IE w zz b4 b8 bH nH N f ls m A) {p : K} (hp : p = ls.getD m []) (hz : zz + 2 ≤ N) (ho : b4 < zz ∧ b8 < zz ∧ bH < zz ∧ w.heap.size ≤ zz)
    (hZ : Z = (A.setCell ⟨zz, 0, none⟩ (.string ⟨p.toArray⟩)).setCell ⟨zz + 1, 0, none⟩ (.int .i64 (((m : Nat) : Int) + 1))) : KeepsFrom N A Z ∧ Mid zz (zz + 2) N A Z ∧ IE w zz b4 b8 bH nH N f ls (m + 1) Z := by
  obtain ⟨h1, h2, ⟨rb, h3⟩, h4, h5, h6, h7⟩ := h
  obtain ⟨Y, hY⟩ : ∃ Y, Y = A.setCell ⟨zz, 0, none⟩ (.string ⟨p.toArray⟩) := ⟨_, rfl⟩
  rw [← hY] at hZ
  have y1 : Y.heap[zz]? = some (.cells #[.string ⟨p.toArray⟩] 9 (0, 0)) := by rw [hY]; exact Lib.heap_setCell_same h1 _
  have yo : ∀ k, k ≠ zz → Y.heap[k]? = A.heap[k]? := fun k hk => by rw [hY]; exact heap_setCell_other _ _ _ _ hk
  have z1 : Z.heap[zz + 1]? = some (.cells #[.int .i64 ((m + 1 : Nat) : Int)] 3 (0, 0)) := by rw [hZ]; exact Lib.heap_setCell_same ((yo _ (by omega)).trans h2) _
  have zo : ∀ k, k ≠ zz + 1 → Z.heap[k]? = Y.heap[k]? := fun k hk => by rw [hZ]; exact heap_setCell_other _ _ _ _ hk
  have oth : ∀ k, k ≠ zz → k ≠ zz + 1 → Z.heap[k]? = A.heap[k]? := fun k h1 h2 => (zo k h2).trans (yo k h1)
  have hs : Z.heap.size = A.heap.size := by rw [hZ, hY]; simp
  refine ⟨⟨by omega, fun k o hk hko _ => (oth k (by omega) (by omega)).trans hko⟩, ⟨by rw [hZ, hY]; rfl, by rw [hZ, hY]; rfl, by rw [hZ, hY]; rfl, by omega, fun k h1 h2 => oth k (by omega) (by omega)⟩, ?_, z1, ⟨rb, (oth _ (by omega) (by omega)).trans h3⟩, (oth _ (by omega) (by omega)).trans h4, h5.kept (oth _ (by omega) (by omega)), ?_, by omega⟩
  · rw [if_neg (by omega), show m + 1 - 1 = m by omega, ← hp]
    exact (zo zz (by omega)).trans y1
  · rw [hZ, hY]
    exact (h6.setCell (p := ⟨zz, 0, none⟩) ho.2.2.2 _).setCell (p := ⟨zz + 1, 0, none⟩) (by show _ ≤ zz + 1; omega) _
theorem vf_int {f : K → Option Int} {k : K} {v : Value} (h : vf f k = some v) : ∃ y, f k = some y ∧ v = .int .i64 y := by
  unfold vf at h
  cases e : f k with
  | none => rw [e] at h; cases h
  | some y => rw [e] at h; exact ⟨y, rfl, (Option.some.inj h).symm⟩
theorem leq_str {P : Program} {t : TypeId} (x y : List UInt8) (h : y < x) (W : World) : (binOp .leq t (.string ⟨x.toArray⟩) (.string ⟨y.toArray⟩)).run P W = .ok (.bool false) W := by
  simp [binOp, Op.stringOp, bytesLess_eq, Lib.toList_data, go_sem]
  refine ⟨List.le_of_lt h, fun e => ?_⟩
  subst e
  exact List.lt_irrefl _ h
end Go.Proofs.Ythbpgdeaaadlbaa.Qt
