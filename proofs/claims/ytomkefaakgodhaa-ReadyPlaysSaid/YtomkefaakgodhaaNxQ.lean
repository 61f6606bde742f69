
/- ReadyPlays: the law's loop: what holds ahead of each round; counts -/
import Derived.Test.YtomkefaakgodhaaNxP
import Derived.Test.YtomkefaakgodhaaNxPa
import Derived.RangeFuncBox
namespace Go.Proofs.Ytomkefaakgodhaa.Nx
open Go.RowKit Go.Lib Go.Sort Go.Shelf Hp HpE Ht Rg
set_option linter.unusedVariables false
set_option linter.unusedSectionVars false
set_option maxRecDepth 20000
/-- ahead of a round -/
def Pq (w : World) (b2 rb n j : Nat) (X : World) (v : Value) (M : List O) (Ds : List Nat) : Prop :=
  j ≤ n ∧ M.length ≤ j ∧ St w (b2 + 1) b2 rb Ds (fun _ => False) X v M M
def PJ (w : World) (b2 rb : Nat) (a : Option Addr) (n c : Nat) (a' : Act) (w' : World) : Prop :=
  ∃ (x : Nat → Value) (j : Nat) (v : Value) (M : List O) (Ds : List Nat), Pq w b2 rb n j w' v M Ds ∧ a' = { tmps := #[x 0, x 1, .pointer (some ⟨b2, 0, none⟩), .pointer (some ⟨rb, 0, none⟩), v, x 5, x 6, x 7, x 8, x 9, x 10, x 11, x 12, x 13, x 14, x 15, x 16, x 17, x 18, x 19, x 20, x 21, x 22, x 23, x 24, x 25, x 26, x 27, x 28, .slice a n c, .int .i64 ((n : Nat) : Int), .int .i64 ((j : Nat) : Int), x 32, x 33, x 34, x 35, x 36, x 37, x 38, x 39, x 40, x 41, x 42, x 43, x 44, x 45, x 46, x 47, x 48, x 49, x 50, x 51, x 52, x 53, x 54, x 55, x 56, x 57, x 58, x 59, x 60, x 61, x 62, x 63, x 64, x 65, x 66, x 67, x 68, x 69, x 70, x 71, x 72, x 73, x 74, x 75, x 76, x 77, x 78, x 79, x 80, x 81, x 82, x 83, x 84, x 85, x 86, x 87, x 88, x 89, x 90, x 91, x 92, x 93, x 94, x 95, x 96, x 97, x 98, x 99, x 100, x 101, x 102, x 103, x 104, x 105, x 106, x 107, x 108, x 109, x 110, x 111, x 112, x 113, x 114, x 115, x 116, x 117, x 118, x 119, x 120, x 121, x 122, x 123, x 124, x 125, x 126, x 127, x 128, x 129, x 130, x 131, x 132, x 133, x 134, x 135, x 136, x 137, x 138, x 139, x 140, x 141, x 142, x 143, x 144, x 145, x 146, x 147, x 148, x 149, x 150, x 151, x 152, x 153, x 154, x 155, x 156, x 157, x 158, x 159, x 160, x 161, x 162, x 163, x 164, x 165, x 166, x 167, x 168, x 169, x 170, x 171, x 172, x 173, x 174, x 175, x 176, x 177, x 178, x 179, x 180, x 181, x 182, x 183, x 184, x 185, x 186, x 187, x 188, x 189, x 190, x 191, x 192, x 193, x 194, x 195, x 196, x 197, x 198, x 199, x 200, x 201, x 202, x 203, x 204, x 205, x 206, x 207, x 208, x 209, x 210, x 211, x 212, x 213, x 214, x 215, x 216, x 217, x 218, x 219, x 220], defers := Ds.map mk1 }
theorem PJ.mk' {w : World} {b2 rb : Nat} {a : Option Addr} {n c : Nat} {w' : World} (t : Array Value) (j : Nat) {v : Value} {M : List O} (Ds : List Nat) (h : Pq w b2 rb n j w' v M Ds) (ht : t = #[t.getD 0 undef, t.getD 1 undef, .pointer (some ⟨b2, 0, none⟩), .pointer (some ⟨rb, 0, none⟩), v, t.getD 5 undef, t.getD 6 undef, t.getD 7 undef, t.getD 8 undef, t.getD 9 undef, t.getD 10 undef, t.getD 11 undef, t.getD 12 undef, t.getD 13 undef, t.getD 14 undef, t.getD 15 undef, t.getD 16 undef, t.getD 17 undef, t.getD 18 undef, t.getD 19 undef, t.getD 20 undef, t.getD 21 undef, t.getD 22 undef, t.getD 23 undef, t.getD 24 undef, t.getD 25 undef, t.getD 26 undef, t.getD 27 undef, t.getD 28 undef, .slice a n c, .int .i64 ((n : Nat) : Int), .int .i64 ((j : Nat) : Int), t.getD 32 undef, t.getD 33 undef, t.getD 34 undef, t.getD 35 undef, t.getD 36 undef, t.getD 37 undef, t.getD 38 undef, t.getD 39 undef, t.getD 40 undef, t.getD 41 undef, t.getD 42 undef, t.getD 43 undef, t.getD 44 undef, t.getD 45 undef, t.getD 46 undef, t.getD 47 undef, t.getD 48 undef, t.getD 49 undef, t.getD 50 undef, t.getD 51 undef, t.getD 52 undef, t.getD 53 undef, t.getD 54 undef, t.getD 55 undef, t.getD 56 undef, t.getD 57 undef, t.getD 58 undef, t.getD 59 undef, t.getD 60 undef, t.getD 61 undef, t.getD 62 undef, t.getD 63 undef, t.getD 64 undef, t.getD 65 undef, t.getD 66 undef, t.getD 67 undef, t.getD 68 undef, t.getD 69 undef, t.getD 70 undef, t.getD 71 undef, t.getD 72 undef, t.getD 73 undef, t.getD 74 undef, t.getD 75 undef, t.getD 76 undef, t.getD 77 undef, t.getD 78 undef, t.getD 79 undef, t.getD 80 undef, t.getD 81 undef, t.getD 82 undef, t.getD 83 undef, t.getD 84 undef, t.getD 85 undef, t.getD 86 undef, t.getD 87 undef, t.getD 88 undef, t.getD 89 undef, t.getD 90 undef, t.getD 91 undef, t.getD 92 undef, t.getD 93 undef, t.getD 94 undef, t.getD 95 undef, t.getD 96 undef, t.getD 97 undef, t.getD 98 undef, t.getD 99 undef, t.getD 100 undef, t.getD 101 undef, t.getD 102 undef, t.getD 103 undef, t.getD 104 undef, t.getD 105 undef, t.getD 106 undef, t.getD 107 undef, t.getD 108 undef, t.getD 109 undef, t.getD 110 undef, t.getD 111 undef, t.getD 112 undef, t.getD 113 undef, t.getD 114 undef, t.getD 115 undef, t.getD 116 undef, t.getD 117 undef, t.getD 118 undef, t.getD 119 undef, t.getD 120 undef, t.getD 121 undef, t.getD 122 undef, t.getD 123 undef, t.getD 124 undef, t.getD 125 undef, t.getD 126 undef, t.getD 127 undef, t.getD 128 undef, t.getD 129 undef, t.getD 130 undef, t.getD 131 undef, t.getD 132 undef, t.getD 133 undef, t.getD 134 undef, t.getD 135 undef, t.getD 136 undef, t.getD 137 undef, t.getD 138 undef, t.getD 139 undef, t.getD 140 undef, t.getD 141 undef, t.getD 142 undef, t.getD 143 undef, t.getD 144 undef, t.getD 145 undef, t.getD 146 undef, t.getD 147 undef, t.getD 148 undef, t.getD 149 undef, t.getD 150 undef, t.getD 151 undef, t.getD 152 undef, t.getD 153 undef, t.getD 154 undef, t.getD 155 undef, t.getD 156 undef, t.getD 157 undef, t.getD 158 undef, t.getD 159 undef, t.getD 160 undef, t.getD 161 undef, t.getD 162 undef, t.getD 163 undef, t.getD 164 undef, t.getD 165 undef, t.getD 166 undef, t.getD 167 undef, t.getD 168 undef, t.getD 169 undef, t.getD 170 undef, t.getD 171 undef, t.getD 172 undef, t.getD 173 undef, t.getD 174 undef, t.getD 175 undef, t.getD 176 undef, t.getD 177 undef, t.getD 178 undef, t.getD 179 undef, t.getD 180 undef, t.getD 181 undef, t.getD 182 undef, t.getD 183 undef, t.getD 184 undef, t.getD 185 undef, t.getD 186 undef, t.getD 187 undef, t.getD 188 undef, t.getD 189 undef, t.getD 190 undef, t.getD 191 undef, t.getD 192 undef, t.getD 193 undef, t.getD 194 undef, t.getD 195 undef, t.getD 196 undef, t.getD 197 undef, t.getD 198 undef, t.getD 199 undef, t.getD 200 undef, t.getD 201 undef, t.getD 202 undef, t.getD 203 undef, t.getD 204 undef, t.getD 205 undef, t.getD 206 undef, t.getD 207 undef, t.getD 208 undef, t.getD 209 undef, t.getD 210 undef, t.getD 211 undef, t.getD 212 undef, t.getD 213 undef, t.getD 214 undef, t.getD 215 undef, t.getD 216 undef, t.getD 217 undef, t.getD 218 undef, t.getD 219 undef, t.getD 220 undef]) : PJ w b2 rb a n c { tmps := t, defers := Ds.map mk1 } w' :=
  ⟨fun i => t.getD i undef, j, v, M, Ds, h, congrArg (fun t => ({ tmps := t, defers := Ds.map mk1 } : Act)) ht⟩
def PM' (n : Nat) (a' : Act) : Nat := n - (RowKit.intOf (a'.tmps.getD 31 undef)).toNat
/-- how many of a priority -/
def cn (l : List O) (i : Nat) : Nat := (l.filter fun x => decide (x.2.1 = i)).length
theorem cn_lin (M : List O) (i : Nat) : (lin M i).length = cn M i := by unfold lin cn; rw [List.length_map]
theorem cn_perm {M M' : List O} (h : M.Perm M') (i : Nat) : cn M i = cn M' i := (h.filter _).length_eq
theorem cn_le (M : List O) (i : Nat) : cn M i ≤ M.length := List.length_filter_le _ _
theorem cn_take {l : List O} {m : Nat} (h : m < l.length) (i : Nat) : cn (l.take (m + 1)) i = if i = (el l m).2.1 then cn (l.take m) i + 1 else cn (l.take m) i := by
  unfold cn
  rw [List.take_succ_eq_append_getElem h, List.filter_append, List.length_append, ← el_eq h]
  by_cases e : (el l m).2.1 = i
  · rw [if_pos e.symm]; simp [e]
  · rw [if_neg (fun e2 => e e2.symm)]; simp [e]
/-- the counts' box -/
def cb (l : List O) : Obj := .cells #[.int .i64 ((cn l 0 : Nat) : Int), .int .i64 ((cn l 1 : Nat) : Int), .int .i64 ((cn l 2 : Nat) : Int), .int .i64 ((cn l 3 : Nat) : Int)] 40 (0, 0)
theorem cb_cell {X : World} {b : Nat} {l : List O} (h : X.heap[b]? = some (cb l)) {p : Nat} (hp : p < 4) : X.cell? ⟨b, p, none⟩ = some (.int .i64 ((cn l p : Nat) : Int)) ∧ X.frozen? ⟨b, p, none⟩ = false := by
  unfold cb at h
  constructor
  · rw [cell_of_row _ _ _ _ _ _ h]
    rcases (by omega : p = 0 ∨ p = 1 ∨ p = 2 ∨ p = 3) with rfl | rfl | rfl | rfl <;> rfl
  · simp [World.frozen?, h]
theorem cb_set {X : World} {b : Nat} {l : List O} {m : Nat} (hm : m < l.length) (h : X.heap[b]? = some (cb (l.take m))) (hp : (el l m).2.1 < 4) : (X.setCell ⟨b, (el l m).2.1, none⟩ (.int .i64 ((cn (l.take m) (el l m).2.1 + 1 : Nat) : Int))).heap[b]? = some (cb (l.take (m + 1))) := by
  unfold cb at h ⊢
  rw [Lib.heap_setCell_same h, cn_take hm, cn_take hm, cn_take hm, cn_take hm]
  rcases (by omega : (el l m).2.1 = 0 ∨ (el l m).2.1 = 1 ∨ (el l m).2.1 = 2 ∨ (el l m).2.1 = 3) with e | e | e | e <;> rw [e] <;> rfl
theorem getD_names {l : List O} {m : Nat} (h : m < l.length) : (l.map fun x : O => x.1).getD m [] = (el l m).1 := by
  rw [List.getD_eq_getElem?_getD, List.getElem?_map, el_get h]; rfl
/-- what a range has found so far -/
def Ir (W : World) (b15 b16 : Nat) (l : List O) (m : Nat) (A : World) : Prop :=
  A.heap[b15]? = some (.cells #[.int .i64 ((m : Nat) : Int)] 3 (0, 0)) ∧ A.heap[b16]? = some (cb (l.take m)) ∧ Fr (fun k => k = b15 ∨ k = b16) W A ∧ m ≤ l.length
theorem Ir.calm {W A A' : World} {b15 b16 m : Nat} {l : List O} (h : Ir W b15 b16 l m A) (e : Calmly W.heap.size A A') : Ir W b15 b16 l m A' := by
  obtain ⟨h1, h2, h3, h4⟩ := h
  refine ⟨e.cell h1, e.cell h2, ⟨e.os.trans h3.os, e.tape.trans h3.tape, e.output.trans h3.output, Nat.le_trans h3.size e.size, fun k hk hn => ?_⟩, h4⟩
  have hlt : k < A.heap.size := Nat.lt_of_lt_of_le hk h3.size
  have e1 : A.heap[k]? = some A.heap[k] := Array.getElem?_eq_getElem hlt
  rw [e.same k _ (.inl hk) e1, ← e1]
  exact h3.block k hk hn
theorem ir_end {W A2 : World} {b15 b16 m : Nat} {l : List O} (hne : b15 ≠ b16) (h15 : b15 < W.heap.size) (h16 : b16 < W.heap.size) (hb : b16 = b15 + 1) (h : Ir W b15 b16 l m A2) (hm : m < l.length) (hp : (el l m).2.1 < 4) {Z : World}
    (hZ : Z = (A2.setCell ⟨b16, (el l m).2.1, none⟩ (.int .i64 ((cn (l.take m) (el l m).2.1 + 1 : Nat) : Int))).setCell ⟨b15, 0, none⟩ (.int .i64 ((m + 1 : Nat) : Int))) :
    KeepsFrom W.heap.size A2 Z ∧ Mid b15 (b16 + 1) W.heap.size A2 Z ∧ Ir W b15 b16 l (m + 1) Z := by
  obtain ⟨h1, h2, h3, h4⟩ := h
  have oth : ∀ k, k ≠ b15 → k ≠ b16 → Z.heap[k]? = A2.heap[k]? := fun k e1 e2 => by rw [hZ, heap_setCell_other _ _ _ _ e1, heap_setCell_other _ _ _ _ e2]
  have hz : Z.heap.size = A2.heap.size := by rw [hZ]; simp
  have hs := h3.size
  have hos : Z.os = A2.os ∧ Z.tape = A2.tape ∧ Z.output = A2.output := by rw [hZ]; exact ⟨rfl, rfl, rfl⟩
  refine ⟨⟨by omega, fun k o hk hko hoc => ?_⟩, ⟨hos.1, hos.2.1, hos.2.2, by omega, fun k h5 h6 => oth k (by omega) (by omega)⟩, ?_, ?_, ⟨hos.1.trans h3.os, hos.2.1.trans h3.tape, hos.2.2.trans h3.output, by omega, fun k hk hn => (oth k (fun e => hn (.inl e)) (fun e => hn (.inr e))).trans (h3.block k hk hn)⟩, hm⟩
  · rw [oth k (by omega) (by omega)]; exact hko
  · have e1 : (A2.setCell ⟨b16, (el l m).2.1, none⟩ (.int .i64 ((cn (l.take m) (el l m).2.1 + 1 : Nat) : Int))).heap[b15]? = some (.cells #[.int .i64 ((m : Nat) : Int)] 3 (0, 0)) := by rw [heap_setCell_other _ _ _ _ hne]; exact h1
    rw [hZ, Lib.heap_setCell_same e1]; rfl
  · rw [hZ, heap_setCell_other _ _ _ _ (fun e => hne e.symm)]
    exact cb_set hm h2 hp
/-- what Len tells, of any number -/
theorem lenI {S : Nat → Prop} {X : World} {rb : Nat} {M : List O} (h : Rv S X rb M) (q : Int) : ∃ r : Int, ((¬ (0 ≤ q ∧ q ≤ 3) ∧ r = 0) ∨ (q = 0 ∧ r = ((cn M 0 : Nat) : Int)) ∨ (q = 1 ∧ r = ((cn M 1 : Nat) : Int)) ∨ (q = 2 ∧ r = ((cn M 2 : Nat) : Int)) ∨ (q = 3 ∧ r = ((cn M 3 : Nat) : Int))) ∧
    ∀ W, Below X.heap.size X W → Calls Try.prog 17 #[.pointer (some ⟨rb, 0, none⟩), .int .i64 q] W fun e w' => e = .returned (.int .i64 r) ∧ w' = W := by
  by_cases hq : 0 ≤ q ∧ q < 4
  · obtain ⟨p, rfl⟩ := Int.eq_ofNat_of_zero_le hq.1
    have hp : p < 4 := by omega
    refine ⟨((cn M p : Nat) : Int), ?_, fun W hW => ?_⟩
    · rcases (by omega : p = 0 ∨ p = 1 ∨ p = 2 ∨ p = 3) with rfl | rfl | rfl | rfl
      · exact .inr (.inl ⟨rfl, rfl⟩)
      · exact .inr (.inr (.inl ⟨rfl, rfl⟩))
      · exact .inr (.inr (.inr (.inl ⟨rfl, rfl⟩)))
      · exact .inr (.inr (.inr (.inr ⟨rfl, rfl⟩)))
    · have := (h.old hW).Len_yes hp
      rw [cn_lin] at this
      exact this
  · exact ⟨0, .inl ⟨by omega, rfl⟩, fun W hW => (h.old hW).Len_no hq⟩
end Go.Proofs.Ytomkefaakgodhaa.Nx
