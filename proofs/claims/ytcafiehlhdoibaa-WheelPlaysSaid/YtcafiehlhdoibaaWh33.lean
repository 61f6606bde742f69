
/- WheelPlays: the law's loop: what holds ahead of each round; what a range gathers -/
import Derived.Test.YtcafiehlhdoibaaWh32
import Derived.Test.YtcafiehlhdoibaaWh16
import Derived.Test.YtcafiehlhdoibaaWh13
import Derived.Test.YtcafiehlhdoibaaHw
import Derived.RangeFuncBox
namespace Go.Proofs.Ytcafiehlhdoibaa.Wh
open Go.RowKit Go.Lib Go.Sort Go.Maps Hp Ht Rg
set_option linter.unusedVariables false
set_option maxRecDepth 20000
/-- ahead of a round -/
def PI (w : World) (wb mb mo : Nat) (a : Option Addr) (n c : Nat) (a' : Act) (w' : World) : Prop :=
  ∃ (x : Nat → Value) (j : Nat) (lv : Value) (nw : Int) (m : List (K × Int)) (Ds : List Nat),
    (j ≤ n ∧ m.length ≤ j ∧ Pl w.heap.size (fun x => x ∈ Ds) w' wb mb lv mo nw m nw m ∧ Recs w.heap.size w' Ds ∧ Below w.heap.size w w') ∧
    a' = { tmps := #[x 0, x 1, x 2, x 3, x 4, x 5, x 6, .pointer (some ⟨wb, 0, none⟩), x 8, .pointer (some ⟨mb, 0, none⟩), x 10, x 11, x 12, x 13, x 14, x 15, x 16, x 17, x 18, x 19, x 20, x 21, x 22, x 23, x 24, x 25, x 26, x 27, x 28, x 29, x 30, x 31, x 32, x 33, x 34, x 35, x 36, x 37, x 38, x 39, x 40, x 41, x 42, x 43, x 44, x 45, x 46, x 47, x 48, x 49, x 50, x 51, x 52, x 53, x 54, x 55, x 56, x 57, .slice a n c, .int .i64 ((n : Nat) : Int), .int .i64 ((j : Nat) : Int), x 61, x 62, x 63, x 64, x 65, x 66, x 67, x 68, x 69, x 70, x 71, x 72, x 73, x 74, x 75, x 76, x 77, x 78, x 79, x 80, x 81, x 82, x 83, x 84, x 85, x 86, x 87, x 88, x 89, x 90, x 91, x 92, x 93, x 94, x 95, x 96, x 97, x 98, x 99, x 100, x 101, x 102, x 103, x 104, x 105, x 106, x 107, x 108, x 109, x 110, x 111, x 112, x 113, x 114, x 115, x 116, x 117, x 118, x 119, x 120, x 121, x 122, x 123, x 124, x 125, x 126, x 127, x 128, x 129, x 130, x 131, x 132, x 133, x 134, x 135, x 136, x 137, x 138, x 139, x 140, x 141, x 142, x 143, x 144, x 145, x 146, x 147, x 148, x 149, x 150, x 151, x 152, x 153, x 154, x 155, x 156, x 157, x 158, x 159, x 160, x 161, x 162, x 163, x 164, x 165, x 166, x 167, x 168, x 169, x 170, x 171, x 172, x 173, x 174, x 175, x 176, x 177, x 178, x 179, x 180, x 181, x 182, x 183, x 184], defers := Ds.map mk1 }
theorem PI.mk' {w : World} {wb mb mo : Nat} {a : Option Addr} {n c : Nat} {w' : World} (t : Array Value) (j : Nat) (lv : Value) (nw : Int) (m : List (K × Int)) (Ds : List Nat)
    (h : j ≤ n ∧ m.length ≤ j ∧ Pl w.heap.size (fun x => x ∈ Ds) w' wb mb lv mo nw m nw m ∧ Recs w.heap.size w' Ds ∧ Below w.heap.size w w')
    (ht : t = #[t.getD 0 undef, t.getD 1 undef, t.getD 2 undef, t.getD 3 undef, t.getD 4 undef, t.getD 5 undef, t.getD 6 undef, .pointer (some ⟨wb, 0, none⟩), t.getD 8 undef, .pointer (some ⟨mb, 0, none⟩), t.getD 10 undef, t.getD 11 undef, t.getD 12 undef, t.getD 13 undef, t.getD 14 undef, t.getD 15 undef, t.getD 16 undef, t.getD 17 undef, t.getD 18 undef, t.getD 19 undef, t.getD 20 undef, t.getD 21 undef, t.getD 22 undef, t.getD 23 undef, t.getD 24 undef, t.getD 25 undef, t.getD 26 undef, t.getD 27 undef, t.getD 28 undef, t.getD 29 undef, t.getD 30 undef, t.getD 31 undef, t.getD 32 undef, t.getD 33 undef, t.getD 34 undef, t.getD 35 undef, t.getD 36 undef, t.getD 37 undef, t.getD 38 undef, t.getD 39 undef, t.getD 40 undef, t.getD 41 undef, t.getD 42 undef, t.getD 43 undef, t.getD 44 undef, t.getD 45 undef, t.getD 46 undef, t.getD 47 undef, t.getD 48 undef, t.getD 49 undef, t.getD 50 undef, t.getD 51 undef, t.getD 52 undef, t.getD 53 undef, t.getD 54 undef, t.getD 55 undef, t.getD 56 undef, t.getD 57 undef, .slice a n c, .int .i64 ((n : Nat) : Int), .int .i64 ((j : Nat) : Int), t.getD 61 undef, t.getD 62 undef, t.getD 63 undef, t.getD 64 undef, t.getD 65 undef, t.getD 66 undef, t.getD 67 undef, t.getD 68 undef, t.getD 69 undef, t.getD 70 undef, t.getD 71 undef, t.getD 72 undef, t.getD 73 undef, t.getD 74 undef, t.getD 75 undef, t.getD 76 undef, t.getD 77 undef, t.getD 78 undef, t.getD 79 undef, t.getD 80 undef, t.getD 81 undef, t.getD 82 undef, t.getD 83 undef, t.getD 84 undef, t.getD 85 undef, t.getD 86 undef, t.getD 87 undef, t.getD 88 undef, t.getD 89 undef, t.getD 90 undef, t.getD 91 undef, t.getD 92 undef, t.getD 93 undef, t.getD 94 undef, t.getD 95 undef, t.getD 96 undef, t.getD 97 undef, t.getD 98 undef, t.getD 99 undef, t.getD 100 undef, t.getD 101 undef, t.getD 102 undef, t.getD 103 undef, t.getD 104 undef, t.getD 105 undef, t.getD 106 undef, t.getD 107 undef, t.getD 108 undef, t.getD 109 undef, t.getD 110 undef, t.getD 111 undef, t.getD 112 undef, t.getD 113 undef, t.getD 114 undef, t.getD 115 undef, t.getD 116 undef, t.getD 117 undef, t.getD 118 undef, t.getD 119 undef, t.getD 120 undef, t.getD 121 undef, t.getD 122 undef, t.getD 123 undef, t.getD 124 undef, t.getD 125 undef, t.getD 126 undef, t.getD 127 undef, t.getD 128 undef, t.getD 129 undef, t.getD 130 undef, t.getD 131 undef, t.getD 132 undef, t.getD 133 undef, t.getD 134 undef, t.getD 135 undef, t.getD 136 undef, t.getD 137 undef, t.getD 138 undef, t.getD 139 undef, t.getD 140 undef, t.getD 141 undef, t.getD 142 undef, t.getD 143 undef, t.getD 144 undef, t.getD 145 undef, t.getD 146 undef, t.getD 147 undef, t.getD 148 undef, t.getD 149 undef, t.getD 150 undef, t.getD 151 undef, t.getD 152 undef, t.getD 153 undef, t.getD 154 undef, t.getD 155 undef, t.getD 156 undef, t.getD 157 undef, t.getD 158 undef, t.getD 159 undef, t.getD 160 undef, t.getD 161 undef, t.getD 162 undef, t.getD 163 undef, t.getD 164 undef, t.getD 165 undef, t.getD 166 undef, t.getD 167 undef, t.getD 168 undef, t.getD 169 undef, t.getD 170 undef, t.getD 171 undef, t.getD 172 undef, t.getD 173 undef, t.getD 174 undef, t.getD 175 undef, t.getD 176 undef, t.getD 177 undef, t.getD 178 undef, t.getD 179 undef, t.getD 180 undef, t.getD 181 undef, t.getD 182 undef, t.getD 183 undef, t.getD 184 undef]) : PI w wb mb mo a n c { tmps := t, defers := Ds.map mk1 } w' :=
  ⟨fun i => t.getD i undef, j, lv, nw, m, Ds, h, congrArg (fun t => ({ tmps := t, defers := Ds.map mk1 } : Act)) ht⟩
def PM (n : Nat) (a' : Act) : Nat := n - (RowKit.intOf (a'.tmps.getD 60 undef)).toNat
section
variable {B : Nat} {N : Nat → Prop} {X Y : World} {wb mb most : Nat} {lv : Value} {nw nm : Int} {mw mm : List (K × Int)}
theorem Pl.apart (h : Pl B N X wb mb lv most nw mw nm mm) (f : Fr N X Y) : Pl B N Y wb mb lv most nw mw nm mm where
  w := h.w.keep f fun x _ hn _ e => hn (.inl e)
  o := (f.block mb h.lt h.a.2.1).trans h.o
  r := own_kept h.r fun x hx => f.block x (own_cell h.r hx).2.1 (h.a.2.2 x hx).1
  a := h.a
end
theorem next_nil {v : Int} {b : Bool} (h : NextIs (fm []) v b) : b = false ∧ v = 0 := by
  rcases h with ⟨h1, h2, _⟩ | ⟨_, ⟨k, hk⟩, _⟩
  · exact ⟨h1, h2⟩
  · cases hk
theorem next_first {m ls : List (K × Int)} (hn : (m.map (·.1)).Nodup) (hp : ls.Perm m) (hs : Srt ls) (hm : 0 < ls.length) {v : Int} {b : Bool} (h : NextIs (fm m) v b) : b = true ∧ v = (el ls 0).2 := by
  have h0 := hp.mem_iff.1 (el_mem hm)
  have hf := (ls_fm hn).2
  rcases h with ⟨_, _, h3⟩ | ⟨h1, ⟨k, hk⟩, h3⟩
  · have h4 := (hf (el ls 0).1 (el ls 0).2).1 h0
    rw [h3] at h4; cases h4
  · refine ⟨h1, Int.le_antisymm (h3 _ _ ((hf _ _).1 h0)) ?_⟩
    obtain ⟨i, hi, e⟩ := mem_el (hp.mem_iff.2 ((hf k v).2 hk))
    rcases Nat.eq_zero_or_pos i with e0 | e0
    · subst e0; rw [e]; exact Int.le_refl _
    · have h5 := hs 0 i e0 hi
      rw [e, ltp_false] at h5
      omega
theorem cell_two (w : World) (v u : Value) (t : TypeId) : ∀ j x, [v, u][j]? = some x → (w.alloc (.cells #[v, u] t)).cell? ((⟨w.heap.size, 0, none⟩ : Addr).add j) = some x := by
  intro j x hj
  match j, hj with
  | 0, hj | 1, hj =>
    simp at hj
    subst hj
    simp [Addr.add]
/-- what a range has gathered -/
def Gp (W : World) (gb : Nat) (l : List (K × Int)) (m : Nat) (X : World) : Prop :=
  ∃ v, X.heap[gb]? = some (.cells #[v] 29 (0, 0)) ∧ Own X W.heap.size v (l.take m) ∧ Fr (fun x => x = gb) W X ∧ m ≤ l.length
theorem Gp.calm {W A A' : World} {gb m : Nat} {l : List (K × Int)} (h : Gp W gb l m A) (e : Calmly W.heap.size A A') : Gp W gb l m A' := by
  obtain ⟨v, h1, h2, h3, h4⟩ := h
  refine ⟨v, e.cell h1, e.own h2, ⟨e.os.trans h3.os, e.tape.trans h3.tape, e.output.trans h3.output, Nat.le_trans h3.size e.size, fun k hk hn => ?_⟩, h4⟩
  have hlt : k < A.heap.size := Nat.lt_of_lt_of_le hk h3.size
  have e1 : A.heap[k]? = some A.heap[k] := Array.getElem?_eq_getElem hlt
  rw [e.same k _ (.inl hk) e1, ← e1]
  exact h3.block k hk hn
theorem gp_end {W A2 W5 : World} {gb m : Nat} {l : List (K × Int)} {v v5 : Value} {O : Obj} (hgW : gb < W.heap.size) (i1 : A2.heap[gb]? = some (.cells #[v] 29 (0, 0))) (i2 : Own A2 W.heap.size v (l.take m)) (hm : m < l.length)
    (i3 : Fr (fun x => x = gb) W A2) (hg : (A2.alloc O).grownBy W5 v.ownBlock) (ho : Own W5 W.heap.size v5 (l.take m ++ [el l m])) :
    KeepsFrom W.heap.size A2 (W5.setCell ⟨gb, 0, none⟩ v5) ∧ Mid gb (gb + 1) W.heap.size A2 (W5.setCell ⟨gb, 0, none⟩ v5) ∧ Gp W gb l (m + 1) (W5.setCell ⟨gb, 0, none⟩ v5) := by
  have hz := hg.size
  rw [World.size_alloc] at hz
  have hs := i3.size
  have oth : ∀ k, k ≠ gb → (W5.setCell ⟨gb, 0, none⟩ v5).heap[k]? = W5.heap[k]? := fun k hk => heap_setCell_other _ _ _ _ hk
  have hrow : ∀ g, v.ownBlock = some g → W.heap.size ≤ g ∧ ∃ cur, A2.heap[g]? = some (.cells cur 42 (0, 0)) := fun g hgv => ⟨(own_cell i2 hgv).1, (own_cell i2 hgv).2.2⟩
  have k5 : ∀ k, k < A2.heap.size → v.ownBlock ≠ some k → W5.heap[k]? = A2.heap[k]? := fun k hk hn => (hg.block k (by simp; omega) (fun e => hn e.symm)).trans (Below.heap_alloc A2 O k hk)
  have b1 := k5 gb (by omega) (fun e => by have := (hrow _ e).1; omega)
  have o1 : (W5.setCell ⟨gb, 0, none⟩ v5).heap[gb]? = some (.cells #[v5] 29 (0, 0)) := by rw [Lib.heap_setCell_same (b1.trans i1)]; rfl
  have hown : Own (W5.setCell ⟨gb, 0, none⟩ v5) W.heap.size v5 (l.take (m + 1)) := by
    rw [take_next hm]
    exact own_kept ho fun b hb => oth b (by have := (own_cell ho hb).1; omega)
  refine ⟨⟨by simp; omega, fun k o hk hko hoc => ?_⟩, ⟨hg.os, hg.tape, hg.output, by simp; omega, fun k h1 h2 => ?_⟩, v5, o1, hown, ⟨hg.os.trans i3.os, hg.tape.trans i3.tape, hg.output.trans i3.output, by simp; omega, fun k hk hn => ?_⟩, hm⟩
  · have hlt := (Array.getElem?_eq_some_iff.1 hko).1
    rw [oth k (by omega), k5 k hlt (fun e => by obtain ⟨_, cur, hc⟩ := hrow k e; rw [hko] at hc; cases hc; cases hoc)]
    exact hko
  · rw [oth k (by omega)]
    exact k5 k (by omega) (fun e => by have := (hrow k e).1; omega)
  · rw [oth k hn, k5 k (by omega) (fun e => by have := (hrow k e).1; omega)]
    exact i3.block k hk hn
end Go.Proofs.Ytcafiehlhdoibaa.Wh
