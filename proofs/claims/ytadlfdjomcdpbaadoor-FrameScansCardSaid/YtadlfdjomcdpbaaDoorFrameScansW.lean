/- the walk of FrameScans -/
import Derived.Test.YtadlfdjomcdpbaaDoorFm9
import Derived.Test.YtadlfdjomcdpbaaDoorRo
import Derived.Laws.AppendOwn
import Derived.Deep.DeepCutAuto
namespace Go.Proofs.YtadlfdjomcdpbaaDoor.Fm
open Go.RowKit Go.Lib Go.Sort Go.Proofs.YtadlfdjomcdpbaaDoor.By Go.Proofs.YtadlfdjomcdpbaaDoor.Oc Go.Proofs.YtadlfdjomcdpbaaDoor.Cr Go.Proofs.YtadlfdjomcdpbaaDoor.Rg
attribute [local go_sem] Oper.semAt_some

/-- a record that came in: its kind, where its bytes lie, these -/
abbrev In4 := UInt8 × Option Addr × Nat × List UInt8
def RecAt (w : World) (b o i : Nat) (x : In4) : Prop :=
  w.cell? ⟨b, o + i * 2, none⟩ = some (.int .u8 (x.1.toNat : Nat)) ∧ w.cell? ⟨b, o + i * 2 + 1, none⟩ = some (.slice x.2.1 x.2.2.2.length x.2.2.1) ∧ IsB w x.2.1 x.2.2.2.length x.2.2.1 x.2.2.2
def IsRecs (w : World) (a : Option Addr) (L : List In4) : Prop := L = [] ∨ ∃ b o, a = some ⟨b, o, none⟩ ∧ ∀ i (h : i < L.length), RecAt w b o i L[i]
theorem RecAt.old {w w' : World} {b o i : Nat} {x : In4} (h : RecAt w b o i x) (hb : Below w.heap.size w w') : RecAt w' b o i x :=
  ⟨(hb.cell (World.block_lt_of_cell? w _ h.1)).trans h.1, (hb.cell (World.block_lt_of_cell? w _ h.2.1)).trans h.2.1, h.2.2.old hb⟩
/-- a block of one cell -/
def Bx (w : World) (b : Nat) (t : TypeId) (v : Value) : Prop := w.heap[b]? = some (.cells #[v] t (0, 0))
theorem Bx.cell {w : World} {b : Nat} {t : TypeId} {v : Value} (h : Bx w b t v) : w.cell? ⟨b, 0, none⟩ = some v := cell_of_one h
theorem Bx.free {w : World} {b : Nat} {t : TypeId} {v : Value} (h : Bx w b t v) : w.frozen? ⟨b, 0, none⟩ = false := free_of_one h
theorem Bx.below {w w' : World} {b N : Nat} {t : TypeId} {v : Value} (h : Bx w b t v) (hb : Below N w w') (hN : b < N) : Bx w' b t v := (hb.block b hN).trans h
/-- a record alone -/
def rc (x : In4) : Rc := (x.1, x.2.2.2)
/-- where the i-th begins -/
def pos (s : Nat) (rs : List Rc) (i : Nat) : Nat := (cat s (rs.take i)).length
def starts (s : Nat) (rs : List Rc) (k : Nat) : List Value := (List.range k).map fun i => Value.int .i64 (pos s rs i : Nat)
theorem starts_succ (s : Nat) (rs : List Rc) (k : Nat) : starts s rs (k + 1) = starts s rs k ++ [.int .i64 (pos s rs k : Nat)] := by unfold starts; rw [List.range_succ, List.map_append]; rfl
theorem pos_le {s : Nat} {rs : List Rc} (h : ∀ x ∈ rs, x.2.length ≤ 100) : ∀ i, pos s rs i ≤ 108 * i
  | 0 => by simp [pos, cat]
  | i + 1 => by
    have ih := pos_le (s := s) h i
    by_cases hi : i < rs.length
    · unfold pos at ih ⊢
      have hx := h _ (List.getElem_mem hi)
      have hu := uv_two (n := rs[i].2.length) (by omega)
      rw [(cat_next s hi).1, List.length_append, fb_len, hd_len]
      have hu1 : (uvarint rs[i].2.length).length = 1 := by rw [uvarint_small (by omega)]; rfl
      omega
    · unfold pos at ih ⊢
      rw [List.take_of_length_le (by omega)]
      rw [List.take_of_length_le (by omega)] at ih
      omega
/-- rows of unlike kinds lie in unlike blocks -/
theorem own_apart {w : World} {B B' : Nat} {e e' : TypeId} {k k' n n' : Nat} {v v' : Value} {xs xs' : List Value} (h : w.ownsRow B e k v n xs) (h' : w.ownsRow B' e' k' v' n' xs') (hne : e ≠ e') : v.ownBlock = none ∨ v.ownBlock ≠ v'.ownBlock := by
  rcases h.2 with ⟨rfl, _⟩ | ⟨g, c, cur, rfl, _, hg, _⟩
  · left; rfl
  · right
    intro e1
    rcases h'.2 with ⟨rfl, _⟩ | ⟨g', c', cur', rfl, _, hg', _⟩
    · simp [Value.ownBlock] at e1
    · simp [Value.ownBlock] at e1
      subst e1
      rw [hg] at hg'
      simp at hg'
      exact hne hg'.2
theorem own_box {w : World} {B : Nat} {e t : TypeId} {k n b : Nat} {v u : Value} {xs : List Value} (h : w.ownsRow B e k v n xs) (hb : Bx w b t u) (hne : e ≠ t) : v.ownBlock ≠ some b := by
  intro e1
  rcases h.2 with ⟨rfl, _⟩ | ⟨g, c, cur, rfl, _, hg, _⟩
  · simp [Value.ownBlock] at e1
  · simp [Value.ownBlock] at e1
    subst e1
    rw [show w.heap[g]? = _ from hb] at hg
    simp at hg
    exact hne hg.2.symm
/-- a start is put behind the others, and stored -/
theorem st_step {W w1 : World} {bx k k' n m : Nat} {v v' vb vw : Value} {xs xs' bs ws : List Value} (hbx : Bx W bx 39 v) (hv : W.ownsRow (bx + 1) 3 1 v k xs) (hb : W.ownsRow (bx + 1) 5 1 vb n bs) (hw : W.ownsRow (bx + 1) 5 1 vw m ws)
    (hown' : w1.ownsRow (bx + 1) 3 1 v' k' xs') (hg : W.grownBy w1 v.ownBlock) : (w1.cell? ⟨bx, 0, none⟩ = some v ∧ w1.frozen? ⟨bx, 0, none⟩ = false) ∧
    Bx (w1.setCell ⟨bx, 0, none⟩ v') bx 39 v' ∧ (w1.setCell ⟨bx, 0, none⟩ v').ownsRow (bx + 1) 3 1 v' k' xs' ∧ (w1.setCell ⟨bx, 0, none⟩ v').ownsRow (bx + 1) 5 1 vb n bs ∧ (w1.setCell ⟨bx, 0, none⟩ v').ownsRow (bx + 1) 5 1 vw m ws ∧ Below bx W (w1.setCell ⟨bx, 0, none⟩ v') := by
  have hlt : bx < W.heap.size := lt_of_block hbx
  have h1 : Bx w1 bx 39 v := (hg.block bx hlt (fun e => own_box hv hbx (by decide) e.symm)).trans hbx
  refine ⟨⟨h1.cell, h1.free⟩, one_setCell h1, ownsRow_setCell_below hown' (Nat.lt_succ_self _) _, ownsRow_setCell_below (hb.kept hg (own_apart hb hv (by decide))) (Nat.lt_succ_self _) _, ownsRow_setCell_below (hw.kept hg (own_apart hw hv (by decide))) (Nat.lt_succ_self _) _, ?_⟩
  exact ((Below.refl bx W).grown hg (by omega) (fun j hj => by have := (hv.lt j hj).1; omega)).setCell (p := ⟨bx, 0, none⟩) (Nat.le_refl _) _
theorem b_step {W w1 : World} {bx k n : Nat} {v vb : Value} {xs bs : List Value} (hbx : Bx W bx 39 v) (hv : W.ownsRow (bx + 1) 3 1 v k xs) (hb : W.ownsRow (bx + 1) 5 1 vb n bs) (hg : W.grownBy w1 vb.ownBlock) :
    Bx w1 bx 39 v ∧ w1.ownsRow (bx + 1) 3 1 v k xs ∧ Below (bx + 1) W w1 := by
  have hlt : bx < W.heap.size := lt_of_block hbx
  refine ⟨(hg.block bx hlt (fun e => own_box hb hbx (by decide) e.symm)).trans hbx, hv.kept hg (own_apart hv hb (by decide)), (Below.refl _ W).grown hg (by omega) (fun j hj => (hb.lt j hj).1)⟩
theorem info3 : (Tryd.prog.info? 3).map (fun i => (i.zero, i.size, i.bytes)) = some (some (.int .i64 0), 1, 8) := by kernel_rfl

theorem cell_mid {n₀ n₁ : Nat} {w W : World} (h : Mid n₀ n₁ w.heap.size w W) {p : Addr} {v : Value} (hc : w.cell? p = some v) (hp : p.block < n₀ ∨ n₁ ≤ p.block) : W.cell? p = some v :=
  (World.cell?_of_block (w := w) (h.block p.block hp (World.block_lt_of_cell? w _ hc))).trans hc
theorem own_mid {n₀ n₁ B : Nat} {w W : World} (h : Mid n₀ n₁ w.heap.size w W) {e : TypeId} {k n : Nat} {v : Value} {xs : List Value} (ho : w.ownsRow B e k v n xs) (hB : n₁ ≤ B) : W.ownsRow B e k v n xs := by
  refine ⟨ho.1, ?_⟩
  rcases ho.2 with h1 | ⟨g, cp, cur, h1, h2, h3, h4⟩
  · exact .inl h1
  · exact .inr ⟨g, cp, cur, h1, h2, (h.block g (.inr (by omega)) (lt_of_block h3)).trans h3, h4⟩
theorem nibs_mid {n₀ n₁ : Nat} {w0 w W : World} (h : Mid n₀ n₁ w.heap.size w W) (hn : Nibs w0) (h0 : w0.heap.size ≤ n₀) (hb : Below w0.heap.size w0 w) : Nibs W := fun i hi =>
  cell_mid h ((hn.old hb) i hi) (.inl (by have := World.block_lt_of_cell? w0 _ (hn i hi); exact Nat.lt_of_lt_of_le this h0))
theorem but_bx {l : Nat} {A A' : World} (h : But l A A') {b : Nat} {t : TypeId} {v : Value} (hb : Bx A b t v) (hne : b ≠ l) : Bx A' b t v := (h.2.2.2.2 b hne).trans hb
theorem but_isB {l : Nat} {r : Loop} {A A' : World} (h : But l A A') (hl : A.heap[l]? = some (.loop r)) {a : Option Addr} {len cap : Nat} {d : List UInt8} (hb : IsB A a len cap d) : IsB A' a len cap d := by
  obtain ⟨h1, h2 | ⟨x, rfl, h3, h4, h5⟩⟩ := hb
  · exact ⟨h1, .inl h2⟩
  · refine ⟨h1, .inr ⟨x, rfl, h3, h4, fun j u hu => ?_⟩⟩
    have hc := h5 j u hu
    have hne : (x.add j).block ≠ l := fun e => by
      unfold World.cell? at hc; rw [e, hl] at hc; simp at hc
    exact (World.cell?_of_block (w := A) (h.2.2.2.2 _ hne)).trans hc
/-- what FrameScans holds between two rounds of its first range -/
def Rounds (A : List UInt8) (s len p : Nat) (W1 : World) (m : Nat) (W : World) : Prop :=
  Bx W (p + 1) 3 (.int .i64 ((stt A s (max m len)).1 : Nat)) ∧ Bx W (p + 1 + 1) 22 (.int .u32 ((stt A s (max m len)).2 : Nat)) ∧ Bx W (p + 1 + 1 + 1) 3 (.int .i64 m) ∧ Below (p + 1) W1 W ∧ ∀ i, i < m → (Fm.at' A s i).2.2.2 = 0
theorem Rounds.later {A : List UInt8} {s len p N m : Nat} {W1 W W' : World} (h : Rounds A s len p W1 m W) (hb : Below N W W') (hN : p + 1 + 1 + 1 < N) : Rounds A s len p W1 m W' :=
  ⟨h.1.below hb (by omega), h.2.1.below hb (by omega), h.2.2.1.below hb (by omega), h.2.2.2.1.trans (hb.mono (by omega)), h.2.2.2.2⟩
theorem keeps_below {B n₀ n₁ N : Nat} {W W' : World} (h : Below N W W') (hN : W.heap.size ≤ N) (hB : B ≤ N) : KeepsFrom B W W' ∧ Mid n₀ n₁ B W W' :=
  ⟨⟨h.size, fun k o _ hk _ => (h.block k (by have := (Array.getElem?_eq_some_iff.1 hk).1; omega)).trans hk⟩, h.os, h.tape, h.output, h.size, fun k _ hk => h.block k (by omega)⟩
theorem keeps_set {B n₀ n₁ b : Nat} {W W' : World} {v : Value} (h : KeepsFrom B W W' ∧ Mid n₀ n₁ B W W') (hb : n₀ ≤ b) (hb1 : b < n₁) (hB : n₁ ≤ B) :
    KeepsFrom B W (W'.setCell ⟨b, 0, none⟩ v) ∧ Mid n₀ n₁ B W (W'.setCell ⟨b, 0, none⟩ v) := by
  have h0 : Below 0 W' (W'.setCell ⟨b, 0, none⟩ v) := (Below.refl 0 _).setCell (p := ⟨b, 0, none⟩) (Nat.zero_le _) v
  have hk : ∀ k, k ≠ b → (W'.setCell ⟨b, 0, none⟩ v).heap[k]? = W'.heap[k]? := fun k hk => Below.heap_setCell W' _ _ k (by simpa using hk)
  exact ⟨⟨Nat.le_trans h.1.size h0.size, fun k o hB' hk' ho => (hk k (by omega)).trans (h.1.same k o hB' hk' ho)⟩, h0.os.trans h.2.os, h0.tape.trans h.2.tape, h0.output.trans h.2.output, Nat.le_trans h.2.size h0.size, fun k h1 h2 => (hk k (by omega)).trans (h.2.block k h1 h2)⟩

theorem stt_le {b : List UInt8} {s : Nat} : ∀ m, (∀ i, i < m → (Fm.at' b s i).2.2.2 = 0) → (stt b s m).1 ≤ b.length
  | 0, _ => Nat.zero_le _
  | m + 1, h => by
    have ih := stt_le m (fun i hi => h i (by omega))
    have hl := nxt_len (s := (stt b s m).2) (b := b.drop (stt b s m).1) (h m (by omega))
    rw [List.length_drop] at hl
    show (stt b s m).1 + (nxt (stt b s m).2 (b.drop (stt b s m).1)).2.1 ≤ b.length
    omega
/-- a round among the records that were given ends -/
theorem rounds_next {A : List UInt8} {s len p N n₀ B m : Nat} {W1 W2 W3 : World} (h : Rounds A s len p W1 m W2) (hb : Below N W2 W3) (hN : W2.heap.size ≤ N) (hp : p + 1 + 1 + 1 < W2.heap.size) (hm : m < len) (hz : (Fm.at' A s m).2.2.2 = 0) (h0 : n₀ ≤ p) (hB : p + 1 + 1 + 1 + 1 ≤ B) (hBW : B ≤ W2.heap.size) :
    KeepsFrom B W2 (W3.setCell ⟨p + 1 + 1 + 1, 0, none⟩ (.int .i64 ((m : Int) + 1))) ∧ Mid n₀ (p + 1 + 1 + 1 + 1) B W2 (W3.setCell ⟨p + 1 + 1 + 1, 0, none⟩ (.int .i64 ((m : Int) + 1))) ∧ Rounds A s len p W1 (m + 1) (W3.setCell ⟨p + 1 + 1 + 1, 0, none⟩ (.int .i64 ((m : Int) + 1))) := by
  have hk := keeps_set (v := .int .i64 ((m : Int) + 1)) (keeps_below (B := B) (n₀ := n₀) (n₁ := p + 1 + 1 + 1 + 1) hb hN (by omega)) (b := p + 1 + 1 + 1) (by omega) (by omega) hB
  have hs : ∀ k, k ≠ p + 1 + 1 + 1 → (W3.setCell ⟨p + 1 + 1 + 1, 0, none⟩ (.int .i64 ((m : Int) + 1))).heap[k]? = W3.heap[k]? := fun k hk => Below.heap_setCell W3 _ _ k (by simpa using hk)
  refine ⟨hk.1, hk.2, ?_, ?_, ?_, ?_, ?_⟩
  · have h1 := h.1.below hb (by omega)
    rw [show max (m + 1) len = max m len by omega]
    exact (hs _ (by omega)).trans h1
  · have h1 := h.2.1.below hb (by omega)
    rw [show max (m + 1) len = max m len by omega]
    exact (hs _ (by omega)).trans h1
  · have h1 := h.2.2.1.below hb (by omega)
    exact one_setCell h1
  · exact (h.2.2.2.1.trans (hb.mono (by omega))).setCell (p := ⟨p + 1 + 1 + 1, 0, none⟩) (show p + 1 ≤ p + 1 + 1 + 1 by omega) _
  · intro i hi
    by_cases e : i = m
    · rw [e]; exact hz
    · exact h.2.2.2.2 i (by omega)

/-- what FrameScans holds between two rounds of its second range -/
def Rounds2 (T : List UInt8) (s q D : Nat) (W1 : World) (m : Nat) (W : World) : Prop :=
  Bx W q 3 (.int .i64 m) ∧ Below q W1 W ∧ (∀ i, i < m → (Fm.at' T s i).2.2.2 = 0) ∧ W.heap[D]? = some (.deferred (some []))
theorem Rounds2.later {T : List UInt8} {s q D N m : Nat} {W1 W W' : World} (h : Rounds2 T s q D W1 m W) (hb : Below N W W') (hN : q < N) (hD : D < N) : Rounds2 T s q D W1 m W' :=
  ⟨h.1.below hb hN, h.2.1.trans (hb.mono (by omega)), h.2.2.1, (hb.block D hD).trans h.2.2.2⟩
theorem rounds2_next {T : List UInt8} {s q D n₀ B m : Nat} {W1 W : World} (h : Rounds2 T s q D W1 m W) (hz : (Fm.at' T s m).2.2.2 = 0) (h0 : n₀ ≤ q) (hB : q + 1 ≤ B) (hBW : B ≤ W.heap.size) (hD : D ≠ q) :
    KeepsFrom B W (W.setCell ⟨q, 0, none⟩ (.int .i64 ((m : Int) + 1))) ∧ Mid n₀ (q + 1) B W (W.setCell ⟨q, 0, none⟩ (.int .i64 ((m : Int) + 1))) ∧ Rounds2 T s q D W1 (m + 1) (W.setCell ⟨q, 0, none⟩ (.int .i64 ((m : Int) + 1))) := by
  have hk := keeps_set (v := .int .i64 ((m : Int) + 1)) (keeps_below (B := B) (n₀ := n₀) (n₁ := q + 1) (Below.refl _ W) (Nat.le_refl _) hBW) (b := q) h0 (by omega) hB
  refine ⟨hk.1, hk.2, one_setCell h.1, h.2.1.setCell (p := ⟨q, 0, none⟩) (Nat.le_refl _) _, ?_, (Below.heap_setCell W _ _ D (by simpa using hD)).trans h.2.2.2⟩
  intro i hi
  by_cases e : i = m
  · rw [e]; exact hz
  · exact h.2.2.1 i (by omega)
/-- what is owned stays owned where all below N stays, and it lies there -/
theorem own_lt {w w' : World} {B N : Nat} {e : TypeId} {k : Nat} {v : Value} {n : Nat} {xs : List Value} (h : w.ownsRow B e k v n xs) (hb : Below N w w') (hn : ∀ g, v.ownBlock = some g → g < N) : w'.ownsRow B e k v n xs := by
  refine ⟨h.1, ?_⟩
  rcases h.2 with h1 | ⟨g, cap, cur, h1, h2, h3, h4⟩
  · exact .inl h1
  · exact .inr ⟨g, cap, cur, h1, h2, (hb.block g (hn g (by rw [h1]; rfl))).trans h3, h4⟩
/-- where a byte of a chain lies -/
theorem find_pos {s : Nat} {rs : List Rc} {t : Nat} : ∀ n, n ≤ rs.length → t < pos s rs n → ∃ i, i < n ∧ pos s rs i ≤ t ∧ t < pos s rs (i + 1)
  | 0, _, h => by simp [pos, cat] at h
  | n + 1, hn, h => by
    by_cases h1 : t < pos s rs n
    · obtain ⟨i, a, b⟩ := find_pos n (by omega) h1
      exact ⟨i, by omega, b⟩
    · exact ⟨n, by omega, by omega, h⟩
theorem lt_of_obj {w : World} {b : Nat} {o : Obj} (h : w.heap[b]? = some o) : b < w.heap.size := (Array.getElem?_eq_some_iff.1 h).1
theorem grown_set (W : World) (q : Nat) (v : Value) : W.grownBy (W.setCell ⟨q, 0, none⟩ v) (some q) :=
  have h : Below 0 W (W.setCell ⟨q, 0, none⟩ v) := (Below.refl 0 _).setCell (p := ⟨q, 0, none⟩) (Nat.zero_le _) v
  ⟨h.os, h.tape, h.output, h.size, fun k _ hk => Below.heap_setCell W _ _ k (by simpa using hk)⟩
/-- t is in none of the first n records' lengths -/
def Out (s : Nat) (rs : List Rc) (t n : Nat) : Prop := ∀ j (h : j < rs.length), j < n → t < pos s rs j + 2 ∨ pos s rs j + 2 + (uvarint rs[j].2.length).length ≤ t
theorem Out.next {s : Nat} {rs : List Rc} {t n : Nat} (h : Out s rs t n) (hn : ∀ (h : n < rs.length), t < pos s rs n + 2 ∨ pos s rs n + 2 + (uvarint rs[n].2.length).length ≤ t) : Out s rs t (n + 1) := by
  intro j hj hlt
  by_cases e : j = n
  · subst e; exact hn hj
  · exact h j hj (by omega)
/-- the result is stored, two rounds' deferred calls are left, and it is given back -/
theorem leave_true {fn : Func} {tmps : Array Value} {rb N D D2 : Nat} {w Z : World} {v : Value} (hres : fn.results = #[.cell 12 4]) (ht : tmps.getD 12 undef = .pointer (some ⟨rb, 0, none⟩)) (hx : Bx Z rb 4 v)
    (h1 : N ≤ D) (h2 : N ≤ D2) (hne : D2 ≠ D) (hD : Z.heap[D]? = some (.deferred (some []))) (hD2 : Z.heap[D2]? = some (.deferred (some []))) (hN : N ≤ rb) (hb : Below N w Z) :
    LeavesInM Fence.wide 3 Tryd.prog fn tmps (fun e w' => e = .returned (.bool true) ∧ Below N w w') ([D2, D].map mk) .returning (Z.setCell ⟨rb, 0, none⟩ (.bool true)) := by
  have hk : ∀ j, j ≠ rb → (Z.setCell ⟨rb, 0, none⟩ (.bool true)).heap[j]? = Z.heap[j]? := fun j hj => Below.heap_setCell Z _ _ j (by simpa using hj)
  have e1 : D ≠ rb := fun e => by rw [e, show Z.heap[rb]? = _ from hx] at hD; simp at hD
  have e2 : D2 ≠ rb := fun e => by rw [e, show Z.heap[rb]? = _ from hx] at hD2; simp at hD2
  refine leave hres ht [D2, D] _ (fun E hE => ?_) (by simpa using hne) (cell_of_one (one_setCell hx)) (hb.setCell (p := ⟨rb, 0, none⟩) hN _)
  rcases List.mem_cons.1 hE with rfl | hE
  · exact ⟨h2, (hk _ e2).trans hD2⟩
  · obtain rfl := List.mem_singleton.1 hE
    exact ⟨h1, (hk _ e1).trans hD⟩
/-- what a cut says: a slot's value, and the world -/
def CutR (v : Value) (V : World) (t : Value) (wx : World) : Prop := t = v ∧ wx = V
/-- a piece of code that ends in its normal way alone -/
def Nrm (Q : Exit → Act → World → Prop) : Exit → Act → World → Prop
  | .normal, a, w => Q .normal a w
  | _, _, _ => False
theorem wp_nrm {P : Program} {c : Code} {Q : Exit → Act → World → Prop} {a : Act} {w : World} (h : c.wp P (Nrm Q) a w) : c.wp P Q a w :=
  wp_mono h (fun e _ _ hq => by cases e <;> first | exact hq | exact hq.elim)
theorem stt_ge {b : List UInt8} {s : Nat} : ∀ m, (∀ i, i < m → (Fm.at' b s i).2.2.2 = 0) → m ≤ (stt b s m).1
  | 0, _ => Nat.zero_le _
  | m + 1, h => by
    have ih := stt_ge m (fun i hi => h i (by omega))
    have hl := nxt_len (s := (stt b s m).2) (b := b.drop (stt b s m).1) (h m (by omega))
    show m + 1 ≤ (stt b s m).1 + (nxt (stt b s m).2 (b.drop (stt b s m).1)).2.1
    omega
/-- a round among the rest ends -/
theorem rounds_next2 {A : List UInt8} {s len p N n₀ B m ke nn ns : Nat} {W1 W2 W3 : World} (h : Rounds A s len p W1 m W2) (hb : Below N W2 W3) (hN : W2.heap.size ≤ N) (hp : p + 1 + 1 + 1 < W2.heap.size) (hm : ¬ m < len) (hz : (Fm.at' A s m).2.2.2 = 0) (hs : stt A s (m + 1) = (ke + nn, ns)) (h0 : n₀ ≤ p) (hB : p + 1 + 1 + 1 + 1 ≤ B) (hBW : B ≤ W2.heap.size) :
    KeepsFrom B W2 (((W3.setCell ⟨p + 1, 0, none⟩ (.int .i64 ((ke : Int) + (nn : Int)))).setCell ⟨p + 1 + 1, 0, none⟩ (.int .u32 (ns : Nat))).setCell ⟨p + 1 + 1 + 1, 0, none⟩ (.int .i64 ((m : Int) + 1))) ∧ Mid n₀ (p + 1 + 1 + 1 + 1) B W2 (((W3.setCell ⟨p + 1, 0, none⟩ (.int .i64 ((ke : Int) + (nn : Int)))).setCell ⟨p + 1 + 1, 0, none⟩ (.int .u32 (ns : Nat))).setCell ⟨p + 1 + 1 + 1, 0, none⟩ (.int .i64 ((m : Int) + 1))) ∧
      Rounds A s len p W1 (m + 1) (((W3.setCell ⟨p + 1, 0, none⟩ (.int .i64 ((ke : Int) + (nn : Int)))).setCell ⟨p + 1 + 1, 0, none⟩ (.int .u32 (ns : Nat))).setCell ⟨p + 1 + 1 + 1, 0, none⟩ (.int .i64 ((m : Int) + 1))) := by
  have k0 := keeps_below (B := B) (n₀ := n₀) (n₁ := p + 1 + 1 + 1 + 1) hb hN (by omega)
  have k1 := keeps_set (v := .int .i64 ((ke : Int) + (nn : Int))) k0 (b := p + 1) (by omega) (by omega) hB
  have k2 := keeps_set (v := .int .u32 (ns : Nat)) k1 (b := p + 1 + 1) (by omega) (by omega) hB
  have k3 := keeps_set (v := .int .i64 ((m : Int) + 1)) k2 (b := p + 1 + 1 + 1) (by omega) (by omega) hB
  have hmx : max (m + 1) len = m + 1 := by omega
  have hs1 : ∀ (X : World) (b k : Nat) (v : Value), k ≠ b → (X.setCell ⟨b, 0, none⟩ v).heap[k]? = X.heap[k]? := fun X b k v hk => Below.heap_setCell X _ _ k (by simpa using hk)
  refine ⟨k3.1, k3.2, ?_, ?_, ?_, ?_, ?_⟩
  · have h1 := h.1.below hb (by omega)
    rw [hmx, hs]
    have e : Bx (W3.setCell ⟨p + 1, 0, none⟩ (.int .i64 ((ke : Int) + (nn : Int)))) (p + 1) 3 (.int .i64 ((ke : Int) + (nn : Int))) := one_setCell h1
    show Bx _ (p + 1) 3 (.int .i64 ((ke + nn : Nat) : Int))
    rw [show (((ke + nn : Nat)) : Int) = (ke : Int) + (nn : Int) by omega]
    exact (hs1 _ _ _ _ (by omega)).trans ((hs1 _ _ _ _ (by omega)).trans e)
  · have h1 := h.2.1.below hb (by omega)
    rw [hmx, hs]
    have e : Bx ((W3.setCell ⟨p + 1, 0, none⟩ (.int .i64 ((ke : Int) + (nn : Int)))).setCell ⟨p + 1 + 1, 0, none⟩ (.int .u32 (ns : Nat))) (p + 1 + 1) 22 (.int .u32 (ns : Nat)) :=
      one_setCell ((hs1 _ _ _ _ (by omega)).trans h1)
    exact (hs1 _ _ _ _ (by omega)).trans e
  · have h1 := h.2.2.1.below hb (by omega)
    exact one_setCell ((hs1 _ _ _ _ (by omega)).trans ((hs1 _ _ _ _ (by omega)).trans h1))
  · exact (((h.2.2.2.1.trans (hb.mono (by omega))).setCell (p := ⟨p + 1, 0, none⟩) (show p + 1 ≤ p + 1 by omega) _).setCell (p := ⟨p + 1 + 1, 0, none⟩) (show p + 1 ≤ p + 1 + 1 by omega) _).setCell (p := ⟨p + 1 + 1 + 1, 0, none⟩) (show p + 1 ≤ p + 1 + 1 + 1 by omega) _
  · intro i hi
    by_cases e : i = m
    · rw [e]; exact hz
    · exact h.2.2.2.2 i (by omega)

set_option linter.unusedSimpArgs false in
set_option maxRecDepth 20000 in
set_option maxHeartbeats 16000000 in
theorem scans_walk (s : Nat) (a : Option Addr) (cap : Nat) (L : List In4) (a2 : Option Addr) (n2 c2 : Nat) (bh : List UInt8) (cut tt : Nat) (by' : UInt8) (w : World) (hs : U32 s) (hcap : L.length ≤ cap ∧ cap ≤ 9223372036854775807) (hL : IsRecs w a L) (h2 : IsB w a2 n2 c2 bh)
    (hcut : cut ≤ 65535) (htt : tt ≤ 65535) (hn : Nibs w) :
    Calls Tryd.prog 4 #[.int .u32 s, .slice a L.length cap, .slice a2 n2 c2, .int .u16 cut, .int .u16 tt, .int .u8 (by'.toNat : Nat)] w fun e w' => e = .returned (.bool true) ∧ Below w.heap.size w w' := by
  obtain rfl : bh.length = n2 := h2.1
  have m2 := h2.le
  unfold maxLen at m2
  have hb0 : Below w.heap.size w ((w.alloc (.cells #[.slice a L.length cap] 37)).alloc (.cells #[.bool false] 4)) := ((Below.refl _ _).alloc (Nat.le_refl _) _).alloc (by simp) _
  have hx1 : Bx ((w.alloc (.cells #[.slice a L.length cap] 37)).alloc (.cells #[.bool false] 4)) w.heap.size 37 (.slice a L.length cap) := heap_old ((Below.refl _ _).alloc (Nat.le_refl _) _) (heap_alloc_new w _)
  have hx2 : Bx ((w.alloc (.cells #[.slice a L.length cap] 37)).alloc (.cells #[.bool false] 4)) (w.heap.size + 1) 4 (.bool false) := by
    have := heap_alloc_new (w.alloc (.cells #[.slice a L.length cap] 37)) (.cells #[.bool false] 4)
    rw [World.size_alloc] at this; exact this
  have HLV := Lib.hid (lives_any _ (hn.old hb0))
  have HX := Lib.hid (And.intro hb0 (And.intro hx1 hx2))
  have HI := Lib.hid (And.intro hL (And.intro h2 (And.intro hn hs)))
  have hz0 : ((w.alloc (.cells #[.slice a L.length cap] 37)).alloc (.cells #[.bool false] 4)).heap.size = w.heap.size + 2 := by simp
  clear hb0 hx1 hx2 hL h2 hn hs
  refine (callsIn_wide (n := 3)).1 ?_
  refine callsIn_of_wp_marks Tryd.func4 rfl trivial ?_ rfl
  simp only [Tryd.ntmps4, List.size_toArray, List.length_cons, List.length_nil, Nat.reduceAdd, Nat.reduceSub, Array.replicate_succ, Array.replicate_zero, List.push_toArray, List.append_toArray, List.nil_append, List.cons_append]
  refine wpIn_wide.2 ?_
  go_wp2_with fail
  refine HLV.out.mono ?_
  rintro e wa ⟨rfl, hba⟩
  have ha1 : Bx wa w.heap.size 37 (.slice a L.length cap) := heap_old hba HX.out.2.1
  have ha2 : Bx wa (w.heap.size + 1) 4 (.bool false) := heap_old hba HX.out.2.2
  have hbw := below_two HX.out.1 hba
  have hza : w.heap.size + 2 ≤ wa.heap.size := by have := hba.size; omega
  have q1 := ha1.cell
  have q2 := ha2.cell
  have q3 := ha2.free
  have HLV2 := Lib.hid (lives_any wa (HI.out.2.2.1.old hbw))
  have HA := Lib.hid (And.intro ha1 (And.intro ha2 hbw))
  clear hba ha1 ha2 hbw HLV HX hz0
  by_cases g1 : 20 < L.length
  · go_wp2_with fail
    refine HLV2.out.mono ?_
    rintro e wb ⟨rfl, hbb⟩
    have hb2 : Bx wb (w.heap.size + 1) 4 (.bool false) := heap_old hbb HA.out.2.1
    have q2 := hb2.cell
    have q3 := hb2.free
    have HF := Lib.hid (And.intro hb2 (below_two HA.out.2.2 hbb))
    clear hbb hb2
    go_wp2_with fail
    exact leave rfl rfl [] _ (by simp) (by simp) (cell_of_one (one_setCell HF.out.1)) (HF.out.2.setCell (p := ⟨w.heap.size + 1, 0, none⟩) (Nat.le_succ _) _)
  · by_cases g2 : 60 < bh.length
    · go_wp2_with fail
      refine HLV2.out.mono ?_
      rintro e wb ⟨rfl, hbb⟩
      have hb2 : Bx wb (w.heap.size + 1) 4 (.bool false) := heap_old hbb HA.out.2.1
      have q2 := hb2.cell
      have q3 := hb2.free
      have HF := Lib.hid (And.intro hb2 (below_two HA.out.2.2 hbb))
      clear hbb hb2
      go_wp2_with fail
      exact leave rfl rfl [] _ (by simp) (by simp) (cell_of_one (one_setCell HF.out.1)) (HF.out.2.setCell (p := ⟨w.heap.size + 1, 0, none⟩) (Nat.le_succ _) _)
    · clear HLV2
      have hlt1 : w.heap.size < wa.heap.size := by omega
      have hlt2 : w.heap.size + 1 < wa.heap.size := by omega
      obtain ⟨rs, hrs⟩ : ∃ rs, rs = L.map rc := ⟨_, rfl⟩
      have hrl : rs.length = L.length := by rw [hrs, List.length_map]
      go_wp2_with fail
      go_loopw [13, 15, 59] (fun bv sv kv wr => ∃ k : Nat, k ≤ L.length ∧ kv = .int .i64 k ∧ sv = .int .u32 (sm s (rs.take k) : Nat) ∧ (∀ x ∈ rs.take k, x.2.length ≤ 100) ∧
        (∃ ao cp, bv = .slice ao (pos s rs k) cp ∧ wr.ownsRow (wa.heap.size + 1) 5 1 (.slice ao (pos s rs k) cp) (pos s rs k) (byteCells (cat s (rs.take k)))) ∧
        (∃ sa sc, Bx wr wa.heap.size 39 (.slice sa k sc) ∧ wr.ownsRow (wa.heap.size + 1) 3 1 (.slice sa k sc) k (starts s rs k)) ∧
        Below wa.heap.size wa wr ∧ wa.heap.size < wr.heap.size) (fun _ _ kv _ => L.length - (intOf kv).toNat)
      case atStart =>
        refine ⟨0, Nat.zero_le _, rfl, rfl, by simp, ⟨none, 0, rfl, World.ownsRow_nil _ _ _ _⟩, ⟨none, 0, heap_alloc_new wa _, World.ownsRow_nil _ _ _ _⟩, (Below.refl _ _).alloc (Nat.le_refl _) _, by simp⟩
      case round =>
        obtain ⟨k, hk, rfl, rfl, hall, ⟨ao, cp, rfl, hown⟩, ⟨sa, sc, hbx, hso⟩, hbl, hzr⟩ := hrel
        by_cases hlt : k < L.length
        · have hbwr := HA.out.2.2.trans (hbl.mono (by omega))
          obtain ⟨x, hx⟩ : ∃ x, x = L[k] := ⟨_, rfl⟩
          obtain ⟨b, o, rfl, hrec⟩ : ∃ b o, a = some ⟨b, o, none⟩ ∧ RecAt wr b o k x := by
            rcases HI.out.1 with h0 | ⟨b, o, e, h⟩
            · rw [h0] at hlt; simp at hlt
            · exact ⟨b, o, e, by rw [hx]; exact (h k hlt).old hbwr⟩
          obtain ⟨c0, c1, hib⟩ := hrec
          have hrk : rs.take (k + 1) = rs.take k ++ [rc x] := by
            rw [List.take_succ_eq_append_getElem (by omega), hx]; simp [hrs]
          obtain ⟨xk, xa, xc, xd⟩ := x
          simp only at c0 c1 hib
          have HR := Lib.hid (And.intro hbx (And.intro hso (And.intro hown (And.intro hbl (And.intro hbwr (And.intro hib hrk))))))
          have HALL := Lib.hid hall
          have hkb : k < 20 := by omega
          clear hbx hso hown hbl hbwr hib hrk hall hx hrs hrl
          by_cases hbig : 100 < xd.length
          · have ha2 : Bx wr (w.heap.size + 1) 4 (.bool false) := HA.out.2.1.below HR.out.2.2.2.1 (by omega)
            have q2 := ha2.cell
            have q3 := ha2.free
            have hz5 : w.heap.size + 1 < wr.heap.size := by omega
            have HB2 := Lib.hid ha2
            clear ha2
            go_wp2_with fail
            exact leave rfl rfl [] _ (by simp) (by simp) (cell_of_one (heap_old ((Below.refl _ _).alloc (Nat.le_refl _) _) (one_setCell HB2.out))) ((HR.out.2.2.2.2.1.setCell (p := ⟨w.heap.size + 1, 0, none⟩) (Nat.le_succ _) _).alloc (by simp only [World.size_setCell]; omega) _)
          · have hbal : Below wr.heap.size wr (wr.alloc (.cells #[.int .u8 (xk.toNat : Nat), .slice xa xd.length xc] 25)) := (Below.refl _ _).alloc (Nat.le_refl _) _
            have hbwal := below_two HR.out.2.2.2.2.1 hbal
            have HBY := Lib.hid (bytes_l (sm s (rs.take k)) xk xa xd.length xc xd _ (sm_u32 HI.out.2.2.2 _) (HR.out.2.2.2.2.2.1.old hbal) (by omega) (HI.out.2.2.1.old hbwal))
            have HBA := Lib.hid hbal
            have hpk : pos s rs k ≤ 108 * k ∧ pos s rs (k + 1) = pos s rs k + (fb (sm s (rs.take k)) xk xd).length ∧ cat s (rs.take (k + 1)) = cat s (rs.take k) ++ fb (sm s (rs.take k)) xk xd ∧ sm s (rs.take (k + 1)) = fs (sm s (rs.take k)) xk xd := by
              refine ⟨?_, ?_, ?_, ?_⟩
              · have := pos_le (s := s) (rs := rs.take k) HALL.out k
                unfold pos at this ⊢
                rwa [List.take_take, Nat.min_self] at this
              · unfold pos; rw [HR.out.2.2.2.2.2.2, cat_app, List.length_append]; simp [cat, rc]
              · rw [HR.out.2.2.2.2.2.2, cat_app]; simp [cat, rc]
              · rw [HR.out.2.2.2.2.2.2, sm_app]; rfl
            have hfl : (fb (sm s (rs.take k)) xk xd).length ≤ 1032 := fb_le _ (by omega)
            have hall2 : ∀ y ∈ rs.take (k + 1), y.2.length ≤ 100 := fun y hy => by
              rw [HR.out.2.2.2.2.2.2, List.mem_append] at hy
              rcases hy with hy | hy
              · exact HALL.out y hy
              · simp only [List.mem_singleton] at hy; rw [hy]; exact (show xd.length ≤ 100 by omega)
            have HP := Lib.hid (And.intro hpk hall2)
            clear hbal hbwal hpk hall2 HALL
            go_wp2_with fail
            refine HBY.out.mono ?_
            rintro e W2 ⟨aw, cw, rfl, hownw, hb2⟩
            have hbw2 : Below wr.heap.size wr W2 := HBA.out.trans (hb2.mono (by simp))
            have hzw : wr.heap.size < W2.heap.size := by have := hb2.size; simp at this; omega
            have hbx2 : Bx W2 wa.heap.size 39 (.slice sa k sc) := heap_old hbw2 HR.out.1
            have hso2 := own_below HR.out.2.1 hbw2 (Nat.le_refl _)
            have hob2 := own_below HR.out.2.2.1 hbw2 (Nat.le_refl _)
            have hwo2 := Joins.ownsRow_le hownw (show wa.heap.size + 1 ≤ (wr.alloc (.cells #[.int .u8 (xk.toNat : Nat), .slice xa xd.length xc] 25)).heap.size by simp; omega)
            have hbl2 : Below wa.heap.size wa W2 := HR.out.2.2.2.1.trans (hbw2.mono (by omega))
            obtain ⟨F, hF⟩ : ∃ F, F = fb (sm s (rs.take k)) xk xd := ⟨_, rfl⟩
            rw [← hF] at hwo2 hfl HP
            rw [← hF]
            have q5 := hbx2.cell
            have H2 := Lib.hid (And.intro hbx2 (And.intro hso2 (And.intro hob2 (And.intro hwo2 hbl2))))
            have hp1 := HP.out.1.1
            clear hbx2 hso2 hob2 hwo2 hbl2 hownw hb2 hbw2 HBY HBA hF HR c0 c1
            have hz6 : wa.heap.size < W2.heap.size := by omega
            obtain ⟨i0, hi, hi0, hi1, hi2⟩ := info_parts info3
            go_wp2_with (at_builtin; refine wpList_append_own _ rfl _ _ 39 rfl (wa.heap.size + 1) 3 i0 (.int .i64 0) 1 8 Tryd.underlying39 hi hi0 hi1 hi2 rfl (by decide) _ _ _ rfl (H2.out.2.1.alloc _) ⟨W2.heap.size, 0, none⟩ 1 1 [.int .i64 (pos s rs k : Nat)] rfl rfl ?c1 ?c2 ?c3 ?c4 ?c5 ?_)
            case c1 =>
              intro j u hj
              match j, hj with
              | 0, hj => simp at hj; subst hj; simp [Addr.add]
            case c2 => intro u hu; simp at hu; subst hu; rfl
            case c3 => simp [maxLen]; omega
            case c4 => omega
            case c5 => simp; omega
            · intro v' w3 hown' hgrow _
              obtain ⟨sa3, sc3, rfl⟩ := own_shape hown'
              have hbal : Below W2.heap.size W2 (W2.alloc (.cells #[.int .i64 (pos s rs k : Nat)] 3)) := (Below.refl _ _).alloc (Nat.le_refl _) _
              obtain ⟨⟨e1, e2⟩, e3, e4, e5, e6, e7⟩ := st_step (heap_old hbal H2.out.1) (H2.out.2.1.alloc _) (H2.out.2.2.1.alloc _) (H2.out.2.2.2.1.alloc _) hown' hgrow
              have e8 : Below wa.heap.size wa (w3.setCell ⟨wa.heap.size, 0, none⟩ (.slice sa3 (k + 1) sc3)) := (H2.out.2.2.2.2.trans (hbal.mono (by omega))).trans e7
              have hz7 : wa.heap.size + 1 ≤ (w3.setCell ⟨wa.heap.size, 0, none⟩ (.slice sa3 (k + 1) sc3)).heap.size := by
                have := e7.size; simp only [World.size_alloc] at this; omega
              have iw := isB_of_own e6 rfl
              rw [← starts_succ] at e4
              have H3 := Lib.hid (And.intro e3 (And.intro e4 (And.intro e5 e8)))
              clear e3 e4 e6 e7 e8 hbal hown' hgrow H2
              go_wp2_with (at_builtin; refine wpList_append_bytes rfl _ _ rfl (wa.heap.size + 1) _ (pos s rs k) (cat s (rs.take k)) rfl e5 aw F.length cw F rfl iw ?d1 ?d2 ?_)
              case d1 => omega
              case d2 => exact hz7
              · intro ao4 cp4 w4 hown4 hg4
                obtain ⟨f1, f2, f3⟩ := b_step H3.out.1 H3.out.2.1 H3.out.2.2.1 hg4
                have f4 := H3.out.2.2.2.trans (f3.mono (Nat.le_succ _))
                have hz8 : wa.heap.size < w4.heap.size := by have := f3.size; omega
                rw [← HP.out.1.2.2.1] at hown4
                have hpe := HP.out.1.2.1
                have H4 := Lib.hid (And.intro f1 (And.intro f2 (And.intro hown4 f4)))
                clear f1 f2 f3 f4 hown4 hg4 H3 e5 iw
                go_wp2_with fail
                go_roundw
                case rel =>
                  refine ⟨k + 1, by omega, by go_num, by rw [HP.out.1.2.2.2], HP.out.2, ⟨ao4, cp4, by rw [hpe], ?_⟩, ⟨sa3, sc3, H4.out.1, H4.out.2.1⟩, H4.out.2.2.2, hz8⟩
                  rw [hpe]; exact H4.out.2.2.1
                case measure => simp [intOf]; omega
        · obtain rfl : k = L.length := by omega
          have htk : rs.take L.length = rs := List.take_of_length_le (by omega)
          have hpn : pos s rs L.length = (cat s rs).length := by unfold pos; rw [htk]
          have hpl := pos_le (s := s) (rs := rs.take L.length) hall L.length
          rw [htk] at hpl hall hown
          rw [hpn] at hpl hown
          have hbwr := HA.out.2.2.trans (hbl.mono (by omega))
          obtain ⟨C, hC⟩ : ∃ C, C = cat s rs := ⟨_, rfl⟩
          rw [← hC] at hpl hown hpn
          have hCl : C.length ≤ 2160 := by omega
          simp only [htk, hpn]
          have hSu : U32 (sm s rs) := sm_u32 HI.out.2.2.2 rs
          obtain ⟨S, hS⟩ : ∃ S, S = sm s rs := ⟨_, rfl⟩
          rw [← hS] at hSu ⊢
          have hcb := (isB_of_own hown rfl).old ((Below.refl _ _).alloc (Nat.le_refl _) (.cells #[] 5))
          have own0 := own_none wr
          have HR := Lib.hid (And.intro hbx (And.intro hso (And.intro hown (And.intro hbl hbwr))))
          have HM := Lib.hid (And.intro hall (And.intro hC (And.intro hS (And.intro hSu (And.intro hrl (And.intro hrs htk))))))
          have hal0 : Below wr.heap.size wr (wr.alloc (.cells #[] 5)) := (Below.refl _ _).alloc (Nat.le_refl _) _
          clear hbx hso hown hbl hbwr hall hC hS hSu hrl hrs htk hpn hpl hlt
          have hzr' := hzr
          go_wp2_with (at_builtin; refine wpList_append_bytes rfl _ _ rfl wr.heap.size _ 0 [] rfl own0 ao C.length cp C rfl hcb ?c1 ?c2 ?_)
          case c1 => omega
          case c2 => simp
          · intro ao5 cp5 w5 hown5 hg5
            have hb5 : Below wr.heap.size wr w5 := hal0.grown hg5 (by simp) (fun j hj => (own0.lt j hj).1)
            have i2 := HI.out.2.1.old (below_two HR.out.2.2.2.2 hb5)
            have HB5 := Lib.hid hb5
            have hz5 : wr.heap.size ≤ w5.heap.size := hb5.size
            clear hg5 hb5 own0 hcb hal0
            go_wp2_with (at_builtin; refine wpList_append_bytes rfl _ _ rfl wr.heap.size _ C.length C rfl hown5 a2 bh.length c2 bh rfl i2 ?c1 ?c2 ?_)
            case c1 => omega
            case c2 => exact hz5
            · intro ao6 cp6 w6 hown6 hg6
              have hb6 : Below wr.heap.size wr w6 := HB5.out.grown hg6 hz5 (fun j hj => (hown5.lt j hj).1)
              have hz6 : wr.heap.size ≤ w6.heap.size := hb6.size
              obtain ⟨A, hA⟩ : ∃ A, A = C ++ bh := ⟨_, rfl⟩
              have hAl : A.length = C.length + bh.length := by rw [hA, List.length_append]
              rw [← hA, ← hAl] at hown6
              have hib6 := isB_of_own hown6 rfl
              rw [← hAl]
              have HB6 := Lib.hid (And.intro hb6 (And.intro hib6 (And.intro hA hAl)))
              clear hown5 hown6 hg6 hb6 hib6 hA HB5 i2 hAl
              go_wp2_with fail
              obtain ⟨Wp, hWp⟩ : ∃ W, W = ((((w6.alloc (.cells #[.slice ao6 A.length cp6] 23)).alloc (.cells #[.int .i64 (C.length : Nat)] 3)).alloc (.cells #[.int .u32 (S : Nat)] 22)).alloc (.cells #[.int .i64 0] 3)) := ⟨_, rfl⟩
              have hbp : Below w6.heap.size w6 Wp := by rw [hWp]; exact ((((Below.refl _ _).alloc (Nat.le_refl _) _).alloc (by simp) _).alloc (by simp; omega) _).alloc (by simp; omega) _
              have hzp : Wp.heap.size = w6.heap.size + 1 + 1 + 1 + 1 := by rw [hWp]; simp
              have x0 : Bx Wp w6.heap.size 23 (.slice ao6 A.length cp6) := by
                rw [hWp]; exact heap_old ((Below.refl _ _).alloc (Nat.le_refl _) _) (heap_old ((Below.refl _ _).alloc (Nat.le_refl _) _) (heap_old ((Below.refl _ _).alloc (Nat.le_refl _) _) (heap_alloc_new w6 _)))
              have x1 : Bx Wp (w6.heap.size + 1) 3 (.int .i64 (C.length : Nat)) := by
                have h := heap_alloc_new (w6.alloc (.cells #[.slice ao6 A.length cp6] 23)) (.cells #[.int .i64 (C.length : Nat)] 3)
                rw [World.size_alloc] at h
                rw [hWp]; exact heap_old ((Below.refl _ _).alloc (Nat.le_refl _) _) (heap_old ((Below.refl _ _).alloc (Nat.le_refl _) _) h)
              have x2 : Bx Wp (w6.heap.size + 1 + 1) 22 (.int .u32 (S : Nat)) := by
                have h := heap_alloc_new ((w6.alloc (.cells #[.slice ao6 A.length cp6] 23)).alloc (.cells #[.int .i64 (C.length : Nat)] 3)) (.cells #[.int .u32 (S : Nat)] 22)
                rw [World.size_alloc, World.size_alloc] at h
                rw [hWp]; exact heap_old ((Below.refl _ _).alloc (Nat.le_refl _) _) h
              have x3 : Bx Wp (w6.heap.size + 1 + 1 + 1) 3 (.int .i64 0) := by
                have h := heap_alloc_new (((w6.alloc (.cells #[.slice ao6 A.length cp6] 23)).alloc (.cells #[.int .i64 (C.length : Nat)] 3)).alloc (.cells #[.int .u32 (S : Nat)] 22)) (.cells #[.int .i64 0] 3)
                rw [World.size_alloc, World.size_alloc, World.size_alloc] at h
                rw [hWp]; exact h
              rw [← hWp]
              clear hWp
              refine (scan_any s ao6 A.length cp6 A Wp (HB6.out.2.1.old hbp) (by have := HB6.out.2.2.2; omega)).mono ?_
              rintro e W1 ⟨rfl, ac, cc, d1, d2, d3, d4, d5⟩
              have HP := Lib.hid (And.intro (x0.below d4 (by omega)) (And.intro (x1.below d4 (by omega)) (And.intro (x2.below d4 (by omega)) (And.intro (x3.below d4 (by omega)) (hbp.trans (d4.mono (by omega)))))))
              have HD := Lib.hid (And.intro d1 (And.intro d2 d3))
              clear x0 x1 x2 x3 hbp d1 d2 d3 d4
              have hst : stt A s L.length = (C.length, S) := by
                have h := stt_cat s (l := rs) bh (fun x hx => by have := HM.out.1 x hx; omega) L.length (by have := HM.out.2.2.2.2.1; omega)
                rw [HM.out.2.2.2.2.2.2, ← HM.out.2.1, ← HM.out.2.2.1, ← HB6.out.2.2.1] at h
                exact h
              have HGL := Lib.hid (And.intro (below_two HR.out.2.2.2.2 (below_two HB6.out.1 HP.out.2.2.2.2)) (And.intro hst True.intro))
              have HZP := Lib.hid (And.intro hzp d5)
              clear hst hzp d5
              go_wp2_with fail
              obtain ⟨hzp, d5⟩ := HZP.out
              refine (wpIn_wide (n := 3)).1 ?_
              refine range_all rfl (by omega) (gf := 24) (lb := #[.pointer (some ⟨Wp.heap.size, 0, none⟩), .pointer (some ⟨Wp.heap.size + 1, 0, none⟩)]) rfl trivial (enters_of Tryd.func24 (by kernel_rfl) rfl)
                (scan1_iter (3 - 1) w.heap.size (w6.heap.size + 1 + 1 + 1 + 1) s ac A.length cc A Wp.heap.size (Wp.heap.size + 1) W1 HI.out.2.2.2 ?hK) (fun _ => rfl)
                (Rounds A s L.length w6.heap.size W1) (fun m X X' h hb => h.later hb (by omega)) ?h0 (fun m x X X' h hb => ⟨h.1, h.2.1, h.2.2.1, h.2.2.2.old hb⟩) (fun m x X X' l r h hl hb => ⟨h.1, h.2.1, h.2.2.1, but_isB hb hl h.2.2.2⟩) ?hround ?hdone
              case hK =>
                intro W hm
                refine ⟨nibs_mid hm HI.out.2.2.1 (Nat.le_refl _) HGL.out.1, isB_of_own (own_mid hm HD.out.2.2 (by omega)) rfl, cell_mid hm HD.out.1 (.inr ?_), cell_mid hm HD.out.2.1 (.inr ?_)⟩
                · show w6.heap.size + 1 + 1 + 1 + 1 ≤ Wp.heap.size; omega
                · show w6.heap.size + 1 + 1 + 1 + 1 ≤ Wp.heap.size + 1; omega
              case h0 =>
                refine ⟨?_, ?_, HP.out.2.2.2.1, Below.refl _ _, fun i hi => absurd hi (Nat.not_lt_zero i)⟩
                · rw [Nat.max_eq_right (Nat.zero_le _), HGL.out.2.1]; exact HP.out.2.1
                · rw [Nat.max_eq_right (Nat.zero_le _), HGL.out.2.1]; exact HP.out.2.2.1
              case hround =>
                rintro l m ⟨xat, xk, xd, xa, xco⟩ X hlB ⟨rr, hlr⟩ hI hG
                dsimp only [enc2]
                gi_wp2_with fail
                refine ⟨(Below.refl _ _).alloc (Nat.le_refl _) _, ?_⟩
                intro A2 hbut hI2 hG2
                have hlX := (Array.getElem?_eq_some_iff.1 hlr).1
                have x25 : A2.heap[X.heap.size]? = some (.cells #[.int .u8 (xk.toNat : Nat), .slice xa xd.length xco] 25 (0, 0)) := (hbut.2.2.2.2 _ (by omega)).trans (heap_alloc_new X _)
                have hXA : X.heap.size < A2.heap.size := by have := hbut.2.2.2.1; simp at this; omega
                have hX1 := hI.2.2.2.1.size
                have h6A : Below w6.heap.size w6 A2 := HP.out.2.2.2.2.trans (hI2.2.2.2.1.mono (by omega))
                have x7 : Bx A2 w.heap.size 37 (.slice a L.length cap) := heap_old h6A (heap_old HB6.out.1 (HA.out.1.below HR.out.2.2.2.1 hlt1))
                have x14 : Bx A2 wa.heap.size 39 (.slice sa L.length sc) := heap_old h6A (heap_old HB6.out.1 HR.out.1)
                have xst := own_below (own_below HR.out.2.1 HB6.out.1 (Nat.le_refl _)) h6A (Nat.le_refl _)
                have x20 : Bx A2 w6.heap.size 23 (.slice ao6 A.length cp6) := HP.out.1.below hI2.2.2.2.1 (by omega)
                have hrA : IsRecs A2 a L := by
                  have hw := below_two HR.out.2.2.2.2 (below_two HB6.out.1 h6A)
                  rcases HI.out.1 with h | ⟨b, o, h1, h2⟩
                  · exact .inl h
                  · exact .inr ⟨b, o, h1, fun i hi => (h2 i hi).old hw⟩
                have hnA : Nibs A2 := HI.out.2.2.1.old (below_two HR.out.2.2.2.2 (below_two HB6.out.1 h6A))
                have hibA := HB6.out.2.1.old h6A
                obtain ⟨⟨y25, y25'⟩, y25f⟩ := two_cells x25
                have y7 := x7.cell
                have y14 := x14.cell
                have y20 := x20.cell
                have y21 := hI2.1.cell
                have y22 := hI2.2.1.cell
                have y23 := hI2.2.2.1.cell
                have y21f := hI2.1.free
                have y22f := hI2.2.1.free
                have y23f := hI2.2.2.1.free
                have hz1 : W1.heap.size < A2.heap.size := by omega
                by_cases hm : m < L.length
                · have hmr : m < rs.length := by rw [HM.out.2.2.2.2.1]; exact hm
                  have hat := at_cat s bh (fun x hx => by have := HM.out.1 x hx; omega) hmr
                  have hst := stt_cat s (l := rs) bh (fun x hx => by have := HM.out.1 x hx; omega) m (by omega)
                  rw [← HM.out.2.1, ← HB6.out.2.2.1] at hat hst
                  have hrm : rs[m] = (L[m].1, L[m].2.2.2) := by
                    have h : rs[m]? = some (rc L[m]) := by rw [HM.out.2.2.2.2.2.1]; simp [hm]
                    rw [List.getElem?_eq_getElem hmr] at h
                    exact Option.some.inj h
                  obtain ⟨gz, ga, gd, gi⟩ := hG2
                  rw [hat, hrm] at gd
                  rw [hst] at ga
                  have hra : ∃ b o, a = some ⟨b, o, none⟩ ∧ RecAt A2 b o m L[m] := by
                    rcases hrA with h | ⟨b, o, h1, h2⟩
                    · rw [h] at hm; simp at hm
                    · exact ⟨b, o, h1, h2 m hm⟩
                  obtain ⟨R, hR⟩ : ∃ R, R = L[m] := ⟨_, rfl⟩
                  rw [← hR] at gd hra
                  clear hR hrm
                  obtain ⟨lk, la, lc, ld⟩ := R
                  obtain ⟨rfl, rfl⟩ : xk = lk ∧ xd = ld := by simpa using gd
                  obtain ⟨rb, ro, rfl, ra1, ra2, ra3⟩ := hra
                  have hsa : ∃ g, sa = some ⟨g, 0, none⟩ := by
                    rcases xst.2 with ⟨h, _⟩ | ⟨g, c, cur, h, _⟩
                    · simp at h; omega
                    · simp at h; exact ⟨g, h.1⟩
                  obtain ⟨sg, rfl⟩ := hsa
                  have yst : A2.cell? ⟨sg, m, none⟩ = some (.int .i64 (xat : Nat)) := by
                    rw [xst.cellAt m (by omega)]
                    unfold starts
                    rw [List.getElem?_map, List.getElem?_range hm, show xat = pos s rs m from ga]
                    rfl
                  dsimp only at ra1 ra2 ra3 gi gz
                  have HX := Lib.hid (And.intro hI2 (And.intro gz (And.intro gi ra3)))
                  have hm' : (m : Int) < (L.length : Int) := by omega
                  have hlim : (L.length : Int) ≤ 20 := by omega
                  have hdep : 1 ≤ 3 - 1 - 1 := by decide
                  have HZ := Lib.hid (And.intro hX1 (And.intro hXA (And.intro hz1 (And.intro hm (And.intro y21f (And.intro y22f y23f))))))
                  have HZ2 := Lib.hid (And.intro hza (And.intro hlt1 (And.intro hlt2 (And.intro hzr (And.intro hz5 (And.intro hz6 (And.intro hzp d5)))))))
                  have HZ3 := Lib.hid (And.intro g1 (And.intro g2 (And.intro hCl (And.intro hk (And.intro hzr' (And.intro hcut (And.intro htt m2)))))))
                  have HQ := Lib.hid (And.intro q1 (And.intro q2 q3))
                  clear x25 x7 x14 xst x20 hrA hnA hibA h6A hlr hbut hI hG hI2 gz gi ra3 hat hst gd ga hmr y25f y20 y21 y22 y21f y22f y23f
                  clear hX1 hXA hz1 hza hlt1 hlt2 hzr hz5 hz6 hzp d5 g1 g2 hCl hk hzr' hcut htt m2 q1 q2 q3
                  gi_wp2_with fail
                  have hmix : Tryd.prog.follows .mixedOrders = true := by kernel_rfl
                  have k25 := cell_regrown y25
                  have k25' := cell_regrown y25'
                  have k7 := cell_regrown y7
                  have k14 := cell_regrown y14
                  have k23 := cell_regrown y23
                  have kst := cell_regrown yst
                  have kr1 := cell_regrown ra1
                  have kr2 := cell_regrown ra2
                  have cS : ∀ n d os, CallsIn Fence.wide n Tryd.prog 11 #[.agg #[.int .u8 (xk.toNat : Nat), .slice xa xd.length xco], .agg #[.int .u8 (xk.toNat : Nat), .slice la xd.length lc]] (grow (redrawn A2 d) os) fun e w'' => e = .returned (.bool true) ∧ ∃ p : Regrown, w'' = grow (redrawn A2 p.d) p.os :=
                    fun n d os => CallsIn.regrown_of (callsIn_wide.2 (same_true xk xa xd.length xco la xd.length lc xd _ (HX.out.2.2.1.old (below_regrown A2 d os)) (HX.out.2.2.2.old (below_regrown A2 d os))))
                  clear y25 y25' y7 y14 y23 yst ra1 ra2
                  refine region_quiet_round hmix (by kernel_rfl) (by kernel_rfl) ?_
                  repeat (refine wpQuietIn_step (fun _ _ _ _ => trivial) (fun K hK => ?_); go_simp; first | (refine hK _ ?_; clear hK K) | (apply Exists.intro; refine ⟨fun _ => ?_, hK _ ?_⟩; (first | exact cS _ _ _ | exact ⟨trivial, cS _ _ _⟩ | exact ⟨fun h => (by cases h), cS _ _ _⟩); clear hK K))
                  refine wpQuietIn_nil ?_
                  intro _ hw'
                  obtain ⟨⟨dq, osq⟩, hw''⟩ := hw'
                  subst hw''
                  obtain ⟨W3, hW3⟩ : ∃ W, W = grow (redrawn A2 dq) osq := ⟨_, rfl⟩
                  have hb3 : Below A2.heap.size A2 W3 := by rw [hW3]; exact below_regrown A2 dq osq
                  rw [← hW3]
                  clear hW3 k25 k25' k7 k14 k23 kst kr1 kr2 cS
                  have hn3 : w6.heap.size + 1 + 1 + 1 < A2.heap.size := by
                    have := HZ.out.2.2.1; have := HZ2.out.2.2.2.2.2.2.1; have := HZ2.out.2.2.2.2.2.2.2; omega
                  have z23 := (HX.out.1.2.2.1.below hb3 hn3).cell
                  have z23f := (HX.out.1.2.2.1.below hb3 hn3).free
                  have HB3 := Lib.hid (And.intro hb3 hn3)
                  clear hb3 hn3
                  gi_wp2_with fail
                  have a1 := HZ2.out.1
                  have a2' := HZ2.out.2.2.2.1
                  have a3 := HZ2.out.2.2.2.2.1
                  have a4 := HZ2.out.2.2.2.2.2.1
                  have a5 := HZ2.out.2.2.2.2.2.2.1
                  have a6 := HZ2.out.2.2.2.2.2.2.2
                  have a7 := HZ.out.2.2.1
                  exact rounds_next HX.out.1 HB3.out.1 (Nat.le_refl _) HB3.out.2 HZ.out.2.2.2.1 HX.out.2.1 (by omega) (by omega) (by omega)
                · have hmx : max m L.length = m := by omega
                  rw [hmx] at y21 y22
                  obtain ⟨gz, ga, gd, gi⟩ := hG2
                  dsimp only at gz ga gd gi
                  have hm' : ¬ (m : Int) < (L.length : Int) := by omega
                  have hke := stt_le m hI2.2.2.2.2
                  have hcp := hibA.le
                  unfold maxLen at hcp
                  have hlc6 : A.length ≤ cp6 ∧ cp6 ≤ 9223372036854775807 := by
                    obtain ⟨h1, ⟨h2, h3, h4⟩ | ⟨x, h2, h3, h4, h5⟩⟩ := id hibA
                    · omega
                    · exact ⟨h3, by unfold maxLen at h4; omega⟩
                  have hu2 : U32 (stt A s m).2 := stt_u32 HI.out.2.2.2 m
                  have HX := Lib.hid (And.intro hI2 (And.intro gz (And.intro ga (And.intro gd (And.intro gi (And.intro hibA hnA))))))
                  have HZ := Lib.hid (And.intro hX1 (And.intro hXA (And.intro hz1 (And.intro hm True.intro))))
                  have HZ2 := Lib.hid (And.intro hza (And.intro hlt1 (And.intro hlt2 (And.intro hzr (And.intro hz5 (And.intro hz6 (And.intro hzp d5)))))))
                  have HZ3 := Lib.hid (And.intro g1 (And.intro g2 (And.intro hCl (And.intro hk (And.intro hzr' (And.intro hcut (And.intro htt m2)))))))
                  have HQ := Lib.hid (And.intro q1 (And.intro q2 q3))
                  clear x14 xst hrA hnA hibA h6A hlr hbut hI hG hI2 gz gi ga gd y14
                  clear hX1 hXA hz1 hza hlt1 hlt2 hzr hz5 hz6 hzp d5 g1 g2 hCl hk hzr' hcut htt m2 q1 q2 q3
                  gi_wp2_with fail
                  have hmix : Tryd.prog.follows .mixedOrders = true := by kernel_rfl
                  have s20 : ∀ W, Below A2.heap.size A2 W → W.cell? ⟨w6.heap.size, 0, none⟩ = some (.slice ao6 A.length cp6) := fun W h => (h.cell (World.block_lt_of_cell? _ _ y20)).trans y20
                  have s21 : ∀ W, Below A2.heap.size A2 W → W.cell? ⟨w6.heap.size + 1, 0, none⟩ = some (.int .i64 ((stt A s m).1 : Nat)) := fun W h => (h.cell (World.block_lt_of_cell? _ _ y21)).trans y21
                  have s22 : ∀ W, Below A2.heap.size A2 W → W.cell? ⟨w6.heap.size + 1 + 1, 0, none⟩ = some (.int .u32 ((stt A s m).2 : Nat)) := fun W h => (h.cell (World.block_lt_of_cell? _ _ y22)).trans y22
                  refine region_held_round (S := fun W => Below A2.heap.size A2 W) hmix (by kernel_rfl) (by rintro ⟨_, _, h⟩; exact h) (Below.refl _ _).drew (fun hS0 => ?_)
                  refine wpAnyH_take (i := 0) (v := .int .u32 ((stt A s m).2 : Nat)) rfl (by kernel_rfl) (by kernel_rfl) (by kernel_rfl) (fun _ _ _ h => h) (Or.inl ⟨by rfl, by (intro W hW; have := s22 W hW; go_simp)⟩) hS0 ?_
                  simp only [Act.put, List.setIfInBounds_toArray, List.set_cons_zero, List.set_cons_succ]
                  refine wpAnyH_take (i := 1) (v := .slice ao6 A.length cp6) rfl (by kernel_rfl) (by kernel_rfl) (by kernel_rfl) (fun _ _ _ h => h) (Or.inl ⟨by rfl, by (intro W hW; have := s20 W hW; go_simp)⟩) hS0 ?_
                  simp only [Act.put, List.setIfInBounds_toArray, List.set_cons_zero, List.set_cons_succ]
                  refine wpAnyH_take (i := 2) (v := .int .i64 ((stt A s m).1 : Nat)) rfl (by kernel_rfl) (by kernel_rfl) (by kernel_rfl) (fun _ _ _ h => h) (Or.inl ⟨by rfl, by (intro W hW; have := s21 W hW; go_simp)⟩) hS0 ?_
                  simp only [Act.put, List.setIfInBounds_toArray, List.set_cons_zero, List.set_cons_succ]
                  obtain ⟨ke, hke0⟩ : ∃ k, k = (stt A s m).1 := ⟨_, rfl⟩
                  obtain ⟨su, hsu0⟩ : ∃ k, k = (stt A s m).2 := ⟨_, rfl⟩
                  rw [← hke0] at hke s21
                  rw [← hsu0] at hu2 s22
                  rw [← hke0, ← hsu0]
                  have HE := Lib.hid (And.intro hke0 hsu0)
                  clear hke0 hsu0
                  have j1 : (0 : Int) ≤ (ke : Int) := by omega
                  have j2 : (ke : Int) ≤ (A.length : Int) := by omega
                  have j3 : (A.length : Int) ≤ (cp6 : Int) := by omega
                  have j4 : (cp6 : Int) ≤ 9223372036854775807 := by omega
                  obtain ⟨ax, cx, hib, hsl⟩ : ∃ ax cx, IsB A2 ax (A.length - ke) cx (A.drop ke) ∧ ((cp6 = ke ∧ ax = ao6 ∧ cx = 0) ∨ (¬ cp6 = ke ∧ ax = ao6.map (fun x => x.add ke) ∧ cx = cp6 - ke)) := by
                    by_cases hc : cp6 = ke
                    · exact ⟨_, _, IsB.from0 HX.out.2.2.2.2.2.1 hke hc, .inl ⟨hc, rfl, rfl⟩⟩
                    · exact ⟨_, _, IsB.from HX.out.2.2.2.2.2.1 hke, .inr ⟨hc, rfl, rfl⟩⟩
                  refine wpAnyH_take (i := 3) (v := .slice ax (A.length - ke : Nat) cx) rfl (by kernel_rfl) (by kernel_rfl) (by kernel_rfl) (fun _ _ _ h => h) (Or.inl ⟨by rfl, by (intro W hW; rcases hsl with ⟨hc, rfl, rfl⟩ | ⟨hc, rfl, rfl⟩ <;> go_simp)⟩) hS0 ?_
                  simp only [Act.put, List.setIfInBounds_toArray, List.set_cons_zero, List.set_cons_succ]
                  clear hsl
                  obtain ⟨nn, ns, hN⟩ : ∃ nn ns, nxt su (A.drop ke) = ((xk, xd), nn, ns, 0) := by
                    have e1 := HX.out.2.1
                    have e2 := HX.out.2.2.2.1
                    unfold Fm.at' at e1 e2
                    rw [← HE.out.1, ← HE.out.2] at e1 e2
                    exact ⟨_, _, Prod.ext e2.symm (Prod.ext rfl (Prod.ext rfl e1))⟩
                  have HIB := Lib.hid hib
                  have hlen : A.length - ke ≤ 1000000 := by have := HB6.out.2.2.2; have := HZ3.out.2.2.1; have := HZ3.out.2.1; omega
                  have HNX := fun (W : World) (hW : Below A2.heap.size A2 W) => next_l su ax (A.length - ke) cx (A.drop ke) W hu2 (HIB.out.old hW) hlen (HX.out.2.2.2.2.2.2.old hW)
                  rw [hN] at HNX
                  dsimp only at HNX
                  have HN := Lib.hid hN
                  clear hN hib
                  refine wpAnyH_ready (rs := [4, 10]) (by kernel_rfl) (by simp) ?_
                  refine AllReadyH.cons (o := _) rfl (fun K hK => ?o1) (AllReadyH.cons (o := _) rfl (fun K hK => ?o2) AllReadyH.nil)
                  case' o1 =>
                    go_simp
                    refine (HNX _ hS0).mono ?_
                    rintro e W3 ⟨ao3, co3, rfl, hib3, hb3⟩
                    have hibA := hib3 A2 HIB.out
                    have hS3 : Below A2.heap.size A2 W3 := hS0.trans (hb3.mono (by simp))
                    refine hK.out _ _ hS3 (fun _ => ?_)
                    clear hK K hb3
                    refine wpAnyH_take (i := 5) (v := .tuple #[.agg #[.int .u8 (xk.toNat : Nat), .slice ao3 xd.length co3], .int .i64 (nn : Nat), .int .u32 (ns : Nat), .int .i64 0]) rfl (by kernel_rfl) (by kernel_rfl) (by kernel_rfl) (fun _ _ _ h => h) (Or.inl ⟨by rfl, by (intro W hW; go_simp)⟩) hS3 ?_
                    simp only [Act.put, List.setIfInBounds_toArray, List.set_cons_zero, List.set_cons_succ]
                    refine wpAnyH_take (i := 6) (v := .agg #[.int .u8 (xk.toNat : Nat), .slice ao3 xd.length co3]) rfl (by kernel_rfl) (by kernel_rfl) (by kernel_rfl) (fun _ _ _ h => h) (Or.inl ⟨by rfl, by (intro W hW; go_simp)⟩) hS3 ?_
                    simp only [Act.put, List.setIfInBounds_toArray, List.set_cons_zero, List.set_cons_succ]
                    refine wpAnyH_take (i := 7) (v := .int .i64 (nn : Nat)) rfl (by kernel_rfl) (by kernel_rfl) (by kernel_rfl) (fun _ _ _ h => h) (Or.inl ⟨by rfl, by (intro W hW; go_simp)⟩) hS3 ?_
                    simp only [Act.put, List.setIfInBounds_toArray, List.set_cons_zero, List.set_cons_succ]
                    refine wpAnyH_take (i := 8) (v := .int .u32 (ns : Nat)) rfl (by kernel_rfl) (by kernel_rfl) (by kernel_rfl) (fun _ _ _ h => h) (Or.inl ⟨by rfl, by (intro W hW; go_simp)⟩) hS3 ?_
                    simp only [Act.put, List.setIfInBounds_toArray, List.set_cons_zero, List.set_cons_succ]
                    refine wpAnyH_take (i := 9) (v := .int .i64 0) rfl (by kernel_rfl) (by kernel_rfl) (by kernel_rfl) (fun _ _ _ h => h) (Or.inl ⟨by rfl, by (intro W hW; go_simp)⟩) hS3 ?_
                    simp only [Act.put, List.setIfInBounds_toArray, List.set_cons_zero, List.set_cons_succ]
                    refine wpAnyH_ready (rs := [10]) (by kernel_rfl) (by simp) ?_
                    refine AllReadyH.cons (o := _) rfl (fun K hK => ?_) AllReadyH.nil
                    go_simp
                    have hS4 : Below A2.heap.size A2 (W3.alloc (.cells #[.int .u8 0, .slice none 0 0] 25)) := hS3.alloc (by have := hS3.size; omega) _
                    refine hK.out _ _ hS4 (fun _ => ?_)
                    clear hK K
                    have hq : (W3.alloc (.cells #[.int .u8 0, .slice none 0 0] 25)).heap[W3.heap.size]? = some (.cells #[.int .u8 0, .slice none 0 0] 25 (0, 0)) := heap_alloc_new W3 _
                    have hqs : A2.heap.size ≤ W3.heap.size := hS3.size
                    obtain ⟨q, hqe⟩ : ∃ q, q = W3.heap.size := ⟨_, rfl⟩
                    obtain ⟨W4, hW4⟩ : ∃ W, W = W3.alloc (.cells #[.int .u8 0, .slice none 0 0] 25) := ⟨_, rfl⟩
                    rw [← hW4] at hq hS4 ⊢
                    rw [← hqe] at hq hqs ⊢
                    clear hW4 hqe hib3 hS3
                  case' o2 =>
                    go_simp
                    obtain ⟨q, hqe⟩ : ∃ q, q = A2.heap.size := ⟨_, rfl⟩
                    rw [← hqe]
                    have hS3 : Below A2.heap.size A2 (A2.alloc (.cells #[.int .u8 0, .slice none 0 0] 25)).drew := ((Below.refl _ _).alloc (Nat.le_refl _) _).drew
                    refine hK.out _ _ hS3 (fun _ => ?_)
                    clear hK K
                    have hq3 : ((A2.alloc (.cells #[.int .u8 0, .slice none 0 0] 25)).drew).heap[A2.heap.size]? = some (.cells #[.int .u8 0, .slice none 0 0] 25 (0, 0)) := heap_alloc_new A2 _
                    obtain ⟨W3, hW3⟩ : ∃ W, W = (A2.alloc (.cells #[.int .u8 0, .slice none 0 0] 25)).drew := ⟨_, rfl⟩
                    have hqs : A2.heap.size ≤ q := by omega
                    rw [← hW3] at hq3 hS3 ⊢
                    rw [← hqe] at hq3
                    clear hW3 hqe
                    refine wpAnyH_ready (rs := [4]) (by kernel_rfl) (by simp) ?_
                    refine AllReadyH.cons (o := _) rfl (fun K hK => ?_) AllReadyH.nil
                    go_simp
                    refine (HNX _ hS3).mono ?_
                    rintro e W4 ⟨ao3, co3, rfl, hib4, hb4⟩
                    have hibA := hib4 A2 HIB.out
                    clear hib4
                    have hS4 : Below A2.heap.size A2 W4 := hS3.trans (hb4.mono hS3.size)
                    refine hK.out _ _ hS4 (fun _ => ?_)
                    clear hK K
                    have hq := heap_old hb4 hq3
                    clear hb4 hq3 hS3
                    refine wpAnyH_take (i := 5) (v := .tuple #[.agg #[.int .u8 (xk.toNat : Nat), .slice ao3 xd.length co3], .int .i64 (nn : Nat), .int .u32 (ns : Nat), .int .i64 0]) rfl (by kernel_rfl) (by kernel_rfl) (by kernel_rfl) (fun _ _ _ h => h) (Or.inl ⟨by rfl, by (intro W hW; go_simp)⟩) hS4 ?_
                    simp only [Act.put, List.setIfInBounds_toArray, List.set_cons_zero, List.set_cons_succ]
                    refine wpAnyH_take (i := 6) (v := .agg #[.int .u8 (xk.toNat : Nat), .slice ao3 xd.length co3]) rfl (by kernel_rfl) (by kernel_rfl) (by kernel_rfl) (fun _ _ _ h => h) (Or.inl ⟨by rfl, by (intro W hW; go_simp)⟩) hS4 ?_
                    simp only [Act.put, List.setIfInBounds_toArray, List.set_cons_zero, List.set_cons_succ]
                    refine wpAnyH_take (i := 7) (v := .int .i64 (nn : Nat)) rfl (by kernel_rfl) (by kernel_rfl) (by kernel_rfl) (fun _ _ _ h => h) (Or.inl ⟨by rfl, by (intro W hW; go_simp)⟩) hS4 ?_
                    simp only [Act.put, List.setIfInBounds_toArray, List.set_cons_zero, List.set_cons_succ]
                    refine wpAnyH_take (i := 8) (v := .int .u32 (ns : Nat)) rfl (by kernel_rfl) (by kernel_rfl) (by kernel_rfl) (fun _ _ _ h => h) (Or.inl ⟨by rfl, by (intro W hW; go_simp)⟩) hS4 ?_
                    simp only [Act.put, List.setIfInBounds_toArray, List.set_cons_zero, List.set_cons_succ]
                    refine wpAnyH_take (i := 9) (v := .int .i64 0) rfl (by kernel_rfl) (by kernel_rfl) (by kernel_rfl) (fun _ _ _ h => h) (Or.inl ⟨by rfl, by (intro W hW; go_simp)⟩) hS4 ?_
                    simp only [Act.put, List.setIfInBounds_toArray, List.set_cons_zero, List.set_cons_succ]
                  all_goals
                    obtain ⟨⟨z1, z2⟩, z3, z4⟩ := two_cells hq
                    refine wpAnyH_ready (rs := [11]) (by kernel_rfl) (by simp) ?_
                    refine AllReadyH.cons (o := _) rfl (fun K hK => ?_) AllReadyH.nil
                    go_simp
                    have hS5 : Below A2.heap.size A2 ((W4.setCell ⟨q, 0, none⟩ (.int .u8 (xk.toNat : Nat))).setCell ⟨q, 1, none⟩ (.slice ao3 xd.length co3)) := (hS4.setCell (p := ⟨q, 0, none⟩) hqs _).setCell (p := ⟨q, 1, none⟩) hqs _
                    have hr5 : ((W4.setCell ⟨q, 0, none⟩ (.int .u8 (xk.toNat : Nat))).setCell ⟨q, 1, none⟩ (.slice ao3 xd.length co3)).heap[q]? = some (.cells #[.int .u8 (xk.toNat : Nat), .slice ao3 xd.length co3] 25 (0, 0)) := heap_setCell_same _ q 1 _ _ _ (heap_setCell_same _ q 0 _ _ _ hq)
                    refine hK.out _ _ hS5 (fun _ => ?_)
                    clear hK K hq z1 z2 z3 z4 hS4
                    obtain ⟨W5, hW5⟩ : ∃ W, W = (W4.setCell ⟨q, 0, none⟩ (.int .u8 (xk.toNat : Nat))).setCell ⟨q, 1, none⟩ (.slice ao3 xd.length co3) := ⟨_, rfl⟩
                    rw [← hW5] at hS5 hr5 ⊢
                    clear hW5
                    refine wpAnyH_take (i := 12) (v := .int .i64 (nn : Nat)) rfl (by kernel_rfl) (by kernel_rfl) (by kernel_rfl) (fun _ _ _ h => h) (Or.inl ⟨by rfl, by (intro W hW; go_simp)⟩) hS5 ?_
                    simp only [Act.put, List.setIfInBounds_toArray, List.set_cons_zero, List.set_cons_succ]
                    refine wpAnyH_take (i := 13) (v := .int .u32 (ns : Nat)) rfl (by kernel_rfl) (by kernel_rfl) (by kernel_rfl) (fun _ _ _ h => h) (Or.inl ⟨by rfl, by (intro W hW; go_simp)⟩) hS5 ?_
                    simp only [Act.put, List.setIfInBounds_toArray, List.set_cons_zero, List.set_cons_succ]
                    refine wpAnyH_take (i := 14) (v := .int .i64 0) rfl (by kernel_rfl) (by kernel_rfl) (by kernel_rfl) (fun _ _ _ h => h) (Or.inl ⟨by rfl, by (intro W hW; go_simp)⟩) hS5 ?_
                    simp only [Act.put, List.setIfInBounds_toArray, List.set_cons_zero, List.set_cons_succ]
                    refine wpAnyH_done (by kernel_rfl) ?_ _
                    clear s20 s21 s22 HNX hlen
                    have h25 : W5.heap[X.heap.size]? = some (.cells #[.int .u8 (xk.toNat : Nat), .slice xa xd.length xco] 25 (0, 0)) := heap_old hS5 x25
                    obtain ⟨⟨y25, y25'⟩, _⟩ := two_cells h25
                    obtain ⟨⟨y26, y26'⟩, _⟩ := two_cells hr5
                    have hibA5 := hibA.old hS5
                    have hibx5 := HX.out.2.2.2.2.1.old hS5
                    have hn3 : w6.heap.size + 1 + 1 + 1 < A2.heap.size := by
                      have := HZ.out.1; have := HZ.out.2.1; have := HZ2.out.2.2.2.2.2.2.1; have := HZ2.out.2.2.2.2.2.2.2; omega
                    have z21 := (HX.out.1.1.below hS5 (by omega)).cell
                    have z22 := (HX.out.1.2.1.below hS5 (by omega)).cell
                    have z23 := (HX.out.1.2.2.1.below hS5 hn3).cell
                    have z21f := (HX.out.1.1.below hS5 (by omega)).free
                    have z22f := (HX.out.1.2.1.below hS5 (by omega)).free
                    have z23f := (HX.out.1.2.2.1.below hS5 hn3).free
                    rw [hmx, ← HE.out.1] at z21
                    rw [hmx, ← HE.out.2] at z22
                    have hka : xat = ke := by rw [HE.out.1]; exact HX.out.2.2.1
                    subst hka
                    have HSM := Lib.hid (same_true xk xa xd.length xco ao3 xd.length co3 xd W5 hibx5 hibA5)
                    have HB5 := Lib.hid (And.intro hS5 hn3)
                    clear hS5 hn3 hibx5 hibA5 hibA hr5 h25 x25 y20 y21 y22 y23 y21f y22f y23f y25f
                    gi_wp2_with fail
                    refine ⟨trivial, CallsIn.inRound l ((callsIn_wide.2 HSM.out).mono ?_)⟩
                    rintro e W6 ⟨rfl, hb6⟩
                    have hn4 := HB5.out.2
                    have hn5 : A2.heap.size ≤ W5.heap.size := HB5.out.1.size
                    have x21 := (HX.out.1.1.below HB5.out.1 (by omega)).below hb6 (by omega)
                    have x22 := (HX.out.1.2.1.below HB5.out.1 (by omega)).below hb6 (by omega)
                    have x23 := (HX.out.1.2.2.1.below HB5.out.1 (by omega)).below hb6 (by omega)
                    rw [hmx, ← HE.out.1] at x21
                    rw [hmx, ← HE.out.2] at x22
                    have z21 := x21.cell
                    have z22 := x22.cell
                    have z23 := x23.cell
                    have z21f := x21.free
                    have z22f := x22.free
                    have z23f := x23.free
                    have H6 := Lib.hid (And.intro (HB5.out.1.trans (hb6.mono hn5)) (And.intro hn4 hn5))
                    clear hb6 x21 x22 x23 hn4 hn5 HSM y25 y25' y26 y26'
                    have hst : stt A s (m + 1) = (xat + nn, ns) := by
                      rw [stt_succ]; unfold Fm.at'
                      rw [← HE.out.1, ← HE.out.2, HN.out]
                    have hall : ∀ i, i < m + 1 → (Fm.at' A s i).2.2.2 = 0 := fun i hi => by
                      by_cases e : i = m
                      · rw [e]; exact HX.out.2.1
                      · exact HX.out.1.2.2.2.2 i (by omega)
                    have hle := stt_le (m + 1) hall
                    have hge := stt_ge (m + 1) hall
                    rw [hst] at hle hge
                    dsimp only at hle hge
                    have hAl := HB6.out.2.2.2
                    have hCl := HZ3.out.2.2.1
                    have hbl := HZ3.out.2.1
                    have j5 : (xat : Int) + (nn : Int) ≤ 2220 := by omega
                    have j6 : (m : Int) ≤ 2220 := by omega
                    have HS2 := Lib.hid hst
                    clear hst hall hle hge hAl hCl hbl
                    gi_wp2_with fail
                    have a1 := HZ2.out.1
                    have a2' := HZ2.out.2.2.2.1
                    have a3 := HZ2.out.2.2.2.2.1
                    have a4 := HZ2.out.2.2.2.2.2.1
                    have a5 := HZ2.out.2.2.2.2.2.2.1
                    have a6 := HZ2.out.2.2.2.2.2.2.2
                    have a7 := HZ.out.1
                    have a8 := H6.out.2.1
                    exact rounds_next2 HX.out.1 H6.out.1 (Nat.le_refl _) a8 hm HX.out.2.1 HS2.out (by omega) (by omega) (by have := HZ.out.2.2.1; omega)
              case hdone =>
                intro D m X hD hS hI hK
                dsimp only
                have hmL : L.length ≤ m := by
                  by_cases hlt : m < L.length
                  · exfalso
                    have hmr : m < rs.length := by rw [HM.out.2.2.2.2.1]; exact hlt
                    have hat := at_cat s bh (fun x hx => by have := HM.out.1 x hx; omega) hmr
                    rw [← HM.out.2.1, ← HB6.out.2.2.1] at hat
                    rw [hat] at hS
                    exact hS rfl
                  · omega
                have hX1 := hI.2.2.2.1.size
                have h6X : Below w6.heap.size w6 X := HP.out.2.2.2.2.trans (hI.2.2.2.1.mono (by omega))
                have x7 : Bx X w.heap.size 37 (.slice a L.length cap) := heap_old h6X (heap_old HB6.out.1 (HA.out.1.below HR.out.2.2.2.1 (by omega)))
                have x12 : Bx X (w.heap.size + 1) 4 (.bool false) := heap_old h6X (heap_old HB6.out.1 (HA.out.2.1.below HR.out.2.2.2.1 (by omega)))
                have x14 : Bx X wa.heap.size 39 (.slice sa L.length sc) := heap_old h6X (heap_old HB6.out.1 HR.out.1)
                have xst := own_below (own_below HR.out.2.1 HB6.out.1 (Nat.le_refl _)) h6X (Nat.le_refl _)
                have xC := own_below (own_below HR.out.2.2.1 HB6.out.1 (Nat.le_refl _)) h6X (Nat.le_refl _)
                have x20 : Bx X w6.heap.size 23 (.slice ao6 A.length cp6) := HP.out.1.below hI.2.2.2.1 (by omega)
                have hwX : Below w.heap.size w X := below_two HR.out.2.2.2.2 (below_two HB6.out.1 h6X)
                have hibX := HB6.out.2.1.old h6X
                obtain ⟨x21, x22, x23, _, hall⟩ := hI
                have hmx : max m L.length = m := by omega
                rw [hmx] at x21 x22
                have hgd : good A 0 s = stt A s m := good_stop hall hS
                have hke := stt_le m hall
                have hkm := stt_ge m hall
                have hu2 : U32 (stt A s m).2 := stt_u32 HI.out.2.2.2 m
                have hnb := nxt_bad (s := (stt A s m).2) (b := A.drop (stt A s m).1) hS
                have HGD := Lib.hid (good_any s ao6 A.length cp6 A X HI.out.2.2.2 hibX (HI.out.2.2.1.old hwX))
                rw [hgd] at HGD
                obtain ⟨ke, hke0⟩ : ∃ k, k = (stt A s m).1 := ⟨_, rfl⟩
                obtain ⟨su, hsu0⟩ : ∃ k, k = (stt A s m).2 := ⟨_, rfl⟩
                obtain ⟨ne, hne0⟩ : ∃ k, k = (Fm.at' A s m).2.2.2 := ⟨_, rfl⟩
                rw [show (nxt (stt A s m).2 (A.drop (stt A s m).1)).2.2.2 = (Fm.at' A s m).2.2.2 from rfl, ← hne0, ← hke0, ← hsu0] at hnb
                rw [← hne0] at hS
                rw [← hke0] at hke hkm x21 HGD
                rw [← hsu0] at hu2 x22 HGD
                have hAl := HB6.out.2.2.2
                have hKB : ke ≤ 2220 ∧ m ≤ 2220 ∧ A.length ≤ 2220 := by omega
                have HK := Lib.hid (And.intro hK (And.intro hD (And.intro hwX (And.intro h6X (And.intro hX1 hmL)))))
                have HX := Lib.hid (And.intro x7 (And.intro x12 (And.intro x14 (And.intro xst (And.intro xC (And.intro x20 (And.intro x21 (And.intro x22 x23))))))))
                have HN := Lib.hid (And.intro hnb (And.intro hu2 hS))
                have hlc6 : A.length ≤ cp6 ∧ cp6 ≤ 9223372036854775807 := by
                  have hcp := hibX.le
                  obtain ⟨h1, ⟨h2, h3, h4⟩ | ⟨x, h2, h3, h4, h5⟩⟩ := id hibX
                  · omega
                  · exact ⟨h3, by unfold maxLen at h4; omega⟩
                have y20 := x20.cell
                have HIX := Lib.hid hibX
                have HSZ := Lib.hid (And.intro hza (And.intro hlt1 (And.intro hlt2 (And.intro hzr (And.intro hz5 (And.intro hz6 (And.intro hzp (And.intro d5 (And.intro hAl (And.intro hCl (And.intro hke (And.intro hkm hKB))))))))))))
                have HCA := Lib.hid (And.intro hcap (And.intro hcut htt))
                clear hza hlt1 hlt2 hzr hz5 hz6 hzp d5 hAl hCl hke hkm hKB hcap hcut htt hk hzr'
                clear hK hD h6X x7 x12 x14 xst xC x20 x21 x22 x23 hwX hibX hall hmx hgd hnb hu2 hS hke0 hsu0 hne0 hX1 hmL
                go_wp2_with fail
                refine HGD.out.mono ?_ -- M2
                rintro e W2 ⟨rfl, hb2⟩
                clear HGD y20
                have hXW := hb2.size
                have z20 : Bx W2 w6.heap.size 23 (.slice ao6 A.length cp6) := heap_old hb2 HX.out.2.2.2.2.2.1
                have z21 : Bx W2 (w6.heap.size + 1) 3 (.int .i64 (ke : Nat)) := heap_old hb2 HX.out.2.2.2.2.2.2.1
                have z22 : Bx W2 (w6.heap.size + 1 + 1) 22 (.int .u32 (su : Nat)) := heap_old hb2 HX.out.2.2.2.2.2.2.2.1
                have hib2 := HIX.out.old hb2
                have hnb2 : Nibs W2 := HI.out.2.2.1.old (HK.out.2.2.1.trans (hb2.mono HK.out.2.2.1.size))
                have hmix : Tryd.prog.follows .mixedOrders = true := by kernel_rfl
                have s20 : ∀ W, Below W2.heap.size W2 W → W.cell? ⟨w6.heap.size, 0, none⟩ = some (.slice ao6 A.length cp6) := fun W h => (h.cell (World.block_lt_of_cell? _ _ z20.cell)).trans z20.cell
                have s21 : ∀ W, Below W2.heap.size W2 W → W.cell? ⟨w6.heap.size + 1, 0, none⟩ = some (.int .i64 (ke : Nat)) := fun W h => (h.cell (World.block_lt_of_cell? _ _ z21.cell)).trans z21.cell
                have s22 : ∀ W, Below W2.heap.size W2 W → W.cell? ⟨w6.heap.size + 1 + 1, 0, none⟩ = some (.int .u32 (su : Nat)) := fun W h => (h.cell (World.block_lt_of_cell? _ _ z22.cell)).trans z22.cell
                have hke := HSZ.out.2.2.2.2.2.2.2.2.2.2.1
                have j1 : (0 : Int) ≤ (ke : Int) := by omega
                have j2 : (ke : Int) ≤ (A.length : Int) := by omega
                have j3 : (A.length : Int) ≤ (cp6 : Int) := by omega
                have j4 : (cp6 : Int) ≤ 9223372036854775807 := by omega
                obtain ⟨ax, cx, hib, hsl⟩ : ∃ ax cx, IsB W2 ax (A.length - ke) cx (A.drop ke) ∧ ((cp6 = ke ∧ ax = ao6 ∧ cx = 0) ∨ (¬ cp6 = ke ∧ ax = ao6.map (fun x => x.add ke) ∧ cx = cp6 - ke)) := by
                  by_cases hc : cp6 = ke
                  · exact ⟨_, _, IsB.from0 hib2 hke hc, .inl ⟨hc, rfl, rfl⟩⟩
                  · exact ⟨_, _, IsB.from hib2 hke, .inr ⟨hc, rfl, rfl⟩⟩
                have hlen : A.length - ke ≤ 1000000 := by have := HSZ.out.2.2.2.2.2.2.2.2.2.2.2.2.2.2; omega
                have HNX := fun (W : World) (hW : Below W2.heap.size W2 W) => next_l su ax (A.length - ke) cx (A.drop ke) W HN.out.2.1 (hib.old hW) hlen (hnb2.old hW)
                rw [HN.out.1] at HNX
                dsimp only [List.length_nil] at HNX
                have HB2 := Lib.hid (And.intro hb2 hib2)
                have HXW := Lib.hid hXW
                clear hb2 hib2 hke hib hlen hnb2 z20 z21 z22 hXW
                go_wp2_with fail
                go_cut [35] from 150 to 159 (fun s35 wx => s35 = .int .i64 ne ∧ Below W2.heap.size W2 wx)
                case first =>
                  refine wp_nrm ?_
                  refine wp_region_held_drew (S := fun W => Below W2.heap.size W2 W) hmix (Below.refl _ _).drew (fun hS0 => ?_)
                  refine wpAnyH_take (i := 0) (v := .int .u32 (su : Nat)) rfl (by kernel_rfl) (by kernel_rfl) (by kernel_rfl) (fun _ _ _ h => h.elim) (Or.inl ⟨by rfl, by (intro W hW; have := s22 W hW; go_simp)⟩) hS0 ?_
                  simp only [Act.put, List.setIfInBounds_toArray, List.set_cons_zero, List.set_cons_succ]
                  refine wpAnyH_take (i := 1) (v := .slice ao6 A.length cp6) rfl (by kernel_rfl) (by kernel_rfl) (by kernel_rfl) (fun _ _ _ h => h.elim) (Or.inl ⟨by rfl, by (intro W hW; have := s20 W hW; go_simp)⟩) hS0 ?_
                  simp only [Act.put, List.setIfInBounds_toArray, List.set_cons_zero, List.set_cons_succ]
                  refine wpAnyH_take (i := 2) (v := .int .i64 (ke : Nat)) rfl (by kernel_rfl) (by kernel_rfl) (by kernel_rfl) (fun _ _ _ h => h.elim) (Or.inl ⟨by rfl, by (intro W hW; have := s21 W hW; go_simp)⟩) hS0 ?_
                  simp only [Act.put, List.setIfInBounds_toArray, List.set_cons_zero, List.set_cons_succ]
                  refine wpAnyH_take (i := 3) (v := .slice ax (A.length - ke : Nat) cx) rfl (by kernel_rfl) (by kernel_rfl) (by kernel_rfl) (fun _ _ _ h => h.elim) (Or.inl ⟨by rfl, by (intro W hW; rcases hsl with ⟨hc, rfl, rfl⟩ | ⟨hc, rfl, rfl⟩ <;> go_simp)⟩) hS0 ?_
                  simp only [Act.put, List.setIfInBounds_toArray, List.set_cons_zero, List.set_cons_succ]
                  clear hsl
                  refine wpAnyH_ready (rs := [4, 10]) (by kernel_rfl) (by simp) ?_
                  refine AllReadyH.cons (o := _) rfl (fun K hK => ?p1) (AllReadyH.cons (o := _) rfl (fun K hK => ?p2) AllReadyH.nil)
                  case' p1 =>
                    go_simp
                    refine (HNX _ hS0).mono ?_
                    rintro e W3 ⟨ao3, co3, rfl, hib3, hb3⟩
                    have hS3 : Below W2.heap.size W2 W3 := hS0.trans (hb3.mono (by simp))
                    refine hK.out _ _ hS3 (fun _ => ?_)
                    clear hK K hb3 hib3
                    refine wpAnyH_take (i := 5) (v := .tuple #[.agg #[.int .u8 0, .slice ao3 0 co3], .int .i64 0, .int .u32 0, .int .i64 ne]) rfl (by kernel_rfl) (by kernel_rfl) (by kernel_rfl) (fun _ _ _ h => h.elim) (Or.inl ⟨by rfl, by (intro W hW; go_simp)⟩) hS3 ?_
                    simp only [Act.put, List.setIfInBounds_toArray, List.set_cons_zero, List.set_cons_succ]
                    refine wpAnyH_take (i := 6) (v := .agg #[.int .u8 0, .slice ao3 0 co3]) rfl (by kernel_rfl) (by kernel_rfl) (by kernel_rfl) (fun _ _ _ h => h.elim) (Or.inl ⟨by rfl, by (intro W hW; go_simp)⟩) hS3 ?_
                    simp only [Act.put, List.setIfInBounds_toArray, List.set_cons_zero, List.set_cons_succ]
                    refine wpAnyH_take (i := 7) (v := .int .i64 0) rfl (by kernel_rfl) (by kernel_rfl) (by kernel_rfl) (fun _ _ _ h => h.elim) (Or.inl ⟨by rfl, by (intro W hW; go_simp)⟩) hS3 ?_
                    simp only [Act.put, List.setIfInBounds_toArray, List.set_cons_zero, List.set_cons_succ]
                    refine wpAnyH_take (i := 8) (v := .int .u32 0) rfl (by kernel_rfl) (by kernel_rfl) (by kernel_rfl) (fun _ _ _ h => h.elim) (Or.inl ⟨by rfl, by (intro W hW; go_simp)⟩) hS3 ?_
                    simp only [Act.put, List.setIfInBounds_toArray, List.set_cons_zero, List.set_cons_succ]
                    refine wpAnyH_take (i := 9) (v := .int .i64 ne) rfl (by kernel_rfl) (by kernel_rfl) (by kernel_rfl) (fun _ _ _ h => h.elim) (Or.inl ⟨by rfl, by (intro W hW; go_simp)⟩) hS3 ?_
                    simp only [Act.put, List.setIfInBounds_toArray, List.set_cons_zero, List.set_cons_succ]
                    refine wpAnyH_ready (rs := [10]) (by kernel_rfl) (by simp) ?_
                    refine AllReadyH.cons (o := _) rfl (fun K hK => ?_) AllReadyH.nil
                    go_simp
                    have hS4 : Below W2.heap.size W2 (W3.alloc (.cells #[.int .u8 0, .slice none 0 0] 25)) := hS3.alloc (by have := hS3.size; omega) _
                    refine hK.out _ _ hS4 (fun _ => ?_)
                    clear hK K
                    have hq : (W3.alloc (.cells #[.int .u8 0, .slice none 0 0] 25)).heap[W3.heap.size]? = some (.cells #[.int .u8 0, .slice none 0 0] 25 (0, 0)) := heap_alloc_new W3 _
                    have hqs : W2.heap.size ≤ W3.heap.size := hS3.size
                    obtain ⟨q, hqe⟩ : ∃ q, q = W3.heap.size := ⟨_, rfl⟩
                    obtain ⟨W4, hW4⟩ : ∃ W, W = W3.alloc (.cells #[.int .u8 0, .slice none 0 0] 25) := ⟨_, rfl⟩
                    rw [← hW4] at hq hS4 ⊢
                    rw [← hqe] at hq hqs ⊢
                    clear hW4 hqe hS3
                  case' p2 =>
                    go_simp
                    obtain ⟨q, hqe⟩ : ∃ q, q = W2.heap.size := ⟨_, rfl⟩
                    rw [← hqe]
                    have hS3 : Below W2.heap.size W2 (W2.alloc (.cells #[.int .u8 0, .slice none 0 0] 25)).drew := ((Below.refl _ _).alloc (Nat.le_refl _) _).drew
                    refine hK.out _ _ hS3 (fun _ => ?_)
                    clear hK K
                    have hq3 : ((W2.alloc (.cells #[.int .u8 0, .slice none 0 0] 25)).drew).heap[W2.heap.size]? = some (.cells #[.int .u8 0, .slice none 0 0] 25 (0, 0)) := heap_alloc_new W2 _
                    obtain ⟨W3, hW3⟩ : ∃ W, W = (W2.alloc (.cells #[.int .u8 0, .slice none 0 0] 25)).drew := ⟨_, rfl⟩
                    have hqs : W2.heap.size ≤ q := by omega
                    rw [← hW3] at hq3 hS3 ⊢
                    rw [← hqe] at hq3
                    clear hW3 hqe
                    refine wpAnyH_ready (rs := [4]) (by kernel_rfl) (by simp) ?_
                    refine AllReadyH.cons (o := _) rfl (fun K hK => ?_) AllReadyH.nil
                    go_simp
                    refine (HNX _ hS3).mono ?_
                    rintro e W4 ⟨ao3, co3, rfl, hib4, hb4⟩
                    clear hib4
                    have hS4 : Below W2.heap.size W2 W4 := hS3.trans (hb4.mono hS3.size)
                    refine hK.out _ _ hS4 (fun _ => ?_)
                    clear hK K
                    have hq := heap_old hb4 hq3
                    clear hb4 hq3 hS3
                    refine wpAnyH_take (i := 5) (v := .tuple #[.agg #[.int .u8 0, .slice ao3 0 co3], .int .i64 0, .int .u32 0, .int .i64 ne]) rfl (by kernel_rfl) (by kernel_rfl) (by kernel_rfl) (fun _ _ _ h => h.elim) (Or.inl ⟨by rfl, by (intro W hW; go_simp)⟩) hS4 ?_
                    simp only [Act.put, List.setIfInBounds_toArray, List.set_cons_zero, List.set_cons_succ]
                    refine wpAnyH_take (i := 6) (v := .agg #[.int .u8 0, .slice ao3 0 co3]) rfl (by kernel_rfl) (by kernel_rfl) (by kernel_rfl) (fun _ _ _ h => h.elim) (Or.inl ⟨by rfl, by (intro W hW; go_simp)⟩) hS4 ?_
                    simp only [Act.put, List.setIfInBounds_toArray, List.set_cons_zero, List.set_cons_succ]
                    refine wpAnyH_take (i := 7) (v := .int .i64 0) rfl (by kernel_rfl) (by kernel_rfl) (by kernel_rfl) (fun _ _ _ h => h.elim) (Or.inl ⟨by rfl, by (intro W hW; go_simp)⟩) hS4 ?_
                    simp only [Act.put, List.setIfInBounds_toArray, List.set_cons_zero, List.set_cons_succ]
                    refine wpAnyH_take (i := 8) (v := .int .u32 0) rfl (by kernel_rfl) (by kernel_rfl) (by kernel_rfl) (fun _ _ _ h => h.elim) (Or.inl ⟨by rfl, by (intro W hW; go_simp)⟩) hS4 ?_
                    simp only [Act.put, List.setIfInBounds_toArray, List.set_cons_zero, List.set_cons_succ]
                    refine wpAnyH_take (i := 9) (v := .int .i64 ne) rfl (by kernel_rfl) (by kernel_rfl) (by kernel_rfl) (fun _ _ _ h => h.elim) (Or.inl ⟨by rfl, by (intro W hW; go_simp)⟩) hS4 ?_
                    simp only [Act.put, List.setIfInBounds_toArray, List.set_cons_zero, List.set_cons_succ]
                  all_goals
                    obtain ⟨⟨z1, z2⟩, z3, z4⟩ := two_cells hq
                    refine wpAnyH_ready (rs := [11]) (by kernel_rfl) (by simp) ?_
                    refine AllReadyH.cons (o := _) rfl (fun K hK => ?_) AllReadyH.nil
                    go_simp
                    have hS5 : Below W2.heap.size W2 ((W4.setCell ⟨q, 0, none⟩ (.int .u8 0)).setCell ⟨q, 1, none⟩ (.slice ao3 0 co3)) := (hS4.setCell (p := ⟨q, 0, none⟩) hqs _).setCell (p := ⟨q, 1, none⟩) hqs _
                    refine hK.out _ _ hS5 (fun _ => ?_)
                    clear hK K hq z1 z2 z3 z4 hS4
                    obtain ⟨W5, hW5⟩ : ∃ W, W = (W4.setCell ⟨q, 0, none⟩ (.int .u8 0)).setCell ⟨q, 1, none⟩ (.slice ao3 0 co3) := ⟨_, rfl⟩
                    rw [← hW5] at hS5 ⊢
                    clear hW5
                    refine wpAnyH_take (i := 12) (oi := ⟨some 33, _, _, _, _, _⟩) (v := .int .i64 0) rfl (by kernel_rfl) (by kernel_rfl) (by kernel_rfl) (fun _ _ _ h => h.elim) (Or.inl ⟨by rfl, by (intro W hW; go_simp)⟩) hS5 ?_
                    simp only [Act.put, List.setIfInBounds_toArray, List.set_cons_zero, List.set_cons_succ]
                    refine wpAnyH_take (i := 13) (oi := ⟨some 34, _, _, _, _, _⟩) (v := .int .u32 0) rfl (by kernel_rfl) (by kernel_rfl) (by kernel_rfl) (fun _ _ _ h => h.elim) (Or.inl ⟨by rfl, by (intro W hW; go_simp)⟩) hS5 ?_
                    simp only [Act.put, List.setIfInBounds_toArray, List.set_cons_zero, List.set_cons_succ]
                    refine wpAnyH_take (i := 14) (oi := ⟨some 35, _, _, _, _, _⟩) (v := .int .i64 ne) rfl (by kernel_rfl) (by kernel_rfl) (by kernel_rfl) (fun _ _ _ h => h.elim) (Or.inl ⟨by rfl, by (intro W hW; go_simp)⟩) hS5 ?_
                    simp only [Act.put, List.setIfInBounds_toArray, List.set_cons_zero, List.set_cons_succ]
                    refine wpAnyH_done (by kernel_rfl) ?_ _
                    dsimp only [Nrm]
                    go_wp2_with fail
                    go_meet
                    exact ⟨rfl, hS5⟩
                case rest =>
                  obtain ⟨rfl, hbc⟩ := hcut
                  obtain ⟨V, rfl⟩ : ∃ V : World, V = wc := ⟨_, rfl⟩
                  clear hsl s20 s21 s22 HNX j1 j2 j3 j4 hlc6
                  have hXc : Below X.heap.size X V := HB2.out.1.trans (hbc.mono HXW.out)
                  have hpX : w6.heap.size + 1 + 1 + 1 < X.heap.size := by
                    have := HSZ.out.2.2.2.2.2.2.1; have := HSZ.out.2.2.2.2.2.2.2.1; have := HK.out.2.2.2.2.1; omega
                  have c7 : Bx V w.heap.size 37 (.slice a L.length cap) := heap_old hXc HX.out.1
                  have c12 : Bx V (w.heap.size + 1) 4 (.bool false) := heap_old hXc HX.out.2.1
                  have c14 : Bx V wa.heap.size 39 (.slice sa L.length sc) := heap_old hXc HX.out.2.2.1
                  have cst := own_below HX.out.2.2.2.1 hXc (Nat.le_refl _)
                  have cC := own_below HX.out.2.2.2.2.1 hXc (Nat.le_refl _)
                  have c21 : Bx V (w6.heap.size + 1) 3 (.int .i64 (ke : Nat)) := heap_old hXc HX.out.2.2.2.2.2.2.1
                  have c22 : Bx V (w6.heap.size + 1 + 1) 22 (.int .u32 (su : Nat)) := heap_old hXc HX.out.2.2.2.2.2.2.2.1
                  have c23 : Bx V (w6.heap.size + 1 + 1 + 1) 3 (.int .i64 (m : Nat)) := heap_old hXc HX.out.2.2.2.2.2.2.2.2
                  have hwc : Below w.heap.size w V := HK.out.2.2.1.trans (hXc.mono HK.out.2.2.1.size)
                  have hDc : V.heap[D]? = some (.deferred (some [])) := heap_old hXc HK.out.1
                  have y7 := c7.cell
                  have y12 := c12.cell
                  have y12f := c12.free
                  have y14 := c14.cell
                  have y21 := c21.cell
                  have y22 := c22.cell
                  have y23 := c23.cell
                  have y23f := c23.free
                  have hne : (ne == 0) = false := by simpa using HN.out.2.2
                  have hml : decide (m < L.length) = false := by have := HK.out.2.2.2.2.2; simp; omega
                  have hL20 : L.length ≤ 20 := by omega
                  have hCl := HSZ.out.2.2.2.2.2.2.2.2.2.1
                  have hcut := HCA.out.2.1
                  have HC := Lib.hid (And.intro c7 (And.intro c12 (And.intro c14 (And.intro cst (And.intro cC (And.intro c23 (And.intro hwc (And.intro hDc hpX))))))))
                  have hcl : cut % (C.length + 1) ≤ C.length := by have := Nat.mod_lt cut (show 0 < C.length + 1 by omega); omega
                  have hcm : (cut : Int) % ((C.length : Int) + 1) = ((cut % (C.length + 1) : Nat) : Int) := by rw [Int.natCast_emod, Int.natCast_add]; rfl
                  obtain ⟨c, hc⟩ : ∃ c, c = cut % (C.length + 1) := ⟨_, rfl⟩
                  rw [← hc] at hcl hcm
                  clear hXc c7 c12 c14 cst cC c21 c22 c23 hwc hDc hc hbc hpX
                  go_wp2_with fail
                  try rw [hcm]
                  clear hcm
                  go_loop [37] (fun v => ∃ k : Nat, k ≤ L.length ∧ v = .int .i64 k ∧ pos s rs k ≤ c) (fun v => L.length - (intOf v).toNat)
                  case atStart => exact ⟨0, Nat.zero_le _, rfl, by simp [pos, cat]⟩
                  case round =>
                    obtain ⟨k, hk, rfl, hpk⟩ := hrel
                    obtain ⟨B, hB⟩ : ∃ B, B = decide (k < L.length ∧ pos s rs (k + 1) ≤ c) := ⟨_, rfl⟩
                    have HBB := Lib.hid hB
                    have HPK := Lib.hid hpk
                    clear hB hpk
                    go_upto_region 35 with (fail)
                    go_cut [216] from 184 to 216 (fun t wx => CutR (.bool B) V t wx)
                    case first =>
                      by_cases hlt : k < L.length
                      · obtain ⟨sg, rfl⟩ : ∃ g, sa = some ⟨g, 0, none⟩ := by
                          rcases HC.out.2.2.2.1.2 with ⟨h, _⟩ | ⟨g, c', cur, h, _⟩
                          · simp at h; omega
                          · simp at h; exact ⟨g, h.1⟩
                        obtain ⟨P1, hP1⟩ : ∃ x, x = pos s rs (k + 1) := ⟨_, rfl⟩
                        by_cases hlt1 : k + 1 < L.length
                        · have yst : V.cell? ⟨sg, k + 1, none⟩ = some (.int .i64 (P1 : Nat)) := by
                            rw [HC.out.2.2.2.1.cellAt (k + 1) (by omega)]
                            unfold starts
                            rw [List.getElem?_map, List.getElem?_range hlt1, hP1]
                            rfl
                          have e1 : ((k : Int) + 1 == (L.length : Int)) = false := by simp; omega
                          have e2 : (k : Int) < (L.length : Int) := by omega
                          have e3 : (k : Int) + 1 < (L.length : Int) := by omega
                          by_cases hle : P1 ≤ c
                          · have e4 : ((P1 : Nat) : Int) ≤ (c : Int) := by omega
                            have hBt : B = true := by rw [HBB.out, ← hP1]; simp [hlt, hle]
                            subst hBt
                            clear hP1
                            go_wp2_with fail
                            go_meet
                            exact ⟨rfl, rfl⟩
                          · have e4 : (c : Int) < ((P1 : Nat) : Int) := by omega
                            have hBf : B = false := by rw [HBB.out, ← hP1]; simp [hle]
                            subst hBf
                            clear hP1
                            go_wp2_with fail
                            go_meet
                            exact ⟨rfl, rfl⟩
                        · have e1 : ((k : Int) + 1 == (L.length : Int)) = true := by simp; omega
                          have e2 : (k : Int) < (L.length : Int) := by omega
                          have e3 : ¬ (k : Int) + 1 < (L.length : Int) := by omega
                          have hP2 : P1 = C.length := by
                            rw [hP1]; unfold pos
                            rw [show k + 1 = L.length by omega, HM.out.2.2.2.2.2.2, ← HM.out.2.1]
                          by_cases hle : C.length ≤ c
                          · have e4 : ((C.length : Nat) : Int) ≤ (c : Int) := by omega
                            have hBt : B = true := by rw [HBB.out, ← hP1, hP2]; simp [hlt, hle]
                            subst hBt
                            clear hP1 hP2
                            go_wp2_with fail
                            go_meet
                            exact ⟨rfl, rfl⟩
                          · have e4 : (c : Int) < ((C.length : Nat) : Int) := by omega
                            have hBf : B = false := by rw [HBB.out, ← hP1, hP2]; simp [hle]
                            subst hBf
                            clear hP1 hP2
                            go_wp2_with fail
                            go_meet
                            exact ⟨rfl, rfl⟩
                      · have e2 : ¬ (k : Int) < (L.length : Int) := by omega
                        have hBf : B = false := by rw [HBB.out]; simp [hlt]
                        subst hBf
                        go_wp2_with fail
                        go_meet
                        exact ⟨rfl, rfl⟩
                    case rest =>
                      obtain ⟨rfl, hwv⟩ := hcut
                      obtain rfl : V = wc := hwv.symm
                      by_cases hgo : k < L.length ∧ pos s rs (k + 1) ≤ c
                      · obtain rfl : B = true := by rw [HBB.out]; simp [hgo]
                        have hk1 := hgo.1
                        have HGO := Lib.hid hgo
                        clear hgo
                        go_wp2_with fail
                        go_round
                        case rel => exact ⟨k + 1, by omega, by go_num, HGO.out.2⟩
                        case measure => simp [intOf]; omega
                      · obtain rfl : B = false := by rw [HBB.out]; simpa using hgo
                        have HXT := Lib.hid (And.intro HPK.out hgo)
                        clear hgo HPK HBB hwv
                        have hlcp : C.length ≤ cp ∧ cp ≤ 9223372036854775807 := by
                          have hib := isB_of_own HC.out.2.2.2.2.1 rfl
                          obtain ⟨h1, ⟨h2, h3, h4⟩ | ⟨x, h2, h3, h4, h5⟩⟩ := id hib
                          · omega
                          · exact ⟨h3, by unfold maxLen at h4; omega⟩
                        have k1 : (c : Int) ≤ (cp : Int) := by omega
                        have k2 : c ≤ cp := by omega
                        have hp23 : w.heap.size + 1 < w6.heap.size + 1 + 1 + 1 ∧ wa.heap.size < w6.heap.size + 1 + 1 + 1 ∧ w6.heap.size + 1 + 1 + 1 < W1.heap.size := by
                          have a1 := HSZ.out.1
                          have a2' := HSZ.out.2.2.2.1
                          have a3 := HSZ.out.2.2.2.2.1
                          have a4 := HSZ.out.2.2.2.2.2.1
                          have a5 := HSZ.out.2.2.2.2.2.2.1
                          have a6 := HSZ.out.2.2.2.2.2.2.2.1
                          omega
                        have hDW := HK.out.2.1
                        have hs1 : ∀ j, j ≠ w6.heap.size + 1 + 1 + 1 → (V.setCell ⟨w6.heap.size + 1 + 1 + 1, 0, none⟩ (.int .i64 0)).heap[j]? = V.heap[j]? := fun j hj => Below.heap_setCell V _ _ j (by simpa using hj)
                        have hg := grown_set V (w6.heap.size + 1 + 1 + 1) (.int .i64 0)
                        have b7 : Bx (V.setCell ⟨w6.heap.size + 1 + 1 + 1, 0, none⟩ (.int .i64 0)) w.heap.size 37 (.slice a L.length cap) := (hs1 _ (by omega)).trans HC.out.1
                        have b12 : Bx (V.setCell ⟨w6.heap.size + 1 + 1 + 1, 0, none⟩ (.int .i64 0)) (w.heap.size + 1) 4 (.bool false) := (hs1 _ (by omega)).trans HC.out.2.1
                        have b14 : Bx (V.setCell ⟨w6.heap.size + 1 + 1 + 1, 0, none⟩ (.int .i64 0)) wa.heap.size 39 (.slice sa L.length sc) := (hs1 _ (by omega)).trans HC.out.2.2.1
                        have b23 : Bx (V.setCell ⟨w6.heap.size + 1 + 1 + 1, 0, none⟩ (.int .i64 0)) (w6.heap.size + 1 + 1 + 1) 3 (.int .i64 0) := one_setCell HC.out.2.2.2.2.2.1
                        have bD : (V.setCell ⟨w6.heap.size + 1 + 1 + 1, 0, none⟩ (.int .i64 0)).heap[D]? = some (.deferred (some [])) := (hs1 _ (by omega)).trans HC.out.2.2.2.2.2.2.2.1
                        have bC := HC.out.2.2.2.2.1.kept hg (.inr (own_box HC.out.2.2.2.2.1 HC.out.2.2.2.2.2.1 (by decide)))
                        have bst := HC.out.2.2.2.1.kept hg (.inr (fun e => by have := (HR.out.2.1.lt _ e).2; have := HSZ.out.2.2.2.2.2.1; omega))
                        have bw : Below w.heap.size w (V.setCell ⟨w6.heap.size + 1 + 1 + 1, 0, none⟩ (.int .i64 0)) := HC.out.2.2.2.2.2.2.1.setCell (p := ⟨w6.heap.size + 1 + 1 + 1, 0, none⟩) (by show w.heap.size ≤ w6.heap.size + 1 + 1 + 1; omega) _
                        have bpX : w6.heap.size + 1 + 1 + 1 < (V.setCell ⟨w6.heap.size + 1 + 1 + 1, 0, none⟩ (.int .i64 0)).heap.size := lt_of_block b23
                        obtain ⟨V1, hV1⟩ : ∃ W, W = V.setCell ⟨w6.heap.size + 1 + 1 + 1, 0, none⟩ (.int .i64 0) := ⟨_, rfl⟩
                        rw [← hV1] at b7 b12 b14 b23 bD bC bst bw bpX
                        obtain ⟨T, hT⟩ : ∃ T, T = C.take c := ⟨_, rfl⟩
                        have hTl : T.length = c := by rw [hT, List.length_take]; omega
                        have hibT : IsB V1 ao c cp T := by rw [hT]; exact (isB_of_own bC rfl).take hcl
                        have HSC := Lib.hid (scan_any s ao c cp T V1 hibT (by omega))
                        have HV1 := Lib.hid hV1
                        have HB := Lib.hid (And.intro b7 (And.intro b12 (And.intro b14 (And.intro b23 (And.intro bD (And.intro bC (And.intro bst (And.intro bw bpX))))))))
                        have HT := Lib.hid (And.intro hT hTl)
                        have HP23 := Lib.hid (And.intro hp23 hDW)
                        have HLCP := Lib.hid hlcp
                        clear hV1 b7 b12 b14 b23 bD bC bst bw bpX hT hTl hibT hs1 hg hp23 hDW hlcp
                        go_wp2_with fail
                        rw [← HV1.out]
                        refine HSC.out.mono ?_
                        rintro e Y1 ⟨rfl, ae, ce, d1, d2, d3, d4, d5⟩
                        clear y7 y12 y12f y14 y21 y22 y23 y23f HSC
                        have HY := Lib.hid (And.intro d1 (And.intro d2 (And.intro d3 (And.intro d4 d5))))
                        clear d1 d2 d3 d4 d5
                        go_wp2_with fail
                        refine (wpIn_wide (n := 3)).1 ?_
                        refine range_all rfl (by omega) (gf := 24) (lb := #[.pointer (some ⟨V1.heap.size, 0, none⟩), .pointer (some ⟨V1.heap.size + 1, 0, none⟩)]) rfl trivial (enters_of Tryd.func24 (by kernel_rfl) rfl)
                          (scan1_iter (3 - 1) w.heap.size (w6.heap.size + 1 + 1 + 1 + 1) s ae T.length ce T V1.heap.size (V1.heap.size + 1) Y1 HI.out.2.2.2 ?hK) (fun _ => rfl)
                          (Rounds2 T s (w6.heap.size + 1 + 1 + 1) D Y1) (fun m X X' h hb => h.later hb (by have := HB.out.2.2.2.2.2.2.2.2; have := HY.out.2.2.2.2; omega) (by have := lt_of_obj HB.out.2.2.2.2.1; have := HY.out.2.2.2.2; omega)) ?h0 (fun m x X X' h hb => ⟨h.1, h.2.1, h.2.2.1, h.2.2.2.old hb⟩) (fun m x X X' l r h hl hb => ⟨h.1, h.2.1, h.2.2.1, but_isB hb hl h.2.2.2⟩) ?hround ?hdone
                        case hK =>
                          intro W hm
                          have hpp := HB.out.2.2.2.2.2.2.2.2
                          refine ⟨nibs_mid hm HI.out.2.2.1 (Nat.le_refl _) (HB.out.2.2.2.2.2.2.2.1.trans (HY.out.2.2.2.1.mono HB.out.2.2.2.2.2.2.2.1.size)), isB_of_own (own_mid hm HY.out.2.2.1 (by omega)) rfl, cell_mid hm HY.out.1 (.inr ?_), cell_mid hm HY.out.2.1 (.inr ?_)⟩
                          · show w6.heap.size + 1 + 1 + 1 + 1 ≤ V1.heap.size; omega
                          · show w6.heap.size + 1 + 1 + 1 + 1 ≤ V1.heap.size + 1; omega
                        case h0 => exact ⟨heap_old HY.out.2.2.2.1 HB.out.2.2.2.1, Below.refl _ _, fun i hi => absurd hi (Nat.not_lt_zero i), heap_old HY.out.2.2.2.1 HB.out.2.2.2.2.1⟩
                        case hround =>
                          rintro l2 m2 ⟨xat, xk, xd, xa, xco⟩ X2 hlB ⟨rr, hlr⟩ hI hG
                          dsimp only [enc2]
                          gi_wp2_with fail
                          refine ⟨Below.refl _ _, ?_⟩
                          intro A2 hbut hI2 hG2
                          have hlX := (Array.getElem?_eq_some_iff.1 hlr).1
                          have hsz := hbut.2.2.2.1
                          have y23 := hI2.1.cell
                          have y23f := hI2.1.free
                          have hm2 : m2 ≤ c := by
                            have h1 := stt_ge m2 hI2.2.2.1
                            have h2 := stt_le m2 hI2.2.2.1
                            have h3 := HT.out.2
                            omega
                          have j6 : (m2 : Int) ≤ 2220 := by omega
                          have hpp := HB.out.2.2.2.2.2.2.2.2
                          have hyy := HY.out.2.2.2.2
                          have HE := Lib.hid (And.intro hI2 (And.intro hG2.1 (And.intro hsz (And.intro hpp (And.intro hyy (And.intro hlX hlB))))))
                          clear hsz hpp hyy hlX hlB hI2 hG2 hG hI hlr hbut
                          gi_wp2_with fail
                          have a1 := HE.out.2.2.1
                          have a2' := HE.out.2.2.2.1
                          have a3 := HE.out.2.2.2.2.1
                          have a4 := HE.out.2.2.2.2.2.1
                          have a5 := HE.out.2.2.2.2.2.2
                          have a6 := HP23.out.1.1
                          exact rounds2_next HE.out.1 HE.out.2.1 (by omega) (by omega) (by omega) (by have := HP23.out.1.2.2; have := HP23.out.2; omega)
                        case hdone =>
                          intro D2 m2 X2 hD2 hS2 hI2 hK2
                          dsimp only
                          obtain ⟨i23, ib, iall, iD⟩ := hI2
                          have hck := cut_ok (s := s) (c := c) (m := k) (l := rs) (fun x hx => by have := HM.out.1 x hx; omega) (by have := HM.out.2.2.2.2.1; omega) (show (cat s (rs.take k)).length ≤ c from HXT.out.1) (fun hlt => by
                            have h1 : ¬ (pos s rs (k + 1) ≤ c) := fun h => HXT.out.2 ⟨by have := HM.out.2.2.2.2.1; omega, h⟩
                            unfold pos at h1; omega)
                          rw [← HM.out.2.1, ← HT.out.1] at hck
                          have hmk : m2 = k := by
                            rcases Nat.lt_trichotomy m2 k with h | h | h
                            · exact absurd (hck.1 m2 h) hS2
                            · exact h
                            · exact absurd (iall k h) hck.2
                          subst hmk
                          have hVX : Below (w6.heap.size + 1 + 1 + 1) V1 X2 := (HY.out.2.2.2.1.mono (by have := HB.out.2.2.2.2.2.2.2.2; omega)).trans ib
                          have x7 := HB.out.1.below hVX (by have := HP23.out.1.1; omega)
                          have x12 := HB.out.2.1.below hVX HP23.out.1.1
                          have x14 := HB.out.2.2.1.below hVX HP23.out.1.2.1
                          have xC := own_lt HB.out.2.2.2.2.2.1 hVX (fun g hg => by have := (HR.out.2.2.1.lt g hg).2; have := HSZ.out.2.2.2.2.2.1; omega)
                          have xst := own_lt HB.out.2.2.2.2.2.2.1 hVX (fun g hg => by have := (HR.out.2.1.lt g hg).2; have := HSZ.out.2.2.2.2.2.1; omega)
                          have xw : Below w.heap.size w X2 := HB.out.2.2.2.2.2.2.2.1.trans (hVX.mono (by have := HP23.out.1.1; omega))
                          have hDD : D2 ≠ D := by have := lt_of_obj HB.out.2.2.2.2.1; have := HY.out.2.2.2.2; omega
                          have hwD : w.heap.size ≤ D ∧ w.heap.size ≤ D2 := by
                            have := HP23.out.1; have := HP23.out.2; have := HB.out.2.2.2.2.2.2.2.2; have := HY.out.2.2.2.2; omega
                          have y12 := x12.cell
                          have y12f := x12.free
                          have y23 := i23.cell
                          have y7 := x7.cell
                          have HX2 := Lib.hid (And.intro x7 (And.intro x12 (And.intro x14 (And.intro xC (And.intro xst (And.intro xw (And.intro hDD (And.intro hwD (And.intro iD hK2)))))))))
                          clear i23 ib iall iD hck hS2 hVX x7 x12 x14 xC xst xw hDD hwD hK2 hD2
                          by_cases g3 : C.length = 0
                          · have g4 : ((C.length : Int) == 0) = true := by simpa using g3
                            clear g3
                            go_wp2_with fail
                            exact leave_true rfl rfl HX2.out.2.1 HX2.out.2.2.2.2.2.2.2.1.1 HX2.out.2.2.2.2.2.2.2.1.2 HX2.out.2.2.2.2.2.2.1 HX2.out.2.2.2.2.2.2.2.2.1 HX2.out.2.2.2.2.2.2.2.2.2 (Nat.le_succ _) HX2.out.2.2.2.2.2.1
                          · have g4 : ((C.length : Int) == 0) = false := by simpa using g3
                            by_cases g5 : by'.toNat = 0
                            · have g6 : ((by'.toNat : Int) == 0) = true := by simpa using g5
                              clear g3 g5
                              go_wp2_with fail
                              exact leave_true rfl rfl HX2.out.2.1 HX2.out.2.2.2.2.2.2.2.1.1 HX2.out.2.2.2.2.2.2.2.1.2 HX2.out.2.2.2.2.2.2.1 HX2.out.2.2.2.2.2.2.2.2.1 HX2.out.2.2.2.2.2.2.2.2.2 (Nat.le_succ _) HX2.out.2.2.2.2.2.1
                            · have g6 : ((by'.toNat : Int) == 0) = false := by simpa using g5
                              have htl : tt % C.length < C.length := Nat.mod_lt tt (by omega)
                              have htm : (tt : Int) % (C.length : Int) = ((tt % C.length : Nat) : Int) := by rw [Int.natCast_emod]
                              obtain ⟨t, ht⟩ : ∃ t, t = tt % C.length := ⟨_, rfl⟩
                              rw [← ht] at htl htm
                              have htt := HCA.out.2.2
                              have HG := Lib.hid (And.intro g3 g5)
                              clear g3 g5 ht
                              go_wp2_with fail
                              try rw [htm]
                              clear htm
                              go_loopw [245] (fun i wr => ∃ k' : Nat, k' ≤ L.length ∧ i = .int .i64 k' ∧ Below X2.heap.size X2 wr ∧ Out s rs t k') (fun i _ => L.length - (intOf i).toNat)
                              case atStart => exact ⟨0, Nat.zero_le _, rfl, Below.refl _ _, fun j _ hj => absurd hj (Nat.not_lt_zero j)⟩
                              case round =>
                                obtain ⟨k', hk', rfl, hbr, hout⟩ := hrel
                                by_cases hlt : k' < L.length
                                · have hbwr : Below w.heap.size w wr := HX2.out.2.2.2.2.2.1.trans (hbr.mono HX2.out.2.2.2.2.2.1.size)
                                  obtain ⟨x, hx⟩ : ∃ x, x = L[k'] := ⟨_, rfl⟩
                                  obtain ⟨b, o, rfl, hrec⟩ : ∃ b o, a = some ⟨b, o, none⟩ ∧ RecAt wr b o k' x := by
                                    rcases HI.out.1 with h0 | ⟨b, o, e, h⟩
                                    · rw [h0] at hlt; simp at hlt
                                    · exact ⟨b, o, e, by rw [hx]; exact (h k' hlt).old hbwr⟩
                                  obtain ⟨c0, c1, hib⟩ := hrec
                                  obtain ⟨sg, rfl⟩ : ∃ g, sa = some ⟨g, 0, none⟩ := by
                                    rcases HX2.out.2.2.2.2.1.2 with ⟨h, _⟩ | ⟨g, c', cur, h, _⟩
                                    · simp at h; omega
                                    · simp at h; exact ⟨g, h.1⟩
                                  obtain ⟨P0, hP0⟩ : ∃ x, x = pos s rs k' := ⟨_, rfl⟩
                                  have xst := own_below HX2.out.2.2.2.2.1 hbr (Nat.le_refl _)
                                  have yst : wr.cell? ⟨sg, k', none⟩ = some (.int .i64 (P0 : Nat)) := by
                                    rw [xst.cellAt k' (by omega)]
                                    unfold starts
                                    rw [List.getElem?_map, List.getElem?_range hlt, hP0]
                                    rfl
                                  have x14 : Bx wr wa.heap.size 39 (.slice (some ⟨sg, 0, none⟩) L.length sc) := heap_old hbr HX2.out.2.2.1
                                  have y14 := x14.cell
                                  have hz14 : wa.heap.size < wr.heap.size := lt_of_block x14
                                  have hzs : sg < wr.heap.size := World.block_lt_of_cell? wr _ yst
                                  have hPl : P0 ≤ 108 * k' := by rw [hP0]; exact pos_le HM.out.1 k'
                                  have hrk : ∀ (h : k' < rs.length), rs[k'].2 = x.2.2.2 := fun h => by
                                    have h2 : rs[k']? = some (rc L[k']) := by rw [HM.out.2.2.2.2.2.1]; simp [hlt]
                                    rw [List.getElem?_eq_getElem h] at h2
                                    rw [Option.some.inj h2, hx]; rfl
                                  obtain ⟨xk, xa, xc, xd⟩ := x
                                  simp only at c0 c1 hib
                                  dsimp only at hrk
                                  have hdl : xd.length ≤ 100 := by
                                    have hkr : k' < rs.length := by have := HM.out.2.2.2.2.1; omega
                                    have h := HM.out.1 rs[k'] (List.getElem_mem hkr)
                                    rw [hrk] at h; exact h
                                  have hul := uv_two (n := xd.length) (by omega)
                                  have HR3 := Lib.hid (And.intro hbr (And.intro hout (And.intro hib (And.intro hrk hP0))))
                                  have hPb : (P0 : Int) ≤ 2160 := by omega
                                  clear hbr hout hib hrk hP0 hx xst x14 hbwr hPl
                                  by_cases hq : t < P0 + 2
                                  · have e1 : (t : Int) < (P0 : Int) + 2 := by omega
                                    have e2 : decide ((t : Int) ≥ (P0 : Int) + 2) = false := by simpa using e1
                                    clear hul hdl
                                    go_wp2_with fail
                                    go_roundw
                                    case rel => exact ⟨k' + 1, by omega, by go_num, HR3.out.1.trans ((Below.refl _ _).alloc HR3.out.1.size _), HR3.out.2.1.next (fun h => .inl (by rw [← HR3.out.2.2.2.2]; exact hq))⟩
                                    case measure => simp [intOf]; omega
                                  · have e1 : (P0 : Int) + 2 ≤ (t : Int) := by omega
                                    have e2 : decide ((t : Int) ≥ (P0 : Int) + 2) = true := by simpa using e1
                                    have HNUM := Lib.hid (ref_num' xd.length (wr.alloc (.cells #[.int .u8 (xk.toNat : Nat), .slice xa xd.length xc] 25)) (by unfold U64; omega))
                                    have hbs := bytes_size (uvarint xd.length)
                                    obtain ⟨U, hU⟩ : ∃ u, u = (uvarint xd.length).length := ⟨_, rfl⟩
                                    rw [← hU] at hul hbs
                                    have HU := Lib.hid hU
                                    have hq' := hq
                                    have HQ2 := Lib.hid hq'
                                    have hdi : (xd.length : Int) ≤ 100 := by omega
                                    clear hU hq hq' hdl
                                    go_wp2_with fail
                                    ((with_reducible refine HNUM.out.mono ?_); rintro e W3 ⟨rfl, hb3⟩)
                                    have hZ : Below X2.heap.size X2 W3 := (HR3.out.1.trans ((Below.refl _ _).alloc HR3.out.1.size _)).trans (hb3.mono (by have := HR3.out.1.size; simp; omega))
                                    have x12 : Bx W3 (w.heap.size + 1) 4 (.bool false) := heap_old hZ HX2.out.2.1
                                    have y12 := x12.cell
                                    have y12f := x12.free
                                    have HX12 := Lib.hid x12
                                    clear x12
                                    have HZ := Lib.hid hZ
                                    clear hb3 HNUM hZ
                                    by_cases hq3 : t < P0 + 2 + U
                                    · have e3 : (t : Int) < (P0 : Int) + 2 + (U : Int) := by omega
                                      clear hq3
                                      go_wp2_with fail
                                      have hZ := HZ.out
                                      exact leave_true rfl rfl HX12.out HX2.out.2.2.2.2.2.2.2.1.1 HX2.out.2.2.2.2.2.2.2.1.2 HX2.out.2.2.2.2.2.2.1 (heap_old hZ HX2.out.2.2.2.2.2.2.2.2.1) (heap_old hZ HX2.out.2.2.2.2.2.2.2.2.2) (Nat.le_succ _) (HX2.out.2.2.2.2.2.1.trans (hZ.mono HX2.out.2.2.2.2.2.1.size))
                                    · have e3 : ¬ (t : Int) < (P0 : Int) + 2 + (U : Int) := by omega
                                      have HQ3 := Lib.hid hq3
                                      clear hq3
                                      go_wp2_with fail
                                      go_roundw
                                      case rel => exact ⟨k' + 1, by omega, by go_num, HZ.out, HR3.out.2.1.next (fun h => .inr (by rw [← HR3.out.2.2.2.2, HR3.out.2.2.2.1 h, ← HU.out]; have := HQ3.out; omega))⟩
                                      case measure => simp [intOf]; omega
                                · obtain rfl : k' = L.length := by omega
                                  have xC := own_below HX2.out.2.2.2.1 hbr (Nat.le_refl _)
                                  have hcb := (isB_of_own xC rfl).old ((Below.refl _ _).alloc (Nat.le_refl _) (.cells #[] 5))
                                  have own0 := own_none wr
                                  have hal0 : Below wr.heap.size wr (wr.alloc (.cells #[] 5)) := (Below.refl _ _).alloc (Nat.le_refl _) _
                                  have HR3 := Lib.hid (And.intro hbr hout)
                                  clear hbr hout xC hlt
                                  go_wp2_with (at_builtin; refine wpList_append_bytes rfl _ _ rfl wr.heap.size _ 0 [] rfl own0 ao C.length cp C rfl hcb ?c1 ?c2 ?_)
                                  case c1 => omega
                                  case c2 => simp
                                  · intro ao5 cp5 w5 hown5 hg5
                                    have hb5 : Below wr.heap.size wr w5 := hal0.grown hg5 (by simp) (fun j hj => (own0.lt j hj).1)
                                    obtain ⟨g5, rfl⟩ : ∃ g, ao5 = some g := by
                                      cases ao5 with
                                      | some g => exact ⟨g, rfl⟩
                                      | none =>
                                        rcases hown5.2 with ⟨_, h⟩ | ⟨g, c', cur, h, _⟩
                                        · omega
                                        · simp at h
                                    obtain ⟨qb, rfl, hqb, hblk, hcp5⟩ := Blk.own hown5 rfl
                                    have z0 := hblk.cellD htl
                                    have z0f := hblk.free t
                                    have hlc5 : C.length ≤ cp5 := by obtain ⟨cur, h1, h2, h3, h4⟩ := hblk; exact h3
                                    have htI : (t : Int) < (C.length : Int) := by omega
                                    have htI0 : (0 : Int) ≤ (t : Int) := by omega
                                    obtain ⟨cb, hcbe⟩ : ∃ c, c = C.getD t 0 := ⟨_, rfl⟩
                                    rw [← hcbe] at z0
                                    have hset := hblk.set t (cb ^^^ by') rfl
                                    have hbX : Below X2.heap.size X2 (w5.setCell ⟨qb, t, none⟩ (.int .u8 ((cb ^^^ by').toNat : Nat))) := (HR3.out.1.trans (hb5.mono HR3.out.1.size)).setCell (p := ⟨qb, t, none⟩) (Nat.le_trans HR3.out.1.size hqb) _
                                    have hxor := xor_u8 cb by'
                                    obtain ⟨ct, hct⟩ : ∃ c, c = cb ^^^ by' := ⟨_, rfl⟩
                                    rw [← hct] at hset hbX hxor
                                    have hnibs : Nibs (w5.setCell ⟨qb, t, none⟩ (.int .u8 (ct.toNat : Nat))) := HI.out.2.2.1.old (HX2.out.2.2.2.2.2.1.trans (hbX.mono HX2.out.2.2.2.2.2.1.size))
                                    have hibS := hset.isB hcp5
                                    rw [List.length_set] at hibS
                                    have hle : (good (C.set t ct) 0 s).1 ≤ t := by
                                      obtain ⟨i, hi, h1, h2⟩ := find_pos (s := s) (rs := rs) (t := t) rs.length (Nat.le_refl _) (by
                                        unfold pos; rw [List.take_of_length_le (Nat.le_refl _), ← HM.out.2.1]; exact htl)
                                      have h := good_turned (s := s) (c := ct) (fun x hx => by have := HM.out.1 x hx; omega) hi h1 h2 (by
                                        rw [← HM.out.2.1, ← hcbe, hct]
                                        intro e
                                        have e2 : cb ^^^ cb = cb ^^^ (cb ^^^ by') := congrArg (fun z => cb ^^^ z) e
                                        rw [← UInt8.xor_assoc, UInt8.xor_self, UInt8.zero_xor] at e2
                                        exact HG.out.2 (by rw [← e2]; rfl)) (HR3.out.2 i hi (by have := HM.out.2.2.2.2.1; omega))
                                      rwa [← HM.out.2.1] at h
                                    have HGT := Lib.hid (good_any s (some ⟨qb, 0, none⟩) C.length cp5 (C.set t ct) _ HI.out.2.2.2 hibS hnibs)
                                    have HBX := Lib.hid hbX
                                    obtain ⟨n1, hn1⟩ : ∃ n, n = (good (C.set t ct) 0 s).1 := ⟨_, rfl⟩
                                    obtain ⟨n2, hn2⟩ : ∃ n, n = (good (C.set t ct) 0 s).2 := ⟨_, rfl⟩
                                    rw [← hn1, ← hn2] at HGT
                                    rw [← hn1] at hle
                                    have hleI : (n1 : Int) ≤ (t : Int) := by omega
                                    clear hset hbX hb5 hqb hcp5 hblk hown5 hg5 own0 hcb hal0 hct hcbe hnibs hibS hn1 hn2 hle
                                    go_wp2_with fail
                                    ((with_reducible refine HGT.out.mono ?_); rintro e W7 ⟨rfl, hb7⟩)
                                    have hZ : Below X2.heap.size X2 W7 := HBX.out.trans (hb7.mono HBX.out.size)
                                    have x12 : Bx W7 (w.heap.size + 1) 4 (.bool false) := heap_old hZ HX2.out.2.1
                                    have y12 := x12.cell
                                    have y12f := x12.free
                                    have HX12 := Lib.hid x12
                                    have HZ := Lib.hid hZ
                                    clear x12 hZ hb7 HGT z0 z0f
                                    go_wp2_with fail
                                    have hZ := HZ.out
                                    exact leave_true rfl rfl HX12.out HX2.out.2.2.2.2.2.2.2.1.1 HX2.out.2.2.2.2.2.2.2.1.2 HX2.out.2.2.2.2.2.2.1 (heap_old hZ HX2.out.2.2.2.2.2.2.2.2.1) (heap_old hZ HX2.out.2.2.2.2.2.2.2.2.2) (Nat.le_succ _) (HX2.out.2.2.2.2.2.1.trans (hZ.mono HX2.out.2.2.2.2.2.1.size))
end Go.Proofs.YtadlfdjomcdpbaaDoor.Fm
