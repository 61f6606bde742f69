/- the reader's contracts -/
import Derived.Test.YtfbohbcokggmpaaWr
import Derived.Lib.VarintBits
import Derived.Laws.BitsAllLaws
namespace Go.Proofs.Ytfbohbcokggmpaa.Oc
open Go.RowKit Go.Lib

/-! ### a block of two cells -/
theorem two_setCell0 {w : World} {b : Nat} {v e u : Value} {t : TypeId} (h : w.heap[b]? = some (.cells #[v, e] t (0, 0))) : (w.setCell ⟨b, 0, none⟩ u).heap[b]? = some (.cells #[u, e] t (0, 0)) := by
  have hlt := lt_of_block h
  have h' : w.heap[b] = .cells #[v, e] t (0, 0) := by simpa [Array.getElem?_eq_getElem hlt] using h
  show (w.heap.modify b _)[b]? = _
  rw [Array.getElem?_eq_getElem (by simpa using hlt), Array.getElem_modify_self, h']
  rfl
theorem two_setCell1 {w : World} {b : Nat} {v e u : Value} {t : TypeId} (h : w.heap[b]? = some (.cells #[v, e] t (0, 0))) : (w.setCell ⟨b, 1, none⟩ u).heap[b]? = some (.cells #[v, u] t (0, 0)) := by
  have hlt := lt_of_block h
  have h' : w.heap[b] = .cells #[v, e] t (0, 0) := by simpa [Array.getElem?_eq_getElem hlt] using h
  show (w.heap.modify b _)[b]? = _
  rw [Array.getElem?_eq_getElem (by simpa using hlt), Array.getElem_modify_self, h']
  rfl
theorem two_cell0 {w : World} {b : Nat} {v e : Value} {t : TypeId} (h : w.heap[b]? = some (.cells #[v, e] t (0, 0))) : w.cell? ⟨b, 0, none⟩ = some v ∧ w.frozen? ⟨b, 0, none⟩ = false := by simp [World.cell?, World.frozen?, h]
theorem two_cell1 {w : World} {b : Nat} {v e : Value} {t : TypeId} (h : w.heap[b]? = some (.cells #[v, e] t (0, 0))) : w.cell? ⟨b, 1, none⟩ = some e ∧ w.frozen? ⟨b, 1, none⟩ = false := by simp [World.cell?, World.frozen?, h]

/-- but for block rb nothing has turned -/
structure At (rb : Nat) (w w' : World) : Prop where
  os : w'.os = w.os
  tape : w'.tape = w.tape
  output : w'.output = w.output
  size : w'.heap.size = w.heap.size
  block : ∀ k, k ≠ rb → w'.heap[k]? = w.heap[k]?
theorem At.refl (rb : Nat) (w : World) : At rb w w := ⟨rfl, rfl, rfl, rfl, fun _ _ => rfl⟩
theorem At.trans {rb : Nat} {a b c : World} (h : At rb a b) (k : At rb b c) : At rb a c :=
  ⟨k.os.trans h.os, k.tape.trans h.tape, k.output.trans h.output, k.size.trans h.size, fun i hn => (k.block i hn).trans (h.block i hn)⟩
theorem At.setCell {rb : Nat} {a b : World} (h : At rb a b) (i : Nat) (u : Value) : At rb a (b.setCell ⟨rb, i, none⟩ u) :=
  h.trans ⟨rfl, rfl, rfl, by simp [World.setCell], fun k hk => Below.heap_setCell _ _ _ _ hk⟩
theorem At.below {rb N : Nat} {a b : World} (h : At rb a b) (hN : N ≤ rb) : Below N a b :=
  ⟨h.os, h.tape, h.output, Nat.le_of_eq h.size.symm, fun k hk => h.block k (by omega)⟩
theorem At.cell {rb : Nat} {a b : World} (h : At rb a b) {p : Addr} (hp : p.block ≠ rb) : b.cell? p = a.cell? p := World.cell?_of_block (w := a) (h.block p.block hp)

/-- the bytes that are left: nil, or cells in another block than rb -/
def Lf (w : World) (rb : Nat) (a : Option Addr) (cap : Nat) (l : List UInt8) : Prop :=
  (a = none ∧ l = [] ∧ cap = 0) ∨ ∃ g o, a = some ⟨g, o, none⟩ ∧ l.length ≤ cap ∧ cap ≤ maxLen ∧ g ≠ rb ∧ ∀ j u, (byteCells l)[j]? = some u → w.cell? ⟨g, o + j, none⟩ = some u

/-- a reader at block rb: what is left, its error -/
def Rd (w : World) (rb : Nat) (l : List UInt8) (e : Int) : Prop :=
  ∃ a cap, w.heap[rb]? = some (.cells #[.slice a l.length cap, .int .i64 e] 54 (0, 0)) ∧ Lf w rb a cap l

theorem Lf.at {w w' : World} {rb : Nat} {a : Option Addr} {cap : Nat} {l : List UInt8} (h : Lf w rb a cap l) (hA : At rb w w') : Lf w' rb a cap l := by
  rcases h with h | ⟨g, o, rfl, h1, h2, h3, h4⟩
  · exact .inl h
  · exact .inr ⟨g, o, rfl, h1, h2, h3, fun j u hu => (hA.cell h3).trans (h4 j u hu)⟩
theorem Rd.below {w w' : World} {rb : Nat} {l : List UInt8} {e : Int} (h : Rd w rb l e) (hb : Below w.heap.size w w') : Rd w' rb l e := by
  obtain ⟨a, cap, h1, h2⟩ := h
  refine ⟨a, cap, (hb.block rb (lt_of_block h1)).trans h1, ?_⟩
  rcases h2 with h | ⟨g, o, rfl, h3, h4, h5, h6⟩
  · exact .inl h
  · exact .inr ⟨g, o, rfl, h3, h4, h5, fun j u hu => (hb.cell (World.block_lt_of_cell? w _ (h6 j u hu))).trans (h6 j u hu)⟩
theorem Rd.len {w : World} {rb : Nat} {l : List UInt8} {e : Int} (h : Rd w rb l e) : l.length ≤ maxLen := by
  obtain ⟨a, cap, h1, ⟨_, rfl, _⟩ | ⟨g, o, rfl, h3, h4, h5, h6⟩⟩ := h
  · simp
  · omega

theorem err_any (rb : Nat) (l : List UInt8) (er : Int) (w : World) (h : Rd w rb l er) :
    Calls Try.prog 20 #[.pointer (some ⟨rb, 0, none⟩)] w fun e w' => e = .returned (.int .i64 er) ∧ w = w' := by
  obtain ⟨a, cap, hp, _⟩ := h
  have hc := (two_cell1 hp).1
  go_enter Try.func20, Try.ntmps20
  go_wp2
  go_ret
  exact ⟨rfl, rfl⟩

theorem left_any (rb : Nat) (l : List UInt8) (er : Int) (w : World) (h : Rd w rb l er) :
    Calls Try.prog 22 #[.pointer (some ⟨rb, 0, none⟩)] w fun e w' => e = .returned (.int .i64 l.length) ∧ w = w' := by
  obtain ⟨a, cap, hp, _⟩ := h
  have hc := (two_cell0 hp).1
  go_enter Try.func22, Try.ntmps22
  go_wp2
  go_ret
  exact ⟨rfl, rfl⟩

/-- what End answers -/
def endE (l : List UInt8) (er : Int) : Int := if er ≠ 0 then er else if l = [] then 0 else 15
theorem end_any (rb : Nat) (l : List UInt8) (er : Int) (w : World) (h : Rd w rb l er) :
    Calls Try.prog 21 #[.pointer (some ⟨rb, 0, none⟩)] w fun e w' => e = .returned (.int .i64 (endE l er)) ∧ w = w' := by
  obtain ⟨a, cap, hp, _⟩ := id h
  have hc := (two_cell0 hp).1
  by_cases he : er = 0
  · subst he
    by_cases hl : l = []
    · subst hl
      have hv : endE [] 0 = 0 := rfl
      rw [hv]
      simp only [List.length_nil] at hc
      go_enter Try.func21, Try.ntmps21
      go_wp2_with (go_at_call 20; refine (err_any rb [] 0 _ h).mono ?_; rintro e w' ⟨rfl, rfl⟩)
      go_ret
      exact ⟨rfl, rfl⟩
    · have hv : endE l 0 = 15 := by simp [endE, hl]
      rw [hv]
      have hpos : 0 < l.length := List.length_pos_iff.2 hl
      go_enter Try.func21, Try.ntmps21
      go_wp2_with (go_at_call 20; refine (err_any rb l 0 _ h).mono ?_; rintro e w' ⟨rfl, rfl⟩)
      go_ret
      exact ⟨rfl, rfl⟩
  · have hv : endE l er = er := by simp [endE, he]
    rw [hv]
    have hne : (er != 0) = true := by simpa using he
    go_enter Try.func21, Try.ntmps21
    go_wp2_with (go_at_call 20; refine (err_any rb l er _ h).mono ?_; rintro e w' ⟨rfl, rfl⟩)
    go_ret
    exact ⟨rfl, rfl⟩

theorem fail_any (rb : Nat) (l : List UInt8) (er new : Int) (w : World) (h : Rd w rb l er) :
    Calls Try.prog 26 #[.pointer (some ⟨rb, 0, none⟩), .int .i64 new] w fun e w' => e = .returned (.tuple #[]) ∧ Rd w' rb [] (if er = 0 then new else er) ∧ At rb w w' := by
  obtain ⟨a, cap, hp, _⟩ := h
  have hc := two_cell1 hp
  have hc0 := two_cell0 hp
  by_cases he : er = 0
  · subst he
    rw [if_pos rfl]
    have hR : Rd ((w.setCell ⟨rb, 1, none⟩ (.int .i64 new)).setCell ⟨rb, 0, none⟩ (.slice none 0 0)) rb [] new :=
      ⟨none, 0, two_setCell0 (two_setCell1 hp), .inl ⟨rfl, rfl, rfl⟩⟩
    have hA : At rb w ((w.setCell ⟨rb, 1, none⟩ (.int .i64 new)).setCell ⟨rb, 0, none⟩ (.slice none 0 0)) := ((At.refl _ _).setCell _ _).setCell _ _
    have hc2 := two_cell0 (two_setCell1 (u := .int .i64 new) hp)
    have HH := Lib.hid (And.intro hR hA)
    clear hR hA hp
    go_enter Try.func26, Try.ntmps26
    go_wp2
    go_end0
    exact ⟨rfl, HH.out⟩
  · rw [if_neg he]
    have hR : Rd (w.setCell ⟨rb, 0, none⟩ (.slice none 0 0)) rb [] er := ⟨none, 0, two_setCell0 hp, .inl ⟨rfl, rfl, rfl⟩⟩
    have hA : At rb w (w.setCell ⟨rb, 0, none⟩ (.slice none 0 0)) := (At.refl _ _).setCell _ _
    have hne : (er == 0) = false := by simpa using he
    have HH := Lib.hid (And.intro hR hA)
    clear hR hA hp
    go_enter Try.func26, Try.ntmps26
    go_wp2
    go_end0
    exact ⟨rfl, HH.out⟩
end Go.Proofs.Ytfbohbcokggmpaa.Oc
