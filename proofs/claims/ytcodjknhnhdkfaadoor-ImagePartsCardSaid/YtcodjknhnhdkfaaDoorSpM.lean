
/- specs: as they lie, and their bytes (mathematics) -/
import Derived.Test.YtcodjknhnhdkfaaDoorRf
namespace Go.Proofs.YtcodjknhnhdkfaaDoor.Sp
open Go.RowKit Go.Lib Rf
set_option linter.unusedVariables false
/-- a spec as it came -/
structure Spc where
  nm : ByteArray
  tn : ByteArray
  pr : Int
  dl : Int
  a : Option Addr
  n : Nat
  c : Nat
  ds : List ByteArray
  bs : Int
  cp : Int
  at' : Int
  ls : Int
  cr : ByteArray
  ct : Int
def W64 (x : Int) : Prop := (Lit.int .i64 x).wf = true
def Spc.cells (x : Spc) : Array Value := #[.string x.nm, .string x.tn, .int .i64 x.pr, .int .i64 x.dl, .slice x.a x.n x.c, .int .i64 x.bs, .int .i64 x.cp, .int .i64 x.at', .int .i64 x.ls, .string x.cr, .int .i64 x.ct]
def Spc.wf (x : Spc) : Prop := W64 x.pr ∧ W64 x.dl ∧ W64 x.bs ∧ W64 x.cp ∧ W64 x.at' ∧ W64 x.ls ∧ W64 x.ct
/-- a row of texts that may be read -/
def Dp (w : World) (a : Option Addr) (n : Nat) (ds : List ByteArray) : Prop :=
  ds.length = n ∧ (a = none → n = 0) ∧ (n = 0 ∨ ∃ b o, a = some ⟨b, o, none⟩ ∧ ∀ i (h : i < ds.length), w.cell? ⟨b, o + i, none⟩ = some (.string ds[i]))
theorem Dp.old {w w' : World} {a : Option Addr} {n : Nat} {ds : List ByteArray} (h : Dp w a n ds) (hb : Below w.heap.size w w') : Dp w' a n ds := by
  refine ⟨h.1, h.2.1, ?_⟩
  rcases h.2.2 with h0 | ⟨b, o, h1, h2⟩
  · exact .inl h0
  · exact .inr ⟨b, o, h1, fun i hi => (hb.cell (World.block_lt_of_cell? w _ (h2 i hi))).trans (h2 i hi)⟩
theorem Dp.below {w w' : World} {a : Option Addr} {n N : Nat} {ds : List ByteArray} (h : Dp w a n ds) (hb : Below N w w') (ha : ∀ x, a = some x → x.block < N) : Dp w' a n ds := by
  refine ⟨h.1, h.2.1, ?_⟩
  rcases h.2.2 with h0 | ⟨b, o, h1, h2⟩
  · exact .inl h0
  · exact .inr ⟨b, o, h1, fun i hi => (hb.cell (p := ⟨b, o + i, none⟩) (show b < N from ha ⟨b, o, none⟩ h1)).trans (h2 i hi)⟩
/-- a little one -/
def Spc.few (x : Spc) : Prop := (∀ d ∈ x.ds, d.size ≤ 60) ∧ x.nm.size ≤ 60 ∧ x.tn.size ≤ 60 ∧ x.n ≤ 20 ∧ x.cr.size ≤ 200
/-! ### bytes -/
def zz (x : Int) : List UInt8 := uvarint (zigzag x)
def rowB (ds : List ByteArray) : List UInt8 := ds.flatMap textB
def headB (x : Spc) : List UInt8 := textB x.nm ++ textB x.tn ++ zz x.pr ++ zz x.dl ++ uvarint x.n
def tailB (x : Spc) : List UInt8 := zz x.bs ++ (zz x.cp ++ (zz x.at' ++ (zz x.ls ++ (textB x.cr ++ zz x.ct))))
def specB (x : Spc) : List UInt8 := headB x ++ rowB x.ds ++ tailB x
theorem uv_inj : ∀ (k m n : Nat) (s t : List UInt8), m ≤ k → uvarint m ++ s = uvarint n ++ t → m = n ∧ s = t
  | k, m, n, s, t, hk, h => by
    by_cases hm : m < 128
    · rw [uvarint_small hm, List.singleton_append] at h
      by_cases hn : n < 128
      · rw [uvarint_small hn, List.singleton_append] at h
        obtain ⟨h1, h2⟩ := List.cons.inj h
        have := congrArg UInt8.toNat h1
        rw [toUInt8_toNat (by omega), toUInt8_toNat (by omega)] at this
        exact ⟨this, h2⟩
      · rw [uvarint_big (by omega), List.cons_append] at h
        have := congrArg UInt8.toNat (List.cons.inj h).1
        rw [toUInt8_toNat (by omega), toUInt8_toNat (by omega)] at this
        omega
    · rw [uvarint_big (x := m) (by omega), List.cons_append] at h
      by_cases hn : n < 128
      · rw [uvarint_small hn, List.singleton_append] at h
        have := congrArg UInt8.toNat (List.cons.inj h).1
        rw [toUInt8_toNat (by omega), toUInt8_toNat (by omega)] at this
        omega
      · rw [uvarint_big (x := n) (by omega), List.cons_append] at h
        obtain ⟨h1, h2⟩ := List.cons.inj h
        have := congrArg UInt8.toNat h1
        rw [toUInt8_toNat (by omega), toUInt8_toNat (by omega)] at this
        match k, hk with
        | 0, hk => omega
        | k + 1, hk =>
          have := uv_inj k (m / 128) (n / 128) s t (by omega) h2
          exact ⟨by omega, this.2⟩
theorem zig_inj {x y : Int} (h : zigzag x = zigzag y) : x = y := by
  unfold zigzag at h
  split at h <;> split at h <;> omega
theorem zz_inj {x y : Int} {s t : List UInt8} (h : zz x ++ s = zz y ++ t) : x = y ∧ s = t := by
  obtain ⟨h1, h2⟩ := uv_inj _ _ _ _ _ (Nat.le_refl _) h
  exact ⟨zig_inj h1, h2⟩
theorem tx_inj {x y : ByteArray} {s t : List UInt8} (h : textB x ++ s = textB y ++ t) : x = y ∧ s = t := by
  unfold textB at h
  rw [List.append_assoc, List.append_assoc] at h
  obtain ⟨h1, h2⟩ := uv_inj _ _ _ _ _ (Nat.le_refl _) h
  have e1 : x.data.toList.length = y.data.toList.length := by rw [Array.length_toList, Array.length_toList]; exact h1
  obtain ⟨h3, h4⟩ := List.append_inj h2 e1
  exact ⟨ByteArray.ext (Array.toList_inj.1 h3), h4⟩
theorem row_inj : ∀ {l m : List ByteArray} {s t : List UInt8}, l.length = m.length → rowB l ++ s = rowB m ++ t → l = m ∧ s = t
  | [], [], _, _, _, h => ⟨rfl, h⟩
  | x :: l, y :: m, s, t, hl, h => by
    simp only [rowB, List.flatMap_cons, List.append_assoc] at h
    obtain ⟨rfl, h2⟩ := tx_inj h
    obtain ⟨h3, h4⟩ := row_inj (l := l) (m := m) (by simpa using hl) h2
    exact ⟨by rw [h3], h4⟩
/-- are all fields the same? -/
def Spc.eqv (x y : Spc) : Prop := x.nm = y.nm ∧ x.tn = y.tn ∧ x.pr = y.pr ∧ x.dl = y.dl ∧ x.ds = y.ds ∧ x.bs = y.bs ∧ x.cp = y.cp ∧ x.at' = y.at' ∧ x.ls = y.ls ∧ x.cr = y.cr ∧ x.ct = y.ct
theorem eqv_iff {x y : Spc} (hx : x.ds.length = x.n) (hy : y.ds.length = y.n) : x.eqv y ↔ specB x = specB y := by
  constructor
  · rintro ⟨h1, h2, h3, h4, h5, h6, h7, h8, h9, h10, h11⟩
    have hn : x.n = y.n := by rw [← hx, ← hy, h5]
    unfold specB headB tailB
    rw [h1, h2, h3, h4, h5, h6, h7, h8, h9, h10, h11, hn]
  · intro h
    unfold specB headB tailB at h
    simp only [List.append_assoc] at h
    obtain ⟨h1, h⟩ := tx_inj h
    obtain ⟨h2, h⟩ := tx_inj h
    obtain ⟨h3, h⟩ := zz_inj h
    obtain ⟨h4, h⟩ := zz_inj h
    obtain ⟨hn, h⟩ := uv_inj _ _ _ _ _ (Nat.le_refl _) h
    obtain ⟨h5, h⟩ := row_inj (by rw [hx, hy, hn]) h
    obtain ⟨h6, h⟩ := zz_inj h
    obtain ⟨h7, h⟩ := zz_inj h
    obtain ⟨h8, h⟩ := zz_inj h
    obtain ⟨h9, h⟩ := zz_inj h
    obtain ⟨h10, h⟩ := tx_inj h
    have h11 := zz_inj (x := x.ct) (y := y.ct) (s := []) (t := []) (by rw [List.append_nil, List.append_nil]; exact h)
    exact ⟨h1, h2, h3, h4, h5, h6, h7, h8, h9, h10, h11.1⟩
theorem text_len {s : ByteArray} (h : s.size ≤ 200) : (textB s).length ≤ 210 := by
  unfold textB
  have := uvarint_length64 (show U64 s.size by unfold U64; omega)
  have e : s.data.toList.length = s.size := Array.length_toList
  rw [List.length_append, e]
  omega
theorem zz_len {x : Int} (h : W64 x) : (zz x).length ≤ 10 := uvarint_length64 (zig_u64 h)
theorem row_len : ∀ {l : List ByteArray}, (∀ d ∈ l, d.size ≤ 60) → (rowB l).length ≤ 210 * l.length
  | [], _ => by simp [rowB]
  | x :: l, h => by
    have h1 := text_len (s := x) (by have := h x (by simp); omega)
    have h2 := row_len (l := l) (fun d hd => h d (by simp [hd]))
    simp only [rowB, List.flatMap_cons, List.length_append, List.length_cons] at *
    omega
theorem row_succ {l : List ByteArray} {k : Nat} (h : k < l.length) : rowB (l.take (k + 1)) = rowB (l.take k) ++ textB l[k] := by
  unfold rowB; rw [List.take_succ_eq_append_getElem h, List.flatMap_append]; simp
end Go.Proofs.YtcodjknhnhdkfaaDoor.Sp
