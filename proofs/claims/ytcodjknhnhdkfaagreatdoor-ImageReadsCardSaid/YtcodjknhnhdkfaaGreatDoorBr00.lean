/- bytes that lie somewhere -/
import Derived.Test.YtcodjknhnhdkfaaGreatDoorRows
import Derived.WalkKit
import Derived.ProofKit
import Derived.OneCell
import Derived.WalkSpells
import Derived.IntWalk
import Derived.Below
import Derived.Lib.Hide
import Derived.Lib.BufferRead
import Derived.Laws.IdiomStrings
import Derived.Laws.AppendOwnNone
import Derived.Lib.Varint
import Derived.Lib.VarintMem
import Derived.Lib.Zigzag
import Derived.Lib.AppendStr
import Derived.Deep.RegionHeld3
import Derived.Deep.RegionWith
namespace Go.Proofs.YtcodjknhnhdkfaaGreatDoor.By
open Go.RowKit Go.Lib

theorem info5 : (Tryz.prog.info? 5).map (fun i => (i.zero, i.size, i.bytes)) = some (some (.int .u8 0), 1, 1) := by kernel_rfl

theorem own_shape {w : World} {B : Nat} {e : TypeId} {k : Nat} {v : Value} {n : Nat} {xs : List Value} (h : w.ownsRow B e k v n xs) : ∃ ao cp, v = .slice ao n cp := by
  rcases h.2 with ⟨rfl, rfl⟩ | ⟨g, cap, cur, rfl, _⟩
  · exact ⟨_, _, rfl⟩
  · exact ⟨_, _, rfl⟩

/-- the slice (a, len, cap) reads as the bytes l: it is nil, or its cells hold them -/
def IsB (w : World) (a : Option Addr) (len cap : Nat) (l : List UInt8) : Prop :=
  l.length = len ∧ ((a = none ∧ len = 0 ∧ cap = 0) ∨ ∃ x, a = some x ∧ len ≤ cap ∧ cap ≤ maxLen ∧ ∀ j u, (byteCells l)[j]? = some u → w.cell? (x.add j) = some u)

theorem bytes_one (l : List UInt8) : ∀ v ∈ byteCells l, v.oneCell' = true := by
  intro v hv
  simp [byteCells] at hv
  obtain ⟨b, _, rfl⟩ := hv
  rfl
theorem isB_own {w : World} {B : Nat} {v : Value} {l : List UInt8} (h : w.ownsRow B 5 1 v l.length (byteCells l)) : ∃ a cap, v = .slice a l.length cap ∧ IsB w a l.length cap l := by
  obtain ⟨a, cap, rfl⟩ := own_shape h
  refine ⟨a, cap, rfl, rfl, ?_⟩
  cases a with
  | none =>
    left
    rcases h.2 with ⟨h1, h2⟩ | ⟨g, c, cur, h1, _⟩
    · simp at h1; exact ⟨rfl, h2, h1.2⟩
    · simp at h1
  | some x =>
    right
    rcases h.2 with ⟨h1, h2⟩ | ⟨g, c, cur, h1, h2, h3, h4, h5, h6, h7⟩
    · simp at h1
    · have h1' := h1
      simp only [Value.slice.injEq, Option.some.injEq, true_and] at h1'
      obtain ⟨rfl, rfl⟩ := h1'
      exact ⟨_, rfl, h4, h5, h.cells rfl⟩
theorem IsB.below {w w' : World} {N : Nat} {a : Option Addr} {len cap : Nat} {l : List UInt8} (h : IsB w a len cap l) (hb : Below N w w') (ha : ∀ x, a = some x → x.block < N) : IsB w' a len cap l := by
  obtain ⟨h1, h2 | ⟨x, rfl, h3, h4, h5⟩⟩ := h
  · exact ⟨h1, .inl h2⟩
  · exact ⟨h1, .inr ⟨x, rfl, h3, h4, fun j u hu => (hb.cell (by have := ha x rfl; unfold Addr.add; split <;> exact this)).trans (h5 j u hu)⟩⟩
theorem IsB.old {w w' : World} {a : Option Addr} {len cap : Nat} {l : List UInt8} (h : IsB w a len cap l) (hb : Below w.heap.size w w') : IsB w' a len cap l := by
  obtain ⟨h1, h2 | ⟨x, rfl, h3, h4, h5⟩⟩ := h
  · exact ⟨h1, .inl h2⟩
  · exact ⟨h1, .inr ⟨x, rfl, h3, h4, fun j u hu => (hb.cell (World.block_lt_of_cell? w _ (h5 j u hu))).trans (h5 j u hu)⟩⟩
/-- a slice's bound -/
theorem IsB.le {w : World} {a : Option Addr} {len cap : Nat} {l : List UInt8} (h : IsB w a len cap l) : l.length ≤ maxLen := by
  obtain ⟨h1, ⟨_, h2, _⟩ | ⟨x, _, h3, h4, _⟩⟩ := h
  · rw [h1, h2]; exact Nat.zero_le _
  · omega
/-- the byte at a place -/
theorem IsB.at {w : World} {a : Option Addr} {len cap : Nat} {l : List UInt8} (h : IsB w a len cap l) {k : Nat} (hk : k < l.length) : ∃ x, a = some x ∧ w.cell? (x.add k) = some (.int .u8 (l[k].toNat : Nat)) := by
  obtain ⟨h1, ⟨_, h2, _⟩ | ⟨x, h2, h3, h4, h5⟩⟩ := h
  · omega
  · exact ⟨x, h2, h5 k _ (by simp [byteCells, hk])⟩
/-- a beginning of it -/
theorem IsB.take {w : World} {a : Option Addr} {len cap : Nat} {l : List UInt8} (h : IsB w a len cap l) {n : Nat} (hn : n ≤ l.length) : IsB w a n cap (l.take n) := by
  obtain ⟨h1, ⟨h2, h3, h4⟩ | ⟨x, h2, h3, h4, h5⟩⟩ := h
  · refine ⟨by simp; omega, .inl ⟨h2, by omega, h4⟩⟩
  · refine ⟨by simp; omega, .inr ⟨x, h2, by omega, h4, fun j u hu => h5 j u ?_⟩⟩
    simp only [byteCells, List.map_take, List.getElem?_take] at hu
    split at hu
    · exact hu
    · cases hu

/-- 'append(own, more...)': what is appended is nil, or lies somewhere -/
theorem wpList_append_bytes {w : World} {ops : Array Oper} {rest : List Oper} {o : Oper} {a : Act} {Q : Exit → Act → World → Prop} (hgd : o.guard = none) (s x : Operand)
    (ho : o.op = .call { callee := .builtin .append, args := #[s, x], argTypes := #[22, 22] })
    (base : Nat) (v : Value) (n : Nat) (bs : List UInt8) (hs : a.eval s = v) (hown : w.ownsRow base 5 1 v n (byteCells bs))
    (ad : Option Addr) (len cap : Nat) (l : List UInt8) (hx : a.eval x = .slice ad len cap) (hl : IsB w ad len cap l) (hb : n + len ≤ 1000000000000) (hbase : base ≤ w.heap.size)
    (h : ∀ ao cp w', w'.ownsRow base 5 1 (.slice ao (n + len) cp) (n + len) (byteCells (bs ++ l)) → w.grownBy w' v.ownBlock → wpList Tryz.prog ops Q rest (a.put o.dst (.slice ao (n + len) cp)) w') : wpList Tryz.prog ops Q (o :: rest) a w := by
  obtain ⟨i0, hi, hz0, hz1, hz2⟩ := info_parts info5
  obtain ⟨hll, ⟨rfl, rfl, rfl⟩ | ⟨y, rfl, hlc, hcm, hcs⟩⟩ := hl
  · obtain rfl : l = [] := List.length_eq_zero_iff.1 hll
    obtain ⟨ao, cp, rfl⟩ := own_shape hown
    refine wpList_append_own_none hgd s x 22 ho base 5 i0 1 Tryz.underlying22 hi _ n _ hs hown hx ?_
    exact h ao cp w (by simpa using hown) ⟨rfl, rfl, rfl, Nat.le_refl _, fun _ _ _ => rfl⟩
  · refine wpList_append_own w hgd s x 22 ho base 5 i0 (.int .u8 0) 1 1 Tryz.underlying22 hi hz0 hz1 hz2 rfl (by decide) v n _ hs hown y len cap (byteCells l) hx (by simp [byteCells, hll]) hcs (bytes_one l) (by unfold maxLen; omega) (by omega) hbase ?_
    intro v' w' hown' hg _
    rw [← byteCells_append] at hown'
    obtain ⟨ao, cp, rfl⟩ := own_shape hown'
    exact h ao cp w' hown' hg

/-- a row of numbers that fit a byte, as bytes -/
theorem isB_row {w : World} {a : Option Addr} {len cap : Nat} {zs : List Int}
    (h : (a = none ∧ len = 0 ∧ cap = 0 ∧ zs = []) ∨ ∃ x, a = some x ∧ len ≤ cap ∧ cap ≤ maxLen ∧ zs.length = cap ∧ (∀ i, i < zs.length → w.cell? (x.add i) = some (.int .u8 (zs.getD i 0))) ∧ ∀ n ∈ zs, (Lit.int .u8 n).wf = true) :
    ∃ l, IsB w a len cap l := by
  rcases h with ⟨rfl, rfl, rfl, rfl⟩ | ⟨x, rfl, h1, h2, h3, h4, h5⟩
  · exact ⟨[], rfl, .inl ⟨rfl, rfl, rfl⟩⟩
  · refine ⟨(zs.take len).map fun n => UInt8.ofNat n.toNat, by simp; omega, .inr ⟨x, rfl, h1, h2, fun j u hu => ?_⟩⟩
    simp only [byteCells, List.map_map, List.getElem?_map, List.getElem?_take] at hu
    split at hu
    · have hj : j < zs.length := by omega
      rw [List.getElem?_eq_getElem hj] at hu
      simp only [Option.map_some, Option.some.injEq, Function.comp] at hu
      have hw : 0 ≤ zs[j] ∧ zs[j] ≤ 255 := by simpa [Lit.wf, IntKind.min, IntKind.max, IntKind.signed, IntKind.bits] using h5 _ (List.getElem_mem hj)
      have e : ((UInt8.ofNat zs[j].toNat).toNat : Int) = zs[j] := by
        rw [UInt8.toNat_ofNat']
        have : zs[j].toNat % 2 ^ 8 = zs[j].toNat := Nat.mod_eq_of_lt (by omega)
        rw [this]; omega
      rw [h4 j hj, ← hu, e]
      simp [List.getD, hj]
    · cases hu
end Go.Proofs.YtcodjknhnhdkfaaGreatDoor.By
namespace Go.Proofs.YtcodjknhnhdkfaaGreatDoor.Rf
open Go.RowKit Go.Lib Go.Proofs.YtcodjknhnhdkfaaGreatDoor.By
def U64 (n : Nat) : Prop := n < 18446744073709551616
theorem U64.div {n : Nat} (h : U64 n) (k : Nat) : U64 (n / k) := by unfold U64 at *; exact Nat.lt_of_le_of_lt (Nat.div_le_self _ _) h
/-- 'string(b)' -/
theorem str_of {w : World} {a : Option Addr} {len cap : Nat} {l : List UInt8} (h : IsB w a len cap l) : (convert 22 9 (.slice a len cap)).run Tryz.prog w = .ok (.string ⟨l.toArray⟩) w := by
  obtain ⟨rfl, ⟨rfl, h0, rfl⟩ | ⟨x, rfl, _, _, hcs⟩⟩ := h
  · obtain rfl : l = [] := List.length_eq_zero_iff.1 h0
    exact run_convert_nil_bytes w 22 9 5 0 Tryz.underlying22 Tryz.underlying5 Tryz.underlying9
  · exact run_convert_bytes_back w 22 9 5 x cap l Tryz.underlying22 Tryz.underlying5 Tryz.underlying9 (fun j hj => hcs j _ (by simp [byteCells, hj]))

theorem isB_one (w : World) (c : UInt8) : IsB (w.alloc (.cells #[.int .u8 c.toNat] 5)) (some ⟨w.heap.size, 0, none⟩) 1 1 [c] :=
  ⟨rfl, .inr ⟨_, rfl, by simp, by simp [maxLen], fun j u hu => by
    match j, hu with
    | 0, hu => simp [byteCells] at hu; subst hu; simp [Addr.add]⟩⟩
/-- a text's bytes -/
def textB (s : ByteArray) : List UInt8 := uvarint s.size ++ s.data.toList

/-! ### the document's -/
theorem bytes_app (a b : List UInt8) : (⟨a.toArray⟩ : ByteArray) ++ ⟨b.toArray⟩ = ⟨(a ++ b).toArray⟩ := by
  apply ByteArray.ext
  simp [ByteArray.data_append]
theorem bytes_size (l : List UInt8) : (⟨l.toArray⟩ : ByteArray).size = l.length := by
  show l.toArray.size = _; simp
theorem bytes_cons (c : UInt8) (r : List UInt8) : (⟨#[c]⟩ : ByteArray) ++ ⟨r.toArray⟩ = ⟨(c :: r).toArray⟩ := bytes_app [c] r

theorem zig_u64 {x : Int} (hx : (Lit.int .i64 x).wf = true) : U64 (zigzag x) := by
  have hb : -9223372036854775808 ≤ x ∧ x ≤ 9223372036854775807 := by simpa [Lit.wf, IntKind.min, IntKind.max, IntKind.signed, IntKind.bits] using hx
  exact zigzag_lt hb.1 hb.2
end Go.Proofs.YtcodjknhnhdkfaaGreatDoor.Rf
