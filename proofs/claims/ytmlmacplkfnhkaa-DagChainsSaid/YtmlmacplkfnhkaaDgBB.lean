
/- graphs: keys, and how they lie -/
import Derived.Test.YtmlmacplkfnhkaaDgM
import Derived.Test.YtmlmacplkfnhkaaHs
import Derived.Test.YtmlmacplkfnhkaaAo
import Derived.DeepKeys4
namespace Go.Proofs.Ytmlmacplkfnhkaa.DgB
open Go.RowKit Go.Lib Hp Mv Dg
set_option linter.unusedVariables false
set_option maxRecDepth 20000

/-- a key, and whether it is NaN -/
abbrev Id := (List UInt8) × Bool
def kv (k : (List UInt8)) : Value := .string ⟨k.toArray⟩
def ek (x : Id) : Value := .agg #[kv x.1, .bool x.2]
def okK (k : (List UInt8)) : Prop := k.length ≤ maxLen
def wk (x : Id) : Prop := okK x.1
theorem laidOut : laidOutB Try.prog = true := by kernel_rfl
theorem idRow : (67 : TypeId) < Try.prog.types.size := of_decide_eq_true (by kernel_rfl)
theorem idWide : (match Try.prog.underlying 67 with | some (.array _ _) | some (.struct _) => true | _ => false) = true := by rw [Try.underlying67]
theorem law : WideMaps.KeyLaw Try.prog 67 := deep_law_laid laidOut (m := 2) (by omega) idRow (by kernel_rfl) idWide
theorem cellsId : Try.prog.cellsOf 67 = 2 := by kernel_rfl
theorem cellsK : Try.prog.cellsOf 9 = 1 := by kernel_rfl
theorem cellsBool : Try.prog.cellsOf 4 = 1 := by kernel_rfl
theorem keyT : Try.prog.keyType 67 = true := by kernel_rfl
theorem depth : ∃ d, Try.prog.types.size = d + 1 := ⟨Try.prog.types.size - 1, by have : 0 < Try.prog.types.size := of_decide_eq_true (by kernel_rfl); omega⟩
theorem lits_k (d : Nat) {k : (List UInt8)} (h : okK k) : Try.prog.keyLits (d + 1) 9 [kv k] = some [.string k] := by
  unfold okK at h
  unfold Program.keyLits
  rw [Try.underlying9]
  unfold kv
  have e : (⟨k.toArray⟩ : ByteArray).size = k.length := by show k.toArray.size = _; simp
  simp [e, h]
theorem lits_b (d : Nat) (b : Bool) : Try.prog.keyLits (d + 1) 4 [.bool b] = some [.bool b] := by
  unfold Program.keyLits
  rw [Try.underlying4]
theorem key_of (x : Id) (h : wk x) : ∃ l, keyOf Try.prog 67 (ek x) = some l := by
  obtain ⟨d, hd⟩ := depth
  unfold keyOf
  rw [Try.underlying67]
  have hf : (ek x).formed Try.prog 67 = true := by unfold ek Value.formed; simp [Try.underlying67, cellsId]
  dsimp only
  rw [keyT, hf, hd]
  simp only [Bool.and_true, if_true]
  unfold Program.keyLits
  rw [Try.underlying67]
  simp only [ek, Value.cells, cellsId]
  simp [lits_k d h, lits_b d, cellsK, cellsBool]
theorem key_back (v : Value) (l : Lit) (h : keyOf Try.prog 67 v = some l) : ∃ x, v = ek x ∧ wk x := by
  obtain ⟨d, hd⟩ := depth
  unfold keyOf at h
  rw [Try.underlying67] at h
  dsimp only at h
  rw [keyT, hd] at h
  simp only [Bool.true_and] at h
  split at h
  case isFalse => cases h
  rename_i hf
  simp only [Option.map_eq_some_iff] at h
  obtain ⟨ls, h, _⟩ := h
  have hv : ∃ a b, v = .agg #[a, b] := by
    unfold Value.formed at hf
    rw [Try.underlying67] at hf
    cases v <;> simp [cellsId] at hf
    rename_i cs
    obtain ⟨l⟩ := cs
    rcases l with _ | ⟨a, _ | ⟨b, _ | ⟨c, l⟩⟩⟩ <;> simp at hf
    exact ⟨a, b, rfl⟩
  obtain ⟨a, b, rfl⟩ := hv
  unfold Program.keyLits at h
  rw [Try.underlying67] at h
  simp [Value.cells, cellsId, cellsK, cellsBool] at h
  cases h1 : Try.prog.keyLits (d + 1) 9 [a] with
  | none => rw [h1] at h; simp at h
  | some l1 =>
  cases h2 : Try.prog.keyLits (d + 1) 4 [b] with
  | none => rw [h1, h2] at h; simp at h
  | some l2 =>
  unfold Program.keyLits at h1 h2
  rw [Try.underlying9] at h1
  rw [Try.underlying4] at h2
  have ha : ∃ k, a = kv k ∧ okK k := by
    cases a <;> simp at h1
    rename_i s
    refine ⟨s.data.toList, by unfold kv; simp, ?_⟩
    unfold okK
    have e : s.data.toList.length = s.size := by show s.data.toList.length = s.data.size; simp
    omega
  have hb : ∃ c, b = .bool c := by cases b <;> simp at h2; exact ⟨_, rfl⟩
  obtain ⟨k, rfl, hk⟩ := ha
  obtain ⟨c, rfl⟩ := hb
  exact ⟨(k, c), rfl, hk⟩
theorem ek_inj (x y : Id) (h : ek x = ek y) : x = y := by
  obtain ⟨a, b⟩ := x
  obtain ⟨c, d⟩ := y
  unfold ek kv at h
  simp at h
  exact Prod.ext h.1 h.2
def unit : Value := .agg #[]
theorem kindOf {t te : TypeId} {z : Value} (ht : Try.prog.underlying t = some (.map 67 te)) (hz : ∀ w, (zeroValue te).run Try.prog w = .ok z w) : Mv.Kind Try.prog t 67 te z ek wk where
  map := ht
  zero := hz
  keyed := Maps.Keyed.of_law law
  key := key_of
  inj := ek_inj
  back := key_back
theorem kindN : Mv.Kind Try.prog 63 67 70 (.pointer none) ek wk := kindOf Try.underlying63 (fun w => by go_simp)
theorem kindS : Mv.Kind Try.prog 72 67 56 unit ek wk := kindOf Try.underlying72 (fun w => by kernel_rfl)
end Go.Proofs.Ytmlmacplkfnhkaa.DgB
