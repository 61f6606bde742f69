
/- texts that build one behind the other: By Bk Rs Ht Dk Dk2 Dk3 Ao Sc Dk4 Dk5 Dk6 Dk7 Dk8 Dk9 DkC -/
import Derived.Test.YtjblkmjdepdekaaDoorRows
import Derived.WalkKit
import Derived.ProofKit
import Derived.OneCell
import Derived.WalkSpells
import Derived.IntWalk
import Derived.Below
import Derived.Lib.Hide
import Derived.Lib.BufferRead
import Derived.Laws.IdiomStrings
import Derived.Laws.AppendOwnNone
import Derived.Laws.Tables
import Derived.Laws.MakeOwn
import Derived.Laws.BitsAllLaws
import Derived.Lib.SmallJoins
import Derived.StillTailTactics
import Derived.Deep.QuietTactic
import Derived.BigQuiet
import Derived.Laws.Rows
import Derived.Laws.NewBlocks
import Derived.OwnWalk
import Derived.OrdersHeld
import Derived.Deep.RegionHeld
import Derived.Deep.MidRow
import Derived.Deep.RegionWith
import Derived.Laws.AppendOwn
import Derived.Laws.CopyOwn
import Derived.Great.BuildSlice
import Derived.Defers
import Derived.Recover
/- bytes that lie somewhere -/
namespace Go.Proofs.YtjblkmjdepdekaaDoor.By
open Go.RowKit Go.Lib

theorem info5 : (Tryd.prog.info? 5).map (fun i => (i.zero, i.size, i.bytes)) = some (some (.int .u8 0), 1, 1) := by kernel_rfl

theorem own_shape {w : World} {B : Nat} {e : TypeId} {k : Nat} {v : Value} {n : Nat} {xs : List Value} (h : w.ownsRow B e k v n xs) : ∃ ao cp, v = .slice ao n cp := by
  rcases h.2 with ⟨rfl, rfl⟩ | ⟨g, cap, cur, rfl, _⟩
  · exact ⟨_, _, rfl⟩
  · exact ⟨_, _, rfl⟩

/-- the slice (a, len, cap) reads as the bytes l: it is nil, or its cells hold them -/
def IsB (w : World) (a : Option Addr) (len cap : Nat) (l : List UInt8) : Prop :=
  l.length = len ∧ ((a = none ∧ len = 0 ∧ cap = 0) ∨ ∃ x, a = some x ∧ len ≤ cap ∧ cap ≤ maxLen ∧ ∀ j u, (byteCells l)[j]? = some u → w.cell? (x.add j) = some u)

theorem bytes_one (l : List UInt8) : ∀ v ∈ byteCells l, v.oneCell' = true := by
  intro v hv
  simp [byteCells] at hv
  obtain ⟨b, _, rfl⟩ := hv
  rfl
theorem isB_own {w : World} {B : Nat} {v : Value} {l : List UInt8} (h : w.ownsRow B 5 1 v l.length (byteCells l)) : ∃ a cap, v = .slice a l.length cap ∧ IsB w a l.length cap l := by
  obtain ⟨a, cap, rfl⟩ := own_shape h
  refine ⟨a, cap, rfl, rfl, ?_⟩
  cases a with
  | none =>
    left
    rcases h.2 with ⟨h1, h2⟩ | ⟨g, c, cur, h1, _⟩
    · simp at h1; exact ⟨rfl, h2, h1.2⟩
    · simp at h1
  | some x =>
    right
    rcases h.2 with ⟨h1, h2⟩ | ⟨g, c, cur, h1, h2, h3, h4, h5, h6, h7⟩
    · simp at h1
    · have h1' := h1
      simp only [Value.slice.injEq, Option.some.injEq, true_and] at h1'
      obtain ⟨rfl, rfl⟩ := h1'
      exact ⟨_, rfl, h4, h5, h.cells rfl⟩
theorem IsB.below {w w' : World} {N : Nat} {a : Option Addr} {len cap : Nat} {l : List UInt8} (h : IsB w a len cap l) (hb : Below N w w') (ha : ∀ x, a = some x → x.block < N) : IsB w' a len cap l := by
  obtain ⟨h1, h2 | ⟨x, rfl, h3, h4, h5⟩⟩ := h
  · exact ⟨h1, .inl h2⟩
  · exact ⟨h1, .inr ⟨x, rfl, h3, h4, fun j u hu => (hb.cell (by have := ha x rfl; unfold Addr.add; split <;> exact this)).trans (h5 j u hu)⟩⟩
theorem IsB.old {w w' : World} {a : Option Addr} {len cap : Nat} {l : List UInt8} (h : IsB w a len cap l) (hb : Below w.heap.size w w') : IsB w' a len cap l := by
  obtain ⟨h1, h2 | ⟨x, rfl, h3, h4, h5⟩⟩ := h
  · exact ⟨h1, .inl h2⟩
  · exact ⟨h1, .inr ⟨x, rfl, h3, h4, fun j u hu => (hb.cell (World.block_lt_of_cell? w _ (h5 j u hu))).trans (h5 j u hu)⟩⟩
/-- a slice's bound -/
theorem IsB.le {w : World} {a : Option Addr} {len cap : Nat} {l : List UInt8} (h : IsB w a len cap l) : l.length ≤ maxLen := by
  obtain ⟨h1, ⟨_, h2, _⟩ | ⟨x, _, h3, h4, _⟩⟩ := h
  · rw [h1, h2]; exact Nat.zero_le _
  · omega
/-- the byte at a place -/
theorem IsB.at {w : World} {a : Option Addr} {len cap : Nat} {l : List UInt8} (h : IsB w a len cap l) {k : Nat} (hk : k < l.length) : ∃ x, a = some x ∧ w.cell? (x.add k) = some (.int .u8 (l[k].toNat : Nat)) := by
  obtain ⟨h1, ⟨_, h2, _⟩ | ⟨x, h2, h3, h4, h5⟩⟩ := h
  · omega
  · exact ⟨x, h2, h5 k _ (by simp [byteCells, hk])⟩
/-- a beginning of it -/
theorem IsB.take {w : World} {a : Option Addr} {len cap : Nat} {l : List UInt8} (h : IsB w a len cap l) {n : Nat} (hn : n ≤ l.length) : IsB w a n cap (l.take n) := by
  obtain ⟨h1, ⟨h2, h3, h4⟩ | ⟨x, h2, h3, h4, h5⟩⟩ := h
  · refine ⟨by simp; omega, .inl ⟨h2, by omega, h4⟩⟩
  · refine ⟨by simp; omega, .inr ⟨x, h2, by omega, h4, fun j u hu => h5 j u ?_⟩⟩
    simp only [byteCells, List.map_take, List.getElem?_take] at hu
    split at hu
    · exact hu
    · cases hu

/-- 'append(own, more...)': what is appended is nil, or lies somewhere -/
theorem wpList_append_bytes {w : World} {ops : Array Oper} {rest : List Oper} {o : Oper} {a : Act} {Q : Exit → Act → World → Prop} (hgd : o.guard = none) (s x : Operand)
    (ho : o.op = .call { callee := .builtin .append, args := #[s, x], argTypes := #[32, 32] })
    (base : Nat) (v : Value) (n : Nat) (bs : List UInt8) (hs : a.eval s = v) (hown : w.ownsRow base 5 1 v n (byteCells bs))
    (ad : Option Addr) (len cap : Nat) (l : List UInt8) (hx : a.eval x = .slice ad len cap) (hl : IsB w ad len cap l) (hb : n + len ≤ 1000000000000) (hbase : base ≤ w.heap.size)
    (h : ∀ ao cp w', w'.ownsRow base 5 1 (.slice ao (n + len) cp) (n + len) (byteCells (bs ++ l)) → w.grownBy w' v.ownBlock → wpList Tryd.prog ops Q rest (a.put o.dst (.slice ao (n + len) cp)) w') : wpList Tryd.prog ops Q (o :: rest) a w := by
  obtain ⟨i0, hi, hz0, hz1, hz2⟩ := info_parts info5
  obtain ⟨hll, ⟨rfl, rfl, rfl⟩ | ⟨y, rfl, hlc, hcm, hcs⟩⟩ := hl
  · obtain rfl : l = [] := List.length_eq_zero_iff.1 hll
    obtain ⟨ao, cp, rfl⟩ := own_shape hown
    refine wpList_append_own_none hgd s x 32 ho base 5 i0 1 Tryd.underlying32 hi _ n _ hs hown hx ?_
    exact h ao cp w (by simpa using hown) ⟨rfl, rfl, rfl, Nat.le_refl _, fun _ _ _ => rfl⟩
  · refine wpList_append_own w hgd s x 32 ho base 5 i0 (.int .u8 0) 1 1 Tryd.underlying32 hi hz0 hz1 hz2 rfl (by decide) v n _ hs hown y len cap (byteCells l) hx (by simp [byteCells, hll]) hcs (bytes_one l) (by unfold maxLen; omega) (by omega) hbase ?_
    intro v' w' hown' hg _
    rw [← byteCells_append] at hown'
    obtain ⟨ao, cp, rfl⟩ := own_shape hown'
    exact h ao cp w' hown' hg

/-- a row of numbers that fit a byte, as bytes -/
theorem isB_row {w : World} {a : Option Addr} {len cap : Nat} {zs : List Int}
    (h : (a = none ∧ len = 0 ∧ cap = 0 ∧ zs = []) ∨ ∃ x, a = some x ∧ len ≤ cap ∧ cap ≤ maxLen ∧ zs.length = cap ∧ (∀ i, i < zs.length → w.cell? (x.add i) = some (.int .u8 (zs.getD i 0))) ∧ ∀ n ∈ zs, (Lit.int .u8 n).wf = true) :
    ∃ l, IsB w a len cap l := by
  rcases h with ⟨rfl, rfl, rfl, rfl⟩ | ⟨x, rfl, h1, h2, h3, h4, h5⟩
  · exact ⟨[], rfl, .inl ⟨rfl, rfl, rfl⟩⟩
  · refine ⟨(zs.take len).map fun n => UInt8.ofNat n.toNat, by simp; omega, .inr ⟨x, rfl, h1, h2, fun j u hu => ?_⟩⟩
    simp only [byteCells, List.map_map, List.getElem?_map, List.getElem?_take] at hu
    split at hu
    · have hj : j < zs.length := by omega
      rw [List.getElem?_eq_getElem hj] at hu
      simp only [Option.map_some, Option.some.injEq, Function.comp] at hu
      have hw : 0 ≤ zs[j] ∧ zs[j] ≤ 255 := by simpa [Lit.wf, IntKind.min, IntKind.max, IntKind.signed, IntKind.bits] using h5 _ (List.getElem_mem hj)
      have e : ((UInt8.ofNat zs[j].toNat).toNat : Int) = zs[j] := by
        rw [UInt8.toNat_ofNat']
        have : zs[j].toNat % 2 ^ 8 = zs[j].toNat := Nat.mod_eq_of_lt (by omega)
        rw [this]; omega
      rw [h4 j hj, ← hu, e]
      simp [List.getD, hj]
    · cases hu
end Go.Proofs.YtjblkmjdepdekaaDoor.By

/- rows of bytes that are written -/
namespace Go.Proofs.YtjblkmjdepdekaaDoor.By
open Go.RowKit Go.Lib Go.Joins

theorem add_lit (g o j : Nat) : (⟨g, o, none⟩ : Addr).add j = ⟨g, o + j, none⟩ := by unfold Addr.add; split <;> simp_all
/-- a block that begins with the bytes l -/
def Blk (w : World) (b cap : Nat) (l : List UInt8) : Prop :=
  ∃ cur, w.heap[b]? = some (.cells cur 5 (0, 0)) ∧ cur.size = cap ∧ l.length ≤ cap ∧ cur.toList.take l.length = byteCells l
theorem Blk.lt {w : World} {b cap : Nat} {l : List UInt8} (h : Blk w b cap l) : b < w.heap.size := by
  obtain ⟨cur, h1, _⟩ := h; exact lt_of_block h1
theorem Blk.cell {w : World} {b cap : Nat} {l : List UInt8} (h : Blk w b cap l) {k : Nat} (hk : k < l.length) : w.cell? ⟨b, k, none⟩ = some (.int .u8 (l[k].toNat : Nat)) := by
  obtain ⟨cur, h1, h2, h3, h4⟩ := h
  have e : cur.toList[k]? = some (.int .u8 (l[k].toNat : Nat)) := by
    have : (cur.toList.take l.length)[k]? = some (.int .u8 (l[k].toNat : Nat)) := by rw [h4]; simp [byteCells, hk]
    rwa [List.getElem?_take_of_lt hk] at this
  rw [cell_of_block h1]
  simpa using e
theorem Blk.cellD {w : World} {b cap : Nat} {l : List UInt8} (h : Blk w b cap l) {k : Nat} (hk : k < l.length) : w.cell? ⟨b, k, none⟩ = some (.int .u8 ((l.getD k 0).toNat : Nat)) := by
  rw [h.cell hk]; simp [List.getD, hk]
theorem Blk.free {w : World} {b cap : Nat} {l : List UInt8} (h : Blk w b cap l) (k : Nat) : w.frozen? ⟨b, k, none⟩ = false := by
  obtain ⟨cur, h1, _⟩ := h; exact unfrozen_of_block h1 k
theorem Blk.isB {w : World} {b cap : Nat} {l : List UInt8} (h : Blk w b cap l) (hm : cap ≤ maxLen) : IsB w (some ⟨b, 0, none⟩) l.length cap l := by
  refine ⟨rfl, .inr ⟨_, rfl, ?_, hm, fun j u hu => ?_⟩⟩
  · obtain ⟨cur, h1, h2, h3, h4⟩ := h; exact h3
  · have hj : j < l.length := by have := (List.getElem?_eq_some_iff.1 hu).1; simpa [byteCells] using this
    have e := h.cell hj
    simp [byteCells, hj] at hu
    subst hu
    rw [add_lit, Nat.zero_add]; exact e
theorem Blk.set {w : World} {b cap : Nat} {l : List UInt8} (h : Blk w b cap l) (k : Nat) (c : UInt8) {v : Int} (hv : v = (c.toNat : Nat)) : Blk (w.setCell ⟨b, k, none⟩ (.int .u8 v)) b cap (l.set k c) := by
  subst hv
  obtain ⟨cur, h1, h2, h3, h4⟩ := h
  refine ⟨_, block_setCell h1 _, by simpa using h2, by simpa using h3, ?_⟩
  rw [List.length_set, Array.toList_setIfInBounds, List.take_set, h4]
  simp [byteCells, List.map_set]
theorem Blk.same {w w' : World} {b cap : Nat} {l : List UInt8} (h : Blk w b cap l) (hh : w'.heap[b]? = w.heap[b]?) : Blk w' b cap l := by
  obtain ⟨cur, h1, h2⟩ := h; exact ⟨cur, hh.trans h1, h2⟩
theorem Blk.own {w : World} {B n cap : Nat} {g : Addr} {l : List UInt8} (h : w.ownsRow B 5 1 (.slice (some g) n cap) n (byteCells l)) (hn : n = l.length) : ∃ b, g = ⟨b, 0, none⟩ ∧ B ≤ b ∧ Blk w b cap l ∧ cap ≤ maxLen := by
  subst hn
  rcases h.2 with ⟨h1, _⟩ | ⟨b, c, cur, h1, h2, h3, h4, h5, h6, h7⟩
  · simp at h1
  · simp only [Value.slice.injEq, Option.some.injEq, true_and] at h1
    obtain ⟨rfl, rfl⟩ := h1
    exact ⟨b, rfl, h2, ⟨cur, h3, by omega, h4, by simpa using h7⟩, h5⟩
theorem Blk.made {w : World} {n : Nat} : Blk (w.alloc (.cells (madeCells #[.int .u8 0] n) 5)) w.heap.size n (List.replicate n 0) := by
  refine ⟨_, heap_alloc_new w _, size_madeCells _ _, by simp, ?_⟩
  rw [List.take_of_length_le (by simp [madeCells])]
  simp [madeCells, byteCells, List.map_replicate, Array.toList_map]
  apply List.ext_getElem
  · simp
  · intro i h1 h2
    simp [Nat.mod_one]
/-- 'make([]byte, n)' -/
theorem run_makeBytes (w : World) {n : Nat} (h : n ≤ 1000000000000) :
    (Instr.makeSlice 32 (.int .i64 (n : Int)) (.int .i64 (n : Int))).run Tryd.prog w = .ok (.slice (some ⟨w.heap.size, 0, none⟩) n n) (w.alloc (.cells (madeCells #[.int .u8 0] n) 5)) := by
  obtain ⟨i0, hi, hz0, hz1, hz2⟩ := info_parts info5
  have hr := run_make (P := Tryd.prog) w 32 5 i0 (.int .u8 0) Tryd.underlying32 hi hz0 .i64 .i64 n n (by omega) (by omega) (by rw [hz2]; omega) (by omega)
  rw [hz1, Nat.mul_one, Int.toNat_natCast] at hr
  exact hr
theorem xor_u8 (a b : UInt8) : bits .xor .u8 (a.toNat : Int) (b.toNat : Int) = ((a ^^^ b).toNat : Nat) := by
  rw [u8_xor_nat _ _ a.toNat_lt b.toNat_lt, UInt8.toNat_xor]
end Go.Proofs.YtjblkmjdepdekaaDoor.By

/- results that lie in a cell -/
namespace Go.Proofs.YtjblkmjdepdekaaDoor.By
open Go.RowKit Go.Lib

theorem results_cell1 {fn : Func} {p : Tmp} {ty : TypeId} (h : fn.results = #[.cell p ty]) (tmps : Array Value) (P : Program) (w : World) :
    (results fn tmps).run P w = ((asAddr (tmps.getD p undef)).run P w).andThen fun a w₁ => (loadVar ty a).run P w₁ := by
  simp only [results, h]
  simp [Sem.run_bind, Result.andThen]
theorem results_cell4 {fn : Func} {p a b c : Tmp} {ty : TypeId} (h : fn.results = #[.cell p ty, .tmp a, .tmp b, .tmp c]) (tmps : Array Value) (P : Program) (w : World) :
    (results fn tmps).run P w =
      ((asAddr (tmps.getD p undef)).run P w).andThen fun x w₁ => ((loadVar ty x).run P w₁).andThen fun v w₂ => .ok (.tuple #[v, tmps.getD a undef, tmps.getD b undef, tmps.getD c undef]) w₂ := by
  simp only [results, h]
  simp [Sem.run_bind, Result.andThen]

/-- what is owned stays owned where all below N stays as it was, and it lies there -/
theorem own_below {w w' : World} {B N : Nat} {e : TypeId} {k : Nat} {v : Value} {n : Nat} {xs : List Value} (h : w.ownsRow B e k v n xs) (hb : Below N w w') (hn : w.heap.size ≤ N) : w'.ownsRow B e k v n xs := by
  refine ⟨h.1, ?_⟩
  rcases h.2 with h1 | ⟨g, cap, cur, h1, h2, h3, h4⟩
  · exact .inl h1
  · exact .inr ⟨g, cap, cur, h1, h2, (hb.block g (by have := lt_of_block h3; omega)).trans h3, h4⟩
theorem heap_old {w w' : World} {b : Nat} {o : Obj} (hb : Below w.heap.size w w') (h : w.heap[b]? = some o) : w'.heap[b]? = some o := (hb.block b (by
  have := (Array.getElem?_eq_some_iff.1 h).1; exact this)).trans h
theorem two_cells {w : World} {b : Nat} {v u : Value} {t : TypeId} (h : w.heap[b]? = some (.cells #[v, u] t (0, 0))) : (w.cell? ⟨b, 0, none⟩ = some v ∧ w.cell? ⟨b, 1, none⟩ = some u) ∧ w.frozen? ⟨b, 0, none⟩ = false ∧ w.frozen? ⟨b, 1, none⟩ = false := by
  refine ⟨⟨?_, ?_⟩, ?_, ?_⟩ <;> simp [World.cell?, World.frozen?, h]
end Go.Proofs.YtjblkmjdepdekaaDoor.By

/- a region that draws its order and ends in one operation that waits for all others: what is said of the world need hold ahead of that one alone (of no program) -/
namespace Go.Proofs.YtjblkmjdepdekaaDoor.Ht
open Go.RowKit
variable {P : Program} {md : Region.Mode} {ops : Array Oper} {Q : Exit → Act → World → Prop} {S : World → Prop} {L : Nat}

/-- number j waits for number i, by at most k between -/
def direct (md : Region.Mode) (ops : Array Oper) (j i : Nat) : Bool :=
  match ops[j]? with
  | some o => o.after.any fun e => Region.binds md e && e.on == i
  | none => false
def waits (md : Region.Mode) (ops : Array Oper) : Nat → Nat → Nat → Bool
  | 0, j, i => direct md ops j i
  | k + 1, j, i => direct md ops j i || (List.range ops.size).any fun m => direct md ops j m && waits md ops k m i
/-- number L waits for every other operation -/
def last (md : Region.Mode) (ops : Array Oper) (L : Nat) : Bool := (List.range ops.size).all fun i => i == L || waits md ops 2 L i
/-- whatever is listed has those listed for which it waits -/
def Closed (md : Region.Mode) (ops : Array Oper) (listed : Array Bool) : Prop := ∀ j i, listed.getD j false = true → direct md ops j i = true → listed.getD i false = true
def closedB (md : Region.Mode) (ops : Array Oper) (listed : Array Bool) : Bool :=
  (List.range listed.size).all fun j => !(listed.getD j false) || match ops[j]? with
    | some o => o.after.all fun e => !(Region.binds md e) || listed.getD e.on false
    | none => true
theorem direct_spec {j i : Nat} (h : direct md ops j i = true) : ∃ o e, ops[j]? = some o ∧ e ∈ o.after ∧ Region.binds md e = true ∧ e.on = i := by
  unfold direct at h
  cases ho : ops[j]? with
  | none => rw [ho] at h; cases h
  | some o =>
    rw [ho] at h
    obtain ⟨k, hk, hb⟩ := Array.any_eq_true.1 h
    rw [Bool.and_eq_true] at hb
    exact ⟨o, _, rfl, Array.getElem_mem hk, hb.1, beq_iff_eq.1 hb.2⟩
theorem closed_spec {listed : Array Bool} (h : closedB md ops listed = true) : Closed md ops listed := fun j i hj hd => by
  obtain ⟨o, e, ho, he, hb, rfl⟩ := direct_spec hd
  have hlt : j < listed.size := by
    rcases Nat.lt_or_ge j listed.size with h' | h'
    · exact h'
    · simp [Array.getElem?_eq_none h'] at hj
  have := List.all_eq_true.1 h j (List.mem_range.2 hlt)
  rw [hj, ho] at this
  simp only [Bool.not_true, Bool.false_or] at this
  have := Array.all_eq_true_iff_forall_mem.1 this e he
  rw [hb] at this
  simpa using this
theorem ready_direct {listed : Array Bool} {j i : Nat} (hj : j ∈ Region.ready md ops listed) (hd : direct md ops j i = true) : listed.getD i false = true := by
  obtain ⟨_, o, ho, hall⟩ := mem_ready.1 hj
  obtain ⟨o', e, ho', he, hb, rfl⟩ := direct_spec hd
  rw [ho] at ho'
  obtain rfl := Option.some.inj ho'
  exact hall e he hb
theorem Closed.next {listed : Array Bool} (h : Closed md ops listed) {j : Nat} (hj : j ∈ Region.ready md ops listed) : Closed md ops (listed.setIfInBounds j true) := fun m i hm hd => by
  by_cases e : j = m
  · subst e; exact getD_set_true (ready_direct hj hd)
  · rw [getD_set_ne false e] at hm
    exact getD_set_true (h m i hm hd)
theorem waits_spec {listed : Array Bool} (hc : Closed md ops listed) : ∀ k j i, (∀ m, direct md ops j m = true → listed.getD m false = true) → waits md ops k j i = true → listed.getD i false = true
  | 0, _, i, h, hw => h i hw
  | k + 1, j, i, h, hw => by
    unfold waits at hw
    rcases Bool.or_eq_true_iff.1 hw with h1 | h1
    · exact h i h1
    · obtain ⟨m, _, hm⟩ := List.any_eq_true.1 h1
      rw [Bool.and_eq_true] at hm
      exact waits_spec hc k m i (fun x hx => hc m x (h m hm.1) hx) hm.2
theorem last_spec (h : last md ops L = true) {listed : Array Bool} (hc : Closed md ops listed) {i : Nat} (hi : i ∈ Region.ready md ops listed) (hL : L ∈ Region.ready md ops listed) : i = L := by
  obtain ⟨h0, o, ho, _⟩ := mem_ready.1 hi
  have hlt : i < ops.size := (Array.getElem?_eq_some_iff.1 ho).1
  have := List.all_eq_true.1 h i (List.mem_range.2 hlt)
  rcases Bool.or_eq_true_iff.1 this with h1 | h1
  · exact beq_iff_eq.1 h1
  · exfalso
    have := waits_spec hc 2 L i (fun m hm => ready_direct hL hm) h1
    rcases Nat.lt_or_ge i listed.size with h' | h'
    · simp [h'] at h0 this; rw [h0] at this; cases this
    · simp [Array.getElem?_eq_none h'] at this

/-- from here on, in whatever order: S holds behind every operation but the last one -/
def Ahead (P : Program) (md : Region.Mode) (ops : Array Oper) (Q : Exit → Act → World → Prop) (S : World → Prop) (L : Nat) : Nat → Array Bool → Act → World → Prop
  | 0, listed, a, w => Region.ready md ops listed = [] ∧ Q .normal a w
  | f + 1, listed, a, w => (Region.ready md ops listed = [] → Q .normal a w) ∧
    ∀ i ∈ Region.ready md ops listed, wpOp P ops Q i (fun a' w' => (i ≠ L → S w') ∧ Ahead P md ops Q S L f (listed.setIfInBounds i true) a' w') a w
theorem Ahead.any : ∀ (f : Nat) (listed : Array Bool) (a : Act) (w : World), Ahead P md ops Q S L f listed a w → wpAny P md ops Q f listed a w
  | 0, _, _, _, h => h
  | f + 1, _, _, _, h => ⟨h.1, fun i hi => wpOp_mono (fun _ _ h' => Ahead.any f _ _ _ h'.2) (h.2 i hi)⟩

theorem ahead_first {i : Nat} {oi : Oper} {v : Value} (hlast : last md ops L = true) (hiL : i ≠ L) (hi : ops[i]? = some oi) (hsel : Region.noSelect ops = true)
    (hQ : ∀ c a w, Q (.panic c) (a.put oi.dst v) w → Q (.panic c) a w) : ∀ (f : Nat) (listed : Array Bool) (a : Act) (w : World), Closed md ops listed →
      (∀ j oj, ops[j]? = some oj → j ≠ i → listed.getD j true = false → (∀ e ∈ oj.after, Region.binds md e = true → e.on ≠ i) → oi.apart ops oj = true) →
      i ∈ Region.ready md ops listed → YieldsIf P ops S oi v a → S w →
      Ahead P md ops Q S L f (listed.setIfInBounds i true) (a.put oi.dst v) w → Ahead P md ops Q S L (f + 1) listed a w
  | f, listed, a, w, hcl, hfree, hr, hy, hS, H => by
    refine ⟨fun h => absurd hr (by rw [h]; simp), fun j hj => ?_⟩
    by_cases hji : j = i
    · subst hji; exact hy.wpOp hi hS ⟨fun _ => hS, H⟩
    have hjL : j ≠ L := fun e => hiL (last_spec hlast hcl hr (e ▸ hj))
    cases f with
    | zero =>
      have := ready_mono hj hji
      rw [H.1] at this
      cases this
    | succ f =>
      obtain ⟨hjun, oj, hoj, hall⟩ := mem_ready.1 hj
      have hnot : ∀ e ∈ oj.after, Region.binds md e = true → e.on ≠ i := fun e he hb heq => by
        have h1 := hall e he hb
        have h0 := (mem_ready.1 hr).1
        rw [heq] at h1
        rcases Nat.lt_or_ge i listed.size with h' | h'
        · simp [h'] at h0 h1; rw [h0] at h1; cases h1
        · simp [Array.getElem?_eq_none h'] at h1
      have h2 := wpOp_putIf hoj (hfree j oj hoj hji hjun hnot) (fun cs b => Region.noSelect_spec hsel i oi cs b hi) (fun cs b => Region.noSelect_spec hsel j oj cs b hoj) hQ hy (H.2 j (ready_mono hj hji))
      refine wpOp_mono (fun a' w' h3 => ⟨h3.2.1, ahead_first hlast hiL hi hsel hQ f (listed.setIfInBounds j true) a' w' (hcl.next hj) ?_ (ready_mono hr (Ne.symm hji)) h3.1 (h3.2.1 hjL) ?_⟩) h2
      · intro k ok hk hki hun hno
        refine hfree k ok hk hki ?_ hno
        by_cases hjk : j = k
        · subst hjk; exact hjun
        · rwa [getD_set_ne true hjk] at hun
      · rw [Array.setIfInBounds_comm _ _ hji]
        exact h3.2.2

/-- a piece of code that ends in its normal way alone -/
def Nrm (Q : Exit → Act → World → Prop) : Exit → Act → World → Prop
  | .normal, a, w => Q .normal a w
  | _, _, _ => False
theorem wp_nrm {c : Code} {a : Act} {w : World} (h : c.wp P (Nrm Q) a w) : c.wp P Q a w :=
  wp_mono h (fun e _ _ hq => by cases e <;> first | exact hq | exact hq.elim)

/-- the beginning -/
theorem begin' {id : Nat} {a : Act} {w : World} (L : Nat) (S : World → Prop) (hm : P.follows .mixedOrders = true) (hS : S w.drew)
    (h : S w.drew → Ahead P .any ops (Nrm Q) S L ops.size (Array.replicate ops.size false) a w.drew) : (Code.region id ops true).wp P Q a w :=
  wp_nrm (wp_region_any hm (Ahead.any _ _ _ _ (h hS)))
theorem take {i : Nat} (oi : Oper) (v : Value) {f : Nat} {listed : Array Bool} {a : Act} {w : World} (hi : ops[i]? = some oi) (hlast : last md ops L = true) (hcl : closedB md ops listed = true) (hiL : i ≠ L)
    (hs : Region.noSelect ops = true) (hf : Region.free md ops listed i = true) (hr : (Region.ready md ops listed).contains i = true) (hS : S w) (hy : YieldsIf P ops S oi v a)
    (h : Ahead P md ops (Nrm Q) S L f (listed.setIfInBounds i true) (a.put oi.dst v) w) : Ahead P md ops (Nrm Q) S L (f + 1) listed a w :=
  ahead_first hlast hiL hi hs (fun _ _ _ h => h.elim) f listed a w (closed_spec hcl) (Region.free_spec hi hf) (by simpa using hr) hy hS h
theorem step {i : Nat} (oi : Oper) {f : Nat} {listed : Array Bool} {a : Act} {w : World} (hi : ops[i]? = some oi) (hr : Region.ready md ops listed = [i]) (hw : Region.wanted oi (yielded ops a.tmps) = true)
    (h : ∀ K : Act → World → Prop, (∀ a' w', (i ≠ L → S w') → ((i ≠ L → S w') → Ahead P md ops (Nrm Q) S L f (listed.setIfInBounds i true) a' w') → K a' w') → Oper.wp P oi a w K (Nrm Q)) : Ahead P md ops (Nrm Q) S L (f + 1) listed a w :=
  ⟨(fun h0 => by rw [hr] at h0; cases h0), fun j hj => by
    rw [hr] at hj
    obtain rfl := List.mem_singleton.1 hj
    unfold wpOp
    simp only [hi, hw, if_true]
    exact .inl (h _ (fun a' w' h1 h2 => ⟨h1, h2 h1⟩))⟩
theorem done {f : Nat} {listed : Array Bool} {a : Act} {w : World} (hr : Region.ready md ops listed = []) (h : Q .normal a w) : Ahead P md ops (Nrm Q) S L f listed a w := by
  cases f with
  | zero => exact ⟨hr, h⟩
  | succ f => exact ⟨fun _ => h, by rw [hr]; simp⟩
end Go.Proofs.YtjblkmjdepdekaaDoor.Ht

/- disks in memory: sectors, writings that wait; Down, Up, Len, has -/
namespace Go.Proofs.YtjblkmjdepdekaaDoor.Dk
open Go.RowKit Go.Lib Go.Proofs.YtjblkmjdepdekaaDoor.By Go.Proofs.YtjblkmjdepdekaaDoor.Ht

/-- a writing: where, and 64 bytes -/
abbrev Wr := Nat × List UInt8
def wcell (x : Wr) : List Value := .int .i64 (x.1 : Nat) :: byteCells x.2
def wcells (W : List Wr) : List Value := W.flatMap wcell
/-- a sector of bytes in a row -/
def getS (F : List UInt8) (k : Nat) : List UInt8 := (F.drop (64 * k)).take 64
def setS (F : List UInt8) (k : Nat) (b : List UInt8) : List UInt8 := F.take (64 * k) ++ b ++ F.drop (64 * k + 64)

structure IsDk (w : World) (B bd gs cs gn cn : Nat) (vw : Value) (n : Nat) (F G : List UInt8) (W : List Wr) (dn : Bool) : Prop where
  blk : w.heap[bd]? = some (.cells #[.slice (some ⟨gs, 0, none⟩) n cs, .slice (some ⟨gn, 0, none⟩) n cn, vw, .bool dn] 63 (0, 0))
  os : w.ownsRow B 79 64 (.slice (some ⟨gs, 0, none⟩) n cs) n (byteCells F)
  on : w.ownsRow B 79 64 (.slice (some ⟨gn, 0, none⟩) n cn) n (byteCells G)
  ow : w.ownsRow B 81 65 vw W.length (wcells W)
  ne : gs ≠ gn
  n1 : 1 ≤ n
  n2 : n ≤ 4096
  hw : ∀ x ∈ W, x.1 < n ∧ x.2.length = 64
  hb : B ≤ bd
/-- the blocks of a disk -/
def Foot (bd gs gn : Nat) (vw : Value) (k : Nat) : Prop := k = bd ∨ k = gs ∨ k = gn ∨ some k = vw.ownBlock
/-- but for some blocks all lies as it lay -/
structure Fr (p : Nat → Prop) (w w' : World) : Prop where
  os : w'.os = w.os
  tape : w'.tape = w.tape
  output : w'.output = w.output
  size : w.heap.size ≤ w'.heap.size
  block : ∀ k, k < w.heap.size → ¬ p k → w'.heap[k]? = w.heap[k]?
theorem Fr.refl (p : Nat → Prop) (w : World) : Fr p w w := ⟨rfl, rfl, rfl, Nat.le_refl _, fun _ _ _ => rfl⟩
theorem Fr.trans {p : Nat → Prop} {a b c : World} (h : Fr p a b) (k : Fr p b c) : Fr p a c :=
  ⟨k.os.trans h.os, k.tape.trans h.tape, k.output.trans h.output, Nat.le_trans h.size k.size, fun i h1 h2 => (k.block i (Nat.lt_of_lt_of_le h1 h.size) h2).trans (h.block i h1 h2)⟩
theorem Fr.mono {p q : Nat → Prop} {a b : World} (h : Fr p a b) (hp : ∀ k, k < a.heap.size → p k → q k) : Fr q a b := ⟨h.os, h.tape, h.output, h.size, fun k h1 h2 => h.block k h1 (fun hk => h2 (hp k h1 hk))⟩
theorem Fr.of {p : Nat → Prop} {a b : World} (h : Below a.heap.size a b) : Fr p a b := ⟨h.os, h.tape, h.output, h.size, fun k hk _ => h.block k hk⟩
theorem Fr.setCell {p : Nat → Prop} {a b : World} (h : Fr p a b) {q o : Nat} (hq : p q ∨ a.heap.size ≤ q) (v : Value) : Fr p a (b.setCell ⟨q, o, none⟩ v) := by
  have h0 : Below 0 b (b.setCell ⟨q, o, none⟩ v) := (Below.refl 0 _).setCell (p := ⟨q, o, none⟩) (Nat.zero_le _) v
  refine ⟨h0.os.trans h.os, h0.tape.trans h.tape, h0.output.trans h.output, Nat.le_trans h.size h0.size, fun k h1 h2 => ?_⟩
  have hk : k ≠ q := fun e => by subst e; rcases hq with hq | hq; exact h2 hq; omega
  exact (Below.heap_setCell b _ _ k (by simpa using hk)).trans (h.block k h1 h2)
theorem Fr.below {p : Nat → Prop} {a b : World} (h : Fr p a b) {B : Nat} (hB : B ≤ a.heap.size) (hp : ∀ k, p k → B ≤ k) : Below B a b :=
  ⟨h.os, h.tape, h.output, h.size, fun k hk => h.block k (by omega) (fun e => by have := hp k e; omega)⟩

theorem four_cells {w : World} {b : Nat} {v0 v1 v2 v3 : Value} {t : TypeId} (h : w.heap[b]? = some (.cells #[v0, v1, v2, v3] t (0, 0))) :
    (w.cell? ⟨b, 0, none⟩ = some v0 ∧ w.cell? ⟨b, 1, none⟩ = some v1 ∧ w.cell? ⟨b, 2, none⟩ = some v2 ∧ w.cell? ⟨b, 3, none⟩ = some v3) ∧ w.frozen? ⟨b, 0, none⟩ = false ∧ w.frozen? ⟨b, 1, none⟩ = false ∧ w.frozen? ⟨b, 2, none⟩ = false ∧ w.frozen? ⟨b, 3, none⟩ = false := by
  refine ⟨⟨?_, ?_, ?_, ?_⟩, ?_, ?_, ?_, ?_⟩ <;> simp [World.cell?, World.frozen?, h]

section
variable {w : World} {B bd gs cs gn cn n : Nat} {vw : Value} {F G : List UInt8} {W : List Wr} {dn : Bool}
theorem down_any (h : IsDk w B bd gs cs gn cn vw n F G W dn) : Calls Tryd.prog 42 #[.pointer (some ⟨bd, 0, none⟩)] w fun e w' => e = .returned (.bool dn) ∧ w = w' := by
  obtain ⟨⟨_, _, _, c3⟩, _⟩ := four_cells h.blk
  clear h
  go_enter Tryd.func42, Tryd.ntmps42
  go_wp2_with fail
  go_ret
  exact ⟨rfl, rfl⟩
theorem down_nil (w : World) : Calls Tryd.prog 42 #[.pointer none] w fun e w' => e = .returned (.bool true) ∧ w = w' := by
  go_enter Tryd.func42, Tryd.ntmps42
  go_wp2_with fail
  go_ret
  exact ⟨rfl, rfl⟩
theorem len_any (h : IsDk w B bd gs cs gn cn vw n F G W dn) : Calls Tryd.prog 22 #[.pointer (some ⟨bd, 0, none⟩)] w fun e w' => e = .returned (.int .i64 (n : Nat)) ∧ w = w' := by
  obtain ⟨⟨_, c1, _, _⟩, _⟩ := four_cells h.blk
  clear h
  go_enter Tryd.func22, Tryd.ntmps22
  go_wp2_with fail
  go_ret
  exact ⟨rfl, rfl⟩
theorem len_nil (w : World) : Calls Tryd.prog 22 #[.pointer none] w fun e w' => e = .returned (.int .i64 0) ∧ w = w' := by
  go_enter Tryd.func22, Tryd.ntmps22
  go_wp2_with fail
  go_ret
  exact ⟨rfl, rfl⟩
theorem up_nil (w : World) : Calls Tryd.prog 17 #[.pointer none] w fun e w' => e = .returned (.tuple #[]) ∧ w = w' := by
  go_enter Tryd.func17, Tryd.ntmps17
  go_wp2_with fail
  go_end0
  exact ⟨rfl, rfl⟩
end
end Go.Proofs.YtjblkmjdepdekaaDoor.Dk

/- disks: Up, has, New -/
namespace Go.Proofs.YtjblkmjdepdekaaDoor.Dk
open Go.RowKit Go.Lib Go.Proofs.YtjblkmjdepdekaaDoor.By Go.Proofs.YtjblkmjdepdekaaDoor.Ht
section
variable {w : World} {B bd gs cs gn cn n : Nat} {vw : Value} {F G : List UInt8} {W : List Wr} {dn : Bool}

theorem own_other {w w' : World} {B : Nat} {e : TypeId} {k n : Nat} {v : Value} {xs : List Value} (h : w.ownsRow B e k v n xs) (hb : ∀ g, v.ownBlock = some g → w'.heap[g]? = w.heap[g]?) : w'.ownsRow B e k v n xs := by
  refine ⟨h.1, ?_⟩
  rcases h.2 with h1 | ⟨g, cap, cur, h1, h2, h3, h4⟩
  · exact .inl h1
  · exact .inr ⟨g, cap, cur, h1, h2, (hb g (by rw [h1]; rfl)).trans h3, h4⟩
theorem own_type {w : World} {B : Nat} {e : TypeId} {k n : Nat} {v : Value} {xs : List Value} (h : w.ownsRow B e k v n xs) {g : Nat} (hg : v.ownBlock = some g) : ∃ cur, w.heap[g]? = some (.cells cur e (0, 0)) := by
  rcases h.2 with ⟨rfl, _⟩ | ⟨g', cap, cur, rfl, h2, h3, h4⟩
  · simp [Value.ownBlock] at hg
  · simp [Value.ownBlock] at hg; subst hg; exact ⟨cur, h3⟩
theorem own_not {w : World} {B : Nat} {e t : TypeId} {k n q : Nat} {v : Value} {xs : List Value} {C : Array Value} {fr : Nat × Nat} (h : w.ownsRow B e k v n xs) (hq : w.heap[q]? = some (.cells C t fr)) (hne : e ≠ t) : ∀ g, v.ownBlock = some g → g ≠ q := by
  intro g hg e1
  obtain ⟨cur, hc⟩ := own_type h hg
  rw [e1, hq] at hc
  simp at hc
  exact hne hc.2.1.symm
/-- a disk that is not touched -/
theorem IsDk.other {w' : World} (h : IsDk w B bd gs cs gn cn vw n F G W dn) (hb : ∀ k, k < w.heap.size → Foot bd gs gn vw k → w'.heap[k]? = w.heap[k]?) : IsDk w' B bd gs cs gn cn vw n F G W dn :=
  ⟨(hb bd (lt_of_block h.blk) (.inl rfl)).trans h.blk, own_other h.os (fun g hg => hb g (h.os.lt g hg).2 (.inr (.inl (by simpa [Value.ownBlock] using hg.symm)))),
    own_other h.on (fun g hg => hb g (h.on.lt g hg).2 (.inr (.inr (.inl (by simpa [Value.ownBlock] using hg.symm))))), own_other h.ow (fun g hg => hb g (h.ow.lt g hg).2 (.inr (.inr (.inr hg.symm)))), h.ne, h.n1, h.n2, h.hw, h.hb⟩
theorem IsDk.old {w' : World} (h : IsDk w B bd gs cs gn cn vw n F G W dn) (hb : Below w.heap.size w w') : IsDk w' B bd gs cs gn cn vw n F G W dn := h.other fun k hk _ => hb.block k hk
theorem IsDk.fr {w' : World} {p : Nat → Prop} (h : IsDk w B bd gs cs gn cn vw n F G W dn) (hb : Fr p w w') (hp : ∀ k, Foot bd gs gn vw k → ¬ p k) : IsDk w' B bd gs cs gn cn vw n F G W dn := h.other fun k hk hf => hb.block k hk (hp k hf)
/-- the disk's own cells are stored -/
theorem IsDk.cell3 (h : IsDk w B bd gs cs gn cn vw n F G W dn) (d : Bool) : IsDk (w.setCell ⟨bd, 3, none⟩ (.bool d)) B bd gs cs gn cn vw n F G W d := by
  have hk : ∀ k, k ≠ bd → (w.setCell ⟨bd, 3, none⟩ (.bool d)).heap[k]? = w.heap[k]? := fun k hk => heap_setCell_other w _ k _ hk
  refine ⟨?_, own_other h.os (fun g hg => hk g (own_not h.os h.blk (by decide) g hg)), own_other h.on (fun g hg => hk g (own_not h.on h.blk (by decide) g hg)), own_other h.ow (fun g hg => hk g (own_not h.ow h.blk (by decide) g hg)), h.ne, h.n1, h.n2, h.hw, h.hb⟩
  have := heap_setCell_same w bd 3 _ _ (.bool d) h.blk
  simpa using this
theorem IsDk.nowait (h : IsDk w B bd gs cs gn cn vw n F G W dn) : IsDk (w.setCell ⟨bd, 2, none⟩ (.slice none 0 0)) B bd gs cs gn cn (.slice none 0 0) n F G [] dn := by
  have hk : ∀ k, k ≠ bd → (w.setCell ⟨bd, 2, none⟩ (.slice none 0 0)).heap[k]? = w.heap[k]? := fun k hk => heap_setCell_other w _ k _ hk
  refine ⟨?_, own_other h.os (fun g hg => hk g (own_not h.os h.blk (by decide) g hg)), own_other h.on (fun g hg => hk g (own_not h.on h.blk (by decide) g hg)), World.ownsRow_nil _ _ _ _, h.ne, h.n1, h.n2, by simp, h.hb⟩
  have := heap_setCell_same w bd 2 _ _ (.slice none 0 0) h.blk
  simpa using this

theorem up_any (h : IsDk w B bd gs cs gn cn vw n F G W dn) : Calls Tryd.prog 17 #[.pointer (some ⟨bd, 0, none⟩)] w fun e w' => e = .returned (.tuple #[]) ∧ IsDk w' B bd gs cs gn cn vw n F G W false ∧ Fr (Foot bd gs gn vw) w w' ∧ w'.heap.size = w.heap.size := by
  obtain ⟨⟨_, _, _, c3⟩, _, _, _, f3⟩ := four_cells h.blk
  have hr := h.cell3 false
  have H := Lib.hid hr
  clear h hr
  go_enter Tryd.func17, Tryd.ntmps17
  go_wp2_with fail
  go_end0
  exact ⟨rfl, H.out, (Fr.refl _ _).setCell (.inl (.inl rfl)) _, by simp⟩

/-- are there so many sectors from one on? -/
def hasB (n : Nat) (i m : Int) : Bool := decide (0 ≤ i) && decide (0 ≤ m) && decide (m ≤ (n : Int) - i)
theorem has_any (h : IsDk w B bd gs cs gn cn vw n F G W dn) (i m : Int) (hi : i ≤ 9223372036854775807) :
    Calls Tryd.prog 43 #[.pointer (some ⟨bd, 0, none⟩), .int .i64 i, .int .i64 m] w fun e w' => e = .returned (.bool (hasB n i m)) ∧ w = w' := by
  obtain ⟨⟨_, c1, _, _⟩, _⟩ := four_cells h.blk
  have hn := h.n2
  clear h
  by_cases h1 : 0 ≤ i
  · by_cases h2 : 0 ≤ m
    · have e0 : decide (i ≥ 0) = true := by simpa using h1
      have e1 : decide (m ≥ 0) = true := by simpa using h2
      have e2 : wrap64 ((n : Int) - i) = (n : Int) - i := by unfold wrap64; omega
      have e3 : hasB n i m = decide (m ≤ (n : Int) - i) := by unfold hasB; simp [h1, h2]
      have HE := Lib.hid e3
      clear e3 e2
      have b1 : (n : Int) ≤ 4096 := by omega
      go_enter Tryd.func43, Tryd.ntmps43
      go_wp2_with fail
      rw [HE.out]
      go_ret
      exact ⟨rfl, rfl⟩
    · have e0 : decide (i ≥ 0) = true := by simpa using h1
      have e1 : decide (m ≥ 0) = false := by simpa using h2
      have e3 : hasB n i m = false := by unfold hasB; simp [h2]
      rw [e3]
      clear e3
      go_enter Tryd.func43, Tryd.ntmps43
      go_wp2_with fail
      go_ret
      exact ⟨rfl, rfl⟩
  · have e0 : decide (i ≥ 0) = false := by simpa using h1
    have e3 : hasB n i m = false := by unfold hasB; simp [h1]
    rw [e3]
    clear e3
    go_enter Tryd.func43, Tryd.ntmps43
    go_wp2_with fail
    go_ret
    exact ⟨rfl, rfl⟩
end
end Go.Proofs.YtjblkmjdepdekaaDoor.Dk

/- disks: New -/
namespace Go.Proofs.YtjblkmjdepdekaaDoor.Dk
open Go.RowKit Go.Lib Go.Proofs.YtjblkmjdepdekaaDoor.By Go.Proofs.YtjblkmjdepdekaaDoor.Ht

theorem info79 : (Tryd.prog.info? 79).map (fun i => (i.zero, i.size, i.bytes)) = some (some (.agg (Array.replicate 64 (.int .u8 0))), 64, 64) := by kernel_rfl
theorem zeros_made (n : Nat) : (madeCells (Array.replicate 64 (Value.int .u8 0)) (n * 64)).toList = byteCells (List.replicate (64 * n) 0) := by
  apply List.ext_getElem
  · simp [size_madeCells, byteCells]; omega
  · intro i h1 h2
    simp [madeCells, byteCells, List.getElem_map]
    have : i % 64 < 64 := Nat.mod_lt _ (by omega)
    rw [getElem!_pos _ _ (by simpa using this)]
    simp
theorem own_made {w : World} {B n : Nat} (hb : B ≤ w.heap.size) (hn : n ≤ 4096) :
    (w.alloc (.cells (madeCells (Array.replicate 64 (.int .u8 0)) (n * 64)) 79)).ownsRow B 79 64 (.slice (some ⟨w.heap.size, 0, none⟩) n n) n (byteCells (List.replicate (64 * n) 0)) := by
  refine ⟨by simp [byteCells]; omega, .inr ⟨_, _, _, rfl, hb, heap_alloc_new w _, Nat.le_refl _, by unfold maxLen; omega, size_madeCells _ _, ?_⟩⟩
  rw [zeros_made, List.take_of_length_le (by simp [byteCells]; omega)]
theorem make_sectors (w : World) {n : Nat} (hn : n ≤ 4096) : (Instr.makeSlice 60 (.int .i64 (n : Nat)) (.int .i64 (n : Nat))).run Tryd.prog w =
    .ok (.slice (some ⟨w.heap.size, 0, none⟩) n n) (w.alloc (.cells (madeCells (Array.replicate 64 (.int .u8 0)) (n * 64)) 79)) := by
  obtain ⟨i0, hi, hz0, hz1, hz2⟩ := info_parts info79
  have hr := run_make (P := Tryd.prog) w 60 79 i0 _ Tryd.underlying60 hi hz0 .i64 .i64 n n (by omega) (by omega) (by rw [hz2]; omega) (by omega)
  rw [hz1, Int.toNat_natCast] at hr
  exact hr

theorem new_bad (n : Int) (w : World) (h : n < 1 ∨ 4096 < n) : Calls Tryd.prog 9 #[.int .i64 n] w fun e w' => e = .returned (.tuple #[.pointer none, .int .i64 1]) ∧ w = w' := by
  by_cases h1 : n < 1
  · go_enter Tryd.func9, Tryd.ntmps9
    go_wp2_with fail
    go_ret2
    exact ⟨rfl, rfl⟩
  · have h2 : 4096 < n := by omega
    have e1 : decide (n > 4096) = true := by simpa using h2
    have e0 : decide (n < 1) = false := by simpa using h1
    clear h h1
    go_enter Tryd.func9, Tryd.ntmps9
    go_wp2_with fail
    go_ret2
    exact ⟨rfl, rfl⟩

/-- two rows and a box make a disk -/
theorem made_dk {w : World} {N n gs gn : Nat} {W2 : World} (hn : 1 ≤ n ∧ n ≤ 4096) (hN : N ≤ w.heap.size)
    (h : W2 = (w.alloc (.cells (madeCells (Array.replicate 64 (.int .u8 0)) (n * 64)) 79)).alloc (.cells (madeCells (Array.replicate 64 (.int .u8 0)) (n * 64)) 79))
    (hg : gs = w.heap.size ∧ gn = w.heap.size + 1 ∨ gs = w.heap.size + 1 ∧ gn = w.heap.size) :
    IsDk (W2.alloc (.cells #[.slice (some ⟨gs, 0, none⟩) n n, .slice (some ⟨gn, 0, none⟩) n n, .slice none 0 0, .bool false] 63)) N (w.heap.size + 2) gs n gn n (.slice none 0 0) n (List.replicate (64 * n) 0) (List.replicate (64 * n) 0) [] false ∧
      Below w.heap.size w (W2.alloc (.cells #[.slice (some ⟨gs, 0, none⟩) n n, .slice (some ⟨gn, 0, none⟩) n n, .slice none 0 0, .bool false] 63)) := by
  have hz : W2.heap.size = w.heap.size + 2 := by rw [h]; simp
  have o1 : W2.ownsRow N 79 64 (.slice (some ⟨w.heap.size, 0, none⟩) n n) n (byteCells (List.replicate (64 * n) 0)) := by
    rw [h]; exact (own_made hN hn.2).alloc _
  have o2 : W2.ownsRow N 79 64 (.slice (some ⟨w.heap.size + 1, 0, none⟩) n n) n (byteCells (List.replicate (64 * n) 0)) := by
    have := own_made (w := w.alloc (.cells (madeCells (Array.replicate 64 (.int .u8 0)) (n * 64)) 79)) (B := N) (n := n) (by simp; omega) hn.2
    rw [World.size_alloc] at this
    rw [h]; exact this
  refine ⟨⟨?_, ?_, ?_, World.ownsRow_nil _ _ _ _, ?_, hn.1, hn.2, by simp, by omega⟩, ?_⟩
  · have := heap_alloc_new W2 (.cells #[.slice (some ⟨gs, 0, none⟩) n n, .slice (some ⟨gn, 0, none⟩) n n, .slice none 0 0, .bool false] 63)
    rwa [hz] at this
  · rcases hg with ⟨rfl, rfl⟩ | ⟨rfl, rfl⟩
    · exact o1.alloc _
    · exact o2.alloc _
  · rcases hg with ⟨rfl, rfl⟩ | ⟨rfl, rfl⟩
    · exact o2.alloc _
    · exact o1.alloc _
  · rcases hg with ⟨rfl, rfl⟩ | ⟨rfl, rfl⟩ <;> omega
  · rw [h]; exact (((Below.refl _ _).alloc (Nat.le_refl _) _).alloc (by simp) _).alloc (by simp; omega) _
set_option maxHeartbeats 1000000 in
theorem new_any (n : Nat) (w : World) (hn : 1 ≤ n ∧ n ≤ 4096) : Calls Tryd.prog 9 #[.int .i64 (n : Nat)] w fun e w' =>
    ∃ bd gs gn, e = .returned (.tuple #[.pointer (some ⟨bd, 0, none⟩), .int .i64 0]) ∧ IsDk w' w.heap.size bd gs n gn n (.slice none 0 0) n (List.replicate (64 * n) 0) (List.replicate (64 * n) 0) [] false ∧ Below w.heap.size w w' := by
  have hmk := fun W => make_sectors W hn.2
  have e0 : decide ((n : Int) < 1) = false := by simp; omega
  have e1 : decide ((n : Int) > 4096) = false := by simp; omega
  have HN := Lib.hid hn
  clear hn
  obtain ⟨Z, hZ⟩ : ∃ z, z = madeCells (Array.replicate 64 (Value.int .u8 0)) (n * 64) := ⟨_, rfl⟩
  rw [← hZ] at hmk
  have HZ := Lib.hid hZ
  clear hZ
  go_enter Tryd.func9, Tryd.ntmps9
  go_wp2_with fail
  go_region_with fail
  all_goals
    go_wp2_with fail
    go_ret2
    rw [HZ.out]
    first
      | exact ⟨w.heap.size + 2, w.heap.size, w.heap.size + 1, rfl, (made_dk HN.out (Nat.le_refl _) rfl (.inl ⟨rfl, rfl⟩)).1.other (fun _ _ _ => rfl), (made_dk HN.out (Nat.le_refl _) rfl (.inl ⟨rfl, rfl⟩)).2.drew⟩
      | exact ⟨w.heap.size + 2, w.heap.size + 1, w.heap.size, rfl, (made_dk HN.out (Nat.le_refl _) rfl (.inr ⟨rfl, rfl⟩)).1.other (fun _ _ _ => rfl), (made_dk HN.out (Nat.le_refl _) rfl (.inr ⟨rfl, rfl⟩)).2.drew⟩
end Go.Proofs.YtjblkmjdepdekaaDoor.Dk

/- an append to a row of one's own: the row stays where it is, or lies in a new block (of no program) -/
namespace Go.Proofs.YtjblkmjdepdekaaDoor.Ao
open Go.RowKit
variable {P : Program} (w : World)
theorem run_append_own_new (base : Nat) (t ty e : TypeId) (i : TypeInfo) (z : Value) (size bytes : Nat) (ht : P.underlying t = some (.slice e)) (hi : P.info? e = some i) (hz : i.zero = some z)
    (hsize : i.size = size) (hby : i.bytes = bytes) (hzs : z.cells.size = size) (hsz : 0 < size)
    (v : Value) (n : Nat) (xs : List Value) (hown : w.ownsRow base e size v n xs)
    (a : Addr) (m c : Nat) (news : List Value) (hl : news.length = m * size) (hnews : ∀ j u, news[j]? = some u → w.cell? (a.add j) = some u) (h1 : ∀ u ∈ news, u.oneCell' = true)
    (h63 : n + m ≤ maxLen) (hbytes : (n + m) * bytes ≤ 140737488355328) (hbase : base ≤ w.heap.size) :
    ∃ v' w', (Builtin.append_ #[t, t] ty #[v, .slice (some a) m c]).run P w = .ok v' w' ∧ w'.ownsRow base e size v' (n + m) (xs ++ news) ∧ w.grownBy w' v.ownBlock ∧
      (v'.ownBlock = v.ownBlock ∨ ∃ g, v'.ownBlock = some g ∧ w.heap.size ≤ g) := by
  obtain ⟨v', w', hr, h2, h3, _⟩ := run_append_own (P := P) w base t ty e i z size bytes ht hi hz hsize hby hzs hsz v n xs hown a m c news hl hnews h1 h63 hbytes hbase
  refine ⟨v', w', hr, h2, h3, ?_⟩
  rcases hown.2 with ⟨rfl, rfl⟩ | ⟨g, cap, cur, rfl, hbg, hg, hnc, hcm, hcs, htake⟩
  · have hx : xs = [] := List.eq_nil_of_length_eq_zero (by simpa using hown.1)
    subst hx
    obtain ⟨v2, w2, hr2, o2, _⟩ := run_append_own (P := P) w w.heap.size t ty e i z size bytes ht hi hz hsize hby hzs hsz _ 0 [] (World.ownsRow_nil w w.heap.size e size) a m c news hl hnews h1 h63 hbytes (Nat.le_refl _)
    rw [hr] at hr2
    obtain ⟨rfl, rfl⟩ := Result.ok.inj hr2
    cases hv : v'.ownBlock with
    | none => exact .inl rfl
    | some g => exact .inr ⟨g, rfl, (o2.lt g hv).1⟩
  · subst hsize
    subst hby
    have hsmall : n + m ≤ 9223372036854775807 := by simp only [maxLen] at h63; omega
    by_cases hroom : n + m ≤ cap
    · have hfit : n * i.size + news.length ≤ cur.size := by rw [hl, hcs, ← Nat.add_mul]; exact Nat.mul_le_mul_right _ hroom
      have hr2 := run_append_room (P := P) w t ty e i ht hi g n cap cur hg a m c news hl hnews h1 hroom hfit
      rw [hr] at hr2
      obtain ⟨rfl, _⟩ := Result.ok.inj hr2
      exact .inl rfl
    · have holds : ∀ j u, xs[j]? = some u → w.cell? ((⟨g, 0, none⟩ : Addr).add j) = some u := hown.cells (g := g) rfl
      have hr2 := run_append_grow (P := P) w t ty e i z ht hi hz ⟨g, 0, none⟩ n cap xs hown.1 holds a m c news hl hnews (by omega) (by omega) (growslice_fits (by omega) hbytes)
      rw [hr] at hr2
      obtain ⟨rfl, _⟩ := Result.ok.inj hr2
      exact .inr ⟨_, rfl, Nat.le_refl _⟩
theorem wp_append_own_new {o : Oper} {a : Act} {K : Act → World → Prop} {Q : Exit → Act → World → Prop} (s x : Operand) (t : TypeId)
    (ho : o.op = .call { callee := .builtin .append, args := #[s, x], argTypes := #[t, t] })
    (base : Nat) (e : TypeId) (i : TypeInfo) (z : Value) (size bytes : Nat) (ht : P.underlying t = some (.slice e)) (hi : P.info? e = some i) (hz : i.zero = some z)
    (hsize : i.size = size) (hby : i.bytes = bytes) (hzs : z.cells.size = size) (hsz : 0 < size)
    (v : Value) (n : Nat) (xs : List Value) (hs : a.eval s = v) (hown : w.ownsRow base e size v n xs)
    (ad : Addr) (m c : Nat) (news : List Value) (hx : a.eval x = .slice (some ad) m c) (hl : news.length = m * size) (hnews : ∀ j u, news[j]? = some u → w.cell? (ad.add j) = some u) (h1 : ∀ u ∈ news, u.oneCell' = true)
    (h63 : n + m ≤ maxLen) (hbytes : (n + m) * bytes ≤ 140737488355328) (hbase : base ≤ w.heap.size)
    (h : ∀ v' w', w'.ownsRow base e size v' (n + m) (xs ++ news) → w.grownBy w' v.ownBlock → (v'.ownBlock = v.ownBlock ∨ ∃ g, v'.ownBlock = some g ∧ w.heap.size ≤ g) → K (a.put o.dst v') w') : o.wp P a w K Q := by
  obtain ⟨v', w', hr, h2, h3, h4⟩ := run_append_own_new (P := P) w base t o.type e i z size bytes ht hi hz hsize hby hzs hsz v n xs hown ad m c news hl hnews h1 h63 hbytes hbase
  unfold Oper.wp execOp
  simp only [ho, resolve, invoke, builtin, Sem.run_bind, Sem.run_pure, Result.andThen_ok, List.map_toArray, List.map_cons, List.map_nil, hs, hx, hr]
  exact h v' w' h2 h3 h4
end Go.Proofs.YtjblkmjdepdekaaDoor.Ao

/- many cells of a block are stored; sectors of a row (of no program but By) -/
namespace Go.Proofs.YtjblkmjdepdekaaDoor.Dk
open Go.RowKit Go.Lib Go.Proofs.YtjblkmjdepdekaaDoor.By

theorem heap_setCells {g : Nat} {t : TypeId} : ∀ (vs : List Value) (o : Nat) (cur : Array Value) (w : World), w.heap[g]? = some (.cells cur t (0, 0)) → o + vs.length ≤ cur.size →
    (w.setCells g o vs).heap[g]? = some (.cells (cur.toList.take o ++ vs ++ cur.toList.drop (o + vs.length)).toArray t (0, 0))
  | [], o, cur, w, hg, _ => by
    rw [World.setCells, hg]
    simp
  | v :: vs, o, cur, w, hg, hl => by
    rw [World.setCells]
    have hl' : o + 1 + vs.length ≤ cur.size := by simp at hl; omega
    rw [heap_setCells vs (o + 1) (cur.setIfInBounds o v) _ (heap_setCell_same w g o cur t v hg) (by simpa using hl')]
    congr 3
    have ho : o < cur.toList.length := by simp; omega
    rw [Array.toList_setIfInBounds, List.take_succ_eq_append_getElem (by simpa using ho), List.getElem_set_self, List.take_set, List.set_eq_of_length_le (by simp [Nat.min_le_left]), List.drop_set_of_lt (by omega)]
    simp [Nat.add_assoc, Nat.add_comm 1]
theorem heap_setCells_other {g k : Nat} (hk : k ≠ g) : ∀ (vs : List Value) (o : Nat) (w : World), (w.setCells g o vs).heap[k]? = w.heap[k]?
  | [], _, _ => rfl
  | v :: vs, o, w => by
    rw [World.setCells, heap_setCells_other hk vs]
    exact heap_setCell_other w _ k _ hk
theorem setCells_below {B g : Nat} (hB : B ≤ g) : ∀ (vs : List Value) (o : Nat) (w : World), Below B w (w.setCells g o vs)
  | [], _, w => Below.refl _ _
  | v :: vs, o, w => by
    rw [World.setCells]
    exact ((Below.refl B w).setCell (p := ⟨g, o, none⟩) hB v).trans (setCells_below hB vs (o + 1) _)
theorem length_setS {F b : List UInt8} {k n : Nat} (hF : F.length = 64 * n) (hk : k < n) (hb : b.length = 64) : (setS F k b).length = 64 * n := by
  unfold setS; simp [hF, hb]; omega
theorem getS_same {F b : List UInt8} {k n : Nat} (hF : F.length = 64 * n) (hk : k < n) (hb : b.length = 64) : getS (setS F k b) k = b := by
  unfold getS setS
  have h1 : (F.take (64 * k)).length = 64 * k := by simp [hF]; omega
  rw [List.append_assoc, List.drop_left' h1, List.take_left' hb]
theorem getS_other {F b : List UInt8} {k j n : Nat} (hF : F.length = 64 * n) (hk : k < n) (hb : b.length = 64) (hj : j ≠ k) : getS (setS F k b) j = getS F j := by
  unfold getS setS
  apply List.ext_getElem?
  intro i
  by_cases hi : i < 64
  · rw [List.getElem?_take_of_lt hi, List.getElem?_take_of_lt hi, List.getElem?_drop, List.getElem?_drop]
    have h1 : (F.take (64 * k)).length = 64 * k := by simp [hF]; omega
    by_cases hlt : j < k
    · rw [List.append_assoc, List.getElem?_append_left (by omega), List.getElem?_take_of_lt (by omega)]
    · rw [List.getElem?_append_right (by simp only [List.length_append, h1, hb]; omega), List.getElem?_drop]
      congr 1
      simp only [List.length_append, h1, hb]; omega
  · rw [List.getElem?_eq_none (by simp; omega), List.getElem?_eq_none (by simp; omega)]
theorem byteCells_setS (F b : List UInt8) (k : Nat) : byteCells (setS F k b) = (byteCells F).take (64 * k) ++ byteCells b ++ (byteCells F).drop (64 * k + 64) := by
  unfold setS byteCells; simp [List.map_append, List.map_take, List.map_drop]
theorem seg_take {α : Type} {X b : List α} {o m N : Nat} (hb : b.length = m) (h : o + m ≤ N) (hN : N ≤ X.length) : (X.take o ++ b ++ X.drop (o + m)).take N = (X.take N).take o ++ b ++ (X.take N).drop (o + m) := by
  have hl : (X.take o ++ b).length = o + m := by simp [hb]; omega
  rw [List.take_append, List.take_of_length_le (l := X.take o ++ b) (by omega), hl, List.take_take, Nat.min_eq_left (by omega), List.drop_take]
theorem Fr.setCells {p : Nat → Prop} {a b : World} (h : Fr p a b) {g o : Nat} (hq : p g ∨ a.heap.size ≤ g) (vs : List Value) : Fr p a (b.setCells g o vs) := by
  have h0 : Below 0 b (b.setCells g o vs) := setCells_below (Nat.zero_le _) vs o b
  refine ⟨h0.os.trans h.os, h0.tape.trans h.tape, h0.output.trans h.output, Nat.le_trans h.size h0.size, fun k h1 h2 => ?_⟩
  have hk : k ≠ g := fun e => by subst e; rcases hq with hq | hq; exact h2 hq; omega
  exact (heap_setCells_other hk vs o b).trans (h.block k h1 h2)
theorem Fr.drew {p : Nat → Prop} {a b : World} (h : Fr p a b) : Fr p a b.drew := ⟨h.os, h.tape, h.output, h.size, h.block⟩
/-- a sector of an own row is stored -/
theorem own_sector {w : World} {B n cap g k : Nat} {e : TypeId} {F b : List UInt8} (h : w.ownsRow B e 64 (.slice (some ⟨g, 0, none⟩) n cap) n (byteCells F)) (hk : k < n) (hb : b.length = 64) :
    w.there g (k * 64) 64 ∧ (w.setCells g (k * 64) (byteCells b)).ownsRow B e 64 (.slice (some ⟨g, 0, none⟩) n cap) n (byteCells (setS F k b)) := by
  have hl := h.1
  have hF : F.length = 64 * n := by simp [byteCells] at hl; omega
  rcases h.2 with ⟨h1, _⟩ | ⟨g', cap', cur, h1, h2, h3, h4, h5, h6, h7⟩
  · simp at h1
  · simp only [Value.slice.injEq, Option.some.injEq, true_and] at h1
    obtain ⟨h0, rfl⟩ := h1
    simp at h0
    subst h0
    have hbl : (byteCells b).length = 64 := by simpa [byteCells] using hb
    have hsz : k * 64 + 64 ≤ cur.size := by rw [h6]; have : (k + 1) * 64 ≤ cap * 64 := Nat.mul_le_mul_right _ (by omega); omega
    refine ⟨fun j hj => ⟨?_, frozen_of_row w g _ cur e h3⟩, ?_, .inr ⟨g, cap, _, rfl, h2, heap_setCells (byteCells b) (k * 64) cur w h3 (by rw [hbl]; exact hsz), h4, h5, ?_, ?_⟩⟩
    · rw [cell_of_row w g _ cur e _ h3, Array.getElem?_eq_getElem (by omega)]; rfl
    · simp [byteCells, length_setS hF hk hb]; omega
    · simp [hbl]; omega
    · have hn : n * 64 ≤ cur.size := by rw [h6]; exact Nat.mul_le_mul_right _ h4
      rw [byteCells_setS, ← h7, hbl]
      show ((cur.toList.take (k * 64) ++ byteCells b ++ cur.toList.drop (k * 64 + 64)).take (n * 64)) = _
      rw [Nat.mul_comm 64 k]
      exact seg_take hbl (by omega) (by simpa using hn)
end Go.Proofs.YtjblkmjdepdekaaDoor.Dk

/- disks: Write -/
namespace Go.Proofs.YtjblkmjdepdekaaDoor.Dk
open Go.RowKit Go.Lib Go.Proofs.YtjblkmjdepdekaaDoor.By Go.Proofs.YtjblkmjdepdekaaDoor.Ht

/-- bytes, and the rest 0 -/
def full (l : List UInt8) : List UInt8 := l ++ List.replicate (64 - l.length) 0
theorem write_nil (w : World) (i : Int) (v : Value) : Calls Tryd.prog 24 #[.pointer none, .int .i64 i, v] w fun e w' => e = .returned (.int .i64 19) ∧ w = w' := by
  have HD := Lib.hid (down_nil w)
  go_enter Tryd.func24, Tryd.ntmps24
  go_wp2_with (go_at_call 42; refine HD.out.mono ?_; rintro e w' ⟨rfl, rfl⟩)
  go_ret
  exact ⟨rfl, rfl⟩
section
variable {w : World} {B bd gs cs gn cn n : Nat} {vw : Value} {F G : List UInt8} {W : List Wr}
theorem write_down (h : IsDk w B bd gs cs gn cn vw n F G W true) (i : Int) (v : Value) : Calls Tryd.prog 24 #[.pointer (some ⟨bd, 0, none⟩), .int .i64 i, v] w fun e w' => e = .returned (.int .i64 19) ∧ w = w' := by
  have HD := Lib.hid (down_any h)
  clear h
  go_enter Tryd.func24, Tryd.ntmps24
  go_wp2_with (go_at_call 42; refine HD.out.mono ?_; rintro e w' ⟨rfl, rfl⟩)
  go_ret
  exact ⟨rfl, rfl⟩
theorem write_range (h : IsDk w B bd gs cs gn cn vw n F G W false) (i : Int) (hi : i ≤ 9223372036854775807) (hb : hasB n i 1 = false) (v : Value) : Calls Tryd.prog 24 #[.pointer (some ⟨bd, 0, none⟩), .int .i64 i, v] w fun e w' => e = .returned (.int .i64 3) ∧ w = w' := by
  have HD := Lib.hid (down_any h)
  have HS := has_any h i 1 hi
  rw [hb] at HS
  have HS := Lib.hid HS
  clear h hb
  go_enter Tryd.func24, Tryd.ntmps24
  go_wp2_with (first | (go_at_call 42; refine HD.out.mono ?_; rintro e w' ⟨rfl, rfl⟩) | (go_at_call 43; refine HS.out.mono ?_; rintro e w' ⟨rfl, rfl⟩))
  go_ret
  exact ⟨rfl, rfl⟩
theorem has_one (i : Nat) (h : i < n) : hasB n i 1 = true := by unfold hasB; simp; omega
theorem write_long (h : IsDk w B bd gs cs gn cn vw n F G W false) (i : Nat) (hi : i < n) (a : Option Addr) (len cap : Nat) (hl : 64 < len) (hm : len ≤ maxLen) : Calls Tryd.prog 24 #[.pointer (some ⟨bd, 0, none⟩), .int .i64 (i : Nat), .slice a len cap] w fun e w' => e = .returned (.int .i64 15) ∧ w = w' := by
  have HD := Lib.hid (down_any h)
  have HS := has_any h i 1 (by have := h.n2; omega)
  rw [has_one i hi] at HS
  have HS := Lib.hid HS
  unfold maxLen at hm
  clear h
  go_enter Tryd.func24, Tryd.ntmps24
  go_wp2_with (first | (go_at_call 42; refine HD.out.mono ?_; rintro e w' ⟨rfl, rfl⟩) | (go_at_call 43; refine HS.out.mono ?_; rintro e w' ⟨rfl, rfl⟩))
  go_ret
  exact ⟨rfl, rfl⟩
/-- a writing of nothing -/
def Zl (v : Value) : List Value := v :: List.replicate 64 (.int .u8 0)
theorem info81 : (Tryd.prog.info? 81).map (fun i => (i.zero, i.size, i.bytes)) = some (some (.agg (Zl (.int .i64 0)).toArray), 65, 72) := by kernel_rfl
theorem zero_writing (w : World) : (zeroValue 81).run Tryd.prog w = .ok (.agg (Zl (.int .i64 0)).toArray) w := by
  obtain ⟨i0, hi, hz0, hz1, hz2⟩ := info_parts info81
  simp [zeroValue, typeInfo, hi, hz0]
theorem length_full {l : List UInt8} (h : l.length ≤ 64) : (full l).length = 64 := by unfold full; simp; omega
theorem splice_gen {v z : Value} {cs : List Value} (m : Nat) : splice (v :: List.replicate m z) 1 cs = v :: (cs ++ List.replicate (m - cs.length) z) := by
  unfold splice
  rw [List.take_succ_cons, List.take_zero, Nat.add_comm 1, List.drop_succ_cons, List.drop_replicate]
  rfl
theorem splice_full {v : Value} {l : List UInt8} : splice (Zl v) 1 (byteCells l) = v :: byteCells (full l) := by
  unfold Zl full
  rw [splice_gen]
  simp [byteCells, List.map_append, List.map_replicate]
theorem range_all' {w : World} {q m : Nat} {cs : List Value} {t : TypeId} {fr : Nat × Nat} (h : w.heap[q]? = some (.cells cs.toArray t fr)) (hm : cs.length = m) : w.rangeAt q 0 cs := by
  have := World.rangeAt_of_block h 0 m
  rwa [show (cs.toArray.extract 0 (0 + m)).toList = cs by simp [← hm]] at this
theorem range_tail {w : World} {q m : Nat} {v : Value} {cs : List Value} {t : TypeId} {fr : Nat × Nat} (h : w.heap[q]? = some (.cells (v :: cs).toArray t fr)) (hm : cs.length = m) : w.rangeAt q 1 cs := by
  have := World.rangeAt_of_block h 1 m
  rwa [show ((v :: cs).toArray.extract 1 (1 + m)).toList = cs by simp [← hm, List.take_of_length_le]] at this
theorem fill_one {cs : List Value} {Z : Array Value} (h : cs.length = 65) (hZ : Z.size = 65) : Instr.fill (fun i => some (i * 65, 65)) Z [(0, .agg cs.toArray)] = some cs.toArray := by
  have := Great.fill_whole (s := 65) (by decide) [.agg cs.toArray] Z (by intro v hv; obtain rfl := List.mem_singleton.1 hv; simpa [Value.cells] using h) (by simp [hZ])
  simpa [Value.cells] using this
/-- bytes are copied into a block, from its second cell on -/
theorem copy_into (W : World) {g len cap : Nat} {t : TypeId} {Yl : List Value} {a : Option Addr} {l : List UInt8} (hg : W.heap[g]? = some (.cells Yl.toArray t (0, 0))) (hY : Yl.length = 65) (hb : IsB W a len cap l) (hl : len ≤ 64) :
    ∃ W', (Builtin.copy_ #[32, 32] 3 #[.slice (some ⟨g, 1, none⟩) 64 64, .slice a len cap]).run Tryd.prog W = .ok (goInt len) W' ∧ W'.heap[g]? = some (.cells (splice Yl 1 (byteCells l)).toArray t (0, 0)) ∧
      (∀ B, B ≤ g → Below B W W') := by
  obtain ⟨i0, hi, hz0, hz1, hz2⟩ := info_parts info5
  obtain ⟨rfl, h2 | ⟨x, rfl, h3, h4, h5⟩⟩ := hb
  · obtain ⟨rfl, h3, rfl⟩ := h2
    have hl0 : l = [] := List.eq_nil_of_length_eq_zero h3
    subst hl0
    refine ⟨W, run_copy_none W _ _ _ 5 _ _ _ _ _ _ Tryd.underlying32 (by simp [hi, hz1]) (by simp), ?_, fun B _ => Below.refl _ _⟩
    rw [hg]; unfold splice; simp only [byteCells, List.map_nil, List.nil_append, List.length_nil, Nat.add_zero, List.take_append_drop]
  · have hr := run_copy_row (P := Tryd.prog) W 32 32 3 5 g 1 64 64 x l.length cap Yl.toArray t (byteCells l) Tryd.underlying32 (by simp [hi, hz1]) hg (by simp only [byteCells, List.length_map]; exact (Nat.min_eq_left hl).symm) h5 (by simp [byteCells, hY]; omega) (bytes_one l)
    refine ⟨W.setRow g (splice Yl 1 (byteCells l)).toArray, ?_, setRow_heap W g Yl.toArray _ t (0, 0) hg, fun B hB => below_setRow (Below.refl _ _) hB _⟩
    simpa [splice, byteCells] using hr
set_option maxRecDepth 20000 in
set_option maxHeartbeats 1000000 in
theorem write_ok (h : IsDk w B bd gs cs gn cn vw n F G W false) (i : Nat) (hi : i < n) (a : Option Addr) (len cap : Nat) (l : List UInt8) (hl : len ≤ 64) (hb : IsB w a len cap l) (hWl : W.length ≤ 1000000) : Calls Tryd.prog 24 #[.pointer (some ⟨bd, 0, none⟩), .int .i64 (i : Nat), .slice a len cap] w fun e w' =>
    e = .returned (.int .i64 0) ∧ (∃ vw', IsDk w' B bd gs cs gn cn vw' n F (setS G i (full l)) (W ++ [(i, full l)]) false ∧ (vw'.ownBlock = vw.ownBlock ∨ ∃ g, vw'.ownBlock = some g ∧ w.heap.size ≤ g)) ∧ Fr (Foot bd gs gn vw) w w' := by
  obtain rfl : l.length = len := hb.1
  have HD := Lib.hid (down_any h)
  have HS := has_any h i 1 (by have := h.n2; omega)
  rw [has_one i hi] at HS
  have HS2 := Lib.hid HS
  have hz0 := zero_writing
  obtain ⟨Z, hZ⟩ : ∃ Z, Z = (Zl (.int .i64 0)).toArray := ⟨_, rfl⟩
  rw [← hZ] at hz0
  have z1 : (Z = #[]) = False := by rw [hZ]; simp [Zl]
  obtain ⟨Y, hY⟩ : ∃ Y, Y = (Zl (.int .i64 (i : Nat))).toArray := ⟨_, rfl⟩
  have z2 : Z.setIfInBounds 0 (.int .i64 (i : Nat)) = Y := by rw [hZ, hY]; simp [Zl]
  have hst : ((w.alloc (.cells Z 81)).setRow w.heap.size Y).heap[w.heap.size]? = some (.cells Y 81 (0, 0)) := setRow_heap _ _ _ _ _ _ (heap_alloc_new w _)
  have hbs : Below w.heap.size w ((w.alloc (.cells Z 81)).setRow w.heap.size Y) := below_setRow ((Below.refl _ _).alloc (Nat.le_refl _) _) (Nat.le_refl _) _
  have hYs : Y.size = 65 := by rw [hY]; simp [Zl]
  have hsc : (storeCells ⟨w.heap.size, 0, none⟩ Y.toList).run Tryd.prog (w.alloc (.cells Z 81)) = .ok () ((w.alloc (.cells Z 81)).setRow w.heap.size Y) := by
    have := run_storeCells_from (P := Tryd.prog) w.heap.size 81 Y.toList 0 Z (w.alloc (.cells Z 81)) (heap_alloc_new w _) (by rw [hY, hZ]; simp [Zl]) (by
      rw [hY]; intro v hv; simp [Zl] at hv; rcases hv with rfl | ⟨_, rfl⟩ <;> rfl)
    simpa using this
  have HW0 := Lib.hid (And.intro hst (And.intro hbs (And.intro (heap_alloc_new w (.cells Z 81)) (And.intro hZ hY))))
  obtain ⟨W3, hcp, hg3, hb3⟩ := copy_into ((w.alloc (.cells Z 81)).setRow w.heap.size Y) (by rw [hst, hY]) (by simp [Zl]) (hb.old hbs) hl
  rw [splice_full] at hg3
  have HW3 := Lib.hid (And.intro hg3 (hbs.trans (hb3 _ (Nat.le_refl _))))
  have HH := Lib.hid (And.intro h hb)
  clear h hb HS hZ hY hst hbs hg3 hb3
  go_enter Tryd.func24, Tryd.ntmps24
  go_wp2_with (first | (go_at_call 42; refine HD.out.mono ?_; rintro e w' ⟨rfl, rfl⟩) | (go_at_call 43; refine HS2.out.mono ?_; rintro e w' ⟨rfl, rfl⟩))
  have hmix : Tryd.prog.follows .mixedOrders = true := by kernel_rfl
  have hbd3 : W3.heap[bd]? = w.heap[bd]? := HW3.out.2.block bd (lt_of_block HH.out.1.blk)
  obtain ⟨q, hq⟩ : ∃ q, q = w.heap.size := ⟨_, rfl⟩
  have hS3 : W3.heap[bd]? = some (.cells #[.slice (some ⟨gs, 0, none⟩) n cs, .slice (some ⟨gn, 0, none⟩) n cn, vw, .bool false] 63 (0, 0)) ∧ W3.heap[q]? = some (.cells (wcell (i, full l)).toArray 81 (0, 0)) := ⟨hbd3.trans HH.out.1.blk, by rw [hq]; exact HW3.out.1⟩
  rw [← hq]
  have HQ := Lib.hid hq
  have hun : Tryd.prog.underlying 81 = _ := Tryd.underlying81
  obtain ⟨iw, hiw, hiw0, hiw1, hiw2⟩ := info_parts info81
  have hlw : (wcell (i, full l)).length = 65 := by simp [wcell, byteCells, length_full hl]
  have HINF := Lib.hid (And.intro hiw (And.intro hiw0 (And.intro hiw1 (And.intro hiw2 hlw))))
  clear hbd3 hq hiw hiw0 hiw1 hiw2 hlw
  refine begin' 10 (fun X => X.heap[bd]? = some (.cells #[.slice (some ⟨gs, 0, none⟩) n cs, .slice (some ⟨gn, 0, none⟩) n cn, vw, .bool false] 63 (0, 0)) ∧ X.heap[q]? = some (.cells (wcell (i, full l)).toArray 81 (0, 0))) hmix hS3 (fun hS0 => ?_)
  refine take (i := 0) ⟨some 23, _, _, _, _, _⟩ (.pointer (some ⟨bd, 0, none⟩)) rfl (by kernel_rfl) (by kernel_rfl) (by decide) (by kernel_rfl) (by kernel_rfl) (by kernel_rfl) hS0 (Or.inl ⟨by rfl, by (intro X hX; go_simp)⟩) ?_
  simp only [Act.put, List.setIfInBounds_toArray, List.set_cons_zero, List.set_cons_succ]
  refine take (i := 1) ⟨some 24, _, _, _, _, _⟩ (.pointer (some ⟨bd, 0, none⟩)) rfl (by kernel_rfl) (by kernel_rfl) (by decide) (by kernel_rfl) (by kernel_rfl) (by kernel_rfl) hS0 (Or.inl ⟨by rfl, by (intro X hX; go_simp)⟩) ?_
  simp only [Act.put, List.setIfInBounds_toArray, List.set_cons_zero, List.set_cons_succ]
  refine take (i := 2) ⟨some 25, _, _, _, _, _⟩ (.pointer (some ⟨bd, 0, none⟩)) rfl (by kernel_rfl) (by kernel_rfl) (by decide) (by kernel_rfl) (by kernel_rfl) (by kernel_rfl) hS0 (Or.inl ⟨by rfl, by (intro X hX; go_simp)⟩) ?_
  simp only [Act.put, List.setIfInBounds_toArray, List.set_cons_zero, List.set_cons_succ]
  refine take (i := 3) ⟨some 26, _, _, _, _, _⟩ (.pointer (some ⟨bd, 2, none⟩)) rfl (by kernel_rfl) (by kernel_rfl) (by decide) (by kernel_rfl) (by kernel_rfl) (by kernel_rfl) hS0 (Or.inl ⟨by rfl, by (intro X hX; go_simp)⟩) ?_
  simp only [Act.put, List.setIfInBounds_toArray, List.set_cons_zero, List.set_cons_succ]
  refine take (i := 4) ⟨some 27, _, _, _, _, _⟩ (vw) rfl (by kernel_rfl) (by kernel_rfl) (by decide) (by kernel_rfl) (by kernel_rfl) (by kernel_rfl) hS0 (Or.inl ⟨by rfl, by (intro X hX; have := (four_cells hX.1).1.2.2.1; go_simp)⟩) ?_
  simp only [Act.put, List.setIfInBounds_toArray, List.set_cons_zero, List.set_cons_succ]
  refine take (i := 5) ⟨some 28, _, _, _, _, _⟩ (.agg (wcell (i, full l)).toArray) rfl (by kernel_rfl) (by kernel_rfl) (by decide) (by kernel_rfl) (by kernel_rfl) (by kernel_rfl) hS0 (yieldsIf_load_mid (by rfl) _ _ rfl q 0 rfl (wcell (i, full l)) _ (fun X hX => range_all' hX.2 HINF.out.2.2.2.2) hun rfl (by rw [HINF.out.1]; simp [HINF.out.2.2.1, HINF.out.2.2.2.2])) ?_
  simp only [Act.put, List.setIfInBounds_toArray, List.set_cons_zero, List.set_cons_succ]
  refine Go.Proofs.YtjblkmjdepdekaaDoor.Ht.step (i := 6) ⟨some 29, _, _, _, _, _⟩ rfl (by kernel_rfl) (by rfl) (fun K hK => ?_)
  refine wp_buildSlice 61 81 1 _ rfl (wcell (i, full l)).toArray iw _ Tryd.underlying61 HINF.out.1 HINF.out.2.1 (by rw [HINF.out.2.2.1]; decide) (by rw [HINF.out.2.2.1]; decide) ?fill ?_
  case fill =>
    rw [HINF.out.2.2.1]
    simp only [Array.toList_map, List.map_cons, List.map_nil]
    refine fill_one HINF.out.2.2.2.2 ?_
    rw [Array.size_map, Array.size_range]
  simp only [Act.put, List.setIfInBounds_toArray, List.set_cons_zero, List.set_cons_succ]
  have hq3 : q < W3.heap.size := lt_of_block hS3.2
  have hb4 : Below W3.heap.size W3 (W3.drew.alloc (.cells (wcell (i, full l)).toArray 81)) := (Below.refl _ W3).drew.alloc (by simp) _
  have hS4 : (W3.drew.alloc (.cells (wcell (i, full l)).toArray 81)).heap[bd]? = some (.cells #[.slice (some ⟨gs, 0, none⟩) n cs, .slice (some ⟨gn, 0, none⟩) n cn, vw, .bool false] 63 (0, 0)) ∧ (W3.drew.alloc (.cells (wcell (i, full l)).toArray 81)).heap[q]? = some (.cells (wcell (i, full l)).toArray 81 (0, 0)) :=
    ⟨(hb4.block bd (lt_of_block hS3.1)).trans hS3.1, (hb4.block q hq3).trans hS3.2⟩
  refine hK _ _ (fun _ => hS4) (fun _ => ?_)
  clear hK K
  have hown : (W3.drew.alloc (.cells (wcell (i, full l)).toArray 81)).ownsRow B 81 65 vw W.length (wcells W) :=
    own_other HH.out.1.ow (fun g hg => (hb4.block g (Nat.lt_of_lt_of_le (HH.out.1.ow.lt g hg).2 HW3.out.2.size)).trans (HW3.out.2.block g (HH.out.1.ow.lt g hg).2))
  refine Go.Proofs.YtjblkmjdepdekaaDoor.Ht.step (i := 7) ⟨some 30, _, _, _, _, _⟩ rfl (by kernel_rfl) (by rfl) (fun K hK => ?_)
  refine Ao.wp_append_own_new _ _ _ 61 rfl B 81 iw _ 65 72 Tryd.underlying61 HINF.out.1 HINF.out.2.1 HINF.out.2.2.1 HINF.out.2.2.2.1 (by simp [Value.cells, Zl]) (by decide) vw W.length (wcells W) rfl hown ⟨W3.drew.heap.size, 0, none⟩ 1 1 (wcell (i, full l)) rfl (by rw [HINF.out.2.2.2.2]) ?n1 ?n2 (by unfold maxLen; omega) (by omega) (by have := HH.out.1.hb; have := lt_of_block HH.out.1.blk; have := HW3.out.2.size; simp; omega) ?_
  case n1 =>
    intro j u hu
    rw [Addr.add_mid, Nat.zero_add]
    exact (cell_of_row _ _ j _ _ _ (heap_alloc_new W3.drew _)).trans (by simpa using hu)
  case n2 =>
    intro u hu
    rcases List.mem_cons.1 hu with rfl | hu
    · rfl
    · exact bytes_one _ u hu
  intro v5 W5 hown5 hg5 hnew5
  obtain ⟨a5, c5, rfl⟩ := own_shape hown5
  simp only [Act.put, List.setIfInBounds_toArray, List.set_cons_zero, List.set_cons_succ]
  have hS5 : W5.heap[bd]? = some (.cells #[.slice (some ⟨gs, 0, none⟩) n cs, .slice (some ⟨gn, 0, none⟩) n cn, vw, .bool false] 63 (0, 0)) ∧ W5.heap[q]? = some (.cells (wcell (i, full l)).toArray 81 (0, 0)) :=
    ⟨(hg5.block bd (lt_of_block hS4.1) (fun e => own_not hown hS4.1 (by decide) bd e.symm rfl)).trans hS4.1,
      (hg5.block q (lt_of_block hS4.2) (fun e => by have := (HH.out.1.ow.lt q e.symm).2; have := HQ.out; omega)).trans hS4.2⟩
  refine hK _ _ (fun _ => hS5) (fun _ => ?_)
  clear hK K
  refine take (i := 8) ⟨some 31, _, _, _, _, _⟩ (.pointer (some ⟨bd, 0, none⟩)) rfl (by kernel_rfl) (by kernel_rfl) (by decide) (by kernel_rfl) (by kernel_rfl) (by kernel_rfl) hS5 (Or.inl ⟨by rfl, by (intro X hX; go_simp)⟩) ?_
  simp only [Act.put, List.setIfInBounds_toArray, List.set_cons_zero, List.set_cons_succ]
  refine take (i := 9) ⟨some 32, _, _, _, _, _⟩ (.pointer (some ⟨bd, 2, none⟩)) rfl (by kernel_rfl) (by kernel_rfl) (by decide) (by kernel_rfl) (by kernel_rfl) (by kernel_rfl) hS5 (Or.inl ⟨by rfl, by (intro X hX; go_simp)⟩) ?_
  simp only [Act.put, List.setIfInBounds_toArray, List.set_cons_zero, List.set_cons_succ]
  refine Go.Proofs.YtjblkmjdepdekaaDoor.Ht.step (i := 10) ⟨none, _, _, _, _, _⟩ rfl (by kernel_rfl) (by rfl) (fun K hK => ?_)
  obtain ⟨⟨_, _, c2, _⟩, _, _, f2, _⟩ := four_cells hS5.1
  go_simp
  refine hK _ _ (fun h => absurd rfl h) (fun _ => ?_)
  clear hK K
  refine done (by kernel_rfl) ?_
  have hg6 : (W5.setCell ⟨bd, 2, none⟩ (.slice a5 (W.length + 1) c5)).heap[bd]? = some (.cells #[.slice (some ⟨gs, 0, none⟩) n cs, .slice (some ⟨gn, 0, none⟩) n cn, .slice a5 (W.length + 1) c5, .bool false] 63 (0, 0)) := by
    have := heap_setCell_same W5 bd 2 _ _ (.slice a5 (W.length + 1) c5) hS5.1
    simpa using this
  have hk6 : ∀ k, k ≠ bd → (W5.setCell ⟨bd, 2, none⟩ (.slice a5 (W.length + 1) c5)).heap[k]? = W5.heap[k]? := fun k hk => heap_setCell_other W5 _ k _ hk
  have hb6 : Below 0 W5 (W5.setCell ⟨bd, 2, none⟩ (.slice a5 (W.length + 1) c5)) := (Below.refl 0 _).setCell (p := ⟨bd, 2, none⟩) (Nat.zero_le _) _
  obtain ⟨W6, hW6⟩ : ∃ X, X = W5.setCell ⟨bd, 2, none⟩ (.slice a5 (W.length + 1) c5) := ⟨_, rfl⟩
  rw [← hW6] at hg6 hk6 hb6 ⊢
  have hqb : q ≠ bd := by have := lt_of_block HH.out.1.blk; have := HQ.out; omega
  have hown6 : W6.ownsRow B 81 65 (.slice a5 (W.length + 1) c5) (W.length + 1) (wcells W ++ wcell (i, full l)) :=
    own_other hown5 (fun g hg => hk6 g (own_not hown5 hS5.1 (by decide) g hg))
  have hq6 : W6.heap[q]? = some (.cells (wcell (i, full l)).toArray 81 (0, 0)) := (hk6 q hqb).trans hS5.2
  -- what lay there lies there
  have hold : ∀ g, g < w.heap.size → g ≠ bd → some g ≠ vw.ownBlock → W6.heap[g]? = w.heap[g]? := fun g h1 h2 h3 => by
    have h4 : g < W3.heap.size := Nat.lt_of_lt_of_le h1 HW3.out.2.size
    have h5 : g < (W3.drew.alloc (.cells (wcell (i, full l)).toArray 81)).heap.size := Nat.lt_of_lt_of_le h4 hb4.size
    exact (hk6 g h2).trans ((hg5.block g h5 h3).trans ((hb4.block g h4).trans (HW3.out.2.block g h1)))
  have hfr6 : Fr (Foot bd gs gn vw) w W6 := by
    refine ⟨hb6.os.trans (hg5.os.trans (hb4.os.trans HW3.out.2.os)), hb6.tape.trans (hg5.tape.trans (hb4.tape.trans HW3.out.2.tape)), hb6.output.trans (hg5.output.trans (hb4.output.trans HW3.out.2.output)), Nat.le_trans HW3.out.2.size (Nat.le_trans hb4.size (Nat.le_trans hg5.size hb6.size)), fun k h1 h2 => hold k h1 (fun e => h2 (.inl e)) (fun e => h2 (.inr (.inr (.inr e))))⟩
  have hon6 : W6.ownsRow B 79 64 (.slice (some ⟨gn, 0, none⟩) n cn) n (byteCells G) := own_other HH.out.1.on (fun g hg => hold g (HH.out.1.on.lt g hg).2 (own_not HH.out.1.on HH.out.1.blk (by decide) g hg) (fun e => by
    obtain ⟨cur, hc⟩ := own_type HH.out.1.ow e.symm
    exact own_not HH.out.1.on hc (by decide) g hg rfl))
  have hos6 : W6.ownsRow B 79 64 (.slice (some ⟨gs, 0, none⟩) n cs) n (byteCells F) := own_other HH.out.1.os (fun g hg => hold g (HH.out.1.os.lt g hg).2 (own_not HH.out.1.os HH.out.1.blk (by decide) g hg) (fun e => by
    obtain ⟨cur, hc⟩ := own_type HH.out.1.ow e.symm
    exact own_not HH.out.1.os hc (by decide) g hg rfl))
  have hnew : (Value.slice a5 (W.length + 1) c5).ownBlock = vw.ownBlock ∨ ∃ g, (Value.slice a5 (W.length + 1) c5).ownBlock = some g ∧ w.heap.size ≤ g := by
    rcases hnew5 with h | ⟨g, h, h2⟩
    · exact .inl h
    · exact .inr ⟨g, h, Nat.le_trans HW3.out.2.size (Nat.le_trans hb4.size h2)⟩
  have H6 := Lib.hid (And.intro hg6 (And.intro hown6 (And.intro hq6 (And.intro hfr6 (And.intro hon6 (And.intro hos6 hnew))))))
  clear hW6 hg6 hk6 hb6 hown6 hq6 hold hfr6 hon6 hos6 hnew hS5 hS4 hS3 hown hown5 hg5 hb4 hq3 hqb hnew5
  go_wp2_with fail
  have hS6 : W6.heap[bd]? = some (.cells #[.slice (some ⟨gs, 0, none⟩) n cs, .slice (some ⟨gn, 0, none⟩) n cn, .slice a5 (W.length + 1) c5, .bool false] 63 (0, 0)) ∧ W6.heap[q]? = some (.cells (wcell (i, full l)).toArray 81 (0, 0)) := ⟨H6.out.1, H6.out.2.2.1⟩
  have huns : Tryd.prog.underlying 79 = _ := Tryd.underlying79
  obtain ⟨is, his, his0, his1, his2⟩ := info_parts info79
  have HIS := Lib.hid (And.intro his (And.intro his0 (And.intro his1 his2)))
  have hbl : (byteCells (full l)).length = 64 := by simp [byteCells, length_full hl]
  have HBL := Lib.hid hbl
  have hin : (i : Int) < (n : Int) := by omega
  have hi0 : (0 : Int) ≤ (i : Int) := by omega
  have hn4 := HH.out.1.n2
  clear his his0 his1 his2 hbl
  refine begin' 8 (fun X => X.heap[bd]? = some (.cells #[.slice (some ⟨gs, 0, none⟩) n cs, .slice (some ⟨gn, 0, none⟩) n cn, .slice a5 (W.length + 1) c5, .bool false] 63 (0, 0)) ∧ X.heap[q]? = some (.cells (wcell (i, full l)).toArray 81 (0, 0))) hmix hS6 (fun hS0 => ?_)
  refine take (i := 0) ⟨some 33, _, _, _, _, _⟩ (.pointer (some ⟨bd, 0, none⟩)) rfl (by kernel_rfl) (by kernel_rfl) (by decide) (by kernel_rfl) (by kernel_rfl) (by kernel_rfl) hS0 (Or.inl ⟨by rfl, by (intro X hX; go_simp)⟩) ?_
  simp only [Act.put, List.setIfInBounds_toArray, List.set_cons_zero, List.set_cons_succ]
  refine take (i := 1) ⟨some 34, _, _, _, _, _⟩ (.pointer (some ⟨bd, 0, none⟩)) rfl (by kernel_rfl) (by kernel_rfl) (by decide) (by kernel_rfl) (by kernel_rfl) (by kernel_rfl) hS0 (Or.inl ⟨by rfl, by (intro X hX; go_simp)⟩) ?_
  simp only [Act.put, List.setIfInBounds_toArray, List.set_cons_zero, List.set_cons_succ]
  refine take (i := 2) ⟨some 35, _, _, _, _, _⟩ (.pointer (some ⟨bd, 1, none⟩)) rfl (by kernel_rfl) (by kernel_rfl) (by decide) (by kernel_rfl) (by kernel_rfl) (by kernel_rfl) hS0 (Or.inl ⟨by rfl, by (intro X hX; go_simp)⟩) ?_
  simp only [Act.put, List.setIfInBounds_toArray, List.set_cons_zero, List.set_cons_succ]
  refine take (i := 3) ⟨some 36, _, _, _, _, _⟩ (.slice (some ⟨gn, 0, none⟩) n cn) rfl (by kernel_rfl) (by kernel_rfl) (by decide) (by kernel_rfl) (by kernel_rfl) (by kernel_rfl) hS0 (Or.inl ⟨by rfl, by (intro X hX; have := (four_cells hX.1).1.2.1; go_simp)⟩) ?_
  simp only [Act.put, List.setIfInBounds_toArray, List.set_cons_zero, List.set_cons_succ]
  refine take (i := 4) ⟨some 37, _, _, _, _, _⟩ (.int .i64 (i : Nat)) rfl (by kernel_rfl) (by kernel_rfl) (by decide) (by kernel_rfl) (by kernel_rfl) (by kernel_rfl) hS0 (Or.inl ⟨by rfl, by (intro X hX; go_simp)⟩) ?_
  simp only [Act.put, List.setIfInBounds_toArray, List.set_cons_zero, List.set_cons_succ]
  refine take (i := 5) ⟨some 38, _, _, _, _, _⟩ (.pointer (some ⟨q, 1, none⟩)) rfl (by kernel_rfl) (by kernel_rfl) (by decide) (by kernel_rfl) (by kernel_rfl) (by kernel_rfl) hS0 (Or.inl ⟨by rfl, by (intro X hX; go_simp)⟩) ?_
  simp only [Act.put, List.setIfInBounds_toArray, List.set_cons_zero, List.set_cons_succ]
  refine take (i := 6) ⟨some 39, _, _, _, _, _⟩ (.agg (byteCells (full l)).toArray) rfl (by kernel_rfl) (by kernel_rfl) (by decide) (by kernel_rfl) (by kernel_rfl) (by kernel_rfl) hS0 (yieldsIf_load_mid (by rfl) _ _ rfl q 1 rfl (byteCells (full l)) _ (fun X hX => range_tail hX.2 HBL.out) huns rfl (by rw [HIS.out.1]; simp [HIS.out.2.2.1, HBL.out])) ?_
  simp only [Act.put, List.setIfInBounds_toArray, List.set_cons_zero, List.set_cons_succ]
  refine take (i := 7) ⟨some 40, _, _, _, _, _⟩ (.pointer (some ⟨gn, i * 64, none⟩)) rfl (by kernel_rfl) (by kernel_rfl) (by decide) (by kernel_rfl) (by kernel_rfl) (by kernel_rfl) hS0 (Or.inl ⟨by rfl, by (intro X hX; go_simp)⟩) ?_
  simp only [Act.put, List.setIfInBounds_toArray, List.set_cons_zero, List.set_cons_succ]
  have hon := own_sector (k := i) (b := full l) (show W6.drew.ownsRow B 79 64 (.slice (some ⟨gn, 0, none⟩) n cn) n (byteCells G) from own_other H6.out.2.2.2.2.1 (fun _ _ => rfl)) hi (length_full hl)
  have HON := Lib.hid hon
  clear hon
  refine Go.Proofs.YtjblkmjdepdekaaDoor.Ht.step (i := 8) ⟨none, _, _, _, _, _⟩ rfl (by kernel_rfl) (by rfl) (fun K hK => ?_)
  refine wp_store_mid 79 _ _ rfl gn (i * 64) (byteCells (full l)).toArray rfl rfl (by simpa [HBL.out] using HON.out.1) (by rw [HIS.out.1]; simp [HIS.out.2.2.1, HBL.out]) (all_oneCell_toArray (bytes_one _)) ?_
  refine hK _ _ (fun h => absurd rfl h) (fun _ => ?_)
  clear hK K
  refine done (by kernel_rfl) ?_
  dsimp only [Act.put]
  obtain ⟨W7, hW7⟩ : ∃ X, X = W6.drew.setCells gn (i * 64) (byteCells (full l)) := ⟨_, rfl⟩
  have hk7 : ∀ k, k ≠ gn → W7.heap[k]? = W6.heap[k]? := fun k hk => by rw [hW7]; exact heap_setCells_other hk _ _ _
  have hgn : (Value.slice (some ⟨gn, 0, none⟩) n cn).ownBlock = some gn := rfl
  have hbdg : bd ≠ gn := fun e => own_not HH.out.1.on HH.out.1.blk (by decide) gn rfl e.symm
  have hdk : IsDk W7 B bd gs cs gn cn (.slice a5 (W.length + 1) c5) n F (setS G i (full l)) (W ++ [(i, full l)]) false := by
    refine ⟨(hk7 bd hbdg).trans H6.out.1, own_other H6.out.2.2.2.2.2.1 (fun g hg => hk7 g (fun e => HH.out.1.ne (by simpa [Value.ownBlock, e] using hg))), by rw [hW7]; exact HON.out.2, ?_, HH.out.1.ne, HH.out.1.n1, HH.out.1.n2, ?_, HH.out.1.hb⟩
    · have h := own_other (w' := W7) H6.out.2.1 (fun g hg => hk7 g (fun e => by
        obtain ⟨cur, hc⟩ := own_type H6.out.2.2.2.2.1 hgn
        exact own_not H6.out.2.1 hc (by decide) g hg e))
      rw [List.length_append]
      simpa [wcells] using h
    · intro x hx
      rcases List.mem_append.1 hx with hx | hx
      · exact HH.out.1.hw x hx
      · obtain rfl := List.mem_singleton.1 hx
        exact ⟨hi, length_full hl⟩
  have hfr : Fr (Foot bd gs gn vw) w W7 := by rw [hW7]; exact (H6.out.2.2.2.1.drew).setCells (.inl (.inr (.inr (.inl rfl)))) _
  have HF := Lib.hid (And.intro hdk hfr)
  rw [← hW7]
  clear hW7 hk7 hgn hbdg hdk hfr
  go_wp2_with fail
  go_ret
  exact ⟨rfl, ⟨_, HF.out.1, H6.out.2.2.2.2.2.2⟩, HF.out.2⟩
end
end Go.Proofs.YtjblkmjdepdekaaDoor.Dk

/- disks: Sync -/
namespace Go.Proofs.YtjblkmjdepdekaaDoor.Dk
open Go.RowKit Go.Lib Go.Proofs.YtjblkmjdepdekaaDoor.By Go.Proofs.YtjblkmjdepdekaaDoor.Ht

theorem wcells_get : ∀ (W : List Wr) (_ : ∀ x ∈ W, (wcell x).length = 65) (k : Nat) (hk : k < W.length) (j : Nat) (_ : j < 65), (wcells W)[k * 65 + j]? = (wcell W[k])[j]?
  | x :: r, hw, 0, _, j, hj => by
    have h1 := hw x (by simp)
    simp only [wcells, List.flatMap_cons]
    rw [Nat.zero_mul, Nat.zero_add, List.getElem?_append_left (by omega)]
    rfl
  | x :: r, hw, k + 1, hk, j, hj => by
    have h1 := hw x (by simp)
    simp only [wcells, List.flatMap_cons]
    rw [List.getElem?_append_right (by omega), h1, show (k + 1) * 65 + j - 65 = k * 65 + j by omega]
    exact wcells_get r (fun y hy => hw y (by simp [hy])) k (by simpa using hk) j hj
theorem own_range {w : World} {B g n cap s o : Nat} {e : TypeId} {xs cs : List Value} (h : w.ownsRow B e s (.slice (some ⟨g, 0, none⟩) n cap) n xs) (hx : ∀ j, j < cs.length → xs[o + j]? = cs[j]?) : w.rangeAt g o cs := fun j v hv => by
  have hj : j < cs.length := (List.getElem?_eq_some_iff.1 hv).1
  have := h.cells (g := g) rfl (o + j) v ((hx j hj).trans hv)
  rwa [Addr.add_mid, Nat.zero_add] at this
theorem length_getS {F : List UInt8} {k n : Nat} (hF : F.length = 64 * n) (hk : k < n) : (getS F k).length = 64 := by unfold getS; simp [hF]; omega
theorem sector_range {w : World} {B g n cap k : Nat} {e : TypeId} {F : List UInt8} (h : w.ownsRow B e 64 (.slice (some ⟨g, 0, none⟩) n cap) n (byteCells F)) : w.rangeAt g (k * 64) (byteCells (getS F k)) :=
  own_range h fun j hj => by
    have hj2 : j < 64 := by have := List.length_take_le 64 (F.drop (64 * k)); simp only [byteCells, List.length_map, getS] at hj; omega
    unfold getS byteCells
    rw [List.getElem?_map, List.getElem?_map, List.getElem?_take_of_lt hj2, List.getElem?_drop, Nat.mul_comm 64 k]
theorem wcell_len {x : Wr} (h : x.2.length = 64) : (wcell x).length = 65 := by simp [wcell, byteCells, h]
theorem wcell_one (x : Wr) : ∀ v ∈ wcell x, v.oneCell' = true := by
  intro v hv
  rcases List.mem_cons.1 hv with rfl | hv
  · rfl
  · exact bytes_one _ v hv
section
variable {w : World} {B bd gs cs gn cn n : Nat} {vw : Value} {F G : List UInt8} {W : List Wr} {dn : Bool}
/-- what waits, one by one -/
theorem waits_range (h : IsDk w B bd gs cs gn cn vw n F G W dn) {k : Nat} (hk : k < W.length) : ∃ gw cw, vw = .slice (some ⟨gw, 0, none⟩) W.length cw ∧ W.length ≤ cw ∧ w.rangeAt gw (k * 65) (wcell W[k]) := by
  rcases h.ow.2 with ⟨_, h1⟩ | ⟨g, cap, cur, rfl, _, _, h4, _⟩
  · omega
  · exact ⟨g, cap, rfl, h4, own_range h.ow fun j hj => wcells_get W (fun x hx => wcell_len (h.hw x hx).2) k hk j (by rw [wcell_len (h.hw _ (List.getElem_mem hk)).2] at hj; exact hj)⟩
theorem size_writing {cs : List Value} (h : cs.length = 65) : (Tryd.prog.info? 81).map (·.size) = some cs.length := by
  obtain ⟨iw, hiw, _, hiw1, _⟩ := info_parts info81
  rw [hiw, Option.map_some, hiw1, h]
theorem size_sector {cs : List Value} (h : cs.length = 64) : (Tryd.prog.info? 79).map (·.size) = some cs.length := by
  obtain ⟨iw, hiw, _, hiw1, _⟩ := info_parts info79
  rw [hiw, Option.map_some, hiw1, h]
/-- a variable of a writing is made, and written whole -/
theorem var_made (w : World) (x : Wr) (hx : x.2.length = 64) : ∃ W1, (storeCells ⟨w.heap.size, 0, none⟩ (wcell x)).run Tryd.prog (w.alloc (.cells (Zl (.int .i64 0)).toArray 81)) = .ok () W1 ∧
    W1.heap[w.heap.size]? = some (.cells (wcell x).toArray 81 (0, 0)) ∧ Below w.heap.size w W1 := by
  refine ⟨(w.alloc (.cells (Zl (.int .i64 0)).toArray 81)).setRow w.heap.size (wcell x).toArray, ?_, setRow_heap _ _ _ _ _ _ (heap_alloc_new w _), below_setRow ((Below.refl _ _).alloc (Nat.le_refl _) _) (Nat.le_refl _) _⟩
  have := run_storeCells_from (P := Tryd.prog) w.heap.size 81 (wcell x) 0 (Zl (.int .i64 0)).toArray (w.alloc (.cells (Zl (.int .i64 0)).toArray 81)) (heap_alloc_new w _) (by rw [wcell_len hx]; simp [Zl]) (wcell_one x)
  simpa using this
end
/-- what a sync makes of the sectors -/
def syncF (G F : List UInt8) (W : List Wr) : List UInt8 := W.foldl (fun F x => setS F x.1 (getS G x.1)) F
theorem syncF_snoc (G F : List UInt8) (W : List Wr) (x : Wr) : syncF G F (W ++ [x]) = setS (syncF G F W) x.1 (getS G x.1) := by unfold syncF; rw [List.foldl_append]; rfl

theorem sync_nil (w : World) : Calls Tryd.prog 25 #[.pointer none] w fun e w' => e = .returned (.int .i64 19) ∧ w = w' := by
  have HD := Lib.hid (down_nil w)
  go_enter Tryd.func25, Tryd.ntmps25
  go_wp2_with (go_at_call 42; refine HD.out.mono ?_; rintro e w' ⟨rfl, rfl⟩)
  go_ret
  exact ⟨rfl, rfl⟩
section
variable {w : World} {B bd gs cs gn cn n : Nat} {vw : Value} {F G : List UInt8} {W : List Wr}
theorem sync_down (h : IsDk w B bd gs cs gn cn vw n F G W true) : Calls Tryd.prog 25 #[.pointer (some ⟨bd, 0, none⟩)] w fun e w' => e = .returned (.int .i64 19) ∧ w = w' := by
  have HD := Lib.hid (down_any h)
  clear h
  go_enter Tryd.func25, Tryd.ntmps25
  go_wp2_with (go_at_call 42; refine HD.out.mono ?_; rintro e w' ⟨rfl, rfl⟩)
  go_ret
  exact ⟨rfl, rfl⟩
set_option maxRecDepth 20000 in
set_option maxHeartbeats 2000000 in
theorem sync_ok (h : IsDk w B bd gs cs gn cn vw n F G W false) (hWl : W.length ≤ 1000000) : Calls Tryd.prog 25 #[.pointer (some ⟨bd, 0, none⟩)] w fun e w' =>
    e = .returned (.int .i64 0) ∧ IsDk w' B bd gs cs gn cn (.slice none 0 0) n (syncF G F W) G [] false ∧ Fr (Foot bd gs gn vw) w w' := by
  have HD := Lib.hid (down_any h)
  obtain ⟨aw, cw, rfl⟩ := own_shape h.ow
  have hz0 := zero_writing
  obtain ⟨Z, hZ⟩ : ∃ Z, Z = (Zl (.int .i64 0)).toArray := ⟨_, rfl⟩
  rw [← hZ] at hz0
  have HZ := Lib.hid hZ
  clear hZ
  obtain ⟨⟨c0, c1, c2, c3⟩, _⟩ := four_cells h.blk
  have HH := Lib.hid h
  clear h c0 c1 c3
  go_enter Tryd.func25, Tryd.ntmps25
  go_wp2_with (go_at_call 42; refine HD.out.mono ?_; rintro e w' ⟨rfl, rfl⟩)
  go_loopw [12] (fun kv wr => ∃ k : Nat, k ≤ W.length ∧ kv = .int .i64 k ∧ IsDk wr B bd gs cs gn cn (.slice aw W.length cw) n (syncF G F (W.take k)) G W false ∧ Fr (Foot bd gs gn (.slice aw W.length cw)) w wr) (fun kv _ => W.length - (intOf kv).toNat)
  case atStart => exact ⟨0, Nat.zero_le _, rfl, HH.out, Fr.refl _ _⟩
  case round =>
    obtain ⟨k, hk, rfl, hdk, hfr⟩ := hrel
    by_cases hlt : k < W.length
    · obtain ⟨gw, cw', hv, hcw, hrg⟩ := waits_range hdk hlt
      simp only [Value.slice.injEq, true_and] at hv
      obtain ⟨rfl, rfl⟩ := hv
      obtain ⟨x, hx⟩ : ∃ x, x = W[k] := ⟨_, rfl⟩
      rw [← hx] at hrg
      have hxw := hdk.hw x (by rw [hx]; exact List.getElem_mem hlt)
      obtain ⟨W1, hsc, hg1, hb1⟩ := var_made wr x hxw.2
      have hsz := size_writing (wcell_len hxw.2)
      have hYs : (wcell x).toArray.size = 65 := by simpa using wcell_len hxw.2
      obtain ⟨Y, hY⟩ : ∃ Y, Y = (wcell x).toArray := ⟨_, rfl⟩
      rw [show wcell x = Y.toList by rw [hY], ← HZ.out] at hsc
      rw [← hY] at hYs hg1
      have HRG := Lib.hid (And.intro hrg hsz)
      have HK := Lib.hid (And.intro hdk (And.intro hfr (And.intro hx (And.intro hxw (And.intro hg1 (And.intro hb1 hY))))))
      rw [show wcell x = Y.toList by rw [hY]] at HRG
      clear hdk hfr hx hxw hg1 hb1 hY hrg hsz
      have hkc : (k : Int) < (W.length : Int) := by omega
      have c2' := (four_cells HK.out.1.blk).1.2.2.1
      go_wp2_with (refine wpList_load_mid rfl 81 _ rfl gw (k * 65) rfl Y.toList _ HRG.out.1 Tryd.underlying81 rfl HRG.out.2 ?_)
      have hbd1 : W1.heap[bd]? = some (.cells #[.slice (some ⟨gs, 0, none⟩) n cs, .slice (some ⟨gn, 0, none⟩) n cn, .slice (some ⟨gw, 0, none⟩) W.length cw, .bool false] 63 (0, 0)) := (HK.out.2.2.2.2.2.1.block bd (lt_of_block HK.out.1.blk)).trans HK.out.1.blk
      have hon1 := own_other (w' := W1) HK.out.1.on (fun g hg => HK.out.2.2.2.2.2.1.block g (HK.out.1.on.lt g hg).2)
      have hos1 := own_other (w' := W1) HK.out.1.os (fun g hg => HK.out.2.2.2.2.2.1.block g (HK.out.1.os.lt g hg).2)
      have how1 := own_other (w' := W1) HK.out.1.ow (fun g hg => HK.out.2.2.2.2.2.1.block g (HK.out.1.ow.lt g hg).2)
      have hS1 : W1.heap[bd]? = some (.cells #[.slice (some ⟨gs, 0, none⟩) n cs, .slice (some ⟨gn, 0, none⟩) n cn, .slice (some ⟨gw, 0, none⟩) W.length cw, .bool false] 63 (0, 0)) ∧ W1.heap[wr.heap.size]? = some (.cells Y 81 (0, 0)) ∧ W1.rangeAt gn (x.1 * 64) (byteCells (getS G x.1)) := ⟨hbd1, HK.out.2.2.2.2.1, sector_range hon1⟩
      have hmix : Tryd.prog.follows .mixedOrders = true := by kernel_rfl
      have hGl : G.length = 64 * n := by have := hon1.1; simp only [byteCells, List.length_map] at this; omega
      have hgl := length_getS hGl HK.out.2.2.2.1.1
      have hat0 : (0 : Int) ≤ (x.1 : Int) := by omega
      have hat1 : (x.1 : Int) < (n : Int) := by have := HK.out.2.2.2.1.1; omega
      have hn4 := HK.out.1.n2
      have hyc : ∀ X : World, X.heap[wr.heap.size]? = some (.cells Y 81 (0, 0)) → X.cell? ⟨wr.heap.size, 0, none⟩ = some (.int .i64 (x.1 : Nat)) := fun X hX => by
        rw [cell_of_row X _ 0 Y _ _ hX, HK.out.2.2.2.2.2.2]; simp [wcell]
      have HHY := Lib.hid hyc
      have H1 := Lib.hid (And.intro hbd1 (And.intro hon1 (And.intro hos1 (And.intro how1 hgl))))
      have hrs := size_sector (cs := byteCells (getS G x.1)) (by simpa [byteCells] using hgl)
      have HRS := Lib.hid hrs
      clear hbd1 hon1 hos1 how1 hgl hGl hyc hrs c2'
      refine begin' 15 (fun X => X.heap[bd]? = some (.cells #[.slice (some ⟨gs, 0, none⟩) n cs, .slice (some ⟨gn, 0, none⟩) n cn, .slice (some ⟨gw, 0, none⟩) W.length cw, .bool false] 63 (0, 0)) ∧ X.heap[wr.heap.size]? = some (.cells Y 81 (0, 0)) ∧ X.rangeAt gn (x.1 * 64) (byteCells (getS G x.1))) hmix hS1 (fun hS0 => ?_)
      refine Ht.take (i := 0) ⟨some 16, _, _, _, _, _⟩ (.pointer (some ⟨bd, 0, none⟩)) rfl (by kernel_rfl) (by kernel_rfl) (by decide) (by kernel_rfl) (by kernel_rfl) (by kernel_rfl) hS0 (Or.inl ⟨by rfl, by (intro X hX; go_simp)⟩) ?_
      simp only [Act.put, List.setIfInBounds_toArray, List.set_cons_zero, List.set_cons_succ]
      refine Ht.take (i := 1) ⟨some 17, _, _, _, _, _⟩ (.pointer (some ⟨bd, 0, none⟩)) rfl (by kernel_rfl) (by kernel_rfl) (by decide) (by kernel_rfl) (by kernel_rfl) (by kernel_rfl) hS0 (Or.inl ⟨by rfl, by (intro X hX; go_simp)⟩) ?_
      simp only [Act.put, List.setIfInBounds_toArray, List.set_cons_zero, List.set_cons_succ]
      refine Ht.take (i := 2) ⟨some 18, _, _, _, _, _⟩ (.pointer (some ⟨bd, 0, none⟩)) rfl (by kernel_rfl) (by kernel_rfl) (by decide) (by kernel_rfl) (by kernel_rfl) (by kernel_rfl) hS0 (Or.inl ⟨by rfl, by (intro X hX; go_simp)⟩) ?_
      simp only [Act.put, List.setIfInBounds_toArray, List.set_cons_zero, List.set_cons_succ]
      refine Ht.take (i := 3) ⟨some 19, _, _, _, _, _⟩ (.slice (some ⟨gs, 0, none⟩) n cs) rfl (by kernel_rfl) (by kernel_rfl) (by decide) (by kernel_rfl) (by kernel_rfl) (by kernel_rfl) hS0 (Or.inl ⟨by rfl, by (intro X hX; have := (four_cells hX.1).1.1; go_simp)⟩) ?_
      simp only [Act.put, List.setIfInBounds_toArray, List.set_cons_zero, List.set_cons_succ]
      refine Ht.take (i := 4) ⟨some 20, _, _, _, _, _⟩ (.pointer (some ⟨wr.heap.size, 0, none⟩)) rfl (by kernel_rfl) (by kernel_rfl) (by decide) (by kernel_rfl) (by kernel_rfl) (by kernel_rfl) hS0 (Or.inl ⟨by rfl, by (intro X hX; go_simp)⟩) ?_
      simp only [Act.put, List.setIfInBounds_toArray, List.set_cons_zero, List.set_cons_succ]
      refine Ht.take (i := 5) ⟨some 21, _, _, _, _, _⟩ (.int .i64 (x.1 : Nat)) rfl (by kernel_rfl) (by kernel_rfl) (by decide) (by kernel_rfl) (by kernel_rfl) (by kernel_rfl) hS0 (Or.inl ⟨by rfl, by (intro X hX; have := HHY.out X hX.2.1; go_simp)⟩) ?_
      simp only [Act.put, List.setIfInBounds_toArray, List.set_cons_zero, List.set_cons_succ]
      refine Ht.take (i := 6) ⟨some 22, _, _, _, _, _⟩ (.pointer (some ⟨bd, 0, none⟩)) rfl (by kernel_rfl) (by kernel_rfl) (by decide) (by kernel_rfl) (by kernel_rfl) (by kernel_rfl) hS0 (Or.inl ⟨by rfl, by (intro X hX; go_simp)⟩) ?_
      simp only [Act.put, List.setIfInBounds_toArray, List.set_cons_zero, List.set_cons_succ]
      refine Ht.take (i := 7) ⟨some 23, _, _, _, _, _⟩ (.pointer (some ⟨bd, 0, none⟩)) rfl (by kernel_rfl) (by kernel_rfl) (by decide) (by kernel_rfl) (by kernel_rfl) (by kernel_rfl) hS0 (Or.inl ⟨by rfl, by (intro X hX; go_simp)⟩) ?_
      simp only [Act.put, List.setIfInBounds_toArray, List.set_cons_zero, List.set_cons_succ]
      refine Ht.take (i := 8) ⟨some 24, _, _, _, _, _⟩ (.pointer (some ⟨bd, 1, none⟩)) rfl (by kernel_rfl) (by kernel_rfl) (by decide) (by kernel_rfl) (by kernel_rfl) (by kernel_rfl) hS0 (Or.inl ⟨by rfl, by (intro X hX; go_simp)⟩) ?_
      simp only [Act.put, List.setIfInBounds_toArray, List.set_cons_zero, List.set_cons_succ]
      refine Ht.take (i := 9) ⟨some 25, _, _, _, _, _⟩ (.slice (some ⟨gn, 0, none⟩) n cn) rfl (by kernel_rfl) (by kernel_rfl) (by decide) (by kernel_rfl) (by kernel_rfl) (by kernel_rfl) hS0 (Or.inl ⟨by rfl, by (intro X hX; have := (four_cells hX.1).1.2.1; go_simp)⟩) ?_
      simp only [Act.put, List.setIfInBounds_toArray, List.set_cons_zero, List.set_cons_succ]
      refine Ht.take (i := 10) ⟨some 26, _, _, _, _, _⟩ (.pointer (some ⟨wr.heap.size, 0, none⟩)) rfl (by kernel_rfl) (by kernel_rfl) (by decide) (by kernel_rfl) (by kernel_rfl) (by kernel_rfl) hS0 (Or.inl ⟨by rfl, by (intro X hX; go_simp)⟩) ?_
      simp only [Act.put, List.setIfInBounds_toArray, List.set_cons_zero, List.set_cons_succ]
      refine Ht.take (i := 11) ⟨some 27, _, _, _, _, _⟩ (.int .i64 (x.1 : Nat)) rfl (by kernel_rfl) (by kernel_rfl) (by decide) (by kernel_rfl) (by kernel_rfl) (by kernel_rfl) hS0 (Or.inl ⟨by rfl, by (intro X hX; have := HHY.out X hX.2.1; go_simp)⟩) ?_
      simp only [Act.put, List.setIfInBounds_toArray, List.set_cons_zero, List.set_cons_succ]
      refine Ht.take (i := 12) ⟨some 28, _, _, _, _, _⟩ (.pointer (some ⟨gn, x.1 * 64, none⟩)) rfl (by kernel_rfl) (by kernel_rfl) (by decide) (by kernel_rfl) (by kernel_rfl) (by kernel_rfl) hS0 (Or.inl ⟨by rfl, by (intro X hX; go_simp)⟩) ?_
      simp only [Act.put, List.setIfInBounds_toArray, List.set_cons_zero, List.set_cons_succ]
      refine Ht.take (i := 13) ⟨some 29, _, _, _, _, _⟩ (.agg (byteCells (getS G x.1)).toArray) rfl (by kernel_rfl) (by kernel_rfl) (by decide) (by kernel_rfl) (by kernel_rfl) (by kernel_rfl) hS0 (yieldsIf_load_mid (by rfl) _ _ rfl gn (x.1 * 64) rfl (byteCells (getS G x.1)) _ (fun X hX => hX.2.2) Tryd.underlying79 rfl HRS.out) ?_
      simp only [Act.put, List.setIfInBounds_toArray, List.set_cons_zero, List.set_cons_succ]
      refine Ht.take (i := 14) ⟨some 30, _, _, _, _, _⟩ (.pointer (some ⟨gs, x.1 * 64, none⟩)) rfl (by kernel_rfl) (by kernel_rfl) (by decide) (by kernel_rfl) (by kernel_rfl) (by kernel_rfl) hS0 (Or.inl ⟨by rfl, by (intro X hX; go_simp)⟩) ?_
      simp only [Act.put, List.setIfInBounds_toArray, List.set_cons_zero, List.set_cons_succ]
      have hst := own_sector (k := x.1) (b := getS G x.1) (show W1.drew.ownsRow B 79 64 (.slice (some ⟨gs, 0, none⟩) n cs) n (byteCells (syncF G F (W.take k))) from own_other H1.out.2.2.1 (fun _ _ => rfl)) HK.out.2.2.2.1.1 H1.out.2.2.2.2
      have HST := Lib.hid hst
      clear hst
      refine Ht.step (i := 15) ⟨none, _, _, _, _, _⟩ rfl (by kernel_rfl) (by rfl) (fun K hK => ?_)
      refine wp_store_mid 79 _ _ rfl gs (x.1 * 64) (byteCells (getS G x.1)).toArray rfl rfl (by simpa [byteCells, H1.out.2.2.2.2] using HST.out.1) (by simpa using HRS.out) (all_oneCell_toArray (bytes_one _)) ?_
      refine hK _ _ (fun h => absurd rfl h) (fun _ => ?_)
      clear hK K
      refine done (by kernel_rfl) ?_
      dsimp only [Act.put]
      obtain ⟨W2, hW2⟩ : ∃ X, X = W1.drew.setCells gs (x.1 * 64) (byteCells (getS G x.1)) := ⟨_, rfl⟩
      have hk2 : ∀ j, j ≠ gs → W2.heap[j]? = W1.heap[j]? := fun j hj => by rw [hW2]; exact heap_setCells_other hj _ _ _
      have hgs : ∀ g, g = gs → ∃ cur, W1.heap[g]? = some (.cells cur 79 (0, 0)) := fun g hg => by obtain ⟨cur, hc⟩ := own_type (g := gs) H1.out.2.2.1 rfl; exact ⟨cur, by rw [hg]; exact hc⟩
      have hbg : bd ≠ gs := fun e => by
        obtain ⟨cur, hc⟩ := hgs bd e
        rw [H1.out.1] at hc
        simp at hc
      have htk : W.take (k + 1) = W.take k ++ [x] := by rw [List.take_succ_eq_append_getElem hlt, HK.out.2.2.1]
      have hdk2 : IsDk W2 B bd gs cs gn cn (.slice (some ⟨gw, 0, none⟩) W.length cw) n (syncF G F (W.take (k + 1))) G W false := by
        rw [htk, syncF_snoc]
        refine ⟨(hk2 bd hbg).trans H1.out.1, by rw [hW2]; exact HST.out.2, own_other H1.out.2.1 (fun g hg => hk2 g (fun e => HK.out.1.ne (by rw [← e]; simpa [Value.ownBlock] using hg.symm))), own_other H1.out.2.2.2.1 (fun g hg => hk2 g (fun e => ?_)), HK.out.1.ne, HK.out.1.n1, HK.out.1.n2, HK.out.1.hw, HK.out.1.hb⟩
        obtain ⟨cur, hc⟩ := hgs g e
        exact own_not H1.out.2.2.2.1 hc (by decide) g hg rfl
      have hfr2 : Fr (Foot bd gs gn (.slice (some ⟨gw, 0, none⟩) W.length cw)) w W2 := by
        rw [hW2]; exact ((HK.out.2.1.trans (Fr.of HK.out.2.2.2.2.2.1)).drew).setCells (.inl (.inr (.inl rfl))) _
      have H2 := Lib.hid (And.intro hdk2 hfr2)
      rw [← hW2]
      clear hW2 hk2 hgs hbg htk hdk2 hfr2 hS1 hS0
      go_wp2_with fail
      go_roundw
      case rel => exact ⟨k + 1, by omega, by go_num, H2.out.1, H2.out.2⟩
      case measure => simp [intOf]; omega
    · obtain rfl : k = W.length := by omega
      rw [List.take_length] at hdk
      obtain ⟨⟨_, _, c2', _⟩, _, _, f2, _⟩ := four_cells hdk.blk
      have HK := Lib.hid (And.intro hdk.nowait hfr)
      clear hdk hfr
      go_wp2_with fail
      go_ret
      exact ⟨rfl, HK.out.1, HK.out.2.setCell (.inl (.inl rfl)) _⟩
end
end Go.Proofs.YtjblkmjdepdekaaDoor.Dk

/- disks: told, tell -/
namespace Go.Proofs.YtjblkmjdepdekaaDoor.Dk
open Go.RowKit Go.Lib Go.Proofs.YtjblkmjdepdekaaDoor.By Go.Proofs.YtjblkmjdepdekaaDoor.Ht

theorem told1_idle (w : World) : CallsD Tryd.prog 59 #[] .returning w fun e u' w' => e = .returned (.tuple #[]) ∧ u' = .returning ∧ w' = w := by
  refine callsD_of_wpS Tryd.func59 rfl fun c₀ cs hu => ?_
  apply wpS_region
  simp [wpOpsS, go_sem, recoverD, hu, Tryd.ntmps59, bodyPostS, results, Tryd.results59]
  cases c₀
  simp_all
theorem told_nil (i : Int) (w : World) : Calls Tryd.prog 55 #[.nilFunc, .int .i64 i] w fun e w' => e = .returned (.bool false) ∧ w' = w := by
  have hnn : ∀ (w : World), (binOp .neq 44 .nilFunc .nilFunc).run Tryd.prog w = .ok (.bool false) w := fun _ => by kernel_rfl
  go_enter_defers Tryd.func55, Tryd.ntmps55
  go_wp2
  refine leaves_cons (f := 59) (args := #[]) (by simp) (by simp [go_sem]) ?_
  refine (told1_idle _).mono ?_
  rintro e u' w'' ⟨rfl, rfl, rfl⟩
  simp [Leaves, settle, results, Tryd.results55, go_sem]
/-- a function that tells, and changes nothing -/
structure Tells (kv : Value) (k : Nat → Bool) (p : World → Prop) : Prop where
  fn : ∃ f caps, kv = .func (.func f) #[] caps ∧ (∀ args w, (callFunc f args).run Tryd.prog w = .ok (.enter f args) w) ∧ (∀ w, (binOp .neq 44 kv .nilFunc).run Tryd.prog w = .ok (.bool true) w) ∧
    ∀ (i : Nat) w, i ≤ 1000000 → p w → Calls Tryd.prog f (#[.int .i64 (i : Nat)] ++ caps) w fun e w' => e = .returned (.bool (k i)) ∧ w' = w
theorem told_fn {kv : Value} {k : Nat → Bool} {p : World → Prop} (h : Tells kv k p) (i : Nat) (hi : i ≤ 1000000) (w : World) (hp : p w) : Calls Tryd.prog 55 #[kv, .int .i64 (i : Nat)] w fun e w' => e = .returned (.bool (k i)) ∧ w' = w := by
  obtain ⟨f, caps, rfl, he, hn, hk⟩ := h.fn
  have HK := Lib.hid (hk i w hi hp)
  clear hk h
  go_enter_defers Tryd.func55, Tryd.ntmps55
  go_wp2_with ((with_reducible refine HK.out.mono ?_); rintro e w' ⟨rfl, rfl⟩)
  refine leaves_cons (f := 59) (args := #[]) (by simp) (by simp [go_sem]) ?_
  refine (told1_idle _).mono ?_
  rintro e u' w'' ⟨rfl, rfl, rfl⟩
  simp [Leaves, settle, results, Tryd.results55, go_sem]
/-- what is told of each, the same of either kind of function -/
def Asks (kv : Value) (k : Nat → Bool) (p : World → Prop) : Prop := ∀ (i : Nat) (w : World), i ≤ 1000000 → p w → Calls Tryd.prog 55 #[kv, .int .i64 (i : Nat)] w fun e w' => e = .returned (.bool (k i)) ∧ w' = w
theorem asks_nil : Asks .nilFunc (fun _ => false) (fun _ => True) := fun i w _ _ => told_nil i w
theorem asks_fn {kv : Value} {k : Nat → Bool} {p : World → Prop} (h : Tells kv k p) : Asks kv k p := fun i w hi hp => told_fn h i hi w hp
theorem info4 : (Tryd.prog.info? 4).map (fun i => (i.zero, i.size, i.bytes)) = some (some (.bool false), 1, 1) := by kernel_rfl
def toldL (k : Nat → Bool) (n m : Nat) : List Value := (List.range n).map fun i => Value.bool (decide (i < m) && k i)
theorem toldL_len (k : Nat → Bool) (n m : Nat) : (toldL k n m).length = n := by simp [toldL]
theorem toldL_next (k : Nat → Bool) (n m : Nat) : (toldL k n m).set m (.bool (k m)) = toldL k n (m + 1) := by
  apply List.ext_getElem
  · simp [toldL]
  · intro i h1 h2
    simp only [toldL, List.getElem_set, List.getElem_map, List.getElem_range]
    by_cases e : m = i
    · subst e; simp
    · rw [if_neg e]
      by_cases h3 : i < m
      · simp [h3, show i < m + 1 by omega]
      · simp [h3, show ¬ i < m + 1 by omega]
theorem made_bools {k : Nat → Bool} (n : Nat) : madeCells #[Value.bool false] n = (toldL k n 0).toArray := by
  apply Array.ext
  · simp [size_madeCells, toldL]
  · intro i h1 h2
    simp [madeCells, toldL, Nat.mod_one]
theorem make_bools (w : World) {n : Nat} (hn : n ≤ 1000000) (k : Nat → Bool) : (Instr.makeSlice 76 (.int .i64 (n : Nat)) (.int .i64 (n : Nat))).run Tryd.prog w =
    .ok (.slice (some ⟨w.heap.size, 0, none⟩) n n) (w.alloc (.cells (toldL k n 0).toArray 4)) := by
  obtain ⟨i0, hi, hz0, hz1, hz2⟩ := info_parts info4
  have hr := run_make (P := Tryd.prog) w 76 4 i0 _ Tryd.underlying76 hi hz0 .i64 .i64 n n (by omega) (by omega) (by rw [hz2]; omega) (by omega)
  rw [hz1, Nat.mul_one, Int.toNat_natCast, show (Value.bool false).cells = #[Value.bool false] from rfl, made_bools (k := k)] at hr
  exact hr
set_option maxRecDepth 20000 in
set_option maxHeartbeats 1000000 in
theorem tell_any {kv : Value} {k : Nat → Bool} {p : World → Prop} (h : Asks kv k p) (n : Nat) (hn : n ≤ 1000000) (w : World) (hp : ∀ w', Below w.heap.size w w' → p w') : Calls Tryd.prog 36 #[kv, .int .i64 (n : Nat)] w fun e w' =>
    e = .returned (.slice (some ⟨w.heap.size, 0, none⟩) n n) ∧ w'.heap[w.heap.size]? = some (.cells (toldL k n n).toArray 4 (0, 0)) ∧ Below w.heap.size w w' := by
  have hmk := make_bools w hn k
  obtain ⟨w1, hw1⟩ : ∃ X, X = w.alloc (.cells (toldL k n 0).toArray 4) := ⟨_, rfl⟩
  have h1 : w1.heap[w.heap.size]? = some (.cells (toldL k n 0).toArray 4 (0, 0)) ∧ Below w.heap.size w w1 := by rw [hw1]; exact ⟨heap_alloc_new w _, (Below.refl _ _).alloc (Nat.le_refl _) _⟩
  rw [← hw1] at hmk
  have H := Lib.hid (And.intro h (And.intro hp h1))
  clear hw1 h hp h1
  go_enter Tryd.func36, Tryd.ntmps36
  go_wp2_with fail
  go_loopw [11] (fun v wr => ∃ m : Nat, m ≤ n ∧ v = .int .i64 m ∧ wr.heap[w.heap.size]? = some (.cells (toldL k n m).toArray 4 (0, 0)) ∧ Below w.heap.size w wr) (fun v _ => n - (intOf v).toNat)
  case atStart => exact ⟨0, Nat.zero_le _, rfl, H.out.2.2.1, H.out.2.2.2⟩
  case round =>
    obtain ⟨m, hm, rfl, hg, hb⟩ := hrel
    by_cases hlt : m < n
    · have HK := Lib.hid (H.out.1 m wr (by omega) (H.out.2.1 wr hb))
      have hlI : (m : Int) < (n : Int) := by omega
      have hc : wr.cell? ⟨w.heap.size, m, none⟩ = some ((toldL k n m)[m]'(by rw [toldL_len]; exact hlt)) := by
        rw [cell_of_row wr _ m _ _ _ hg]; simp [toldL_len, hlt]
      have hf : wr.frozen? ⟨w.heap.size, m, none⟩ = false := frozen_of_row wr _ m _ _ hg
      have hset := heap_setCell_same wr w.heap.size m _ _ (.bool (k m)) hg
      rw [List.setIfInBounds_toArray, toldL_next] at hset
      have HS := Lib.hid (And.intro hset (hb.setCell (p := ⟨w.heap.size, m, none⟩) (Nat.le_refl _) (.bool (k m))))
      clear hg hb hset
      go_wp2_with (go_at_call 55; (with_reducible refine HK.out.mono ?_); rintro e w' ⟨rfl, rfl⟩)
      go_roundw
      case rel => exact ⟨m + 1, by omega, by go_num, HS.out.1, HS.out.2⟩
      case measure => simp [intOf]; omega
    · obtain rfl : m = n := by omega
      have HK := Lib.hid (And.intro hg hb)
      clear hg hb
      go_wp2_with fail
      go_ret
      exact ⟨rfl, HK.out.1, HK.out.2⟩
end Go.Proofs.YtjblkmjdepdekaaDoor.Dk

/- disks: Crash -/
namespace Go.Proofs.YtjblkmjdepdekaaDoor.Dk
open Go.RowKit Go.Lib Go.Proofs.YtjblkmjdepdekaaDoor.By Go.Proofs.YtjblkmjdepdekaaDoor.Ht
section
variable {w : World} {B bd gs cs gn cn n : Nat} {vw : Value} {F G : List UInt8} {W : List Wr} {dn : Bool}
theorem IsDk.lenF (h : IsDk w B bd gs cs gn cn vw n F G W dn) : F.length = 64 * n := by have := h.os.1; simp only [byteCells, List.length_map] at this; omega
theorem IsDk.lenG (h : IsDk w B bd gs cs gn cn vw n F G W dn) : G.length = 64 * n := by have := h.on.1; simp only [byteCells, List.length_map] at this; omega
theorem IsDk.blk_ne (h : IsDk w B bd gs cs gn cn vw n F G W dn) : bd ≠ gs ∧ bd ≠ gn := ⟨fun e => own_not h.os h.blk (by decide) gs rfl e.symm, fun e => own_not h.on h.blk (by decide) gn rfl e.symm⟩
theorem IsDk.waits_ne (h : IsDk w B bd gs cs gn cn vw n F G W dn) : ∀ g, vw.ownBlock = some g → g ≠ gs ∧ g ≠ gn := fun g hg => by
  obtain ⟨c1, h1⟩ := own_type (g := gs) h.os rfl
  obtain ⟨c2, h2⟩ := own_type (g := gn) h.on rfl
  exact ⟨own_not h.ow h1 (by decide) g hg, own_not h.ow h2 (by decide) g hg⟩
theorem IsDk.setSync (h : IsDk w B bd gs cs gn cn vw n F G W dn) {k : Nat} {b : List UInt8} (hk : k < n) (hb : b.length = 64) : w.there gs (k * 64) 64 ∧ IsDk (w.setCells gs (k * 64) (byteCells b)) B bd gs cs gn cn vw n (setS F k b) G W dn := by
  have h2 : ∀ j, j ≠ gs → (w.setCells gs (k * 64) (byteCells b)).heap[j]? = w.heap[j]? := fun j hj => heap_setCells_other hj _ _ _
  have h3 := own_sector h.os hk hb
  exact ⟨h3.1, (h2 bd h.blk_ne.1).trans h.blk, h3.2, own_other h.on (fun g hg => h2 g (fun e => h.ne (by rw [← e]; simpa [Value.ownBlock] using hg.symm))), own_other h.ow (fun g hg => h2 g (h.waits_ne g hg).1), h.ne, h.n1, h.n2, h.hw, h.hb⟩
theorem IsDk.setNow (h : IsDk w B bd gs cs gn cn vw n F G W dn) {k : Nat} {b : List UInt8} (hk : k < n) (hb : b.length = 64) : w.there gn (k * 64) 64 ∧ IsDk (w.setCells gn (k * 64) (byteCells b)) B bd gs cs gn cn vw n F (setS G k b) W dn := by
  have h2 : ∀ j, j ≠ gn → (w.setCells gn (k * 64) (byteCells b)).heap[j]? = w.heap[j]? := fun j hj => heap_setCells_other hj _ _ _
  have h3 := own_sector h.on hk hb
  exact ⟨h3.1, (h2 bd h.blk_ne.2).trans h.blk, own_other h.os (fun g hg => h2 g (fun e => h.ne (by rw [← e]; simpa [Value.ownBlock] using hg))), h3.2, own_other h.ow (fun g hg => h2 g (h.waits_ne g hg).2), h.ne, h.n1, h.n2, h.hw, h.hb⟩
end
/-- what a crash keeps of the first m writings -/
def cF (k : Nat → Bool) (W : List Wr) (F : List UInt8) (m : Nat) : List UInt8 := (List.range m).foldl (fun F i => if k i then setS F (W.getD i (0, [])).1 (W.getD i (0, [])).2 else F) F
theorem cF_succ (k : Nat → Bool) (W : List Wr) (F : List UInt8) (m : Nat) : cF k W F (m + 1) = if k m then setS (cF k W F m) (W.getD m (0, [])).1 (W.getD m (0, [])).2 else cF k W F m := by
  unfold cF; rw [List.range_succ, List.foldl_append]; rfl
theorem crash_nil (kv : Value) (w : World) : Calls Tryd.prog 15 #[.pointer none, kv] w fun e w' => e = .returned (.tuple #[]) ∧ w = w' := by
  go_enter Tryd.func15, Tryd.ntmps15
  go_wp2_with fail
  first | go_end0 | refine bodyPost_ret (results_none rfl _ _ _) rfl ?_
  exact ⟨rfl, rfl⟩
section
variable {w : World} {B bd gs cs gn cn n : Nat} {vw : Value} {F G : List UInt8} {W : List Wr} {dn : Bool}
set_option maxRecDepth 20000 in
set_option maxHeartbeats 4000000 in
theorem crash_any {kv : Value} {k : Nat → Bool} {p : World → Prop} (h : IsDk w B bd gs cs gn cn vw n F G W dn) (hA : Asks kv k p) (hp : ∀ w', Below w.heap.size w w' → p w') (hWl : W.length ≤ 1000000) :
    Calls Tryd.prog 15 #[.pointer (some ⟨bd, 0, none⟩), kv] w fun e w' =>
      e = .returned (.tuple #[]) ∧ IsDk w' B bd gs cs gn cn (.slice none 0 0) n (cF k W F W.length) (syncF (cF k W F W.length) G W) [] true ∧ Fr (Foot bd gs gn vw) w w' := by
  have HT := Lib.hid (tell_any hA W.length hWl w hp)
  obtain ⟨aw, cw, rfl⟩ := own_shape h.ow
  have hz0 := zero_writing
  obtain ⟨Z, hZ⟩ : ∃ Z, Z = (Zl (.int .i64 0)).toArray := ⟨_, rfl⟩
  rw [← hZ] at hz0
  have HZ := Lib.hid hZ
  clear hZ hp hA
  obtain ⟨⟨c0, c1, c2, c3⟩, _⟩ := four_cells h.blk
  have HH := Lib.hid h
  clear h c0 c1 c3
  go_enter Tryd.func15, Tryd.ntmps15
  go_wp2_with (go_at_call 36; (with_reducible refine HT.out.mono ?_); rintro e wt ⟨rfl, hkb, hbt⟩; have ct := (four_cells (HH.out.old hbt).blk).1.2.2.1)
  have hdt := HH.out.old hbt
  have HKB := Lib.hid (And.intro hkb (And.intro hbt hdt))
  have hkbe : ∃ q, q = w.heap.size := ⟨_, rfl⟩
  obtain ⟨kb, hkbe⟩ := hkbe
  rw [← hkbe] at HKB
  rw [← hkbe]
  have HE := Lib.hid hkbe
  clear hkb hbt hdt hkbe HT ct c2
  go_loopw [23] (fun kv wr => ∃ m : Nat, m ≤ W.length ∧ kv = .int .i64 m ∧ IsDk wr B bd gs cs gn cn (.slice aw W.length cw) n (cF k W F m) G W dn ∧ Fr (Foot bd gs gn (.slice aw W.length cw)) w wr ∧ wr.heap[kb]? = some (.cells (toldL k W.length W.length).toArray 4 (0, 0))) (fun kv _ => W.length - (intOf kv).toNat)
  case atStart => exact ⟨0, Nat.zero_le _, rfl, HKB.out.2.2, Fr.of (by rw [← HE.out]; exact HKB.out.2.1), HKB.out.1⟩
  case round =>
    obtain ⟨m, hm, rfl, hdk, hfr, hkb⟩ := hrel
    by_cases hlt : m < W.length
    · obtain ⟨gw, cw', hv, hcw, hrg⟩ := waits_range hdk hlt
      simp only [Value.slice.injEq, true_and] at hv
      obtain ⟨rfl, rfl⟩ := hv
      obtain ⟨x, hx⟩ : ∃ x, x = W[m] := ⟨_, rfl⟩
      rw [← hx] at hrg
      have hxw := hdk.hw x (by rw [hx]; exact List.getElem_mem hlt)
      obtain ⟨W1, hsc, hg1, hb1⟩ := var_made wr x hxw.2
      have hsz := size_writing (wcell_len hxw.2)
      have hYs : (wcell x).toArray.size = 65 := by simpa using wcell_len hxw.2
      obtain ⟨Y, hY⟩ : ∃ Y, Y = (wcell x).toArray := ⟨_, rfl⟩
      rw [show wcell x = Y.toList by rw [hY], ← HZ.out] at hsc
      rw [← hY] at hYs hg1
      have HRG := Lib.hid (And.intro hrg hsz)
      have hkl : wr.cell? ⟨kb, m, none⟩ = some (.bool (k m)) := by
        rw [cell_of_row wr _ m _ _ _ hkb]; simp [toldL, hlt]
      have hk1 : W1.cell? ⟨kb, m, none⟩ = some (.bool (k m)) := (World.cell?_of_block (hb1.block kb (lt_of_block hkb))).trans hkl
      have hdk1 := hdk.old hb1
      have hfr1 := hfr.trans (Fr.of (p := Foot bd gs gn (.slice (some ⟨gw, 0, none⟩) W.length cw)) hb1)
      have hkb1 : W1.heap[kb]? = some (.cells (toldL k W.length W.length).toArray 4 (0, 0)) := (hb1.block kb (lt_of_block hkb)).trans hkb
      have hgd : W.getD m (0, []) = x := by rw [hx]; simp [List.getD, hlt]
      have HK := Lib.hid (And.intro hdk1 (And.intro hfr1 (And.intro hkb1 (And.intro hg1 (And.intro hxw (And.intro hY hgd))))))
      have c2' := (four_cells hdk.blk).1.2.2.1
      rw [show wcell x = Y.toList by rw [hY]] at HRG
      clear hdk hfr hkb hx hxw hg1 hb1 hY hrg hsz hkl hdk1 hfr1 hkb1 hgd
      have hkc : (m : Int) < (W.length : Int) := by omega
      have hm0 : (0 : Int) ≤ (m : Int) := by omega
      by_cases hkm : k m = true
      · rw [hkm] at hk1
        have hsn := cF_succ k W F m
        rw [hkm, if_pos rfl, HK.out.2.2.2.2.2.2] at hsn
        have HSN := Lib.hid hsn
        clear hsn hkm
        go_wp2_with (refine wpList_load_mid rfl 81 _ rfl gw (m * 65) rfl Y.toList _ HRG.out.1 Tryd.underlying81 rfl HRG.out.2 ?_)
        have hmix : Tryd.prog.follows .mixedOrders = true := by kernel_rfl
        have hS1 : W1.heap[bd]? = some (.cells #[.slice (some ⟨gs, 0, none⟩) n cs, .slice (some ⟨gn, 0, none⟩) n cn, .slice (some ⟨gw, 0, none⟩) W.length cw, .bool dn] 63 (0, 0)) ∧ W1.heap[wr.heap.size]? = some (.cells Y 81 (0, 0)) := ⟨HK.out.1.blk, HK.out.2.2.2.1⟩
        have hat0 : (0 : Int) ≤ (x.1 : Int) := by omega
        have hat1 : (x.1 : Int) < (n : Int) := by have := HK.out.2.2.2.2.1.1; omega
        have hn4 := HK.out.1.n2
        have hyc : ∀ X : World, X.heap[wr.heap.size]? = some (.cells Y 81 (0, 0)) → X.cell? ⟨wr.heap.size, 0, none⟩ = some (.int .i64 (x.1 : Nat)) := fun X hX => by
          rw [cell_of_row X _ 0 Y _ _ hX, HK.out.2.2.2.2.2.1]; simp [wcell]
        have hyr : ∀ X : World, X.heap[wr.heap.size]? = some (.cells Y 81 (0, 0)) → X.rangeAt wr.heap.size 1 (byteCells x.2) := fun X hX => by
          rw [HK.out.2.2.2.2.2.1] at hX
          exact range_tail (m := 64) hX (by simp [byteCells, HK.out.2.2.2.2.1.2])
        have HHY := Lib.hid (And.intro hyc hyr)
        have hrs := size_sector (cs := byteCells x.2) (by simpa [byteCells] using HK.out.2.2.2.2.1.2)
        have HRS := Lib.hid hrs
        have hst := (HK.out.1.other (w' := W1.drew) (fun _ _ _ => rfl)).setSync HK.out.2.2.2.2.1.1 HK.out.2.2.2.2.1.2
        have HST := Lib.hid hst
        clear hyc hyr hrs hst c2'
        refine begin' 9 (fun X => X.heap[bd]? = some (.cells #[.slice (some ⟨gs, 0, none⟩) n cs, .slice (some ⟨gn, 0, none⟩) n cn, .slice (some ⟨gw, 0, none⟩) W.length cw, .bool dn] 63 (0, 0)) ∧ X.heap[wr.heap.size]? = some (.cells Y 81 (0, 0))) hmix hS1 (fun hS0 => ?_)
        refine Ht.take (i := 0) ⟨some 38, _, _, _, _, _⟩ (.pointer (some ⟨bd, 0, none⟩)) rfl (by kernel_rfl) (by kernel_rfl) (by decide) (by kernel_rfl) (by kernel_rfl) (by kernel_rfl) hS0 (Or.inl ⟨by rfl, by (intro X hX; go_simp)⟩) ?_
        simp only [Act.put, List.setIfInBounds_toArray, List.set_cons_zero, List.set_cons_succ]
        refine Ht.take (i := 1) ⟨some 39, _, _, _, _, _⟩ (.pointer (some ⟨bd, 0, none⟩)) rfl (by kernel_rfl) (by kernel_rfl) (by decide) (by kernel_rfl) (by kernel_rfl) (by kernel_rfl) hS0 (Or.inl ⟨by rfl, by (intro X hX; go_simp)⟩) ?_
        simp only [Act.put, List.setIfInBounds_toArray, List.set_cons_zero, List.set_cons_succ]
        refine Ht.take (i := 2) ⟨some 40, _, _, _, _, _⟩ (.pointer (some ⟨bd, 0, none⟩)) rfl (by kernel_rfl) (by kernel_rfl) (by decide) (by kernel_rfl) (by kernel_rfl) (by kernel_rfl) hS0 (Or.inl ⟨by rfl, by (intro X hX; go_simp)⟩) ?_
        simp only [Act.put, List.setIfInBounds_toArray, List.set_cons_zero, List.set_cons_succ]
        refine Ht.take (i := 3) ⟨some 41, _, _, _, _, _⟩ (.slice (some ⟨gs, 0, none⟩) n cs) rfl (by kernel_rfl) (by kernel_rfl) (by decide) (by kernel_rfl) (by kernel_rfl) (by kernel_rfl) hS0 (Or.inl ⟨by rfl, by (intro X hX; have := (four_cells hX.1).1.1; go_simp)⟩) ?_
        simp only [Act.put, List.setIfInBounds_toArray, List.set_cons_zero, List.set_cons_succ]
        refine Ht.take (i := 4) ⟨some 42, _, _, _, _, _⟩ (.pointer (some ⟨wr.heap.size, 0, none⟩)) rfl (by kernel_rfl) (by kernel_rfl) (by decide) (by kernel_rfl) (by kernel_rfl) (by kernel_rfl) hS0 (Or.inl ⟨by rfl, by (intro X hX; go_simp)⟩) ?_
        simp only [Act.put, List.setIfInBounds_toArray, List.set_cons_zero, List.set_cons_succ]
        refine Ht.take (i := 5) ⟨some 43, _, _, _, _, _⟩ (.int .i64 (x.1 : Nat)) rfl (by kernel_rfl) (by kernel_rfl) (by decide) (by kernel_rfl) (by kernel_rfl) (by kernel_rfl) hS0 (Or.inl ⟨by rfl, by (intro X hX; have := HHY.out.1 X hX.2; go_simp)⟩) ?_
        simp only [Act.put, List.setIfInBounds_toArray, List.set_cons_zero, List.set_cons_succ]
        refine Ht.take (i := 6) ⟨some 44, _, _, _, _, _⟩ (.pointer (some ⟨wr.heap.size, 1, none⟩)) rfl (by kernel_rfl) (by kernel_rfl) (by decide) (by kernel_rfl) (by kernel_rfl) (by kernel_rfl) hS0 (Or.inl ⟨by rfl, by (intro X hX; go_simp)⟩) ?_
        simp only [Act.put, List.setIfInBounds_toArray, List.set_cons_zero, List.set_cons_succ]
        refine Ht.take (i := 7) ⟨some 45, _, _, _, _, _⟩ (.agg (byteCells x.2).toArray) rfl (by kernel_rfl) (by kernel_rfl) (by decide) (by kernel_rfl) (by kernel_rfl) (by kernel_rfl) hS0 (yieldsIf_load_mid (by rfl) _ _ rfl wr.heap.size 1 rfl (byteCells x.2) _ (fun X hX => HHY.out.2 X hX.2) Tryd.underlying79 rfl HRS.out) ?_
        simp only [Act.put, List.setIfInBounds_toArray, List.set_cons_zero, List.set_cons_succ]
        refine Ht.take (i := 8) ⟨some 46, _, _, _, _, _⟩ (.pointer (some ⟨gs, x.1 * 64, none⟩)) rfl (by kernel_rfl) (by kernel_rfl) (by decide) (by kernel_rfl) (by kernel_rfl) (by kernel_rfl) hS0 (Or.inl ⟨by rfl, by (intro X hX; go_simp)⟩) ?_
        simp only [Act.put, List.setIfInBounds_toArray, List.set_cons_zero, List.set_cons_succ]
        refine Ht.step (i := 9) ⟨none, _, _, _, _, _⟩ rfl (by kernel_rfl) (by rfl) (fun K hK => ?_)
        refine wp_store_mid 79 _ _ rfl gs (x.1 * 64) (byteCells x.2).toArray rfl rfl (by simpa [byteCells, HK.out.2.2.2.2.1.2] using HST.out.1) (by simpa using HRS.out) (all_oneCell_toArray (bytes_one _)) ?_
        refine hK _ _ (fun h => absurd rfl h) (fun _ => ?_)
        clear hK K
        refine done (by kernel_rfl) ?_
        dsimp only [Act.put]
        obtain ⟨W2, hW2⟩ : ∃ X, X = W1.drew.setCells gs (x.1 * 64) (byteCells x.2) := ⟨_, rfl⟩
        have hdk2 : IsDk W2 B bd gs cs gn cn (.slice (some ⟨gw, 0, none⟩) W.length cw) n (cF k W F (m + 1)) G W dn := by rw [hW2, HSN.out]; exact HST.out.2
        have hfr2 : Fr (Foot bd gs gn (.slice (some ⟨gw, 0, none⟩) W.length cw)) w W2 := by rw [hW2]; exact (HK.out.2.1.drew).setCells (.inl (.inr (.inl rfl))) _
        have hkb2 : W2.heap[kb]? = some (.cells (toldL k W.length W.length).toArray 4 (0, 0)) := by
          rw [hW2]
          exact (heap_setCells_other (fun e => own_not HK.out.1.os HK.out.2.2.1 (by decide) gs rfl e.symm) _ _ _).trans HK.out.2.2.1
        have H2 := Lib.hid (And.intro hdk2 (And.intro hfr2 hkb2))
        rw [← hW2]
        clear hW2 hdk2 hfr2 hkb2 hS1 hS0
        go_wp2_with fail
        go_roundw
        case rel => exact ⟨m + 1, by omega, by go_num, H2.out.1, H2.out.2.1, H2.out.2.2⟩
        case measure => simp [intOf]; omega
      · have hkf : k m = false := by simpa using hkm
        rw [hkf] at hk1
        have hsn := cF_succ k W F m
        rw [hkf, if_neg (by simp)] at hsn
        have HSN := Lib.hid hsn
        clear hsn hkm hkf
        go_wp2_with (refine wpList_load_mid rfl 81 _ rfl gw (m * 65) rfl Y.toList _ HRG.out.1 Tryd.underlying81 rfl HRG.out.2 ?_)
        go_roundw
        case rel => exact ⟨m + 1, by omega, by go_num, by rw [HSN.out]; exact HK.out.1, HK.out.2.1, HK.out.2.2.1⟩
        case measure => simp [intOf]; omega
    · obtain rfl : m = W.length := by omega
      obtain ⟨S, hS⟩ : ∃ S, S = cF k W F W.length := ⟨_, rfl⟩
      rw [← hS] at hdk
      have c2' := (four_cells hdk.blk).1.2.2.1
      obtain ⟨wo, rfl⟩ : ∃ wo : World, wo = wr := ⟨_, rfl⟩
      have HO := Lib.hid (And.intro hdk (And.intro hfr hS))
      clear hdk hfr hkb hS
      go_wp2_with fail
      go_loopw [53] (fun kv wr => ∃ m : Nat, m ≤ W.length ∧ kv = .int .i64 m ∧ IsDk wr B bd gs cs gn cn (.slice aw W.length cw) n S (syncF S G (W.take m)) W dn ∧ Fr (Foot bd gs gn (.slice aw W.length cw)) w wr) (fun kv _ => W.length - (intOf kv).toNat)
      case atStart => exact ⟨0, Nat.zero_le _, rfl, HO.out.1, HO.out.2.1⟩
      case round =>
        obtain ⟨m, hm, rfl, hdk, hfr⟩ := hrel
        clear c2'
        by_cases hlt : m < W.length
        · obtain ⟨gw, cw', hv, hcw, hrg⟩ := waits_range hdk hlt
          simp only [Value.slice.injEq, true_and] at hv
          obtain ⟨rfl, rfl⟩ := hv
          obtain ⟨x, hx⟩ : ∃ x, x = W[m] := ⟨_, rfl⟩
          rw [← hx] at hrg
          have hxw := hdk.hw x (by rw [hx]; exact List.getElem_mem hlt)
          obtain ⟨W1, hsc, hg1, hb1⟩ := var_made wr x hxw.2
          have hsz := size_writing (wcell_len hxw.2)
          have hYs : (wcell x).toArray.size = 65 := by simpa using wcell_len hxw.2
          obtain ⟨Y, hY⟩ : ∃ Y, Y = (wcell x).toArray := ⟨_, rfl⟩
          rw [show wcell x = Y.toList by rw [hY], ← HZ.out] at hsc
          rw [← hY] at hYs hg1
          have HRG := Lib.hid (And.intro hrg hsz)
          have hdk1 := hdk.old hb1
          have hfr1 := hfr.trans (Fr.of (p := Foot bd gs gn (.slice (some ⟨gw, 0, none⟩) W.length cw)) hb1)
          have htk : W.take (m + 1) = W.take m ++ [x] := by rw [List.take_succ_eq_append_getElem hlt, hx]
          have hsn := syncF_snoc S G (W.take m) x
          rw [← htk] at hsn
          have hgl := length_getS hdk.lenF hxw.1
          have HK := Lib.hid (And.intro hdk1 (And.intro hfr1 (And.intro hg1 (And.intro hxw (And.intro hY (And.intro hsn hgl))))))
          have c2' := (four_cells hdk.blk).1.2.2.1
          rw [show wcell x = Y.toList by rw [hY]] at HRG
          clear hdk hfr hx hxw hg1 hb1 hY hrg hsz hdk1 hfr1 htk hsn hgl
          have hkc : (m : Int) < (W.length : Int) := by omega
          go_wp2_with (refine wpList_load_mid rfl 81 _ rfl gw (m * 65) rfl Y.toList _ HRG.out.1 Tryd.underlying81 rfl HRG.out.2 ?_)
          have hmix : Tryd.prog.follows .mixedOrders = true := by kernel_rfl
          have hS1 : W1.heap[bd]? = some (.cells #[.slice (some ⟨gs, 0, none⟩) n cs, .slice (some ⟨gn, 0, none⟩) n cn, .slice (some ⟨gw, 0, none⟩) W.length cw, .bool dn] 63 (0, 0)) ∧ W1.heap[wr.heap.size]? = some (.cells Y 81 (0, 0)) ∧ W1.rangeAt gs (x.1 * 64) (byteCells (getS S x.1)) := ⟨HK.out.1.blk, HK.out.2.2.1, sector_range HK.out.1.os⟩
          have hat0 : (0 : Int) ≤ (x.1 : Int) := by omega
          have hat1 : (x.1 : Int) < (n : Int) := by have := HK.out.2.2.2.1.1; omega
          have hn4 := HK.out.1.n2
          have hyc : ∀ X : World, X.heap[wr.heap.size]? = some (.cells Y 81 (0, 0)) → X.cell? ⟨wr.heap.size, 0, none⟩ = some (.int .i64 (x.1 : Nat)) := fun X hX => by
            rw [cell_of_row X _ 0 Y _ _ hX, HK.out.2.2.2.2.1]; simp [wcell]
          have HHY := Lib.hid hyc
          have hrs := size_sector (cs := byteCells (getS S x.1)) (by simpa [byteCells] using HK.out.2.2.2.2.2.2)
          have HRS := Lib.hid hrs
          have hst := (HK.out.1.other (w' := W1.drew) (fun _ _ _ => rfl)).setNow HK.out.2.2.2.1.1 HK.out.2.2.2.2.2.2
          have HST := Lib.hid hst
          clear hyc hrs hst c2'
          refine begin' 15 (fun X => X.heap[bd]? = some (.cells #[.slice (some ⟨gs, 0, none⟩) n cs, .slice (some ⟨gn, 0, none⟩) n cn, .slice (some ⟨gw, 0, none⟩) W.length cw, .bool dn] 63 (0, 0)) ∧ X.heap[wr.heap.size]? = some (.cells Y 81 (0, 0)) ∧ X.rangeAt gs (x.1 * 64) (byteCells (getS S x.1))) hmix hS1 (fun hS0 => ?_)
          refine Ht.take (i := 0) ⟨some 57, _, _, _, _, _⟩ (.pointer (some ⟨bd, 0, none⟩)) rfl (by kernel_rfl) (by kernel_rfl) (by decide) (by kernel_rfl) (by kernel_rfl) (by kernel_rfl) hS0 (Or.inl ⟨by rfl, by (intro X hX; go_simp)⟩) ?_
          simp only [Act.put, List.setIfInBounds_toArray, List.set_cons_zero, List.set_cons_succ]
          refine Ht.take (i := 1) ⟨some 58, _, _, _, _, _⟩ (.pointer (some ⟨bd, 0, none⟩)) rfl (by kernel_rfl) (by kernel_rfl) (by decide) (by kernel_rfl) (by kernel_rfl) (by kernel_rfl) hS0 (Or.inl ⟨by rfl, by (intro X hX; go_simp)⟩) ?_
          simp only [Act.put, List.setIfInBounds_toArray, List.set_cons_zero, List.set_cons_succ]
          refine Ht.take (i := 2) ⟨some 59, _, _, _, _, _⟩ (.pointer (some ⟨bd, 1, none⟩)) rfl (by kernel_rfl) (by kernel_rfl) (by decide) (by kernel_rfl) (by kernel_rfl) (by kernel_rfl) hS0 (Or.inl ⟨by rfl, by (intro X hX; go_simp)⟩) ?_
          simp only [Act.put, List.setIfInBounds_toArray, List.set_cons_zero, List.set_cons_succ]
          refine Ht.take (i := 3) ⟨some 60, _, _, _, _, _⟩ (.slice (some ⟨gn, 0, none⟩) n cn) rfl (by kernel_rfl) (by kernel_rfl) (by decide) (by kernel_rfl) (by kernel_rfl) (by kernel_rfl) hS0 (Or.inl ⟨by rfl, by (intro X hX; have := (four_cells hX.1).1.2.1; go_simp)⟩) ?_
          simp only [Act.put, List.setIfInBounds_toArray, List.set_cons_zero, List.set_cons_succ]
          refine Ht.take (i := 4) ⟨some 61, _, _, _, _, _⟩ (.pointer (some ⟨wr.heap.size, 0, none⟩)) rfl (by kernel_rfl) (by kernel_rfl) (by decide) (by kernel_rfl) (by kernel_rfl) (by kernel_rfl) hS0 (Or.inl ⟨by rfl, by (intro X hX; go_simp)⟩) ?_
          simp only [Act.put, List.setIfInBounds_toArray, List.set_cons_zero, List.set_cons_succ]
          refine Ht.take (i := 5) ⟨some 62, _, _, _, _, _⟩ (.int .i64 (x.1 : Nat)) rfl (by kernel_rfl) (by kernel_rfl) (by decide) (by kernel_rfl) (by kernel_rfl) (by kernel_rfl) hS0 (Or.inl ⟨by rfl, by (intro X hX; have := HHY.out X hX.2.1; go_simp)⟩) ?_
          simp only [Act.put, List.setIfInBounds_toArray, List.set_cons_zero, List.set_cons_succ]
          refine Ht.take (i := 6) ⟨some 63, _, _, _, _, _⟩ (.pointer (some ⟨bd, 0, none⟩)) rfl (by kernel_rfl) (by kernel_rfl) (by decide) (by kernel_rfl) (by kernel_rfl) (by kernel_rfl) hS0 (Or.inl ⟨by rfl, by (intro X hX; go_simp)⟩) ?_
          simp only [Act.put, List.setIfInBounds_toArray, List.set_cons_zero, List.set_cons_succ]
          refine Ht.take (i := 7) ⟨some 64, _, _, _, _, _⟩ (.pointer (some ⟨bd, 0, none⟩)) rfl (by kernel_rfl) (by kernel_rfl) (by decide) (by kernel_rfl) (by kernel_rfl) (by kernel_rfl) hS0 (Or.inl ⟨by rfl, by (intro X hX; go_simp)⟩) ?_
          simp only [Act.put, List.setIfInBounds_toArray, List.set_cons_zero, List.set_cons_succ]
          refine Ht.take (i := 8) ⟨some 65, _, _, _, _, _⟩ (.pointer (some ⟨bd, 0, none⟩)) rfl (by kernel_rfl) (by kernel_rfl) (by decide) (by kernel_rfl) (by kernel_rfl) (by kernel_rfl) hS0 (Or.inl ⟨by rfl, by (intro X hX; go_simp)⟩) ?_
          simp only [Act.put, List.setIfInBounds_toArray, List.set_cons_zero, List.set_cons_succ]
          refine Ht.take (i := 9) ⟨some 66, _, _, _, _, _⟩ (.slice (some ⟨gs, 0, none⟩) n cs) rfl (by kernel_rfl) (by kernel_rfl) (by decide) (by kernel_rfl) (by kernel_rfl) (by kernel_rfl) hS0 (Or.inl ⟨by rfl, by (intro X hX; have := (four_cells hX.1).1.1; go_simp)⟩) ?_
          simp only [Act.put, List.setIfInBounds_toArray, List.set_cons_zero, List.set_cons_succ]
          refine Ht.take (i := 10) ⟨some 67, _, _, _, _, _⟩ (.pointer (some ⟨wr.heap.size, 0, none⟩)) rfl (by kernel_rfl) (by kernel_rfl) (by decide) (by kernel_rfl) (by kernel_rfl) (by kernel_rfl) hS0 (Or.inl ⟨by rfl, by (intro X hX; go_simp)⟩) ?_
          simp only [Act.put, List.setIfInBounds_toArray, List.set_cons_zero, List.set_cons_succ]
          refine Ht.take (i := 11) ⟨some 68, _, _, _, _, _⟩ (.int .i64 (x.1 : Nat)) rfl (by kernel_rfl) (by kernel_rfl) (by decide) (by kernel_rfl) (by kernel_rfl) (by kernel_rfl) hS0 (Or.inl ⟨by rfl, by (intro X hX; have := HHY.out X hX.2.1; go_simp)⟩) ?_
          simp only [Act.put, List.setIfInBounds_toArray, List.set_cons_zero, List.set_cons_succ]
          refine Ht.take (i := 12) ⟨some 69, _, _, _, _, _⟩ (.pointer (some ⟨gs, x.1 * 64, none⟩)) rfl (by kernel_rfl) (by kernel_rfl) (by decide) (by kernel_rfl) (by kernel_rfl) (by kernel_rfl) hS0 (Or.inl ⟨by rfl, by (intro X hX; go_simp)⟩) ?_
          simp only [Act.put, List.setIfInBounds_toArray, List.set_cons_zero, List.set_cons_succ]
          refine Ht.take (i := 13) ⟨some 70, _, _, _, _, _⟩ (.agg (byteCells (getS S x.1)).toArray) rfl (by kernel_rfl) (by kernel_rfl) (by decide) (by kernel_rfl) (by kernel_rfl) (by kernel_rfl) hS0 (yieldsIf_load_mid (by rfl) _ _ rfl gs (x.1 * 64) rfl (byteCells (getS S x.1)) _ (fun X hX => hX.2.2) Tryd.underlying79 rfl HRS.out) ?_
          simp only [Act.put, List.setIfInBounds_toArray, List.set_cons_zero, List.set_cons_succ]
          refine Ht.take (i := 14) ⟨some 71, _, _, _, _, _⟩ (.pointer (some ⟨gn, x.1 * 64, none⟩)) rfl (by kernel_rfl) (by kernel_rfl) (by decide) (by kernel_rfl) (by kernel_rfl) (by kernel_rfl) hS0 (Or.inl ⟨by rfl, by (intro X hX; go_simp)⟩) ?_
          simp only [Act.put, List.setIfInBounds_toArray, List.set_cons_zero, List.set_cons_succ]
          refine Ht.step (i := 15) ⟨none, _, _, _, _, _⟩ rfl (by kernel_rfl) (by rfl) (fun K hK => ?_)
          refine wp_store_mid 79 _ _ rfl gn (x.1 * 64) (byteCells (getS S x.1)).toArray rfl rfl (by simpa [byteCells, HK.out.2.2.2.2.2.2] using HST.out.1) (by simpa using HRS.out) (all_oneCell_toArray (bytes_one _)) ?_
          refine hK _ _ (fun h => absurd rfl h) (fun _ => ?_)
          clear hK K
          refine done (by kernel_rfl) ?_
          dsimp only [Act.put]
          obtain ⟨W2, hW2⟩ : ∃ X, X = W1.drew.setCells gn (x.1 * 64) (byteCells (getS S x.1)) := ⟨_, rfl⟩
          have hdk2 : IsDk W2 B bd gs cs gn cn (.slice (some ⟨gw, 0, none⟩) W.length cw) n S (syncF S G (W.take (m + 1))) W dn := by rw [hW2, HK.out.2.2.2.2.2.1]; exact HST.out.2
          have hfr2 : Fr (Foot bd gs gn (.slice (some ⟨gw, 0, none⟩) W.length cw)) w W2 := by rw [hW2]; exact (HK.out.2.1.drew).setCells (.inl (.inr (.inr (.inl rfl)))) _
          have H2 := Lib.hid (And.intro hdk2 hfr2)
          rw [← hW2]
          clear hW2 hdk2 hfr2 hS1 hS0
          go_wp2_with fail
          go_roundw
          case rel => exact ⟨m + 1, by omega, by go_num, H2.out.1, H2.out.2⟩
          case measure => simp [intOf]; omega
        · obtain rfl : m = W.length := by omega
          rw [List.take_length] at hdk
          obtain ⟨⟨_, _, d2, d3⟩, _, _, f2, f3⟩ := four_cells hdk.blk
          have HK := Lib.hid (And.intro (hdk.nowait.cell3 true) hfr)
          clear hdk hfr
          go_wp2_with fail
          first | go_end0 | refine bodyPost_ret (results_none rfl _ _ _) rfl ?_
          exact ⟨rfl, by have h := HK.out.1; rw [HO.out.2.2] at h; exact h, (HK.out.2.setCell (.inl (.inl rfl)) _).setCell (.inl (.inl rfl)) _⟩
end
end Go.Proofs.YtjblkmjdepdekaaDoor.Dk

/- disks: Read -/
namespace Go.Proofs.YtjblkmjdepdekaaDoor.Dk
open Go.RowKit Go.Lib Go.Proofs.YtjblkmjdepdekaaDoor.By Go.Proofs.YtjblkmjdepdekaaDoor.Ht

theorem zero_sector (w : World) : (zeroValue 79).run Tryd.prog w = .ok (.agg (Array.replicate 64 (.int .u8 0))) w := by
  obtain ⟨i0, hi, hz0, hz1, hz2⟩ := info_parts info79
  simp [zeroValue, typeInfo, hi, hz0]
/-- a variable of a sector is made, and written whole -/
theorem sec_made (w : World) (b : List UInt8) (hb : b.length = 64) : ∃ W1, (storeCells ⟨w.heap.size, 0, none⟩ (byteCells b)).run Tryd.prog (w.alloc (.cells (Array.replicate 64 (.int .u8 0)) 79)) = .ok () W1 ∧
    IsB W1 (some ⟨w.heap.size, 0, none⟩) 64 64 b ∧ Below w.heap.size w W1 ∧ w.heap.size < W1.heap.size := by
  have hl : (byteCells b).length = 64 := by simpa [byteCells] using hb
  have hg := setRow_heap (w.alloc (.cells (Array.replicate 64 (.int .u8 0)) 79)) w.heap.size _ (byteCells b).toArray 79 (0, 0) (heap_alloc_new w _)
  refine ⟨(w.alloc (.cells (Array.replicate 64 (.int .u8 0)) 79)).setRow w.heap.size (byteCells b).toArray, ?_, ⟨hb, .inr ⟨_, rfl, Nat.le_refl _, by unfold maxLen; omega, fun j u hu => ?_⟩⟩, below_setRow ((Below.refl _ _).alloc (Nat.le_refl _) _) (Nat.le_refl _) _, lt_of_block hg⟩
  · have := run_storeCells_from (P := Tryd.prog) w.heap.size 79 (byteCells b) 0 (Array.replicate 64 (.int .u8 0)) (w.alloc (.cells (Array.replicate 64 (.int .u8 0)) 79)) (heap_alloc_new w _) (by rw [hl]; simp) (bytes_one b)
    simpa using this
  · rw [Addr.add_mid, Nat.zero_add, cell_of_row _ _ j _ _ _ hg]
    simpa using hu
theorem read_nil (i m : Int) (w : World) : Calls Tryd.prog 23 #[.pointer none, .int .i64 i, .int .i64 m] w fun e w' => e = .returned (.tuple #[.slice none 0 0, .int .i64 19]) ∧ w = w' := by
  have HD := Lib.hid (down_nil w)
  go_enter Tryd.func23, Tryd.ntmps23
  go_wp2_with (go_at_call 42; refine HD.out.mono ?_; rintro e w' ⟨rfl, rfl⟩)
  go_ret2
  exact ⟨rfl, rfl⟩
section
variable {w : World} {B bd gs cs gn cn n : Nat} {vw : Value} {F G : List UInt8} {W : List Wr}
theorem read_down (h : IsDk w B bd gs cs gn cn vw n F G W true) (i m : Int) : Calls Tryd.prog 23 #[.pointer (some ⟨bd, 0, none⟩), .int .i64 i, .int .i64 m] w fun e w' => e = .returned (.tuple #[.slice none 0 0, .int .i64 19]) ∧ w = w' := by
  have HD := Lib.hid (down_any h)
  clear h
  go_enter Tryd.func23, Tryd.ntmps23
  go_wp2_with (go_at_call 42; refine HD.out.mono ?_; rintro e w' ⟨rfl, rfl⟩)
  go_ret2
  exact ⟨rfl, rfl⟩
/-- m sectors' bytes from one on -/
def getM (G : List UInt8) (i m : Nat) : List UInt8 := (G.drop (64 * i)).take (64 * m)
theorem getM_succ (G : List UInt8) (i m : Nat) : getM G i (m + 1) = getM G i m ++ getS G (i + m) := by
  unfold getM getS
  rw [show 64 * (m + 1) = 64 * m + 64 by omega, List.take_add, List.drop_drop, show 64 * i + 64 * m = 64 * (i + m) by omega]
theorem length_getM {F : List UInt8} {i m n : Nat} (hF : F.length = 64 * n) (h : i + m ≤ n) : (getM F i m).length = 64 * m := by unfold getM; simp [hF]; omega
set_option maxRecDepth 20000 in
set_option maxHeartbeats 2000000 in
theorem read_ok (h : IsDk w B bd gs cs gn cn vw n F G W false) (i m : Nat) (hm : 1 ≤ m) (him : i + m ≤ n) : Calls Tryd.prog 23 #[.pointer (some ⟨bd, 0, none⟩), .int .i64 (i : Nat), .int .i64 (m : Nat)] w fun e w' =>
    ∃ ao cp, e = .returned (.tuple #[.slice ao (64 * m) cp, .int .i64 0]) ∧ IsB w' ao (64 * m) cp (getM G i m) ∧ w'.ownsRow w.heap.size 5 1 (.slice ao (64 * m) cp) (64 * m) (byteCells (getM G i m)) ∧ Below w.heap.size w w' := by
  have HD := Lib.hid (down_any h)
  have hn4 := h.n2
  have HS := has_any h i m (by omega)
  rw [show hasB n i m = true by unfold hasB; simp; omega] at HS
  have HS := Lib.hid HS
  have hz0 := zero_sector
  obtain ⟨Z, hZ⟩ : ∃ Z, Z = Array.replicate 64 (Value.int .u8 0) := ⟨_, rfl⟩
  rw [← hZ] at hz0
  have HZ := Lib.hid hZ
  obtain ⟨i0, hi, hz1, hz2, hz3⟩ := info_parts info5
  have hr := run_make (P := Tryd.prog) w 32 5 i0 _ Tryd.underlying32 hi hz1 .i64 .i64 0 ((m * 64 : Nat) : Int) (by omega) (by omega) (by rw [hz3]; omega) (by omega)
  rw [hz2, Nat.mul_one, Int.toNat_natCast] at hr
  obtain ⟨w1, hw1⟩ : ∃ X, X = w.alloc (.cells (madeCells (Value.int .u8 0).cells (m * 64)) 5) := ⟨_, rfl⟩
  have hown := World.ownsRow_made (base := w.heap.size) (size := 1) (e := 5) w (madeCells (Value.int .u8 0).cells (m * 64)) (m * 64) (Nat.le_refl _) (by unfold maxLen; omega) (by rw [size_madeCells]; omega)
  rw [← hw1] at hr hown
  have hb1 : Below w.heap.size w w1 := by rw [hw1]; exact (Below.refl _ _).alloc (Nat.le_refl _) _
  have hz : w.heap.size < w1.heap.size := by rw [hw1]; simp
  have hdk1 := h.old hb1
  obtain ⟨⟨_, c1, _, _⟩, _⟩ := four_cells hdk1.blk
  have hcn : n ≤ cn ∧ cn ≤ 9223372036854775807 := by
    rcases h.on.2 with ⟨h1, _⟩ | ⟨g', cap', cur, h1, h2, h3, h4, h5, _⟩
    · simp at h1
    · simp at h1; unfold maxLen at h5; omega
  have HH := Lib.hid (And.intro h (And.intro hdk1 (And.intro hown (And.intro hb1 hz))))
  clear h hw1 hown hb1 hz hdk1 hZ hi hz1 hz2 hz3
  have e1 : ((m * 64 : Nat) : Int) = (m : Int) * 64 := by omega
  rw [e1] at hr
  have k1 : (i : Int) + (m : Int) ≤ (cn : Int) := by omega
  have k2 : (i : Int) + (m : Int) ≤ 4096 := by omega
  have k3 : (m : Int) ≤ 4096 := by omega
  have k4 : ¬ cn = i := by omega
  clear e1
  go_enter Tryd.func23, Tryd.ntmps23
  go_wp2_with (first | (go_at_call 42; refine HD.out.mono ?_; rintro e w' ⟨rfl, rfl⟩) | (go_at_call 43; refine HS.out.mono ?_; rintro e w' ⟨rfl, rfl⟩))
  rw [show i + m - i = m by omega]
  go_loopw [8, 31] (fun bv kv wr => ∃ j : Nat, j ≤ m ∧ kv = .int .i64 j ∧ (∃ ao cp, bv = .slice ao (64 * j) cp ∧ wr.ownsRow w.heap.size 5 1 (.slice ao (64 * j) cp) (64 * j) (byteCells (getM G i j))) ∧ Below w.heap.size w wr ∧ w.heap.size < wr.heap.size) (fun _ kv _ => m - (intOf kv).toNat)
  case atStart => exact ⟨0, Nat.zero_le _, rfl, ⟨_, _, rfl, by have := HH.out.2.2.1; simpa [getM, byteCells] using this⟩, HH.out.2.2.2.1, HH.out.2.2.2.2⟩
  case round =>
    obtain ⟨j, hj, rfl, ⟨ao, cp, rfl, hown⟩, hb, hzr⟩ := hrel
    by_cases hlt : j < m
    · have hdk := HH.out.1.old hb
      have hgl := length_getS hdk.lenG (show i + j < n by omega)
      obtain ⟨W1, hsc, hib, hb1, hz1⟩ := sec_made wr (getS G (i + j)) hgl
      rw [← HZ.out] at hsc
      have hrg := sector_range (k := i + j) hdk.on
      have hYl : (byteCells (getS G (i + j))).length = 64 := by simpa [byteCells] using hgl
      have hrs := size_sector hYl
      obtain ⟨Y, hY⟩ : ∃ Y, Y = (byteCells (getS G (i + j))).toArray := ⟨_, rfl⟩
      have hYs : Y.size = 64 := by rw [hY]; simpa using hYl
      rw [show byteCells (getS G (i + j)) = Y.toList by rw [hY]] at hsc hrg hrs
      rw [show (i + j) * 64 = i * 64 + j * 64 by omega] at hrg
      have HRG := Lib.hid (And.intro hrg hrs)
      have hown1 := own_below hown hb1 (Nat.le_refl _)
      have HK := Lib.hid (And.intro hown1 (And.intro (hb.trans (hb1.mono hb.size)) (And.intro (show w.heap.size < W1.heap.size by omega) (And.intro (getM_succ G i j) hY))))
      have hkc : (j : Int) < (m : Int) := by omega
      have hzl : w.heap.size ≤ W1.heap.size := by omega
      clear hdk hgl hrg hYl hrs hY hown hb hb1 hz1 hzr
      go_wp2_with (first | (refine wpList_load_mid rfl 79 _ rfl gn (i * 64 + j * 64) rfl Y.toList _ HRG.out.1 Tryd.underlying79 rfl HRG.out.2 ?_) | (at_builtin; refine wpList_append_bytes rfl _ _ rfl w.heap.size _ (64 * j) (getM G i j) rfl HK.out.1 (some ⟨wr.heap.size, 0, none⟩) 64 64 (getS G (i + j)) rfl hib ?d1 hzl ?_))
      case d1 => omega
      · intro ao5 cp5 w5 hown5 hg5
        rw [← HK.out.2.2.2.1] at hown5
        have hb5 : Below w.heap.size w w5 := HK.out.2.1.grown hg5 hzl (fun g hg => (HK.out.1.lt g hg).1)
        have hz5 : w.heap.size < w5.heap.size := by have := hg5.size; have := HK.out.2.2.1; omega
        rw [show 64 * j + 64 = 64 * (j + 1) by omega] at hown5 ⊢
        have H5 := Lib.hid (And.intro hown5 (And.intro hb5 hz5))
        clear hown5 hg5 hb5 hz5 hib hown1
        go_wp2_with fail
        go_roundw
        case rel => exact ⟨j + 1, by omega, by go_num, ⟨ao5, cp5, rfl, H5.out.1⟩, H5.out.2.1, H5.out.2.2⟩
        case measure => simp [intOf]; omega
    · obtain rfl : j = m := by omega
      have hgl := length_getM HH.out.2.1.lenG him
      have hib : IsB wr ao (64 * j) cp (getM G i j) := by
        obtain ⟨x, y, hv, hi⟩ := isB_own (l := getM G i j) (by rw [hgl]; exact hown)
        rw [hgl] at hv hi
        simp only [Value.slice.injEq, true_and] at hv
        obtain ⟨rfl, rfl⟩ := hv
        exact hi
      have HK := Lib.hid (And.intro hib (And.intro hown hb))
      clear hgl hib hown hb
      go_wp2_with fail
      go_ret2
      exact ⟨ao, cp, rfl, HK.out.1, HK.out.2.1, HK.out.2.2⟩
end
end Go.Proofs.YtjblkmjdepdekaaDoor.Dk

/- disks: the chapter's example; what a disk that isn't there answers -/
namespace Go.Proofs.YtjblkmjdepdekaaDoor.Dk
open Go.RowKit Go.Lib Go.Proofs.YtjblkmjdepdekaaDoor.By Go.Proofs.YtjblkmjdepdekaaDoor.Ht

theorem isB_one (w : World) (c : UInt8) (fr : Nat × Nat) : IsB (w.alloc (.cells #[.int .u8 (c.toNat : Nat)] 5 fr)) (some ⟨w.heap.size, 0, none⟩) 1 1 [c] := by
  refine ⟨rfl, .inr ⟨_, rfl, Nat.le_refl _, by unfold maxLen; omega, fun j u hu => ?_⟩⟩
  rw [Addr.add_mid, Nat.zero_add, cell_of_row _ _ j _ _ _ (heap_alloc_new w _)]
  simpa [byteCells] using hu
theorem getM_one (G : List UInt8) (i : Nat) : getM G i 1 = getS G i := rfl
section
variable {w : World} {B bd gs cs gn cn n : Nat} {vw : Value} {F G : List UInt8} {W : List Wr} {dn : Bool}
theorem IsDk.foot_ge (h : IsDk w B bd gs cs gn cn vw n F G W dn) : ∀ k, Foot bd gs gn vw k → B ≤ k := by
  rintro k (rfl | rfl | rfl | hk)
  · exact h.hb
  · exact (h.os.lt k rfl).1
  · exact (h.on.lt k rfl).1
  · exact (h.ow.lt k hk.symm).1
theorem IsDk.below {w' : World} (h : IsDk w B bd gs cs gn cn vw n F G W dn) (hf : Fr (Foot bd gs gn vw) w w') : Below B w w' := hf.below (Nat.le_trans h.hb (Nat.le_of_lt (lt_of_block h.blk))) h.foot_ge
end
theorem first_byte {w : World} {a : Option Addr} {len cap : Nat} {l : List UInt8} {c : UInt8} (h : IsB w a len cap l) (hc : l[0]? = some c) : ∃ x, a = some x ∧ w.cell? x = some (.int .u8 (c.toNat : Nat)) := by
  obtain ⟨h0, e⟩ := List.getElem?_eq_some_iff.1 hc
  obtain ⟨x, hx, hcx⟩ := h.at h0
  refine ⟨x, hx, ?_⟩
  rw [e] at hcx
  have : x.add 0 = x := by obtain ⟨b, o, sp⟩ := x; unfold Addr.add; split <;> simp_all
  rwa [this] at hcx
end Go.Proofs.YtjblkmjdepdekaaDoor.Dk

/- disks: Copy -/
namespace Go.Proofs.YtjblkmjdepdekaaDoor.Dk
open Go.RowKit Go.Lib Go.Proofs.YtjblkmjdepdekaaDoor.By Go.Proofs.YtjblkmjdepdekaaDoor.Ht

theorem own_none_of (w : World) (e : TypeId) (k : Nat) : (w.alloc (.cells #[] e)).ownsRow w.heap.size e k (.slice (some ⟨w.heap.size, 0, none⟩) 0 0) 0 [] := World.ownsRow_made w #[] 0 (Nat.le_refl _) (Nat.zero_le _) (by simp)
/-- the cells of an own row that is there -/
theorem own_cells {w : World} {B n cap g k : Nat} {e : TypeId} {xs : List Value} (h : w.ownsRow B e k (.slice (some ⟨g, 0, none⟩) n cap) n xs) : ∀ j u, xs[j]? = some u → w.cell? ((⟨g, 0, none⟩ : Addr).add j) = some u := h.cells (g := g) rfl
set_option maxRecDepth 20000 in
set_option maxHeartbeats 1000000 in
theorem clone1_any {w : World} {B n cap g : Nat} {F : List UInt8} (h : w.ownsRow B 79 64 (.slice (some ⟨g, 0, none⟩) n cap) n (byteCells F)) (hn : 1 ≤ n ∧ n ≤ 4096) :
    Calls Tryd.prog 38 #[.slice (some ⟨g, 0, none⟩) n cap] w fun e w' => ∃ g' c', e = .returned (.slice (some ⟨g', 0, none⟩) n c') ∧ w'.ownsRow w.heap.size 79 64 (.slice (some ⟨g', 0, none⟩) n c') n (byteCells F) ∧ Below w.heap.size w w' := by
  have hl := h.1
  have hal : Below w.heap.size w (w.alloc (.cells #[] 79)) := (Below.refl _ _).alloc (Nat.le_refl _) _
  have o0 := own_none_of w 79 64
  have hcs := own_cells (own_below h hal (Nat.le_refl _))
  obtain ⟨is, his, his0, his1, his2⟩ := info_parts info79
  have HN := Lib.hid hn
  have hne := run_eql_slice_nil (P := Tryd.prog) (t := 60) (e := 79) (h := Tryd.underlying60)
  clear h
  go_enter Tryd.func38, Tryd.ntmps38
  go_wp2_with (at_builtin; refine wpList_append_own _ rfl _ _ 60 rfl w.heap.size 79 is _ 64 64 Tryd.underlying60 his his0 his1 his2 (by simp [Value.cells]) (by decide) _ _ _ rfl o0 ⟨g, 0, none⟩ n cap (byteCells F) rfl hl hcs (bytes_one F) ?c1 ?c2 ?c3 ?_)
  case c1 => have := HN.out.2; unfold maxLen; omega
  case c2 => have := HN.out.2; omega
  case c3 => simp
  · intro v' w3 hown' hg' _
    have hb : Below w.heap.size w w3 := hal.grown hg' (by simp) (fun j hj => (o0.lt j hj).1)
    have hsh : ∃ g' c', v' = .slice (some ⟨g', 0, none⟩) n c' := by
      rcases hown'.2 with ⟨_, h0⟩ | ⟨g', c', cur, h1, _⟩
      · have := HN.out.1; omega
      · exact ⟨g', c', h1⟩
    obtain ⟨g', c', rfl⟩ := hsh
    have HF := Lib.hid (And.intro hown' hb)
    clear hown' hb hg' hcs o0
    go_wp2_with fail
    go_ret
    exact ⟨g', c', rfl, HF.out.1, HF.out.2⟩
set_option maxRecDepth 20000 in
set_option maxHeartbeats 1000000 in
theorem clone2_any {w : World} {B : Nat} {vw : Value} {W : List Wr} (h : w.ownsRow B 81 65 vw W.length (wcells W)) (hWl : W.length ≤ 1000000) (hw : ∀ x ∈ W, x.2.length = 64) :
    Calls Tryd.prog 39 #[vw] w fun e w' => ∃ v', e = .returned v' ∧ w'.ownsRow w.heap.size 81 65 v' W.length (wcells W) ∧ Below w.heap.size w w' := by
  rcases id h.2 with ⟨rfl, h0⟩ | ⟨g, cap, cur, rfl, _⟩
  · have hW : W = [] := List.eq_nil_of_length_eq_zero h0
    subst hW
    have hne := run_eql_slice_nil (P := Tryd.prog) (t := 61) (e := 81) (h := Tryd.underlying61)
    clear h
    go_enter Tryd.func39, Tryd.ntmps39
    go_wp2_with fail
    go_ret
    exact ⟨_, rfl, World.ownsRow_nil _ _ _ _, Below.refl _ _⟩
  · have hl := h.1
    have hal : Below w.heap.size w (w.alloc (.cells #[] 81)) := (Below.refl _ _).alloc (Nat.le_refl _) _
    have o0 := own_none_of w 81 65
    have hcs := own_cells (own_below h hal (Nat.le_refl _))
    obtain ⟨is, his, his0, his1, his2⟩ := info_parts info81
    have hone : ∀ u ∈ wcells W, u.oneCell' = true := by
      intro u hu
      obtain ⟨x, hx, hxu⟩ := List.mem_flatMap.1 hu
      exact wcell_one x u hxu
    have HW := Lib.hid hWl
    have hne := run_eql_slice_nil (P := Tryd.prog) (t := 61) (e := 81) (h := Tryd.underlying61)
    clear h hw
    go_enter Tryd.func39, Tryd.ntmps39
    go_wp2_with (at_builtin; refine wpList_append_own _ rfl _ _ 61 rfl w.heap.size 81 is _ 65 72 Tryd.underlying61 his his0 his1 his2 (by simp [Value.cells, Zl]) (by decide) _ _ _ rfl o0 ⟨g, 0, none⟩ W.length cap (wcells W) rfl hl hcs hone ?c1 ?c2 ?c3 ?_)
    case c1 => have := HW.out; unfold maxLen; omega
    case c2 => have := HW.out; omega
    case c3 => simp
    · intro v' w3 hown' hg' _
      have hb : Below w.heap.size w w3 := hal.grown hg' (by simp) (fun j hj => (o0.lt j hj).1)
      have HF := Lib.hid (And.intro hown' hb)
      clear hown' hb hg' hcs o0
      go_wp2_with fail
      go_ret
      exact ⟨v', rfl, HF.out.1, HF.out.2⟩
section
variable {w : World} {B bd gs cs gn cn n : Nat} {vw : Value} {F G : List UInt8} {W : List Wr} {dn : Bool}
set_option maxRecDepth 20000 in
set_option maxHeartbeats 2000000 in
theorem copy_any (h : IsDk w B bd gs cs gn cn vw n F G W dn) (hWl : W.length ≤ 1000000) : Calls Tryd.prog 18 #[.pointer (some ⟨bd, 0, none⟩)] w fun e w' =>
    ∃ bd' gs' cs' gn' cn' vw', e = .returned (.pointer (some ⟨bd', 0, none⟩)) ∧ IsDk w' w.heap.size bd' gs' cs' gn' cn' vw' n F G W dn ∧ Below w.heap.size w w' := by
  have hS0 := h.blk
  have HH := Lib.hid h
  have hmix : Tryd.prog.follows .mixedOrders = true := by kernel_rfl
  clear h
  go_enter Tryd.func18, Tryd.ntmps18
  go_wp2_with fail
  refine begin' 21 (fun X => X.heap[bd]? = some (.cells #[.slice (some ⟨gs, 0, none⟩) n cs, .slice (some ⟨gn, 0, none⟩) n cn, vw, .bool dn] 63 (0, 0))) hmix hS0 (fun hS1 => ?_)
  refine Ht.take (i := 0) ⟨some 5, _, _, _, _, _⟩ (.pointer (some ⟨bd, 0, none⟩)) rfl (by kernel_rfl) (by kernel_rfl) (by decide) (by kernel_rfl) (by kernel_rfl) (by kernel_rfl) hS1 (Or.inl ⟨by rfl, by (intro X hX; go_simp)⟩) ?_
  simp only [Act.put, List.setIfInBounds_toArray, List.set_cons_zero, List.set_cons_succ]
  refine Ht.take (i := 1) ⟨some 6, _, _, _, _, _⟩ (.pointer (some ⟨bd, 0, none⟩)) rfl (by kernel_rfl) (by kernel_rfl) (by decide) (by kernel_rfl) (by kernel_rfl) (by kernel_rfl) hS1 (Or.inl ⟨by rfl, by (intro X hX; go_simp)⟩) ?_
  simp only [Act.put, List.setIfInBounds_toArray, List.set_cons_zero, List.set_cons_succ]
  refine Ht.take (i := 2) ⟨some 7, _, _, _, _, _⟩ (.pointer (some ⟨bd, 0, none⟩)) rfl (by kernel_rfl) (by kernel_rfl) (by decide) (by kernel_rfl) (by kernel_rfl) (by kernel_rfl) hS1 (Or.inl ⟨by rfl, by (intro X hX; go_simp)⟩) ?_
  simp only [Act.put, List.setIfInBounds_toArray, List.set_cons_zero, List.set_cons_succ]
  refine Ht.take (i := 3) ⟨some 8, _, _, _, _, _⟩ (.slice (some ⟨gs, 0, none⟩) n cs) rfl (by kernel_rfl) (by kernel_rfl) (by decide) (by kernel_rfl) (by kernel_rfl) (by kernel_rfl) hS1 (Or.inl ⟨by rfl, by (intro X hX; have := (four_cells hX).1.1; go_simp)⟩) ?_
  simp only [Act.put, List.setIfInBounds_toArray, List.set_cons_zero, List.set_cons_succ]
  refine Ht.take (i := 5) ⟨some 10, _, _, _, _, _⟩ (.pointer (some ⟨bd, 0, none⟩)) rfl (by kernel_rfl) (by kernel_rfl) (by decide) (by kernel_rfl) (by kernel_rfl) (by kernel_rfl) hS1 (Or.inl ⟨by rfl, by (intro X hX; go_simp)⟩) ?_
  simp only [Act.put, List.setIfInBounds_toArray, List.set_cons_zero, List.set_cons_succ]
  refine Ht.take (i := 6) ⟨some 11, _, _, _, _, _⟩ (.pointer (some ⟨bd, 0, none⟩)) rfl (by kernel_rfl) (by kernel_rfl) (by decide) (by kernel_rfl) (by kernel_rfl) (by kernel_rfl) hS1 (Or.inl ⟨by rfl, by (intro X hX; go_simp)⟩) ?_
  simp only [Act.put, List.setIfInBounds_toArray, List.set_cons_zero, List.set_cons_succ]
  refine Ht.take (i := 7) ⟨some 12, _, _, _, _, _⟩ (.pointer (some ⟨bd, 1, none⟩)) rfl (by kernel_rfl) (by kernel_rfl) (by decide) (by kernel_rfl) (by kernel_rfl) (by kernel_rfl) hS1 (Or.inl ⟨by rfl, by (intro X hX; go_simp)⟩) ?_
  simp only [Act.put, List.setIfInBounds_toArray, List.set_cons_zero, List.set_cons_succ]
  refine Ht.take (i := 8) ⟨some 13, _, _, _, _, _⟩ (.slice (some ⟨gn, 0, none⟩) n cn) rfl (by kernel_rfl) (by kernel_rfl) (by decide) (by kernel_rfl) (by kernel_rfl) (by kernel_rfl) hS1 (Or.inl ⟨by rfl, by (intro X hX; have := (four_cells hX).1.2.1; go_simp)⟩) ?_
  simp only [Act.put, List.setIfInBounds_toArray, List.set_cons_zero, List.set_cons_succ]
  refine Ht.take (i := 10) ⟨some 15, _, _, _, _, _⟩ (.pointer (some ⟨bd, 0, none⟩)) rfl (by kernel_rfl) (by kernel_rfl) (by decide) (by kernel_rfl) (by kernel_rfl) (by kernel_rfl) hS1 (Or.inl ⟨by rfl, by (intro X hX; go_simp)⟩) ?_
  simp only [Act.put, List.setIfInBounds_toArray, List.set_cons_zero, List.set_cons_succ]
  refine Ht.take (i := 11) ⟨some 16, _, _, _, _, _⟩ (.pointer (some ⟨bd, 0, none⟩)) rfl (by kernel_rfl) (by kernel_rfl) (by decide) (by kernel_rfl) (by kernel_rfl) (by kernel_rfl) hS1 (Or.inl ⟨by rfl, by (intro X hX; go_simp)⟩) ?_
  simp only [Act.put, List.setIfInBounds_toArray, List.set_cons_zero, List.set_cons_succ]
  refine Ht.take (i := 12) ⟨some 17, _, _, _, _, _⟩ (.pointer (some ⟨bd, 2, none⟩)) rfl (by kernel_rfl) (by kernel_rfl) (by decide) (by kernel_rfl) (by kernel_rfl) (by kernel_rfl) hS1 (Or.inl ⟨by rfl, by (intro X hX; go_simp)⟩) ?_
  simp only [Act.put, List.setIfInBounds_toArray, List.set_cons_zero, List.set_cons_succ]
  refine Ht.take (i := 13) ⟨some 18, _, _, _, _, _⟩ (vw) rfl (by kernel_rfl) (by kernel_rfl) (by decide) (by kernel_rfl) (by kernel_rfl) (by kernel_rfl) hS1 (Or.inl ⟨by rfl, by (intro X hX; have := (four_cells hX).1.2.2.1; go_simp)⟩) ?_
  simp only [Act.put, List.setIfInBounds_toArray, List.set_cons_zero, List.set_cons_succ]
  refine Ht.take (i := 15) ⟨some 20, _, _, _, _, _⟩ (.pointer (some ⟨bd, 0, none⟩)) rfl (by kernel_rfl) (by kernel_rfl) (by decide) (by kernel_rfl) (by kernel_rfl) (by kernel_rfl) hS1 (Or.inl ⟨by rfl, by (intro X hX; go_simp)⟩) ?_
  simp only [Act.put, List.setIfInBounds_toArray, List.set_cons_zero, List.set_cons_succ]
  refine Ht.take (i := 16) ⟨some 21, _, _, _, _, _⟩ (.pointer (some ⟨bd, 0, none⟩)) rfl (by kernel_rfl) (by kernel_rfl) (by decide) (by kernel_rfl) (by kernel_rfl) (by kernel_rfl) hS1 (Or.inl ⟨by rfl, by (intro X hX; go_simp)⟩) ?_
  simp only [Act.put, List.setIfInBounds_toArray, List.set_cons_zero, List.set_cons_succ]
  refine Ht.take (i := 17) ⟨some 22, _, _, _, _, _⟩ (.pointer (some ⟨bd, 3, none⟩)) rfl (by kernel_rfl) (by kernel_rfl) (by decide) (by kernel_rfl) (by kernel_rfl) (by kernel_rfl) hS1 (Or.inl ⟨by rfl, by (intro X hX; go_simp)⟩) ?_
  simp only [Act.put, List.setIfInBounds_toArray, List.set_cons_zero, List.set_cons_succ]
  refine Ht.take (i := 18) ⟨some 23, _, _, _, _, _⟩ (.bool dn) rfl (by kernel_rfl) (by kernel_rfl) (by decide) (by kernel_rfl) (by kernel_rfl) (by kernel_rfl) hS1 (Or.inl ⟨by rfl, by (intro X hX; have := (four_cells hX).1.2.2.2; go_simp)⟩) ?_
  simp only [Act.put, List.setIfInBounds_toArray, List.set_cons_zero, List.set_cons_succ]
  have hw0 : Below w.heap.size w w.drew := (Below.refl _ _).drew
  have hbd := lt_of_block HH.out.blk
  refine Ht.step (i := 4) ⟨some 9, _, _, _, _, _⟩ rfl (by kernel_rfl) (by rfl) (fun K hK => ?_)
  go_simp
  refine (clone1_any (w := w.drew) (own_below HH.out.os hw0 (Nat.le_refl _)) ⟨HH.out.n1, HH.out.n2⟩).mono ?_
  rintro e w1 ⟨g1, c1, rfl, o1, b1⟩
  have d1 : Below w.heap.size w w1 := hw0.trans b1
  have hS2 : w1.heap[bd]? = some (.cells #[.slice (some ⟨gs, 0, none⟩) n cs, .slice (some ⟨gn, 0, none⟩) n cn, vw, .bool dn] 63 (0, 0)) := (d1.block bd hbd).trans HH.out.blk
  refine hK _ _ (fun _ => hS2) (fun _ => ?_)
  clear hK K
  try simp only [Act.put, List.setIfInBounds_toArray, List.set_cons_zero, List.set_cons_succ]
  refine Ht.step (i := 9) ⟨some 14, _, _, _, _, _⟩ rfl (by kernel_rfl) (by rfl) (fun K hK => ?_)
  go_simp
  refine (clone1_any (own_below HH.out.on d1 (Nat.le_refl _)) ⟨HH.out.n1, HH.out.n2⟩).mono ?_
  rintro e w2 ⟨g2, c2, rfl, o2, b2⟩
  have d2 : Below w.heap.size w w2 := d1.trans (b2.mono d1.size)
  have hS3 : w2.heap[bd]? = some (.cells #[.slice (some ⟨gs, 0, none⟩) n cs, .slice (some ⟨gn, 0, none⟩) n cn, vw, .bool dn] 63 (0, 0)) := (d2.block bd hbd).trans HH.out.blk
  refine hK _ _ (fun _ => hS3) (fun _ => ?_)
  clear hK K
  try simp only [Act.put, List.setIfInBounds_toArray, List.set_cons_zero, List.set_cons_succ]
  refine Ht.step (i := 14) ⟨some 19, _, _, _, _, _⟩ rfl (by kernel_rfl) (by rfl) (fun K hK => ?_)
  go_simp
  refine (clone2_any (own_below HH.out.ow d2 (Nat.le_refl _)) hWl (fun x hx => (HH.out.hw x hx).2)).mono ?_
  rintro e w3 ⟨v3, rfl, o3, b3⟩
  have d3 : Below w.heap.size w w3 := d2.trans (b3.mono d2.size)
  have hS4 : w3.heap[bd]? = some (.cells #[.slice (some ⟨gs, 0, none⟩) n cs, .slice (some ⟨gn, 0, none⟩) n cn, vw, .bool dn] 63 (0, 0)) := (d3.block bd hbd).trans HH.out.blk
  refine hK _ _ (fun _ => hS4) (fun _ => ?_)
  clear hK K
  try simp only [Act.put, List.setIfInBounds_toArray, List.set_cons_zero, List.set_cons_succ]
  have o1w : w3.ownsRow w.heap.size 79 64 (.slice (some ⟨g1, 0, none⟩) n c1) n (byteCells F) := own_below (own_below (Joins.ownsRow_le o1 (Nat.le_refl _)) b2 (Nat.le_refl _)) b3 (Nat.le_refl _)
  have o2w : w3.ownsRow w.heap.size 79 64 (.slice (some ⟨g2, 0, none⟩) n c2) n (byteCells G) := own_below (Joins.ownsRow_le o2 d1.size) b3 (Nat.le_refl _)
  have o3w : w3.ownsRow w.heap.size 81 65 v3 W.length (wcells W) := Joins.ownsRow_le o3 d2.size
  have hne : g1 ≠ g2 := fun e => by
    have h1 := (o1.lt g1 rfl).2
    have h2 := (o2.lt g2 rfl).1
    omega
  obtain ⟨a3, c3, rfl⟩ := own_shape o3
  refine Ht.take (i := 19) ⟨some 24, _, _, _, _, _⟩ (.agg #[.slice (some ⟨g1, 0, none⟩) n c1, .slice (some ⟨g2, 0, none⟩) n c2, .slice a3 W.length c3, .bool dn]) rfl (by kernel_rfl) (by kernel_rfl) (by decide) (by kernel_rfl) (by kernel_rfl) (by kernel_rfl) hS4 (Or.inl ⟨by rfl, by (intro X hX; go_simp)⟩) ?_
  simp only [Act.put, List.setIfInBounds_toArray, List.set_cons_zero, List.set_cons_succ]
  refine Ht.step (i := 20) ⟨some 25, _, _, _, _, _⟩ rfl (by kernel_rfl) (by rfl) (fun K hK => ?_)
  go_simp
  have hb4 : Below w3.heap.size w3 (w3.alloc (.cells #[.slice (some ⟨g1, 0, none⟩) n c1, .slice (some ⟨g2, 0, none⟩) n c2, .slice a3 W.length c3, .bool dn] 63)) := (Below.refl _ _).alloc (Nat.le_refl _) _
  have hdk : IsDk (w3.alloc (.cells #[.slice (some ⟨g1, 0, none⟩) n c1, .slice (some ⟨g2, 0, none⟩) n c2, .slice a3 W.length c3, .bool dn] 63)) w.heap.size w3.heap.size g1 c1 g2 c2 (.slice a3 W.length c3) n F G W dn :=
    ⟨heap_alloc_new w3 _, own_below o1w hb4 (Nat.le_refl _), own_below o2w hb4 (Nat.le_refl _), own_below o3w hb4 (Nat.le_refl _), hne, HH.out.n1, HH.out.n2, HH.out.hw, d3.size⟩
  have HF := Lib.hid (And.intro hdk (d3.trans (hb4.mono d3.size)))
  refine hK _ _ (fun _ => (hb4.block bd (lt_of_block hS4)).trans hS4) (fun _ => ?_)
  clear hK K hb4 hdk
  try simp only [Act.put, List.setIfInBounds_toArray, List.set_cons_zero, List.set_cons_succ]
  refine Ht.step (i := 21) ⟨some 2, _, _, _, _, _⟩ rfl (by kernel_rfl) (by rfl) (fun K hK => ?_)
  go_simp
  refine hK _ _ (fun h => absurd rfl h) (fun _ => ?_)
  clear hK K
  refine done (by kernel_rfl) ?_
  clear hS4 hS3 hS2 hS1 hS0 o1 o2 o3 b1 b2 b3 d1 d2 d3 o1w o2w o3w
  go_wp2_with fail
  go_ret
  exact ⟨_, _, _, _, _, _, rfl, HF.out.1, HF.out.2⟩
end
end Go.Proofs.YtjblkmjdepdekaaDoor.Dk
