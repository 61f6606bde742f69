/- specs as bytes: the document's -/
import Derived.Test.YtcodjknhnhdkfaaGreatDoorBr01
import Derived.Test.YtcodjknhnhdkfaaGreatDoorBr02
import Derived.Shelf.Abstract
import Derived.Test.YtcodjknhnhdkfaaGreatDoorBr00
import Derived.WalkKit
import Derived.ProofKit
import Derived.OneCell
import Derived.WalkSpells
import Derived.Lib.Varint
import Derived.Lib.VarintMem
import Derived.Lib.Zigzag
import Derived.Lib.Hide
import Derived.Lib.BufferRead
import Derived.Laws.IdiomStrings
import Derived.Laws.AppendOwnNone
import Derived.Lib.AppendStr
import Derived.Deep.RegionHeld3
import Derived.Deep.RegionWith
import Derived.Lib.VarintBits
import Derived.Laws.BitsAllLaws
namespace Go.Proofs.YtcodjknhnhdkfaaGreatDoor.Sp
open Go.RowKit Go.Lib Go.Shelf Rf By Ht
set_option linter.unusedVariables false
set_option maxRecDepth 20000
/-- bytes as a text's value -/
abbrev T (l : List UInt8) : Value := .string ⟨l.toArray⟩
theorem t_app (x y : List UInt8) : (⟨x.toArray⟩ : ByteArray) ++ ⟨y.toArray⟩ = ⟨(x ++ y).toArray⟩ := Rf.bytes_app x y
theorem t_size (l : List UInt8) : (⟨l.toArray⟩ : ByteArray).size = l.length := Rf.bytes_size l
theorem join (k l : List UInt8) (hk : k.length ≤ 100000) (hl : l.length ≤ 100000) : ∃ A, A = k ++ l ∧ (⟨k.toArray⟩ : ByteArray) ++ ⟨l.toArray⟩ = ⟨A.toArray⟩ ∧ A.length = k.length + l.length ∧ k.length + l.length ≤ 9223372036854775807 :=
  ⟨_, rfl, t_app k l, List.length_append, by omega⟩
/-- one of middling length -/
def Spc.med (x : Spc) : Prop := (∀ d ∈ x.ds, d.size ≤ 1000) ∧ x.nm.size ≤ 1000 ∧ x.tn.size ≤ 1000 ∧ x.n ≤ 1000 ∧ x.cr.size ≤ 1000 ∧ (rowB x.ds).length ≤ 20000
theorem Spc.few.med {x : Spc} (h : x.few) (hl : x.ds.length = x.n) : x.med := by
  obtain ⟨h1, h2, h3, h4, h5⟩ := h
  have h6 := row_len h1
  exact ⟨fun d hd => by have := h1 d hd; omega, by omega, by omega, by omega, by omega, by omega⟩
theorem text_lenm {s : ByteArray} (h : s.size ≤ 1000) : (textB s).length ≤ 1010 := by
  unfold textB
  have := uvarint_length64 (show U64 s.size by unfold U64; omega)
  have e : s.data.toList.length = s.size := Array.length_toList
  rw [List.length_append, e]
  omega
theorem row_take (l : List ByteArray) (k : Nat) : (rowB (l.take k)).length ≤ (rowB l).length := by
  have := congrArg (fun l => (rowB l).length) (List.take_append_drop k l)
  simp only [rowB, List.flatMap_append, List.length_append] at this ⊢
  omega
end Go.Proofs.YtcodjknhnhdkfaaGreatDoor.Sp
namespace Go.Proofs.YtcodjknhnhdkfaaGreatDoor.Wn
open Go.RowKit Go.Lib Go.Proofs.YtcodjknhnhdkfaaGreatDoor.By Go.Proofs.YtcodjknhnhdkfaaGreatDoor.Rf

theorem lo_byte (n : Nat) : bits .or .u8 ((n : Int) % 256) 128 = (n : Int) % 128 + 128 := by
  rw [u8_or128_any _ (by omega) (by omega)]; omega

/-- a writer at block pb, with the bytes bs in a row of its own -/
def Wr (B : Nat) (w : World) (pb : Nat) (bs : List UInt8) : Prop :=
  ∃ v, w.heap[pb]? = some (.cells #[v] 49 (0, 0)) ∧ w.ownsRow B 5 1 v bs.length (byteCells bs)

/-- below B, but for pb, nothing has turned -/
structure Fr (B pb : Nat) (w w' : World) : Prop where
  os : w'.os = w.os
  tape : w'.tape = w.tape
  output : w'.output = w.output
  size : w.heap.size ≤ w'.heap.size
  block : ∀ k, k < B → k ≠ pb → w'.heap[k]? = w.heap[k]?
  more : ∀ k, k < w.heap.size → k ≠ pb → (∀ cur, w.heap[k]? ≠ some (.cells cur 5 (0, 0))) → w'.heap[k]? = w.heap[k]?

theorem Fr.refl (B pb : Nat) (w : World) : Fr B pb w w := ⟨rfl, rfl, rfl, Nat.le_refl _, fun _ _ _ => rfl, fun _ _ _ _ => rfl⟩
theorem Fr.trans {B pb : Nat} {a b c : World} (h : Fr B pb a b) (k : Fr B pb b c) : Fr B pb a c :=
  ⟨k.os.trans h.os, k.tape.trans h.tape, k.output.trans h.output, Nat.le_trans h.size k.size, fun i hi hn => (k.block i hi hn).trans (h.block i hi hn),
    fun i hi hn hc => (k.more i (Nat.lt_of_lt_of_le hi h.size) hn (by rw [h.more i hi hn hc]; exact hc)).trans (h.more i hi hn hc)⟩
theorem Fr.below {B pb N : Nat} {a b : World} (h : Fr B pb a b) (hB : N ≤ B) (hp : N ≤ pb) : Below N a b :=
  ⟨h.os, h.tape, h.output, h.size, fun k hk => h.block k (by omega) (by omega)⟩

/-- what one append and the store behind it do -/
theorem wr_step {B pb : Nat} {w : World} {w0 : World} {v v' : Value} {w1 : World} {bs out : List UInt8} {m : Nat} {cs : List Value} (hpb : pb < B) (hB : B ≤ w.heap.size)
    (hp : w.heap[pb]? = some (.cells #[v] 49 (0, 0))) (hown : w.ownsRow B 5 1 v bs.length (byteCells bs))
    (hown' : w1.ownsRow B 5 1 v' m cs) (hm : m = out.length) (hcs : cs = byteCells out) (h0 : Below w.heap.size w w0) (hg : w0.grownBy w1 v.ownBlock) :
    Wr B (w1.setCell ⟨pb, 0, none⟩ v') pb out ∧ Fr B pb w (w1.setCell ⟨pb, 0, none⟩ v') ∧ w1.cell? ⟨pb, 0, none⟩ = some v ∧ w1.frozen? ⟨pb, 0, none⟩ = false := by
  subst hm hcs
  have hne : ∀ k, k < B → some k ≠ v.ownBlock := fun k hk e => by have := (hown.lt k e.symm).1; omega
  have hne' : ∀ k, k < B → some k ≠ v'.ownBlock := fun k hk e => by have := (hown'.lt k e.symm).1; omega
  have hold : ∀ k, k < B → w1.heap[k]? = w.heap[k]? := fun k hk => (hg.block k (by have := h0.size; omega) (hne k hk)).trans (h0.block k (by omega))
  have hp1 : w1.heap[pb]? = some (.cells #[v] 49 (0, 0)) := (hold pb hpb).trans hp
  refine ⟨⟨v', one_setCell hp1, ?_⟩, ⟨hg.os.trans h0.os, hg.tape.trans h0.tape, hg.output.trans h0.output, ?_, ?_, ?_⟩, cell_of_one hp1, free_of_one hp1⟩
  · exact ownsRow_setCell_other hown' (a := ⟨pb, 0, none⟩) (fun e => hne' pb hpb e.symm) v'
  · have := hg.size; have := h0.size; simp [World.setCell]; omega
  · intro k hk hn; rw [Below.heap_setCell _ _ _ _ hn]; exact hold k hk
  · intro k hk hn hc
    rw [Below.heap_setCell _ _ _ _ hn]
    have hkv : some k ≠ v.ownBlock := fun e => by
      rcases hown.2 with ⟨rfl, _⟩ | ⟨g, cap, cur, rfl, _, hgg, _⟩
      · simp [Value.ownBlock] at e
      · simp [Value.ownBlock] at e; subst e; exact hc _ hgg
    exact (hg.block k (by have := h0.size; omega) hkv).trans (h0.block k hk)

theorem uv_more {n x : Nat} {ds : List UInt8} (h : ds ++ uvarint n = uvarint x) (hn : 128 ≤ n) : (ds ++ [(n % 128 + 128).toUInt8]) ++ uvarint (n / 128) = uvarint x := by
  rw [← h, uvarint_big hn]; simp
theorem uv_last {n x : Nat} {ds : List UInt8} (h : ds ++ uvarint n = uvarint x) (hn : ¬ 128 ≤ n) : ds ++ [n.toUInt8] = uvarint x := by
  rw [← h, uvarint_small (by omega)]
theorem uv_len {n x : Nat} {ds : List UInt8} (h : ds ++ uvarint n = uvarint x) (hx : U64 x) : ds.length ≤ 10 := by
  have h1 := uvarint_length64 hx; rw [← h] at h1; simp at h1; omega

set_option maxRecDepth 20000 in
set_option maxHeartbeats 1000000 in
theorem num_any (B pb : Nat) (x : Nat) (bs : List UInt8) (w : World) (hx : U64 x) (hpb : pb < B) (hB : B ≤ w.heap.size) (hw : Wr B w pb bs) (hlen : bs.length ≤ 1000000000000) :
    Calls Tryz.prog 18 #[.pointer (some ⟨pb, 0, none⟩), .int .u64 x] w fun e w' => e = .returned (.tuple #[]) ∧ Wr B w' pb (bs ++ uvarint x) ∧ Fr B pb w w' := by
  obtain ⟨i0, hi, hz0, hz1, hz2⟩ := info_parts info5
  go_enter Tryz.func18, Tryz.ntmps18
  go_wp2
  go_loopw [1] (fun y wr => ∃ (n : Nat) (ds : List UInt8), U64 n ∧ y = .int .u64 n ∧ Wr B wr pb (bs ++ ds) ∧ ds ++ uvarint n = uvarint x ∧ Fr B pb w wr) (fun y _ => (intOf y).toNat)
  case atStart => exact ⟨x, [], hx, rfl, by simpa using hw, rfl, Fr.refl _ _ _⟩
  case round =>
    obtain ⟨n, ds, hn, rfl, ⟨v, hp, hown⟩, hds, hfr⟩ := hrel
    have hdl := uv_len hds hx
    have HD := Lib.hid hds
    clear hds
    have hcell := cell_of_one hp
    have hfree := free_of_one hp
    by_cases hbig : 128 ≤ n
    · go_wp2_with (at_builtin; refine wpList_append_own _ rfl _ _ 22 rfl B 5 i0 (.int .u8 0) 1 1 Tryz.underlying22 hi hz0 hz1 hz2 rfl (by decide) _ _ _ rfl (hown.alloc _) ⟨wr.heap.size, 0, none⟩ 1 1 [.int .u8 ((n % 128 + 128 : Nat) : Int)] rfl rfl ?c1 ?c2 ?c3 ?c4 ?c5 ?_)
      case c1 =>
        intro j u hj
        match j, hj with
        | 0, hj => simp at hj; subst hj; simp [Addr.add, lo_byte]
      case c2 => intro u hu; simp at hu; subst hu; rfl
      case c3 => simp [maxLen]; omega
      case c4 => simp; omega
      case c5 => have := hfr.size; simp; omega
      · intro v' w1 hown' hgrow _
        obtain ⟨ao, cp, rfl⟩ := own_shape hown'
        obtain ⟨hw2, hfr2, hc2, hf2⟩ := wr_step (out := bs ++ (ds ++ [(n % 128 + 128).toUInt8])) hpb (by have := hfr.size; omega) hp hown hown' (by simp; omega) (by rw [← List.append_assoc, byteCells_snoc _ (by omega)]; simp) ((Below.refl _ _).alloc (Nat.le_refl _) _) hgrow
        clear hown' hgrow hown hp hcell hfree hw
        go_wp2
        go_roundw
        case rel => exact ⟨n / 128, _, hn.div _, by go_num, hw2, uv_more HD.out hbig, hfr.trans hfr2⟩
        case measure => simp [intOf]; omega
    · go_wp2_with (at_builtin; refine wpList_append_own _ rfl _ _ 22 rfl B 5 i0 (.int .u8 0) 1 1 Tryz.underlying22 hi hz0 hz1 hz2 rfl (by decide) _ _ _ rfl (hown.alloc _) ⟨wr.heap.size, 0, none⟩ 1 1 [.int .u8 (n : Int)] rfl rfl ?d1 ?d2 ?d3 ?d4 ?d5 ?_)
      case d1 =>
        intro j u hj
        match j, hj with
        | 0, hj => simp at hj; subst hj; simp [Addr.add]
      case d2 => intro u hu; simp at hu; subst hu; rfl
      case d3 => simp [maxLen]; omega
      case d4 => simp; omega
      case d5 => have := hfr.size; simp; omega
      · intro v' w1 hown' hgrow _
        obtain ⟨ao, cp, rfl⟩ := own_shape hown'
        obtain ⟨hw2, hfr2, hc2, hf2⟩ := wr_step (out := bs ++ (ds ++ [n.toUInt8])) hpb (by have := hfr.size; omega) hp hown hown' (by simp; omega) (by rw [← List.append_assoc, byteCells_snoc _ (by omega)]) ((Below.refl _ _).alloc (Nat.le_refl _) _) hgrow
        clear hown' hgrow hown hp hcell hfree hw
        go_wp2
        go_end0
        exact ⟨rfl, by rw [← uv_last HD.out hbig]; exact hw2, hfr.trans hfr2⟩

set_option maxHeartbeats 1000000 in
theorem clone_any (a : Option Addr) (len cap : Nat) (l : List UInt8) (w : World) (hl : IsB w a len cap l) (hlen : l.length ≤ 1000000000000) :
    Calls Tryz.prog 30 #[.slice a len cap] w fun e w' => ∃ v', e = .returned v' ∧ w'.ownsRow w.heap.size 5 1 v' l.length (byteCells l) ∧ Below w.heap.size w w' := by
  obtain ⟨i0, hi, hz0, hz1, hz2⟩ := info_parts info5
  obtain ⟨rfl, ⟨rfl, h0, rfl⟩ | ⟨x, rfl, hlc, hcm, hcs⟩⟩ := hl
  · have hl0 : l = [] := List.length_eq_zero_iff.1 h0
    subst hl0
    simp only [List.length_nil]
    have hne := run_eql_slice_nil (P := Tryz.prog) (t := 22) (e := 5) (h := Tryz.underlying22)
    go_enter Tryz.func30, Tryz.ntmps30
    go_wp2
    go_ret
    exact ⟨_, rfl, World.ownsRow_nil _ _ _ _, Below.refl _ _⟩
  · have hne := run_eql_slice_nil (P := Tryz.prog) (t := 22) (e := 5) (h := Tryz.underlying22)
    go_enter Tryz.func30, Tryz.ntmps30
    go_wp2_with (at_builtin; refine wpList_append_own _ rfl _ _ 22 rfl w.heap.size 5 i0 (.int .u8 0) 1 1 Tryz.underlying22 hi hz0 hz1 hz2 rfl (by decide) _ 0 [] rfl ?c0 x l.length _ (byteCells l) rfl ?c1 ?c2 ?c3 ?c4 ?c5 ?c6 ?_)
    case c0 => exact World.ownsRow_made w #[] 0 (Nat.le_refl _) (Nat.zero_le _) rfl
    case c1 => simp [byteCells]
    case c2 => exact fun j u hu => ((((Below.refl w.heap.size w).alloc (Nat.le_refl _) _).cell (World.block_lt_of_cell? w _ (hcs j u hu))).trans (hcs j u hu))
    case c3 => exact bytes_one l
    case c4 => simp [maxLen]; omega
    case c5 => omega
    case c6 => simp
    · intro v' w1 hown' hgrow _
      go_wp2
      go_ret
      exact ⟨_, rfl, hown', ((Below.refl _ _).alloc (Nat.le_refl _) _).grown hgrow (by simp) (fun k hk => by simp [Value.ownBlock] at hk; omega)⟩

set_option maxHeartbeats 1000000 in
theorem bytes_any (B pb : Nat) (bs : List UInt8) (w : World) (hw : Wr B w pb bs) (hlen : bs.length ≤ 1000000000000) :
    Calls Tryz.prog 25 #[.pointer (some ⟨pb, 0, none⟩)] w fun e w' => ∃ v', e = .returned v' ∧ w'.ownsRow w.heap.size 5 1 v' bs.length (byteCells bs) ∧ Below w.heap.size w w' := by
  obtain ⟨v, hp, hown⟩ := hw
  obtain ⟨a, cap, rfl, hb⟩ := isB_own hown
  have hcell := cell_of_one hp
  clear hown hp
  go_enter Tryz.func25, Tryz.ntmps25
  go_wp2_with (go_at_call 30; refine (clone_any a bs.length cap bs _ hb hlen).mono ?_; rintro e w' ⟨v', rfl, hown', hbel⟩)
  go_ret
  exact ⟨_, rfl, hown', hbel⟩

/-! ### a new writer -/
theorem wr_nil {w : World} {B pb : Nat} (h : w.heap[pb]? = some (.cells #[.slice none 0 0] 49 (0, 0))) : Wr B w pb [] := ⟨_, h, World.ownsRow_nil _ _ _ _⟩
theorem wr_new (w : World) (B : Nat) : Wr B (w.alloc (.cells #[.slice none 0 0] 49)) w.heap.size [] :=
  ⟨_, heap_alloc_new w _, World.ownsRow_nil _ _ _ _⟩
/-- a writer stands while others write -/
theorem Wr.below {B N pb : Nat} {w w' : World} {bs : List UInt8} (h : Wr B w pb bs) (hb : Below N w w') (hp : pb < N) (hn : ∀ k, k < w.heap.size → k < N) : Wr B w' pb bs := by
  obtain ⟨v, hp1, hown⟩ := h
  refine ⟨v, (hb.block pb hp).trans hp1, hown.1, ?_⟩
  rcases hown.2 with h1 | ⟨g, cap, cur, h1, h2, h3, h4⟩
  · exact .inl h1
  · exact .inr ⟨g, cap, cur, h1, h2, (hb.block g (hn g (lt_of_block h3))).trans h3, h4⟩
theorem Wr.fr {B B' pb pb' : Nat} {w w' : World} {bs : List UInt8} (h : Wr B w pb bs) (hf : Fr B' pb' w w') (hp : pb ≠ pb') (hb : pb < B') (hpb : pb' < B) (hn : ∀ k, B ≤ k → k < w.heap.size → k < B') : Wr B w' pb bs := by
  obtain ⟨v, hp1, hown⟩ := h
  refine ⟨v, (hf.block pb hb hp).trans hp1, hown.1, ?_⟩
  rcases hown.2 with h1 | ⟨g, cap, cur, h1, h2, h3, h4⟩
  · exact .inl h1
  · exact .inr ⟨g, cap, cur, h1, h2, (hf.block g (hn g h2 (lt_of_block h3)) (by omega)).trans h3, h4⟩

theorem zig_val {x : Int} (hx : (Lit.int .i64 x).wf = true) : bits .xor .u64 (IntKind.u64.wrap (wrap64 (x * 2))) (IntKind.u64.wrap (x / 9223372036854775808)) = ((zigzag x : Nat) : Int) := by
  have hb : -9223372036854775808 ≤ x ∧ x ≤ 9223372036854775807 := by simpa [Lit.wf, IntKind.min, IntKind.max, IntKind.signed, IntKind.bits] using hx
  by_cases h : 0 ≤ x
  · have e1 : IntKind.u64.wrap (wrap64 (x * 2)) = ((2 * x).toNat : Nat) := by rw [IntKind.wrap_u64]; unfold wrap64; omega
    have e2 : IntKind.u64.wrap (x / 9223372036854775808) = ((0 : Nat) : Int) := by rw [IntKind.wrap_u64]; omega
    rw [e1, e2, bits_xor_u64_nat _ _ (by omega) (by decide)]
    unfold zigzag; rw [if_pos h]; simp
  · have e1 : IntKind.u64.wrap (wrap64 (x * 2)) = (((2 * x + 18446744073709551616).toNat : Nat) : Int) := by rw [IntKind.wrap_u64]; unfold wrap64; omega
    have e2 : IntKind.u64.wrap (x / 9223372036854775808) = ((2 ^ 64 - 1 : Nat) : Int) := by rw [IntKind.wrap_u64]; omega
    rw [e1, e2, bits_xor_u64_nat _ _ (by omega) (by decide), Nat.xor_comm, xor_ones64 _ (by omega)]
    unfold zigzag
    rw [if_neg (by omega)]
    omega
set_option maxHeartbeats 1000000 in
theorem int_any (B pb : Nat) (x : Int) (bs : List UInt8) (w : World) (hx : (Lit.int .i64 x).wf = true) (hpb : pb < B) (hB : B ≤ w.heap.size) (hw : Wr B w pb bs) (hlen : bs.length ≤ 1000000000000) :
    Calls Tryz.prog 16 #[.pointer (some ⟨pb, 0, none⟩), .int .i64 x] w fun e w' => e = .returned (.tuple #[]) ∧ Wr B w' pb (bs ++ uvarint (zigzag x)) ∧ Fr B pb w w' := by
  go_enter Tryz.func16, Tryz.ntmps16
  go_wp2_with (go_at_call 18; rw [zig_val hx]; refine (num_any B pb (zigzag x) bs _ (zig_u64 hx) hpb hB hw hlen).mono ?_; rintro e w' ⟨rfl, hw', hf'⟩)
  go_end0
  exact ⟨rfl, hw', hf'⟩

set_option maxHeartbeats 1000000 in
theorem wtext_any (B pb : Nat) (s : ByteArray) (bs : List UInt8) (w : World) (hpb : pb < B) (hB : B ≤ w.heap.size) (hw : Wr B w pb bs) (hs : s.size ≤ 1000000000) (hlen : bs.length ≤ 100000000000) :
    Calls Tryz.prog 49 #[.pointer (some ⟨pb, 0, none⟩), .string s] w fun e w' => e = .returned (.tuple #[]) ∧ Wr B w' pb (bs ++ textB s) ∧ Fr B pb w w' := by
  obtain ⟨i0, hi, hz0, hz1, hz2⟩ := info_parts info5
  have hu : U64 s.size := by unfold U64; omega
  have hul := uvarint_length64 hu
  have H := Lib.hid (num_any B pb s.size bs w hu hpb hB hw (by omega))
  clear hu hw
  go_enter Tryz.func49, Tryz.ntmps49
  go_wp2_with fail
  refine H.out.mono ?_
  rintro e w1 ⟨rfl, ⟨v, hp, hown⟩, hf1⟩
  have hs1 := hf1.size
  have hcell := cell_of_one hp
  have hfree := free_of_one hp
  go_wp2_with (at_builtin; refine wpList_append_own_string _ rfl _ _ 22 9 rfl B 5 i0 Tryz.underlying22 Tryz.underlying9 hi hz0 hz1 hz2 _ _ _ rfl hown s rfl ?c1 ?c2 ?c3 ?_)
  case c1 => simp [maxLen]; omega
  case c2 => simp; omega
  case c3 => omega
  · intro v' w2 hown' hgrow _
    obtain ⟨ao, cp, rfl⟩ := own_shape hown'
    obtain ⟨hw2, hfr2, hc2, hf2⟩ := wr_step (out := bs ++ textB s) hpb (by omega) hp hown hown' (by unfold textB; simp; omega) (by unfold textB; rw [← List.append_assoc, byteCells_append (bs ++ _)]; rfl) (Below.refl _ _) hgrow
    clear hown' hgrow hown hp hcell hfree H
    go_wp2
    go_end0
    exact ⟨rfl, hw2, hf1.trans hfr2⟩

end Go.Proofs.YtcodjknhnhdkfaaGreatDoor.Wn
namespace Go.Proofs.YtcodjknhnhdkfaaGreatDoor.Wn
open Go.RowKit Go.Lib Go.Proofs.YtcodjknhnhdkfaaGreatDoor.By Go.Proofs.YtcodjknhnhdkfaaGreatDoor.Rf
set_option maxRecDepth 20000

/-! ### a block of two cells -/
theorem two_setCell0 {w : World} {b : Nat} {v e u : Value} {t : TypeId} (h : w.heap[b]? = some (.cells #[v, e] t (0, 0))) : (w.setCell ⟨b, 0, none⟩ u).heap[b]? = some (.cells #[u, e] t (0, 0)) := by
  have hlt := lt_of_block h
  have h' : w.heap[b] = .cells #[v, e] t (0, 0) := by simpa [Array.getElem?_eq_getElem hlt] using h
  show (w.heap.modify b _)[b]? = _
  rw [Array.getElem?_eq_getElem (by simpa using hlt), Array.getElem_modify_self, h']
  rfl
theorem two_setCell1 {w : World} {b : Nat} {v e u : Value} {t : TypeId} (h : w.heap[b]? = some (.cells #[v, e] t (0, 0))) : (w.setCell ⟨b, 1, none⟩ u).heap[b]? = some (.cells #[v, u] t (0, 0)) := by
  have hlt := lt_of_block h
  have h' : w.heap[b] = .cells #[v, e] t (0, 0) := by simpa [Array.getElem?_eq_getElem hlt] using h
  show (w.heap.modify b _)[b]? = _
  rw [Array.getElem?_eq_getElem (by simpa using hlt), Array.getElem_modify_self, h']
  rfl
theorem two_cell0 {w : World} {b : Nat} {v e : Value} {t : TypeId} (h : w.heap[b]? = some (.cells #[v, e] t (0, 0))) : w.cell? ⟨b, 0, none⟩ = some v ∧ w.frozen? ⟨b, 0, none⟩ = false := by simp [World.cell?, World.frozen?, h]
theorem two_cell1 {w : World} {b : Nat} {v e : Value} {t : TypeId} (h : w.heap[b]? = some (.cells #[v, e] t (0, 0))) : w.cell? ⟨b, 1, none⟩ = some e ∧ w.frozen? ⟨b, 1, none⟩ = false := by simp [World.cell?, World.frozen?, h]

/-- but for block rb nothing has turned -/
structure At (rb : Nat) (w w' : World) : Prop where
  os : w'.os = w.os
  tape : w'.tape = w.tape
  output : w'.output = w.output
  size : w'.heap.size = w.heap.size
  block : ∀ k, k ≠ rb → w'.heap[k]? = w.heap[k]?
theorem At.refl (rb : Nat) (w : World) : At rb w w := ⟨rfl, rfl, rfl, rfl, fun _ _ => rfl⟩
theorem At.trans {rb : Nat} {a b c : World} (h : At rb a b) (k : At rb b c) : At rb a c :=
  ⟨k.os.trans h.os, k.tape.trans h.tape, k.output.trans h.output, k.size.trans h.size, fun i hn => (k.block i hn).trans (h.block i hn)⟩
theorem At.setCell {rb : Nat} {a b : World} (h : At rb a b) (i : Nat) (u : Value) : At rb a (b.setCell ⟨rb, i, none⟩ u) :=
  h.trans ⟨rfl, rfl, rfl, by simp [World.setCell], fun k hk => Below.heap_setCell _ _ _ _ hk⟩
theorem At.below {rb N : Nat} {a b : World} (h : At rb a b) (hN : N ≤ rb) : Below N a b :=
  ⟨h.os, h.tape, h.output, Nat.le_of_eq h.size.symm, fun k hk => h.block k (by omega)⟩
theorem At.cell {rb : Nat} {a b : World} (h : At rb a b) {p : Addr} (hp : p.block ≠ rb) : b.cell? p = a.cell? p := World.cell?_of_block (w := a) (h.block p.block hp)

/-- the bytes that are left: nil, or cells in another block than rb -/
def U8 (w : World) (g : Nat) : Prop := ∃ cur, w.heap[g]? = some (.cells cur 5 (0, 0))
theorem U8.at {rb g : Nat} {w w' : World} (h : U8 w g) (hA : At rb w w') (hg : g ≠ rb) : U8 w' g := let ⟨cur, e⟩ := h; ⟨cur, (hA.block g hg).trans e⟩
theorem U8.lt {g : Nat} {w : World} (h : U8 w g) : g < w.heap.size := let ⟨_, e⟩ := h; lt_of_block e
def Lf (w : World) (rb : Nat) (a : Option Addr) (cap : Nat) (l : List UInt8) : Prop :=
  (a = none ∧ l = [] ∧ cap = 0) ∨ ∃ g o, a = some ⟨g, o, none⟩ ∧ l.length ≤ cap ∧ cap ≤ maxLen ∧ g ≠ rb ∧ (∀ j u, (byteCells l)[j]? = some u → w.cell? ⟨g, o + j, none⟩ = some u) ∧ U8 w g

/-- a reader at block rb: what is left, its error -/
def Rd (w : World) (rb : Nat) (l : List UInt8) (e : Int) : Prop :=
  ∃ a cap, w.heap[rb]? = some (.cells #[.slice a l.length cap, .int .i64 e] 75 (0, 0)) ∧ Lf w rb a cap l

theorem Lf.at {w w' : World} {rb : Nat} {a : Option Addr} {cap : Nat} {l : List UInt8} (h : Lf w rb a cap l) (hA : At rb w w') : Lf w' rb a cap l := by
  rcases h with h | ⟨g, o, rfl, h1, h2, h3, h4, h9⟩
  · exact .inl h
  · exact .inr ⟨g, o, rfl, h1, h2, h3, fun j u hu => (hA.cell h3).trans (h4 j u hu), h9.at hA h3⟩
theorem Rd.below {w w' : World} {rb : Nat} {l : List UInt8} {e : Int} (h : Rd w rb l e) (hb : Below w.heap.size w w') : Rd w' rb l e := by
  obtain ⟨a, cap, h1, h2⟩ := h
  refine ⟨a, cap, (hb.block rb (lt_of_block h1)).trans h1, ?_⟩
  rcases h2 with h | ⟨g, o, rfl, h3, h4, h5, h6, h9⟩
  · exact .inl h
  · exact .inr ⟨g, o, rfl, h3, h4, h5, fun j u hu => (hb.cell (World.block_lt_of_cell? w _ (h6 j u hu))).trans (h6 j u hu), let ⟨cur, e⟩ := h9; ⟨cur, (hb.block g (lt_of_block e)).trans e⟩⟩
theorem Rd.kept {w w' : World} {rb : Nat} {l : List UInt8} {e : Int} (h : Rd w rb l e) (h1 : w'.heap[rb]? = w.heap[rb]?) (h2 : ∀ (g : Nat) (cur : Array Value), w.heap[g]? = some (.cells cur 5 (0, 0)) → w'.heap[g]? = w.heap[g]?) : Rd w' rb l e := by
  obtain ⟨a, cap, q1, q2⟩ := h
  refine ⟨a, cap, h1.trans q1, ?_⟩
  rcases q2 with q | ⟨g, o, rfl, h3, h4, h5, h6, cur, h9⟩
  · exact .inl q
  · have e := h2 g cur h9
    exact .inr ⟨g, o, rfl, h3, h4, h5, fun j u hu => (World.cell?_of_block (w := w) (a := ⟨g, o + j, none⟩) e).trans (h6 j u hu), cur, e.trans h9⟩
theorem Rd.lt {w : World} {rb : Nat} {l : List UInt8} {e : Int} (h : Rd w rb l e) : rb < w.heap.size := let ⟨_, _, h, _⟩ := h; lt_of_block h
theorem Rd.len {w : World} {rb : Nat} {l : List UInt8} {e : Int} (h : Rd w rb l e) : l.length ≤ maxLen := by
  obtain ⟨a, cap, h1, ⟨_, rfl, _⟩ | ⟨g, o, rfl, h3, h4, h5, h6, h9⟩⟩ := h
  · simp
  · omega

theorem err_any (rb : Nat) (l : List UInt8) (er : Int) (w : World) (h : Rd w rb l er) :
    Calls Tryz.prog 35 #[.pointer (some ⟨rb, 0, none⟩)] w fun e w' => e = .returned (.int .i64 er) ∧ w = w' := by
  obtain ⟨a, cap, hp, _⟩ := h
  have hc := (two_cell1 hp).1
  go_enter Tryz.func35, Tryz.ntmps35
  go_wp2
  go_ret
  exact ⟨rfl, rfl⟩

theorem left_any (rb : Nat) (l : List UInt8) (er : Int) (w : World) (h : Rd w rb l er) :
    Calls Tryz.prog 65 #[.pointer (some ⟨rb, 0, none⟩)] w fun e w' => e = .returned (.int .i64 l.length) ∧ w = w' := by
  obtain ⟨a, cap, hp, _⟩ := h
  have hc := (two_cell0 hp).1
  go_enter Tryz.func65, Tryz.ntmps65
  go_wp2
  go_ret
  exact ⟨rfl, rfl⟩

theorem fail_any (rb : Nat) (l : List UInt8) (er new : Int) (w : World) (h : Rd w rb l er) :
    Calls Tryz.prog 32 #[.pointer (some ⟨rb, 0, none⟩), .int .i64 new] w fun e w' => e = .returned (.tuple #[]) ∧ Rd w' rb [] (if er = 0 then new else er) ∧ At rb w w' := by
  obtain ⟨a, cap, hp, _⟩ := h
  have hc := two_cell1 hp
  have hc0 := two_cell0 hp
  by_cases he : er = 0
  · subst he
    rw [if_pos rfl]
    have hR : Rd ((w.setCell ⟨rb, 1, none⟩ (.int .i64 new)).setCell ⟨rb, 0, none⟩ (.slice none 0 0)) rb [] new :=
      ⟨none, 0, two_setCell0 (two_setCell1 hp), .inl ⟨rfl, rfl, rfl⟩⟩
    have hA : At rb w ((w.setCell ⟨rb, 1, none⟩ (.int .i64 new)).setCell ⟨rb, 0, none⟩ (.slice none 0 0)) := ((At.refl _ _).setCell _ _).setCell _ _
    have hc2 := two_cell0 (two_setCell1 (u := .int .i64 new) hp)
    have HH := Lib.hid (And.intro hR hA)
    clear hR hA hp
    go_enter Tryz.func32, Tryz.ntmps32
    go_wp2
    go_end0
    exact ⟨rfl, HH.out⟩
  · rw [if_neg he]
    have hR : Rd (w.setCell ⟨rb, 0, none⟩ (.slice none 0 0)) rb [] er := ⟨none, 0, two_setCell0 hp, .inl ⟨rfl, rfl, rfl⟩⟩
    have hA : At rb w (w.setCell ⟨rb, 0, none⟩ (.slice none 0 0)) := (At.refl _ _).setCell _ _
    have hne : (er == 0) = false := by simpa using he
    have HH := Lib.hid (And.intro hR hA)
    clear hR hA hp
    go_enter Tryz.func32, Tryz.ntmps32
    go_wp2
    go_end0
    exact ⟨rfl, HH.out⟩
theorem octet_err (rb : Nat) (l : List UInt8) (er : Int) (w : World) (h : Rd w rb l er) (he : er ≠ 0) :
    Calls Tryz.prog 31 #[.pointer (some ⟨rb, 0, none⟩)] w fun e w' => e = .returned (.tuple #[.int .u8 0, .bool false]) ∧ w = w' := by
  have hne : (er != 0) = true := by simpa using he
  go_enter Tryz.func31, Tryz.ntmps31
  go_wp2_with (go_at_call 35; refine (err_any rb l er _ h).mono ?_; rintro e w' ⟨rfl, rfl⟩)
  go_ret2
  exact ⟨rfl, rfl⟩

theorem octet_end (rb : Nat) (w : World) (h : Rd w rb [] 0) :
    Calls Tryz.prog 31 #[.pointer (some ⟨rb, 0, none⟩)] w fun e w' => e = .returned (.tuple #[.int .u8 0, .bool false]) ∧ Rd w' rb [] 4 ∧ At rb w w' := by
  obtain ⟨a, cap, hp, _⟩ := id h
  have hc := (two_cell0 hp).1
  simp only [List.length_nil] at hc
  clear hp
  go_enter Tryz.func31, Tryz.ntmps31
  go_wp2_with (first | (go_at_call 35; refine (err_any rb [] 0 _ h).mono ?_; rintro e w' ⟨rfl, rfl⟩) | (go_at_call 32; refine (fail_any rb [] 0 4 _ h).mono ?_; rintro e w' ⟨rfl, hr, hA⟩))
  go_ret2
  exact ⟨rfl, hr, hA⟩

theorem lf_tail {w : World} {g o : Nat} {c : UInt8} {t : List UInt8} (h : ∀ j u, (byteCells (c :: t))[j]? = some u → w.cell? ⟨g, o + j, none⟩ = some u) :
    ∀ j u, (byteCells t)[j]? = some u → w.cell? ⟨g, o + 1 + j, none⟩ = some u := fun j u hu => by
  have := h (j + 1) u (by simpa [byteCells] using hu)
  rwa [show o + (j + 1) = o + 1 + j by omega] at this

theorem octet_more (rb : Nat) (c : UInt8) (t : List UInt8) (w : World) (h : Rd w rb (c :: t) 0) :
    Calls Tryz.prog 31 #[.pointer (some ⟨rb, 0, none⟩)] w fun e w' => e = .returned (.tuple #[.int .u8 c.toNat, .bool true]) ∧ Rd w' rb t 0 ∧ At rb w w' := by
  have hlen := h.len
  obtain ⟨a, cap, hp, ⟨_, h1, _⟩ | ⟨g, o, rfl, h3, h4, h5, h6, h9⟩⟩ := id h
  · cases h1
  have hc := two_cell0 hp
  have hb : w.cell? ⟨g, o, none⟩ = some (.int .u8 c.toNat) := h6 0 _ (by simp [byteCells])
  simp only [List.length_cons, maxLen] at hc h3 h4 hlen
  have hA : ∀ u, At rb w (w.setCell ⟨rb, 0, none⟩ u) := fun u => (At.refl _ _).setCell _ _
  by_cases hcap : cap = 1
  · subst hcap
    have ht : t = [] := List.length_eq_zero_iff.1 (by omega)
    subst ht
    have hR : Rd (w.setCell ⟨rb, 0, none⟩ (.slice (some ⟨g, o, none⟩) 0 0)) rb [] 0 :=
      ⟨_, 0, two_setCell0 hp, .inr ⟨g, o, rfl, by simp, by simp, h5, (fun j u hu => by simp [byteCells] at hu), h9.at (hA _) h5⟩⟩
    have HH := Lib.hid (And.intro hR (hA (.slice (some ⟨g, o, none⟩) 0 0)))
    clear hR hA hp h6
    simp only [List.length_nil, Nat.zero_add] at hc
    go_enter Tryz.func31, Tryz.ntmps31
    go_wp2_with (first | (go_at_call 35; refine (err_any rb _ 0 _ h).mono ?_; rintro e w' ⟨rfl, rfl⟩))
    go_ret2
    exact ⟨rfl, HH.out⟩
  · have hR : Rd (w.setCell ⟨rb, 0, none⟩ (.slice (some ⟨g, o + 1, none⟩) t.length (cap - 1))) rb t 0 :=
      ⟨_, cap - 1, two_setCell0 hp, .inr ⟨g, o + 1, rfl, by omega, by simp [maxLen]; omega, h5, (fun j u hu => ((hA _).cell h5).trans (lf_tail h6 j u hu)), h9.at (hA _) h5⟩⟩
    have HH := Lib.hid (And.intro hR (hA (.slice (some ⟨g, o + 1, none⟩) t.length (cap - 1))))
    clear hR hA hp h6
    go_enter Tryz.func31, Tryz.ntmps31
    go_wp2_with (first | (go_at_call 35; refine (err_any rb _ 0 _ h).mono ?_; rintro e w' ⟨rfl, rfl⟩))
    go_ret2
    exact ⟨rfl, HH.out⟩

/-! ### Num -/
/-- what Num makes of the bytes, from the k-th on: the number, what is left, the error -/
def dec (k X : Nat) : List UInt8 → Nat × List UInt8 × Int
  | [] => (0, [], 4)
  | b :: t => if (k = 9 ∧ 1 < b.toNat) ∨ (0 < k ∧ b.toNat = 0) then (0, [], 2) else
      if b.toNat < 128 then (X + b.toNat * 128 ^ k, t, 0) else dec (k + 1) (X + (b.toNat - 128) * 128 ^ k) t

theorem dec_bad {k X : Nat} {c : UInt8} {t : List UInt8} (h : (k = 9 ∧ 1 < c.toNat) ∨ (0 < k ∧ c.toNat = 0)) : dec k X (c :: t) = (0, [], 2) := by
  simp only [dec]; rw [if_pos h]
theorem dec_last {k X : Nat} {c : UInt8} {t : List UInt8} (h : ¬ ((k = 9 ∧ 1 < c.toNat) ∨ (0 < k ∧ c.toNat = 0))) (hc : c.toNat < 128) : dec k X (c :: t) = (X + c.toNat % 128 * 128 ^ k, t, 0) := by
  simp only [dec]; rw [if_neg h, if_pos hc, Nat.mod_eq_of_lt hc]
theorem dec_more {k X : Nat} {c : UInt8} {t : List UInt8} (h : ¬ ((k = 9 ∧ 1 < c.toNat) ∨ (0 < k ∧ c.toNat = 0))) (hc : ¬ c.toNat < 128) : dec k X (c :: t) = dec (k + 1) (X + c.toNat % 128 * 128 ^ k) t := by
  have := c.toNat_lt
  simp only [dec]; rw [if_neg h, if_neg hc, show c.toNat % 128 = c.toNat - 128 by omega]

theorem pow_7 (k : Nat) : (2 : Int) ^ (7 * k) = ((128 ^ k : Nat) : Int) := by
  have h : (2 : Nat) ^ (7 * k) = 128 ^ k := by rw [Nat.pow_mul]
  rw [← h]; simp
theorem numbits {k X c : Nat} (hk : k ≤ 9) (hX : X < 128 ^ k) (hc : c < 256) (h9 : k = 9 → c ≤ 1) :
    bits .or .u64 (X : Int) (IntKind.u64.wrap (IntKind.u64.wrap (bits .andNot .u8 (c : Int) 128) * 2 ^ (7 * k))) = ((X + c % 128 * 128 ^ k : Nat) : Int) := by
  have e0 : bits .andNot .u8 (c : Int) 128 = ((c % 128 : Nat) : Int) := by
    rw [u8_andNot _ _ (by omega) (by omega) (by decide) (by decide)]
    simp only [Int.toNat_natCast]
    exact congrArg Nat.cast (Nat.and_two_pow_sub_one_eq_mod c 7)
  have hP : 128 ^ k ≤ 128 ^ 9 := Nat.pow_le_pow_right (by decide) hk
  have hlt : c % 128 * 128 ^ k < 18446744073709551616 := by
    by_cases h : k = 9
    · subst h; have := h9 rfl; have : c % 128 ≤ 1 := by omega
      exact Nat.lt_of_le_of_lt (Nat.mul_le_mul_right _ this) (by decide)
    · have h8 : 128 ^ k ≤ 128 ^ 8 := Nat.pow_le_pow_right (by decide) (by omega)
      exact Nat.lt_of_le_of_lt (Nat.mul_le_mul (show c % 128 ≤ 127 by omega) h8) (by decide)
  have hXl : X < 18446744073709551616 := Nat.lt_of_lt_of_le hX (Nat.le_trans hP (by decide))
  have e1 : IntKind.u64.wrap ((c % 128 : Nat) : Int) = ((c % 128 : Nat) : Int) := u64_wrap_id _ (by omega) (by omega)
  rw [e0, e1, pow_7, ← Int.natCast_mul, u64_wrap_id _ (by omega) (by omega)]
  rw [bits_join_low .u64 64 (by decide) wraps_u64 (7 * k) (X : Int) ((c % 128 * 128 ^ k : Nat) : Int) (by omega) (by rw [pow_7]; omega) (by omega) (by omega) (by rw [pow_7, ← Int.natCast_emod, Nat.mul_mod_left]; rfl) (by omega)]
  omega
theorem numbits_lt {k X c : Nat} (hX : X < 128 ^ k) : X + c % 128 * 128 ^ k < 128 ^ (k + 1) := by
  rw [Nat.pow_succ]
  have : c % 128 * 128 ^ k ≤ 127 * 128 ^ k := Nat.mul_le_mul_right _ (by omega)
  omega
theorem numbits0 {X c : Nat} (hX : X < 128 ^ 0) (hc : c < 256) :
    bits .or .u64 (X : Int) (IntKind.u64.wrap (IntKind.u64.wrap (bits .andNot .u8 (c : Int) 128))) = ((X + c % 128 * 128 ^ 0 : Nat) : Int) := by
  have := numbits (k := 0) (by omega) hX hc (by omega)
  simpa using this
theorem numbits9 {X c : Nat} (hX : X < 128 ^ 9) (hc : c ≤ 1) :
    bits .or .u64 (X : Int) (IntKind.u64.wrap (IntKind.u64.wrap (bits .andNot .u8 (c : Int) 128) * 9223372036854775808)) = ((X + c % 128 * 128 ^ 9 : Nat) : Int) := by
  have := numbits (k := 9) (by omega) hX (show c < 256 by omega) (by omega)
  simpa using this

theorem num_err (rb : Nat) (l : List UInt8) (er : Int) (w : World) (h : Rd w rb l er) (he : er ≠ 0) :
    Calls Tryz.prog 10 #[.pointer (some ⟨rb, 0, none⟩)] w fun e w' => e = .returned (.int .u64 0) ∧ w = w' := by
  go_enter Tryz.func10, Tryz.ntmps10
  go_wp2
  refine wp_loop_rounds 1 ?_
  rw [rounds_succ]
  go_wp2_with (go_at_call 31; refine (octet_err rb l er _ h he).mono ?_; rintro e w' ⟨rfl, rfl⟩)
  go_ret
  exact ⟨rfl, rfl⟩

set_option maxRecDepth 20000 in
set_option maxHeartbeats 1000000 in
theorem num_ok (rb : Nat) (l : List UInt8) (w : World) (h : Rd w rb l 0) :
    Calls Tryz.prog 10 #[.pointer (some ⟨rb, 0, none⟩)] w fun e w' => e = .returned (.int .u64 (dec 0 0 l).1) ∧ Rd w' rb (dec 0 0 l).2.1 (dec 0 0 l).2.2 ∧ At rb w w' := by
  obtain ⟨D, hD⟩ : ∃ D, D = dec 0 0 l := ⟨_, rfl⟩
  rw [← hD]
  obtain ⟨n, r, er⟩ := D
  simp only
  have HD0 := Lib.hid hD
  clear hD
  go_enter Tryz.func10, Tryz.ntmps10
  go_wp2
  go_loopw [3, 4] (fun x i wr => ∃ (k X : Nat) (t : List UInt8), k ≤ 9 ∧ X < 128 ^ k ∧ i = .int .i64 k ∧ x = .int .u64 X ∧ Rd wr rb t 0 ∧ (n, r, er) = dec k X t ∧ At rb w wr) (fun _ i _ => 10 - (intOf i).toNat)
  case atStart => exact ⟨0, 0, l, by omega, by decide, rfl, rfl, h, HD0.out, At.refl _ _⟩
  case round =>
    obtain ⟨k, X, t, hk, hX, rfl, rfl, hr, hd, hA⟩ := hrel
    have HD := Lib.hid (And.intro hX hd)
    clear hX hd
    cases t with
    | nil =>
      obtain ⟨_, hd⟩ := HD.out
      simp only [dec, Prod.mk.injEq] at hd
      obtain ⟨rfl, rfl, rfl⟩ := hd
      clear HD0 HD
      go_wp2_with (go_at_call 31; refine (octet_end rb _ hr).mono ?_; rintro e w' ⟨rfl, hr', hA'⟩)
      go_ret
      exact ⟨rfl, hr', hA.trans hA'⟩
    | cons c t =>
      have hc := c.toNat_lt
      by_cases hbad : (k = 9 ∧ 1 < c.toNat) ∨ (0 < k ∧ c.toNat = 0)
      · have HE : (n, r, er) = (0, [], 2) := HD.out.2.trans (dec_bad hbad)
        simp only [Prod.mk.injEq] at HE
        obtain ⟨rfl, rfl, rfl⟩ := HE
        clear HD HD0
        by_cases h1 : k = 9 ∧ 1 < c.toNat
        · obtain ⟨rfl, hc1⟩ := h1
          clear hbad
          go_wp2_with (first | (go_at_call 31; refine (octet_more rb c t _ hr).mono ?_; rintro e w' ⟨rfl, hr', hA'⟩) | (go_at_call 32; refine (fail_any rb t 0 2 _ hr').mono ?_; rintro e w'' ⟨rfl, hr'', hA''⟩))
          go_ret
          exact ⟨rfl, hr'', (hA.trans hA').trans hA''⟩
        · have h2 : 0 < k ∧ c.toNat = 0 := by omega
          obtain ⟨hk0, hc0⟩ := h2
          have hc1 : ((c.toNat : Int) == 0) = true := by simp [hc0]
          have hc2 : (c.toNat : Int) ≤ 0 := by omega
          clear hbad h1 hc0
          go_wp2_with (first | (go_at_call 31; refine (octet_more rb c t _ hr).mono ?_; rintro e w' ⟨rfl, hr', hA'⟩) | (go_at_call 32; refine (fail_any rb t 0 2 _ hr').mono ?_; rintro e w'' ⟨rfl, hr'', hA''⟩))
          all_goals go_ret
          all_goals exact ⟨rfl, hr'', (hA.trans hA').trans hA''⟩
      · have hlast := Lib.hid (fun h => HD.out.2.trans (dec_last hbad h))
        have hmore := Lib.hid (fun h => HD.out.2.trans (dec_more hbad h))
        have hX := Lib.hid HD.out.1
        have hb1 : k = 9 → c.toNat ≤ 1 := fun h => by omega
        have hb2 : 0 < k → c.toNat ≠ 0 := fun h => by omega
        have HB := Lib.hid (And.intro hb1 hb2)
        have hk9' : k = 9 → ¬ 128 ≤ c.toNat := fun h => by have := hb1 h; omega
        have HK := Lib.hid hk9'
        clear hbad hb1 hb2 HD hk9'
        by_cases hk0 : k = 0
        · subst hk0
          clear HB
          by_cases hbig : c.toNat < 128
          · go_wp2_with (go_at_call 31; refine (octet_more rb c t _ hr).mono ?_; rintro e w' ⟨rfl, hr', hA'⟩)
            go_ret
            have hl := hlast.out hbig
            simp only [Prod.mk.injEq] at hl
            obtain ⟨rfl, rfl, rfl⟩ := hl
            exact ⟨congrArg (fun z => Ending.returned (.int .u64 z)) (numbits0 hX.out hc), hr', hA.trans hA'⟩
          · go_wp2_with (go_at_call 31; refine (octet_more rb c t _ hr).mono ?_; rintro e w' ⟨rfl, hr', hA'⟩)
            go_roundw
            case rel => exact ⟨0 + 1, _, t, by omega, numbits_lt hX.out, by go_num, by rw [numbits0 hX.out hc], hr', hmore.out hbig, hA.trans hA'⟩
            case measure => simp [intOf]
        · have h0 : 0 < k := by omega
          have hcne : c.toNat ≠ 0 := HB.out.2 h0
          have hcpos : 0 < c.toNat := by omega
          clear hcne hk0
          by_cases hk9 : k = 9
          · have hc1 : c.toNat ≤ 1 := HB.out.1 hk9
            subst hk9
            have hz0 : ((c.toNat : Int) == 0) = false := by simp; omega
            clear HB
            go_wp2_with (go_at_call 31; refine (octet_more rb c t _ hr).mono ?_; rintro e w' ⟨rfl, hr', hA'⟩)
            go_ret
            have hl := hlast.out (by omega)
            simp only [Prod.mk.injEq] at hl
            obtain ⟨rfl, rfl, rfl⟩ := hl
            exact ⟨congrArg (fun z => Ending.returned (.int .u64 z)) (numbits9 hX.out hc1), hr', hA.trans hA'⟩
          · have hlt : k < 9 := by omega
            clear hk9 HB
            by_cases hbig : c.toNat < 128
            · go_wp2_with (go_at_call 31; refine (octet_more rb c t _ hr).mono ?_; rintro e w' ⟨rfl, hr', hA'⟩)
              go_ret
              have hl := hlast.out hbig
              simp only [Prod.mk.injEq] at hl
              obtain ⟨rfl, rfl, rfl⟩ := hl
              exact ⟨congrArg (fun z => Ending.returned (.int .u64 z)) (numbits hk hX.out hc (by omega)), hr', hA.trans hA'⟩
            · go_wp2_with (go_at_call 31; refine (octet_more rb c t _ hr).mono ?_; rintro e w' ⟨rfl, hr', hA'⟩)
              go_roundw
              case rel => exact ⟨k + 1, _, t, by omega, numbits_lt hX.out, by go_num, by rw [numbits hk hX.out hc (by omega)], hr', hmore.out hbig, hA.trans hA'⟩
              case measure => simp [intOf]; omega
theorem dec_u64 : ∀ (l : List UInt8) (k X : Nat), k ≤ 9 → X < 128 ^ k → U64 (dec k X l).1
  | [], k, X, _, _ => by simp only [dec]; unfold U64; decide
  | b :: t, k, X, hk, hX => by
    by_cases h : (k = 9 ∧ 1 < b.toNat) ∨ (0 < k ∧ b.toNat = 0)
    · rw [dec_bad h]; unfold U64; decide
    · by_cases hb : b.toNat < 128
      · rw [dec_last h hb]
        by_cases h9 : k = 9
        · subst h9
          have : b.toNat % 128 ≤ 1 := by omega
          have h2 : b.toNat % 128 * 128 ^ 9 ≤ 1 * 128 ^ 9 := Nat.mul_le_mul_right _ this
          show X + _ < 18446744073709551616
          omega
        · have h1 := numbits_lt (c := b.toNat) hX
          have h2 : 128 ^ (k + 1) ≤ 128 ^ 9 := Nat.pow_le_pow_right (by decide) (by omega)
          show X + _ < 18446744073709551616
          omega
      · rw [dec_more h hb]
        exact dec_u64 t (k + 1) _ (by omega) (numbits_lt hX)

/-! ### Count -/
theorem dec_zero : ∀ (l : List UInt8) (k X : Nat), (dec k X l).2.2 ≠ 0 → (dec k X l).1 = 0 ∧ (dec k X l).2.1 = []
  | [], k, X, _ => ⟨rfl, rfl⟩
  | b :: t, k, X, h => by
    by_cases h1 : (k = 9 ∧ 1 < b.toNat) ∨ (0 < k ∧ b.toNat = 0)
    · rw [dec_bad h1]; exact ⟨rfl, rfl⟩
    · by_cases hb : b.toNat < 128
      · rw [dec_last h1 hb] at h; exact absurd rfl h
      · rw [dec_more h1 hb] at h ⊢
        exact dec_zero t (k + 1) _ h
theorem dec_len : ∀ (l : List UInt8) (k X : Nat), (dec k X l).2.1.length ≤ l.length
  | [], k, X => by simp [dec]
  | b :: t, k, X => by
    by_cases h1 : (k = 9 ∧ 1 < b.toNat) ∨ (0 < k ∧ b.toNat = 0)
    · rw [dec_bad h1]; simp
    · by_cases hb : b.toNat < 128
      · rw [dec_last h1 hb]; simp
      · rw [dec_more h1 hb]
        have := dec_len t (k + 1) (X + b.toNat % 128 * 128 ^ k)
        simp; omega

/-- what Count makes of the bytes -/
def cnt (m : Nat) (l : List UInt8) : Nat × List UInt8 × Int := if (dec 0 0 l).1 ≤ m then dec 0 0 l else (0, [], 15)
theorem cnt_le (m : Nat) (l : List UInt8) : (cnt m l).1 ≤ m := by unfold cnt; split <;> simp_all
theorem cnt_zero (m : Nat) (l : List UInt8) (h : (cnt m l).2.2 ≠ 0) : (cnt m l).1 = 0 ∧ (cnt m l).2.1 = [] := by
  unfold cnt at h ⊢
  by_cases h1 : (dec 0 0 l).1 ≤ m
  · rw [if_pos h1] at h ⊢; exact dec_zero l 0 0 h
  · rw [if_neg h1]; exact ⟨rfl, rfl⟩

set_option maxHeartbeats 1000000 in
theorem count_err (rb : Nat) (l : List UInt8) (er : Int) (m : Nat) (w : World) (h : Rd w rb l er) (he : er ≠ 0) (hm2 : m ≤ 1000000000000) :
    Calls Tryz.prog 34 #[.pointer (some ⟨rb, 0, none⟩), .int .i64 m] w fun e w' => e = .returned (.int .i64 0) ∧ w = w' := by
  have H := Lib.hid (num_err rb l er w h he)
  clear he h
  go_enter Tryz.func34, Tryz.ntmps34
  go_wp2_with (go_at_call 10; refine H.out.mono ?_; rintro e w' ⟨rfl, rfl⟩)
  go_ret
  exact ⟨rfl, rfl⟩
set_option maxHeartbeats 1000000 in
theorem count_ok (rb : Nat) (l : List UInt8) (m : Nat) (w : World) (h : Rd w rb l 0) (hm2 : m ≤ 1000000000000) :
    Calls Tryz.prog 34 #[.pointer (some ⟨rb, 0, none⟩), .int .i64 m] w fun e w' => e = .returned (.int .i64 (cnt m l).1) ∧ Rd w' rb (cnt m l).2.1 (cnt m l).2.2 ∧ At rb w w' := by
  have H := Lib.hid (num_ok rb l w h)
  have hz := dec_zero l 0 0
  unfold cnt
  obtain ⟨D, hD⟩ : ∃ D, D = dec 0 0 l := ⟨_, rfl⟩
  rw [← hD] at H hz ⊢
  clear hD h
  obtain ⟨n, r, er⟩ := D
  simp only at H hz ⊢
  by_cases hn : n ≤ m
  · rw [if_pos hn]
    clear hz
    go_enter Tryz.func34, Tryz.ntmps34
    go_wp2_with (go_at_call 10; refine H.out.mono ?_; rintro e w' ⟨rfl, hr, hA⟩)
    go_ret
    exact ⟨rfl, hr, hA⟩
  · rw [if_neg hn]
    have he : er = 0 := Classical.byContradiction fun h => by have := (hz h).1; omega
    subst he
    clear hz
    go_enter Tryz.func34, Tryz.ntmps34
    go_wp2_with (first | (go_at_call 10; refine H.out.mono ?_; rintro e w' ⟨rfl, hr, hA⟩) | (go_at_call 32; refine (fail_any rb r 0 15 _ hr).mono ?_; rintro e w'' ⟨rfl, hr', hA'⟩))
    go_ret
    exact ⟨rfl, hr', hA.trans hA'⟩
theorem dec_uv : ∀ (m n k X : Nat) (t : List UInt8), n ≤ m → k ≤ 9 → n * 128 ^ k < 18446744073709551616 → (k = 0 ∨ 0 < n) → dec k X (uvarint n ++ t) = (X + n * 128 ^ k, t, 0)
  | m, n, k, X, t, hm, hk, hn, h0 => by
    have h9 : k = 9 → n < 2 := fun e => by
      subst e
      rcases Nat.lt_or_ge n 2 with h | h
      · exact h
      · have := Nat.mul_le_mul_right (128 ^ 9) h
        exact absurd hn (Nat.not_lt.2 (Nat.le_trans (by decide) this))
    by_cases hs : n < 128
    · rw [uvarint_small hs, List.singleton_append]
      have e : n.toUInt8.toNat = n := toUInt8_toNat (by omega)
      have hnb : ¬ ((k = 9 ∧ 1 < n.toUInt8.toNat) ∨ (0 < k ∧ n.toUInt8.toNat = 0)) := by rw [e]; omega
      rw [dec_last hnb (by omega), e, Nat.mod_eq_of_lt hs]
    · rw [uvarint_big (by omega), List.cons_append]
      have e : (n % 128 + 128).toUInt8.toNat = n % 128 + 128 := toUInt8_toNat (by omega)
      have hnb : ¬ ((k = 9 ∧ 1 < (n % 128 + 128).toUInt8.toNat) ∨ (0 < k ∧ (n % 128 + 128).toUInt8.toNat = 0)) := by rw [e]; omega
      rw [dec_more hnb (by omega), e]
      match m, hm with
      | 0, hm => omega
      | m + 1, hm =>
        have hd : n / 128 * 128 ^ (k + 1) ≤ n * 128 ^ k := by
          rw [Nat.pow_succ, Nat.mul_comm (128 ^ k), ← Nat.mul_assoc]
          exact Nat.mul_le_mul_right _ (Nat.div_mul_le_self n 128)
        rw [dec_uv m (n / 128) (k + 1) _ t (by omega) (by omega) (by omega) (.inr (by omega))]
        have e2 : (n % 128 + 128) % 128 = n % 128 := by omega
        rw [e2]
        have e3 : n % 128 * 128 ^ k + n / 128 * 128 ^ (k + 1) = n * 128 ^ k := by
          rw [Nat.pow_succ, Nat.mul_comm (128 ^ k), ← Nat.mul_assoc, ← Nat.add_mul]
          congr 1; omega
        rw [Nat.add_assoc, e3]
theorem dec_uv0 {n : Nat} (h : U64 n) (t : List UInt8) : dec 0 0 (uvarint n ++ t) = (n, t, 0) := by
  rw [dec_uv n n 0 0 t (Nat.le_refl _) (by omega) (by unfold U64 at h; omega) (.inl rfl)]; simp

theorem add_lit' (g o j : Nat) : (⟨g, o, none⟩ : Addr).add j = ⟨g, o + j, none⟩ := by unfold Addr.add; split <;> simp_all

theorem lf_own {w : World} {B rb : Nat} {a : Option Addr} {cap : Nat} {l : List UInt8} (h : w.ownsRow B 5 1 (.slice a l.length cap) l.length (byteCells l)) (hr : w.heap.size ≤ rb) (o : Obj) : Lf (w.alloc o) rb a cap l := by
  cases a with
  | none =>
    left
    rcases h.2 with ⟨h1, h2⟩ | ⟨g, c, cur, h1, _⟩
    · simp at h1; exact ⟨rfl, List.length_eq_zero_iff.1 h2, h1.2⟩
    · simp at h1
  | some x =>
    right
    rcases h.2 with ⟨h1, h2⟩ | ⟨g, c, cur, h1, h2, h3, h4, h5, h6, h7⟩
    · simp at h1
    · have h1' := h1
      simp only [Value.slice.injEq, Option.some.injEq, true_and] at h1'
      obtain ⟨rfl, rfl⟩ := h1'
      have hg := lt_of_block h3
      refine ⟨g, 0, rfl, h4, h5, by omega, fun j u hu => ?_, ⟨cur, (((Below.refl w.heap.size w).alloc (Nat.le_refl _) o).block g hg).trans h3⟩⟩
      have := h.cells (g := g) rfl j u hu
      rw [add_lit'] at this
      exact ((((Below.refl w.heap.size w).alloc (Nat.le_refl _) o).cell (p := ⟨g, 0 + j, none⟩) hg)).trans this

theorem read_any (a : Option Addr) (len cap : Nat) (l : List UInt8) (w : World) (hl : IsB w a len cap l) (hlen : l.length ≤ 1000000000000) :
    Calls Tryz.prog 8 #[.slice a len cap] w fun e w' => ∃ rb, e = .returned (.pointer (some ⟨rb, 0, none⟩)) ∧ w.heap.size ≤ rb ∧ Rd w' rb l 0 ∧ Below w.heap.size w w' := by
  have H := Lib.hid (clone_any a len cap l w hl hlen)
  clear hl
  go_enter Tryz.func8, Tryz.ntmps8
  go_wp2_with fail
  refine H.out.mono ?_
  rintro e w1 ⟨v', rfl, hown, hb⟩
  obtain ⟨a1, c1, rfl⟩ := own_shape hown
  have hR : Rd (w1.alloc (.cells #[.slice a1 l.length c1, .int .i64 0] 75)) w1.heap.size l 0 := ⟨a1, c1, heap_alloc_new w1 _, lf_own hown (Nat.le_refl _) _⟩
  have HH := Lib.hid (And.intro hb.size (And.intro hR (hb.alloc hb.size (.cells #[.slice a1 l.length c1, .int .i64 0] 75))))
  clear hR hb hown H
  go_wp2
  go_ret
  exact ⟨_, rfl, HH.out.1, HH.out.2.1, HH.out.2.2⟩
/-- a signed number out of a number -/
def unzig (n : Nat) : Int := if n % 2 = 0 then ((n / 2 : Nat) : Int) else -((n / 2 : Nat) : Int) - 1
theorem unzig_zig (x : Int) : unzig (zigzag x) = x := by
  unfold unzig zigzag
  split <;> split <;> omega

theorem xor_id (x : Nat) (hx : x < 9223372036854775808) : bits .xor .i64 (x : Int) 0 = (x : Int) := by
  show IntKind.i64.wrap ((BitVec.ofInt 64 (x : Int) ^^^ BitVec.ofInt 64 0).toNat : Int) = _
  have h2 : (BitVec.ofInt 64 (x : Int)).toNat = x := by
    rw [BitVec.ofInt_natCast, BitVec.toNat_ofNat]; exact Nat.mod_eq_of_lt (by omega)
  have h3 : (BitVec.ofInt 64 0).toNat = 0 := by decide
  rw [BitVec.toNat_xor, h2, h3, Nat.xor_zero, IntKind.wrap_i64]
  omega
theorem xor_not (x : Nat) (hx : x < 9223372036854775808) : bits .xor .i64 (x : Int) (-1) = -(x : Int) - 1 := by
  show IntKind.i64.wrap ((BitVec.ofInt 64 (x : Int) ^^^ BitVec.ofInt 64 (-1)).toNat : Int) = _
  have h1 : (BitVec.ofInt 64 (-1)).toNat = 2 ^ 64 - 1 := by decide
  have h2 : (BitVec.ofInt 64 (x : Int)).toNat = x := by
    rw [BitVec.ofInt_natCast, BitVec.toNat_ofNat]; exact Nat.mod_eq_of_lt (by omega)
  rw [BitVec.toNat_xor, h1, h2, Nat.xor_comm, xor_ones64 x (by omega), IntKind.wrap_i64]
  omega
theorem unz {n : Nat} (h : U64 n) : bits .xor .i64 (wrap64 ((n : Int) / 2)) (wrap64 (-wrap64 (bits .and .u64 (n : Int) 1))) = unzig n := by
  unfold U64 at h
  rw [u64_and1 _ (by omega) (by omega)]
  have e : wrap64 ((n : Int) / 2) = ((n / 2 : Nat) : Int) := by unfold wrap64; omega
  rw [e]
  unfold unzig
  by_cases h2 : n % 2 = 0
  · rw [if_pos h2, show wrap64 (-wrap64 ((n : Int) % 2)) = 0 by unfold wrap64; omega, xor_id _ (by omega)]
  · rw [if_neg h2, show wrap64 (-wrap64 ((n : Int) % 2)) = -1 by unfold wrap64; omega, xor_not _ (by omega)]

set_option maxHeartbeats 1000000 in
theorem rint_err (rb : Nat) (l : List UInt8) (er : Int) (w : World) (h : Rd w rb l er) (he : er ≠ 0) :
    Calls Tryz.prog 9 #[.pointer (some ⟨rb, 0, none⟩)] w fun e w' => e = .returned (.int .i64 0) ∧ w = w' := by
  have H := Lib.hid (num_err rb l er w h he)
  clear he h
  go_enter Tryz.func9, Tryz.ntmps9
  go_wp2_with (go_at_call 10; refine H.out.mono ?_; rintro e w' ⟨rfl, rfl⟩)
  go_ret
  exact ⟨congrArg (fun z => Ending.returned (.int .i64 z)) (by have := unz (n := 0) (by unfold U64; decide); simpa [unzig, wrap64] using this), rfl⟩
theorem rint_ok (rb : Nat) (l : List UInt8) (w : World) (h : Rd w rb l 0) :
    Calls Tryz.prog 9 #[.pointer (some ⟨rb, 0, none⟩)] w fun e w' => e = .returned (.int .i64 (unzig (dec 0 0 l).1)) ∧ Rd w' rb (dec 0 0 l).2.1 (dec 0 0 l).2.2 ∧ At rb w w' := by
  have H := Lib.hid (num_ok rb l w h)
  have hu := dec_u64 l 0 0 (by omega) (by decide)
  obtain ⟨D, hD⟩ : ∃ D, D = dec 0 0 l := ⟨_, rfl⟩
  rw [← hD] at H hu ⊢
  clear hD h
  obtain ⟨n, r, er⟩ := D
  simp only at H hu ⊢
  go_enter Tryz.func9, Tryz.ntmps9
  go_wp2_with (go_at_call 10; refine H.out.mono ?_; rintro e w' ⟨rfl, hr, hA⟩)
  go_ret
  exact ⟨congrArg (fun z => Ending.returned (.int .i64 z)) (unz hu), hr, hA⟩

/-- what Text makes of the bytes -/
def txt (m : Nat) (l : List UInt8) : List UInt8 × List UInt8 × Int :=
  if (cnt m l).2.1.length < (cnt m l).1 then ([], [], 4) else ((cnt m l).2.1.take (cnt m l).1, (cnt m l).2.1.drop (cnt m l).1, (cnt m l).2.2)

set_option maxHeartbeats 1000000 in
theorem text_err (rb : Nat) (l : List UInt8) (er : Int) (m : Nat) (w : World) (h : Rd w rb l er) (he : er ≠ 0) (hm2 : m ≤ 1000000000000) :
    Calls Tryz.prog 53 #[.pointer (some ⟨rb, 0, none⟩), .int .i64 m] w fun e w' => e = .returned (.string ⟨#[]⟩) ∧ w = w' := by
  have H := Lib.hid (count_err rb l er m w h he hm2)
  have H2 := Lib.hid (left_any rb l er w h)
  have hlen := h.len
  unfold maxLen at hlen
  clear he h
  go_enter Tryz.func53, Tryz.ntmps53
  go_wp2_with (first | (go_at_call 34; refine H.out.mono ?_; rintro e w' ⟨rfl, rfl⟩) | (go_at_call 65; refine H2.out.mono ?_; rintro e w' ⟨rfl, rfl⟩))
  go_ret
  exact ⟨rfl, rfl⟩

set_option maxHeartbeats 1000000 in
theorem text_ok (rb : Nat) (l : List UInt8) (m : Nat) (w : World) (h : Rd w rb l 0) (hm2 : m ≤ 1000000000000) :
    Calls Tryz.prog 53 #[.pointer (some ⟨rb, 0, none⟩), .int .i64 m] w fun e w' => e = .returned (.string ⟨(txt m l).1.toArray⟩) ∧ Rd w' rb (txt m l).2.1 (txt m l).2.2 ∧ At rb w w' := by
  have H := Lib.hid (count_ok rb l m w h hm2)
  have hz := cnt_zero m l
  have hle := cnt_le m l
  unfold txt
  obtain ⟨D, hD⟩ : ∃ D, D = cnt m l := ⟨_, rfl⟩
  rw [← hD] at H hz hle ⊢
  clear hD h
  obtain ⟨n, r, er⟩ := D
  simp only at H hz hle ⊢
  by_cases hbig : r.length < n
  · rw [if_pos hbig]
    have he : er = 0 := Classical.byContradiction fun h => by have := (hz h).1; omega
    subst he
    clear hz
    go_enter Tryz.func53, Tryz.ntmps53
    go_wp2_with (first | (go_at_call 34; refine H.out.mono ?_; rintro e w' ⟨rfl, hr, hA⟩) | (go_at_call 65; refine (left_any rb r 0 _ hr).mono ?_; rintro e w' ⟨rfl, rfl⟩) | (go_at_call 32; refine (fail_any rb r 0 4 _ hr).mono ?_; rintro e w'' ⟨rfl, hr', hA'⟩))
    go_ret
    exact ⟨rfl, hr', hA.trans hA'⟩
  · rw [if_neg hbig]
    clear hz
    by_cases h0 : n = 0
    · subst h0
      go_enter Tryz.func53, Tryz.ntmps53
      go_wp2_with (first | (go_at_call 34; refine H.out.mono ?_; rintro e w' ⟨rfl, hr, hA⟩) | (go_at_call 65; refine (left_any rb r er _ hr).mono ?_; rintro e w' ⟨rfl, rfl⟩))
      go_ret
      exact ⟨rfl, by simpa using hr, hA⟩
    · have hpos : 0 < n := by omega
      have hle2 : n ≤ r.length := by omega
      have hne : ((n : Int) == 0) = false := by simp; omega
      clear hbig h0
      go_enter Tryz.func53, Tryz.ntmps53
      go_wp2_with fail
      refine H.out.mono ?_
      rintro e w' ⟨rfl, hr, hA⟩
      have hL := Lib.hid (left_any rb r er w' hr)
      obtain ⟨a, cap, hp, ⟨_, h1, _⟩ | ⟨g, o, rfl, h3, h4, h5, h6, h9⟩⟩ := hr
      · simp [h1] at hle2; omega
      have hc := two_cell0 hp
      have hcv : (convert 22 9 (.slice (some ⟨g, o, none⟩) n cap)).run Tryz.prog w' = .ok (.string ⟨(r.take n).toArray⟩) w' := by
        refine str_of ⟨by simp; omega, .inr ⟨_, rfl, by omega, h4, fun j u hu => ?_⟩⟩
        have hj : (byteCells r)[j]? = some u := by
          simp only [byteCells, List.map_take, List.getElem?_take] at hu
          split at hu
          · exact hu
          · cases hu
        have := h6 j u hj
        rwa [add_lit'] 
      unfold maxLen at h4
      have hAA : ∀ u, At rb w (w'.setCell ⟨rb, 0, none⟩ u) := fun u => hA.setCell _ _
      have hAB : ∀ u, At rb w' (w'.setCell ⟨rb, 0, none⟩ u) := fun u => (At.refl _ _).setCell _ _
      have htail : ∀ j u, (byteCells (r.drop n))[j]? = some u → w'.cell? ⟨g, o + n + j, none⟩ = some u := fun j u hu => by
        have := h6 (n + j) u (by simpa [byteCells, List.getElem?_drop] using hu)
        rwa [← Nat.add_assoc] at this
      by_cases hcap : cap = n
      · have hcap' : n = cap := hcap.symm
        subst hcap'
        have hrl : r.length = n := by omega
        have hd : r.drop n = [] := by rw [List.drop_eq_nil_iff]; omega
        have hR : Rd (w'.setCell ⟨rb, 0, none⟩ (.slice (some ⟨g, o, none⟩) 0 0)) rb (r.drop n) er := by
          rw [hd]; exact ⟨_, 0, two_setCell0 hp, .inr ⟨g, o, rfl, by simp, by simp, h5, (fun j u hu => by simp [byteCells] at hu), h9.at (hAB _) h5⟩⟩
        have HH := Lib.hid (And.intro hR (hAA (.slice (some ⟨g, o, none⟩) 0 0)))
        clear hR hp hAA hAB htail h6 hcap hd
        rw [hrl] at hc hL
        clear hrl
        go_wp2_with (go_at_call 65; refine hL.out.mono ?_; rintro e w'' ⟨rfl, rfl⟩)
        go_ret
        exact ⟨rfl, HH.out⟩
      · have hR : Rd (w'.setCell ⟨rb, 0, none⟩ (.slice (some ⟨g, o + n, none⟩) (r.length - n) (cap - n))) rb (r.drop n) er :=
          ⟨_, cap - n, by rw [List.length_drop]; exact two_setCell0 hp, .inr ⟨g, o + n, rfl, by simp; omega, by unfold maxLen; omega, h5, (fun j u hu => ((hAB _).cell h5).trans (htail j u hu)), h9.at (hAB _) h5⟩⟩
        have HH := Lib.hid (And.intro hR (hAA (.slice (some ⟨g, o + n, none⟩) (r.length - n) (cap - n))))
        clear hR hp hAA hAB htail h6
        go_wp2_with (go_at_call 65; refine hL.out.mono ?_; rintro e w'' ⟨rfl, rfl⟩)
        go_ret
        exact ⟨rfl, HH.out⟩

def endE (l : List UInt8) (er : Int) : Int := if er ≠ 0 then er else if l = [] then 0 else 15
theorem end_any (rb : Nat) (l : List UInt8) (er : Int) (w : World) (h : Rd w rb l er) :
    Calls Tryz.prog 13 #[.pointer (some ⟨rb, 0, none⟩)] w fun e w' => e = .returned (.int .i64 (endE l er)) ∧ w = w' := by
  obtain ⟨a, cap, hp, _⟩ := id h
  have hc := (two_cell0 hp).1
  by_cases he : er = 0
  · subst he
    by_cases hl : l = []
    · subst hl
      have hv : endE [] 0 = 0 := rfl
      rw [hv]
      simp only [List.length_nil] at hc
      go_enter Tryz.func13, Tryz.ntmps13
      go_wp2_with (go_at_call 35; refine (err_any rb [] 0 _ h).mono ?_; rintro e w' ⟨rfl, rfl⟩)
      go_ret
      exact ⟨rfl, rfl⟩
    · have hv : endE l 0 = 15 := by simp [endE, hl]
      rw [hv]
      have hpos : 0 < l.length := List.length_pos_iff.2 hl
      go_enter Tryz.func13, Tryz.ntmps13
      go_wp2_with (go_at_call 35; refine (err_any rb l 0 _ h).mono ?_; rintro e w' ⟨rfl, rfl⟩)
      go_ret
      exact ⟨rfl, rfl⟩
  · have hv : endE l er = er := by simp [endE, he]
    rw [hv]
    have hne : (er != 0) = true := by simpa using he
    go_enter Tryz.func13, Tryz.ntmps13
    go_wp2_with (go_at_call 35; refine (err_any rb l er _ h).mono ?_; rintro e w' ⟨rfl, rfl⟩)
    go_ret
    exact ⟨rfl, rfl⟩

end Go.Proofs.YtcodjknhnhdkfaaGreatDoor.Wn
