
/- the writer's contracts, over By and Rf -/
import Derived.Test.YtcodjknhnhdkfaaDoorRf
import Derived.WalkKit
import Derived.ProofKit
import Derived.OneCell
import Derived.WalkSpells
import Derived.Lib.Varint
import Derived.Lib.VarintMem
import Derived.Lib.Zigzag
import Derived.Lib.Hide
import Derived.Lib.BufferRead
import Derived.Laws.IdiomStrings
import Derived.Laws.AppendOwnNone
import Derived.Lib.AppendStr
import Derived.Deep.RegionHeld3
import Derived.Deep.RegionWith
namespace Go.Proofs.YtcodjknhnhdkfaaDoor.Wn
open Go.RowKit Go.Lib Go.Proofs.YtcodjknhnhdkfaaDoor.By Go.Proofs.YtcodjknhnhdkfaaDoor.Rf

theorem lo_byte (n : Nat) : bits .or .u8 ((n : Int) % 256) 128 = (n : Int) % 128 + 128 := by
  rw [u8_or128_any _ (by omega) (by omega)]; omega

/-- a writer at block pb, with the bytes bs in a row of its own -/
def Wr (B : Nat) (w : World) (pb : Nat) (bs : List UInt8) : Prop :=
  ∃ v, w.heap[pb]? = some (.cells #[v] 40 (0, 0)) ∧ w.ownsRow B 5 1 v bs.length (byteCells bs)

/-- below B, but for pb, nothing has turned -/
structure Fr (B pb : Nat) (w w' : World) : Prop where
  os : w'.os = w.os
  tape : w'.tape = w.tape
  output : w'.output = w.output
  size : w.heap.size ≤ w'.heap.size
  block : ∀ k, k < B → k ≠ pb → w'.heap[k]? = w.heap[k]?
  more : ∀ k, k < w.heap.size → k ≠ pb → (∀ cur, w.heap[k]? ≠ some (.cells cur 5 (0, 0))) → w'.heap[k]? = w.heap[k]?

theorem Fr.refl (B pb : Nat) (w : World) : Fr B pb w w := ⟨rfl, rfl, rfl, Nat.le_refl _, fun _ _ _ => rfl, fun _ _ _ _ => rfl⟩
theorem Fr.trans {B pb : Nat} {a b c : World} (h : Fr B pb a b) (k : Fr B pb b c) : Fr B pb a c :=
  ⟨k.os.trans h.os, k.tape.trans h.tape, k.output.trans h.output, Nat.le_trans h.size k.size, fun i hi hn => (k.block i hi hn).trans (h.block i hi hn),
    fun i hi hn hc => (k.more i (Nat.lt_of_lt_of_le hi h.size) hn (by rw [h.more i hi hn hc]; exact hc)).trans (h.more i hi hn hc)⟩
theorem Fr.below {B pb N : Nat} {a b : World} (h : Fr B pb a b) (hB : N ≤ B) (hp : N ≤ pb) : Below N a b :=
  ⟨h.os, h.tape, h.output, h.size, fun k hk => h.block k (by omega) (by omega)⟩

/-- what one append and the store behind it do -/
theorem wr_step {B pb : Nat} {w : World} {w0 : World} {v v' : Value} {w1 : World} {bs out : List UInt8} {m : Nat} {cs : List Value} (hpb : pb < B) (hB : B ≤ w.heap.size)
    (hp : w.heap[pb]? = some (.cells #[v] 40 (0, 0))) (hown : w.ownsRow B 5 1 v bs.length (byteCells bs))
    (hown' : w1.ownsRow B 5 1 v' m cs) (hm : m = out.length) (hcs : cs = byteCells out) (h0 : Below w.heap.size w w0) (hg : w0.grownBy w1 v.ownBlock) :
    Wr B (w1.setCell ⟨pb, 0, none⟩ v') pb out ∧ Fr B pb w (w1.setCell ⟨pb, 0, none⟩ v') ∧ w1.cell? ⟨pb, 0, none⟩ = some v ∧ w1.frozen? ⟨pb, 0, none⟩ = false := by
  subst hm hcs
  have hne : ∀ k, k < B → some k ≠ v.ownBlock := fun k hk e => by have := (hown.lt k e.symm).1; omega
  have hne' : ∀ k, k < B → some k ≠ v'.ownBlock := fun k hk e => by have := (hown'.lt k e.symm).1; omega
  have hold : ∀ k, k < B → w1.heap[k]? = w.heap[k]? := fun k hk => (hg.block k (by have := h0.size; omega) (hne k hk)).trans (h0.block k (by omega))
  have hp1 : w1.heap[pb]? = some (.cells #[v] 40 (0, 0)) := (hold pb hpb).trans hp
  refine ⟨⟨v', one_setCell hp1, ?_⟩, ⟨hg.os.trans h0.os, hg.tape.trans h0.tape, hg.output.trans h0.output, ?_, ?_, ?_⟩, cell_of_one hp1, free_of_one hp1⟩
  · exact ownsRow_setCell_other hown' (a := ⟨pb, 0, none⟩) (fun e => hne' pb hpb e.symm) v'
  · have := hg.size; have := h0.size; simp [World.setCell]; omega
  · intro k hk hn; rw [Below.heap_setCell _ _ _ _ hn]; exact hold k hk
  · intro k hk hn hc
    rw [Below.heap_setCell _ _ _ _ hn]
    have hkv : some k ≠ v.ownBlock := fun e => by
      rcases hown.2 with ⟨rfl, _⟩ | ⟨g, cap, cur, rfl, _, hgg, _⟩
      · simp [Value.ownBlock] at e
      · simp [Value.ownBlock] at e; subst e; exact hc _ hgg
    exact (hg.block k (by have := h0.size; omega) hkv).trans (h0.block k hk)

theorem uv_more {n x : Nat} {ds : List UInt8} (h : ds ++ uvarint n = uvarint x) (hn : 128 ≤ n) : (ds ++ [(n % 128 + 128).toUInt8]) ++ uvarint (n / 128) = uvarint x := by
  rw [← h, uvarint_big hn]; simp
theorem uv_last {n x : Nat} {ds : List UInt8} (h : ds ++ uvarint n = uvarint x) (hn : ¬ 128 ≤ n) : ds ++ [n.toUInt8] = uvarint x := by
  rw [← h, uvarint_small (by omega)]
theorem uv_len {n x : Nat} {ds : List UInt8} (h : ds ++ uvarint n = uvarint x) (hx : U64 x) : ds.length ≤ 10 := by
  have h1 := uvarint_length64 hx; rw [← h] at h1; simp at h1; omega

set_option maxRecDepth 20000 in
set_option maxHeartbeats 1000000 in
theorem num_any (B pb : Nat) (x : Nat) (bs : List UInt8) (w : World) (hx : U64 x) (hpb : pb < B) (hB : B ≤ w.heap.size) (hw : Wr B w pb bs) (hlen : bs.length ≤ 1000000000000) :
    Calls Tryd.prog 14 #[.pointer (some ⟨pb, 0, none⟩), .int .u64 x] w fun e w' => e = .returned (.tuple #[]) ∧ Wr B w' pb (bs ++ uvarint x) ∧ Fr B pb w w' := by
  obtain ⟨i0, hi, hz0, hz1, hz2⟩ := info_parts info5
  go_enter Tryd.func14, Tryd.ntmps14
  go_wp2
  go_loopw [1] (fun y wr => ∃ (n : Nat) (ds : List UInt8), U64 n ∧ y = .int .u64 n ∧ Wr B wr pb (bs ++ ds) ∧ ds ++ uvarint n = uvarint x ∧ Fr B pb w wr) (fun y _ => (intOf y).toNat)
  case atStart => exact ⟨x, [], hx, rfl, by simpa using hw, rfl, Fr.refl _ _ _⟩
  case round =>
    obtain ⟨n, ds, hn, rfl, ⟨v, hp, hown⟩, hds, hfr⟩ := hrel
    have hdl := uv_len hds hx
    have HD := Lib.hid hds
    clear hds
    have hcell := cell_of_one hp
    have hfree := free_of_one hp
    by_cases hbig : 128 ≤ n
    · go_wp2_with (at_builtin; refine wpList_append_own _ rfl _ _ 22 rfl B 5 i0 (.int .u8 0) 1 1 Tryd.underlying22 hi hz0 hz1 hz2 rfl (by decide) _ _ _ rfl (hown.alloc _) ⟨wr.heap.size, 0, none⟩ 1 1 [.int .u8 ((n % 128 + 128 : Nat) : Int)] rfl rfl ?c1 ?c2 ?c3 ?c4 ?c5 ?_)
      case c1 =>
        intro j u hj
        match j, hj with
        | 0, hj => simp at hj; subst hj; simp [Addr.add, lo_byte]
      case c2 => intro u hu; simp at hu; subst hu; rfl
      case c3 => simp [maxLen]; omega
      case c4 => simp; omega
      case c5 => have := hfr.size; simp; omega
      · intro v' w1 hown' hgrow _
        obtain ⟨ao, cp, rfl⟩ := own_shape hown'
        obtain ⟨hw2, hfr2, hc2, hf2⟩ := wr_step (out := bs ++ (ds ++ [(n % 128 + 128).toUInt8])) hpb (by have := hfr.size; omega) hp hown hown' (by simp; omega) (by rw [← List.append_assoc, byteCells_snoc _ (by omega)]; simp) ((Below.refl _ _).alloc (Nat.le_refl _) _) hgrow
        clear hown' hgrow hown hp hcell hfree hw
        go_wp2
        go_roundw
        case rel => exact ⟨n / 128, _, hn.div _, by go_num, hw2, uv_more HD.out hbig, hfr.trans hfr2⟩
        case measure => simp [intOf]; omega
    · go_wp2_with (at_builtin; refine wpList_append_own _ rfl _ _ 22 rfl B 5 i0 (.int .u8 0) 1 1 Tryd.underlying22 hi hz0 hz1 hz2 rfl (by decide) _ _ _ rfl (hown.alloc _) ⟨wr.heap.size, 0, none⟩ 1 1 [.int .u8 (n : Int)] rfl rfl ?d1 ?d2 ?d3 ?d4 ?d5 ?_)
      case d1 =>
        intro j u hj
        match j, hj with
        | 0, hj => simp at hj; subst hj; simp [Addr.add]
      case d2 => intro u hu; simp at hu; subst hu; rfl
      case d3 => simp [maxLen]; omega
      case d4 => simp; omega
      case d5 => have := hfr.size; simp; omega
      · intro v' w1 hown' hgrow _
        obtain ⟨ao, cp, rfl⟩ := own_shape hown'
        obtain ⟨hw2, hfr2, hc2, hf2⟩ := wr_step (out := bs ++ (ds ++ [n.toUInt8])) hpb (by have := hfr.size; omega) hp hown hown' (by simp; omega) (by rw [← List.append_assoc, byteCells_snoc _ (by omega)]) ((Below.refl _ _).alloc (Nat.le_refl _) _) hgrow
        clear hown' hgrow hown hp hcell hfree hw
        go_wp2
        go_end0
        exact ⟨rfl, by rw [← uv_last HD.out hbig]; exact hw2, hfr.trans hfr2⟩

set_option maxHeartbeats 1000000 in
theorem clone_any (a : Option Addr) (len cap : Nat) (l : List UInt8) (w : World) (hl : IsB w a len cap l) (hlen : l.length ≤ 1000000000000) :
    Calls Tryd.prog 10 #[.slice a len cap] w fun e w' => ∃ v', e = .returned v' ∧ w'.ownsRow w.heap.size 5 1 v' l.length (byteCells l) ∧ Below w.heap.size w w' := by
  obtain ⟨i0, hi, hz0, hz1, hz2⟩ := info_parts info5
  obtain ⟨rfl, ⟨rfl, h0, rfl⟩ | ⟨x, rfl, hlc, hcm, hcs⟩⟩ := hl
  · have hl0 : l = [] := List.length_eq_zero_iff.1 h0
    subst hl0
    simp only [List.length_nil]
    have hne := run_eql_slice_nil (P := Tryd.prog) (t := 22) (e := 5) (h := Tryd.underlying22)
    go_enter Tryd.func10, Tryd.ntmps10
    go_wp2
    go_ret
    exact ⟨_, rfl, World.ownsRow_nil _ _ _ _, Below.refl _ _⟩
  · have hne := run_eql_slice_nil (P := Tryd.prog) (t := 22) (e := 5) (h := Tryd.underlying22)
    go_enter Tryd.func10, Tryd.ntmps10
    go_wp2_with (at_builtin; refine wpList_append_own _ rfl _ _ 22 rfl w.heap.size 5 i0 (.int .u8 0) 1 1 Tryd.underlying22 hi hz0 hz1 hz2 rfl (by decide) _ 0 [] rfl ?c0 x l.length _ (byteCells l) rfl ?c1 ?c2 ?c3 ?c4 ?c5 ?c6 ?_)
    case c0 => exact World.ownsRow_made w #[] 0 (Nat.le_refl _) (Nat.zero_le _) rfl
    case c1 => simp [byteCells]
    case c2 => exact fun j u hu => ((((Below.refl w.heap.size w).alloc (Nat.le_refl _) _).cell (World.block_lt_of_cell? w _ (hcs j u hu))).trans (hcs j u hu))
    case c3 => exact bytes_one l
    case c4 => simp [maxLen]; omega
    case c5 => omega
    case c6 => simp
    · intro v' w1 hown' hgrow _
      go_wp2
      go_ret
      exact ⟨_, rfl, hown', ((Below.refl _ _).alloc (Nat.le_refl _) _).grown hgrow (by simp) (fun k hk => by simp [Value.ownBlock] at hk; omega)⟩

set_option maxHeartbeats 1000000 in
theorem bytes_any (B pb : Nat) (bs : List UInt8) (w : World) (hw : Wr B w pb bs) (hlen : bs.length ≤ 1000000000000) :
    Calls Tryd.prog 21 #[.pointer (some ⟨pb, 0, none⟩)] w fun e w' => ∃ v', e = .returned v' ∧ w'.ownsRow w.heap.size 5 1 v' bs.length (byteCells bs) ∧ Below w.heap.size w w' := by
  obtain ⟨v, hp, hown⟩ := hw
  obtain ⟨a, cap, rfl, hb⟩ := isB_own hown
  have hcell := cell_of_one hp
  clear hown hp
  go_enter Tryd.func21, Tryd.ntmps21
  go_wp2_with (go_at_call 10; refine (clone_any a bs.length cap bs _ hb hlen).mono ?_; rintro e w' ⟨v', rfl, hown', hbel⟩)
  go_ret
  exact ⟨_, rfl, hown', hbel⟩

/-! ### a new writer -/
theorem wr_nil {w : World} {B pb : Nat} (h : w.heap[pb]? = some (.cells #[.slice none 0 0] 40 (0, 0))) : Wr B w pb [] := ⟨_, h, World.ownsRow_nil _ _ _ _⟩
theorem wr_new (w : World) (B : Nat) : Wr B (w.alloc (.cells #[.slice none 0 0] 40)) w.heap.size [] :=
  ⟨_, heap_alloc_new w _, World.ownsRow_nil _ _ _ _⟩
/-- a writer stands while others write -/
theorem Wr.below {B N pb : Nat} {w w' : World} {bs : List UInt8} (h : Wr B w pb bs) (hb : Below N w w') (hp : pb < N) (hn : ∀ k, k < w.heap.size → k < N) : Wr B w' pb bs := by
  obtain ⟨v, hp1, hown⟩ := h
  refine ⟨v, (hb.block pb hp).trans hp1, hown.1, ?_⟩
  rcases hown.2 with h1 | ⟨g, cap, cur, h1, h2, h3, h4⟩
  · exact .inl h1
  · exact .inr ⟨g, cap, cur, h1, h2, (hb.block g (hn g (lt_of_block h3))).trans h3, h4⟩
theorem Wr.fr {B B' pb pb' : Nat} {w w' : World} {bs : List UInt8} (h : Wr B w pb bs) (hf : Fr B' pb' w w') (hp : pb ≠ pb') (hb : pb < B') (hpb : pb' < B) (hn : ∀ k, B ≤ k → k < w.heap.size → k < B') : Wr B w' pb bs := by
  obtain ⟨v, hp1, hown⟩ := h
  refine ⟨v, (hf.block pb hb hp).trans hp1, hown.1, ?_⟩
  rcases hown.2 with h1 | ⟨g, cap, cur, h1, h2, h3, h4⟩
  · exact .inl h1
  · exact .inr ⟨g, cap, cur, h1, h2, (hf.block g (hn g h2 (lt_of_block h3)) (by omega)).trans h3, h4⟩

theorem zig_val {x : Int} (hx : (Lit.int .i64 x).wf = true) : bits .xor .u64 (IntKind.u64.wrap (wrap64 (x * 2))) (IntKind.u64.wrap (x / 9223372036854775808)) = ((zigzag x : Nat) : Int) := by
  have hb : -9223372036854775808 ≤ x ∧ x ≤ 9223372036854775807 := by simpa [Lit.wf, IntKind.min, IntKind.max, IntKind.signed, IntKind.bits] using hx
  by_cases h : 0 ≤ x
  · have e1 : IntKind.u64.wrap (wrap64 (x * 2)) = ((2 * x).toNat : Nat) := by rw [IntKind.wrap_u64]; unfold wrap64; omega
    have e2 : IntKind.u64.wrap (x / 9223372036854775808) = ((0 : Nat) : Int) := by rw [IntKind.wrap_u64]; omega
    rw [e1, e2, bits_xor_u64_nat _ _ (by omega) (by decide)]
    unfold zigzag; rw [if_pos h]; simp
  · have e1 : IntKind.u64.wrap (wrap64 (x * 2)) = (((2 * x + 18446744073709551616).toNat : Nat) : Int) := by rw [IntKind.wrap_u64]; unfold wrap64; omega
    have e2 : IntKind.u64.wrap (x / 9223372036854775808) = ((2 ^ 64 - 1 : Nat) : Int) := by rw [IntKind.wrap_u64]; omega
    rw [e1, e2, bits_xor_u64_nat _ _ (by omega) (by decide), Nat.xor_comm, xor_ones64 _ (by omega)]
    unfold zigzag
    rw [if_neg (by omega)]
    omega
set_option maxHeartbeats 1000000 in
theorem int_any (B pb : Nat) (x : Int) (bs : List UInt8) (w : World) (hx : (Lit.int .i64 x).wf = true) (hpb : pb < B) (hB : B ≤ w.heap.size) (hw : Wr B w pb bs) (hlen : bs.length ≤ 1000000000000) :
    Calls Tryd.prog 12 #[.pointer (some ⟨pb, 0, none⟩), .int .i64 x] w fun e w' => e = .returned (.tuple #[]) ∧ Wr B w' pb (bs ++ uvarint (zigzag x)) ∧ Fr B pb w w' := by
  go_enter Tryd.func12, Tryd.ntmps12
  go_wp2_with (go_at_call 14; rw [zig_val hx]; refine (num_any B pb (zigzag x) bs _ (zig_u64 hx) hpb hB hw hlen).mono ?_; rintro e w' ⟨rfl, hw', hf'⟩)
  go_end0
  exact ⟨rfl, hw', hf'⟩

set_option maxHeartbeats 1000000 in
theorem wtext_any (B pb : Nat) (s : ByteArray) (bs : List UInt8) (w : World) (hpb : pb < B) (hB : B ≤ w.heap.size) (hw : Wr B w pb bs) (hs : s.size ≤ 1000000000) (hlen : bs.length ≤ 100000000000) :
    Calls Tryd.prog 35 #[.pointer (some ⟨pb, 0, none⟩), .string s] w fun e w' => e = .returned (.tuple #[]) ∧ Wr B w' pb (bs ++ textB s) ∧ Fr B pb w w' := by
  obtain ⟨i0, hi, hz0, hz1, hz2⟩ := info_parts info5
  have hu : U64 s.size := by unfold U64; omega
  have hul := uvarint_length64 hu
  have H := Lib.hid (num_any B pb s.size bs w hu hpb hB hw (by omega))
  clear hu hw
  go_enter Tryd.func35, Tryd.ntmps35
  go_wp2_with fail
  refine H.out.mono ?_
  rintro e w1 ⟨rfl, ⟨v, hp, hown⟩, hf1⟩
  have hs1 := hf1.size
  have hcell := cell_of_one hp
  have hfree := free_of_one hp
  go_wp2_with (at_builtin; refine wpList_append_own_string _ rfl _ _ 22 9 rfl B 5 i0 Tryd.underlying22 Tryd.underlying9 hi hz0 hz1 hz2 _ _ _ rfl hown s rfl ?c1 ?c2 ?c3 ?_)
  case c1 => simp [maxLen]; omega
  case c2 => simp; omega
  case c3 => omega
  · intro v' w2 hown' hgrow _
    obtain ⟨ao, cp, rfl⟩ := own_shape hown'
    obtain ⟨hw2, hfr2, hc2, hf2⟩ := wr_step (out := bs ++ textB s) hpb (by omega) hp hown hown' (by unfold textB; simp; omega) (by unfold textB; rw [← List.append_assoc, byteCells_append (bs ++ _)]; rfl) (Below.refl _ _) hgrow
    clear hown' hgrow hown hp hcell hfree H
    go_wp2
    go_end0
    exact ⟨rfl, hw2, hf1.trans hfr2⟩

end Go.Proofs.YtcodjknhnhdkfaaDoor.Wn
