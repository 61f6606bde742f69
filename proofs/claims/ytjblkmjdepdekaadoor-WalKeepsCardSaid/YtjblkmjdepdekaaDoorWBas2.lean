
/- texts that build one behind the other: DkM DkB Nm Rm CrM FmM FmR FmN CrMo Fm1 Fm2 Fm3 Fm4a Fm4 -/
import Derived.Test.YtjblkmjdepdekaaDoorWBas1
import Derived.Shelf.Abstract
import Derived.Shelf.RegionOpen
import Derived.WalkKit
import Derived.ProofKit
import Derived.OneCell
import Derived.WalkSpells
import Derived.Lib.Varint
import Derived.Lib.VarintMem
import Derived.Lib.Zigzag
import Derived.Lib.Hide
import Derived.Lib.BufferRead
import Derived.Laws.IdiomStrings
import Derived.Laws.AppendOwnNone
import Derived.Lib.AppendStr
import Derived.Deep.RegionHeld3
import Derived.Deep.RegionWith
import Derived.Lib.VarintBits
import Derived.Laws.BitsAllLaws
import Derived.LoopN
import Derived.Lib.SlBytesConst
import Derived.Lib.SmallJoins
import Derived.Deep.AppendLies
import Derived.Deep.RegionLaw
import Derived.Laws.Cover3
import Derived.ChangeKeysEq
import Derived.Deep.DeepCutAuto
/- disks: plain mathematics of sectors: what waits written over what was synced (of no program but Sc, Dk5, Dk7) -/
namespace Go.Proofs.YtjblkmjdepdekaaDoor.Dk
open Go.RowKit Go.Lib Go.Proofs.YtjblkmjdepdekaaDoor.By

/-- what waits, written over the sectors -/
def ov (F : List UInt8) (W : List Wr) : List UInt8 := W.foldl (fun F x => setS F x.1 x.2) F
def OkW (n : Nat) (W : List Wr) : Prop := ∀ x ∈ W, x.1 < n ∧ x.2.length = 64
theorem ov_snoc (F : List UInt8) (W : List Wr) (x : Wr) : ov F (W ++ [x]) = setS (ov F W) x.1 x.2 := by unfold ov; rw [List.foldl_append]; rfl
theorem ov_len {n : Nat} : ∀ (W : List Wr) (F : List UInt8), F.length = 64 * n → OkW n W → (ov F W).length = 64 * n
  | [], _, h, _ => h
  | x :: r, F, h, hw => ov_len r _ (length_setS h (hw x (by simp)).1 (hw x (by simp)).2) (fun y hy => hw y (by simp [hy]))
theorem ov_get {n : Nat} : ∀ (W : List Wr) (F : List UInt8), F.length = 64 * n → OkW n W → ∀ j, (∀ x ∈ W, x.1 ≠ j) → getS (ov F W) j = getS F j
  | [], _, _, _, _, _ => rfl
  | x :: r, F, h, hw, j, hj => by
    have hx := hw x (by simp)
    show getS (ov (setS F x.1 x.2) r) j = getS F j
    rw [ov_get r _ (length_setS h hx.1 hx.2) (fun y hy => hw y (by simp [hy])) j (fun y hy => hj y (by simp [hy])), getS_other h hx.1 hx.2 (fun e => hj x (by simp) e.symm)]
/-- a sector is one of those that were written, or as it was -/
theorem ov_one {n : Nat} : ∀ (W : List Wr) (F : List UInt8), F.length = 64 * n → OkW n W → ∀ j, getS (ov F W) j = getS F j ∨ ∃ x ∈ W, x.1 = j ∧ getS (ov F W) j = x.2
  | [], _, _, _, _ => .inl rfl
  | x :: r, F, h, hw, j => by
    have hx := hw x (by simp)
    rcases ov_one r (setS F x.1 x.2) (length_setS h hx.1 hx.2) (fun y hy => hw y (by simp [hy])) j with h1 | ⟨y, hy, h2, h3⟩
    · by_cases e : j = x.1
      · subst e; exact .inr ⟨x, by simp, rfl, h1.trans (getS_same h hx.1 hx.2)⟩
      · exact .inl (h1.trans (getS_other h hx.1 hx.2 e))
    · exact .inr ⟨y, by simp [hy], h2, h3⟩
theorem sync_len {n : Nat} {G : List UInt8} (hG : G.length = 64 * n) : ∀ (W : List Wr) (F : List UInt8), F.length = 64 * n → OkW n W → (syncF G F W).length = 64 * n
  | [], _, h, _ => h
  | x :: r, F, h, hw => sync_len hG r _ (length_setS h (hw x (by simp)).1 (length_getS hG (hw x (by simp)).1)) (fun y hy => hw y (by simp [hy]))
theorem sync_get {n : Nat} {G : List UInt8} (hG : G.length = 64 * n) : ∀ (W : List Wr) (F : List UInt8), F.length = 64 * n → OkW n W → ∀ j, ((∃ x ∈ W, x.1 = j) → getS (syncF G F W) j = getS G j) ∧ ((∀ x ∈ W, x.1 ≠ j) → getS (syncF G F W) j = getS F j)
  | [], _, _, _, _ => ⟨fun ⟨_, h, _⟩ => by simp at h, fun _ => rfl⟩
  | x :: r, F, h, hw, j => by
    have hx := hw x (by simp)
    have hl := length_getS hG hx.1
    have ih := sync_get hG r (setS F x.1 (getS G x.1)) (length_setS h hx.1 hl) (fun y hy => hw y (by simp [hy])) j
    show ((∃ y ∈ x :: r, y.1 = j) → getS (syncF G (setS F x.1 (getS G x.1)) r) j = getS G j) ∧ ((∀ y ∈ x :: r, y.1 ≠ j) → getS (syncF G (setS F x.1 (getS G x.1)) r) j = getS F j)
    by_cases hr : ∃ y ∈ r, y.1 = j
    · exact ⟨fun _ => ih.1 hr, fun hn => by obtain ⟨y, hy, e⟩ := hr; exact absurd e (hn y (by simp [hy]))⟩
    · have hr' : ∀ y ∈ r, y.1 ≠ j := fun y hy e => hr ⟨y, hy, e⟩
      rw [ih.2 hr']
      refine ⟨fun ⟨y, hy, e⟩ => ?_, fun hn => getS_other h hx.1 hl (fun e => hn x (by simp) e.symm)⟩
      rcases List.mem_cons.1 hy with rfl | hy
      · subst e; exact getS_same h hx.1 hl
      · exact absurd e (hr' y hy)
theorem ext_getS {n : Nat} {F G : List UInt8} (hF : F.length = 64 * n) (hG : G.length = 64 * n) (h : ∀ j, j < n → getS F j = getS G j) : F = G := by
  apply List.ext_getElem?
  intro i
  by_cases hi : i < 64 * n
  · have h1 := congrArg (fun l : List UInt8 => l[i % 64]?) (h (i / 64) (by omega))
    have hm : i % 64 < 64 := Nat.mod_lt _ (by omega)
    simp only [getS, List.getElem?_take_of_lt hm, List.getElem?_drop] at h1
    rwa [show 64 * (i / 64) + i % 64 = i by omega] at h1
  · rw [List.getElem?_eq_none (by omega), List.getElem?_eq_none (by omega)]
theorem sync_ov {n : Nat} {F : List UInt8} {W : List Wr} (hF : F.length = 64 * n) (hw : OkW n W) : syncF (ov F W) F W = ov F W :=
  ext_getS (sync_len (ov_len W F hF hw) W F hF hw) (ov_len W F hF hw) fun j _ => by
    have h := sync_get (ov_len W F hF hw) W F hF hw j
    by_cases hr : ∃ x ∈ W, x.1 = j
    · exact h.1 hr
    · have hr' : ∀ y ∈ W, y.1 ≠ j := fun y hy e => hr ⟨y, hy, e⟩
      rw [h.2 hr', ov_get W F hF hw j hr']
theorem sync_back {n : Nat} {F : List UInt8} {W : List Wr} (hF : F.length = 64 * n) (hw : OkW n W) : syncF F (ov F W) W = F :=
  ext_getS (sync_len hF W _ (ov_len W F hF hw) hw) hF fun j _ => by
    have h := sync_get hF W (ov F W) (ov_len W F hF hw) hw j
    by_cases hr : ∃ x ∈ W, x.1 = j
    · exact h.1 hr
    · have hr' : ∀ y ∈ W, y.1 ≠ j := fun y hy e => hr ⟨y, hy, e⟩
      rw [h.2 hr', ov_get W F hF hw j hr']
theorem cF_none (W : List Wr) (F : List UInt8) : ∀ m, cF (fun _ => false) W F m = F
  | 0 => rfl
  | m + 1 => by rw [cF_succ, cF_none W F m]; rfl
theorem cF_all (W : List Wr) (F : List UInt8) : ∀ m, m ≤ W.length → cF (fun _ => true) W F m = ov F (W.take m)
  | 0, _ => by simp [cF, ov]
  | m + 1, h => by
    rw [cF_succ, cF_all W F m (by omega), List.take_succ_eq_append_getElem (by omega), ov_snoc]
    simp [List.getD, show m < W.length by omega]
/-- of those that wait some, in their order -/
theorem cF_some (k : Nat → Bool) (W : List Wr) (F : List UInt8) : ∀ m, m ≤ W.length → ∃ V : List Wr, (∀ x ∈ V, x ∈ W) ∧ cF k W F m = ov F V
  | 0, _ => ⟨[], by simp, rfl⟩
  | m + 1, h => by
    obtain ⟨V, h1, h2⟩ := cF_some k W F m (by omega)
    rw [cF_succ, h2]
    by_cases hk : k m = true
    · rw [if_pos hk]
      refine ⟨V ++ [W[m]], fun x hx => ?_, ?_⟩
      · rcases List.mem_append.1 hx with hx | hx
        · exact h1 x hx
        · obtain rfl := List.mem_singleton.1 hx; exact List.getElem_mem _
      · rw [ov_snoc]; simp [List.getD, show m < W.length by omega]
    · rw [if_neg hk]
      exact ⟨V, h1, rfl⟩
end Go.Proofs.YtjblkmjdepdekaaDoor.Dk

/- disks: whatever is written; acts that came in -/
namespace Go.Proofs.YtjblkmjdepdekaaDoor.Dk
open Go.RowKit Go.Lib Go.Proofs.YtjblkmjdepdekaaDoor.By Go.Proofs.YtjblkmjdepdekaaDoor.Ht
section
variable {w : World} {B bd gs cs gn cn n : Nat} {vw : Value} {F G : List UInt8} {W : List Wr} {dn : Bool}
theorem write_any (h : IsDk w B bd gs cs gn cn vw n F (ov F W) W false) (i : Int) (hi : i ≤ 9223372036854775807) (a : Option Addr) (len cap : Nat) (l : List UInt8) (hl : len ≤ 64) (hb : IsB w a len cap l) (hWl : W.length ≤ 1000000) :
    Calls Tryd.prog 24 #[.pointer (some ⟨bd, 0, none⟩), .int .i64 i, .slice a len cap] w fun e w' => ∃ (e0 : Int) (vw' : Value) (W' : List Wr), e = .returned (.int .i64 e0) ∧ IsDk w' B bd gs cs gn cn vw' n F (ov F W') W' false ∧
      ((e0 = 3 ∧ W' = W) ∨ ∃ k : Nat, i = k ∧ k < n ∧ e0 = 0 ∧ W' = W ++ [(k, full l)]) ∧ (vw'.ownBlock = vw.ownBlock ∨ ∃ g, vw'.ownBlock = some g ∧ w.heap.size ≤ g) ∧ Fr (Foot bd gs gn vw) w w' := by
  by_cases h1 : 0 ≤ i ∧ i < n
  · obtain ⟨k, rfl⟩ : ∃ k : Nat, i = k := ⟨i.toNat, by omega⟩
    refine (write_ok h k (by omega) a len cap l hl hb hWl).mono ?_
    rintro e w' ⟨rfl, ⟨vw', hd, hv⟩, hf⟩
    exact ⟨0, vw', _, rfl, by rw [ov_snoc]; exact hd, .inr ⟨k, rfl, by omega, rfl, rfl⟩, hv, hf⟩
  · refine (write_range h i hi (by unfold hasB; simp; omega) _).mono ?_
    rintro e w' ⟨rfl, rfl⟩
    exact ⟨3, vw, W, rfl, h, .inl ⟨rfl, rfl⟩, .inl rfl, Fr.refl _ _⟩
theorem IsDk.okW (h : IsDk w B bd gs cs gn cn vw n F G W dn) : OkW n W := h.hw
theorem IsDk.foot_lt (h : IsDk w B bd gs cs gn cn vw n F G W dn) : ∀ k, Foot bd gs gn vw k → k < w.heap.size := by
  rintro k (rfl | rfl | rfl | hk)
  · exact lt_of_block h.blk
  · exact (h.os.lt k rfl).2
  · exact (h.on.lt k rfl).2
  · exact (h.ow.lt k hk.symm).2
/-- a row of another kind is no disk's -/
theorem IsDk.not_foot (h : IsDk w B bd gs cs gn cn vw n F G W dn) {q : Nat} {C : Array Value} {t : TypeId} {fr : Nat × Nat} (hq : w.heap[q]? = some (.cells C t fr)) (h1 : 63 ≠ t) (h2 : 79 ≠ t) (h3 : 81 ≠ t) : ¬ Foot bd gs gn vw q := by
  rintro (rfl | rfl | rfl | hk)
  · have := h.blk; rw [hq] at this; simp at this; exact h1 this.2.1.symm
  · exact own_not h.os hq h2 q rfl rfl
  · exact own_not h.on hq h2 q rfl rfl
  · exact own_not h.ow hq h3 q hk.symm rfl
/-- a row of bytes stays -/
theorem IsDk.bytes {w' : World} {B2 m : Nat} {v : Value} {xs : List Value} (h : IsDk w B bd gs cs gn cn vw n F G W dn) (hf : Fr (Foot bd gs gn vw) w w') (ho : w.ownsRow B2 5 1 v m xs) : w'.ownsRow B2 5 1 v m xs :=
  own_other ho fun g hg => by
    obtain ⟨cur, hc⟩ := own_type ho hg
    exact hf.block g (ho.lt g hg).2 (h.not_foot hc (by decide) (by decide) (by decide))
end
/-- an act that came in: its numbers, where its bytes lie, these -/
structure Act4 where
  k : Int
  at' : Int
  n : Int
  a : Option Addr
  cap : Nat
  l : List UInt8
  keep : Nat
def ActAt (w : World) (b o i : Nat) (x : Act4) : Prop :=
  (w.cell? ⟨b, o + i * 5, none⟩ = some (.int .i64 x.k) ∧ w.cell? ⟨b, o + i * 5 + 1, none⟩ = some (.int .i64 x.at') ∧ w.cell? ⟨b, o + i * 5 + 2, none⟩ = some (.int .i64 x.n) ∧
    w.cell? ⟨b, o + i * 5 + 3, none⟩ = some (.slice x.a x.l.length x.cap) ∧ w.cell? ⟨b, o + i * 5 + 4, none⟩ = some (.int .u64 (x.keep : Nat))) ∧ IsB w x.a x.l.length x.cap x.l ∧ x.at' ≤ 9223372036854775807
def IsActs (w : World) (a : Option Addr) (L : List Act4) : Prop := L = [] ∨ ∃ b o, a = some ⟨b, o, none⟩ ∧ ∀ i (h : i < L.length), ActAt w b o i L[i]
theorem ActAt.old {w w' : World} {b o i : Nat} {x : Act4} (h : ActAt w b o i x) (hb : Below w.heap.size w w') : ActAt w' b o i x := by
  obtain ⟨⟨h1, h2, h3, h4, h5⟩, h6, h7⟩ := h
  have hlt := World.block_lt_of_cell? w _ h1
  have hc : ∀ o', w'.cell? ⟨b, o', none⟩ = w.cell? ⟨b, o', none⟩ := fun o' => hb.cell (p := ⟨b, o', none⟩) hlt
  exact ⟨⟨(hc _).trans h1, (hc _).trans h2, (hc _).trans h3, (hc _).trans h4, (hc _).trans h5⟩, h6.old hb, h7⟩
theorem IsActs.old {w w' : World} {a : Option Addr} {L : List Act4} (h : IsActs w a L) (hb : Below w.heap.size w w') : IsActs w' a L := by
  rcases h with h | ⟨b, o, e, h⟩
  · exact .inl h
  · exact .inr ⟨b, o, e, fun i hi => (h i hi).old hb⟩
end Go.Proofs.YtjblkmjdepdekaaDoor.Dk

/- the writer's contracts, over By -/
namespace Go.Proofs.YtjblkmjdepdekaaDoor.Oc
open Go.RowKit Go.Lib Go.Proofs.YtjblkmjdepdekaaDoor.By

theorem lo_byte (n : Nat) : bits .or .u8 ((n : Int) % 256) 128 = (n : Int) % 128 + 128 := by
  rw [u8_or128_any _ (by omega) (by omega)]; omega

/-- a number of 64 bits -/
def U64 (n : Nat) : Prop := n < 18446744073709551616
theorem U64.div {n : Nat} (h : U64 n) (k : Nat) : U64 (n / k) := by unfold U64 at *; exact Nat.lt_of_le_of_lt (Nat.div_le_self _ _) h

/-- a writer at block pb, with the bytes bs in a row of its own -/
def Wr (B : Nat) (w : World) (pb : Nat) (bs : List UInt8) : Prop :=
  ∃ v, w.heap[pb]? = some (.cells #[v] 93 (0, 0)) ∧ w.ownsRow B 5 1 v bs.length (byteCells bs)

/-- below B, but for pb, nothing has turned -/
structure Fr (B pb : Nat) (w w' : World) : Prop where
  os : w'.os = w.os
  tape : w'.tape = w.tape
  output : w'.output = w.output
  size : w.heap.size ≤ w'.heap.size
  block : ∀ k, k < B → k ≠ pb → w'.heap[k]? = w.heap[k]?
  more : ∀ k, k < w.heap.size → k ≠ pb → (∀ cur, w.heap[k]? ≠ some (.cells cur 5 (0, 0))) → w'.heap[k]? = w.heap[k]?

theorem Fr.refl (B pb : Nat) (w : World) : Fr B pb w w := ⟨rfl, rfl, rfl, Nat.le_refl _, fun _ _ _ => rfl, fun _ _ _ _ => rfl⟩
theorem Fr.trans {B pb : Nat} {a b c : World} (h : Fr B pb a b) (k : Fr B pb b c) : Fr B pb a c :=
  ⟨k.os.trans h.os, k.tape.trans h.tape, k.output.trans h.output, Nat.le_trans h.size k.size, fun i hi hn => (k.block i hi hn).trans (h.block i hi hn),
    fun i hi hn hc => (k.more i (Nat.lt_of_lt_of_le hi h.size) hn (by rw [h.more i hi hn hc]; exact hc)).trans (h.more i hi hn hc)⟩
theorem Fr.below {B pb N : Nat} {a b : World} (h : Fr B pb a b) (hB : N ≤ B) (hp : N ≤ pb) : Below N a b :=
  ⟨h.os, h.tape, h.output, h.size, fun k hk => h.block k (by omega) (by omega)⟩

/-- what one append and the store behind it do -/
theorem wr_step {B pb : Nat} {w : World} {w0 : World} {v v' : Value} {w1 : World} {bs out : List UInt8} {m : Nat} {cs : List Value} (hpb : pb < B) (hB : B ≤ w.heap.size)
    (hp : w.heap[pb]? = some (.cells #[v] 93 (0, 0))) (hown : w.ownsRow B 5 1 v bs.length (byteCells bs))
    (hown' : w1.ownsRow B 5 1 v' m cs) (hm : m = out.length) (hcs : cs = byteCells out) (h0 : Below w.heap.size w w0) (hg : w0.grownBy w1 v.ownBlock) :
    Wr B (w1.setCell ⟨pb, 0, none⟩ v') pb out ∧ Fr B pb w (w1.setCell ⟨pb, 0, none⟩ v') ∧ w1.cell? ⟨pb, 0, none⟩ = some v ∧ w1.frozen? ⟨pb, 0, none⟩ = false := by
  subst hm hcs
  have hne : ∀ k, k < B → some k ≠ v.ownBlock := fun k hk e => by have := (hown.lt k e.symm).1; omega
  have hne' : ∀ k, k < B → some k ≠ v'.ownBlock := fun k hk e => by have := (hown'.lt k e.symm).1; omega
  have hold : ∀ k, k < B → w1.heap[k]? = w.heap[k]? := fun k hk => (hg.block k (by have := h0.size; omega) (hne k hk)).trans (h0.block k (by omega))
  have hp1 : w1.heap[pb]? = some (.cells #[v] 93 (0, 0)) := (hold pb hpb).trans hp
  refine ⟨⟨v', one_setCell hp1, ?_⟩, ⟨hg.os.trans h0.os, hg.tape.trans h0.tape, hg.output.trans h0.output, ?_, ?_, ?_⟩, cell_of_one hp1, free_of_one hp1⟩
  · exact ownsRow_setCell_other hown' (a := ⟨pb, 0, none⟩) (fun e => hne' pb hpb e.symm) v'
  · have := hg.size; have := h0.size; simp [World.setCell]; omega
  · intro k hk hn; rw [Below.heap_setCell _ _ _ _ hn]; exact hold k hk
  · intro k hk hn hc
    rw [Below.heap_setCell _ _ _ _ hn]
    have hkv : some k ≠ v.ownBlock := fun e => by
      rcases hown.2 with ⟨rfl, _⟩ | ⟨g, cap, cur, rfl, _, hgg, _⟩
      · simp [Value.ownBlock] at e
      · simp [Value.ownBlock] at e; subst e; exact hc _ hgg
    exact (hg.block k (by have := h0.size; omega) hkv).trans (h0.block k hk)

theorem uv_more {n x : Nat} {ds : List UInt8} (h : ds ++ uvarint n = uvarint x) (hn : 128 ≤ n) : (ds ++ [(n % 128 + 128).toUInt8]) ++ uvarint (n / 128) = uvarint x := by
  rw [← h, uvarint_big hn]; simp
theorem uv_last {n x : Nat} {ds : List UInt8} (h : ds ++ uvarint n = uvarint x) (hn : ¬ 128 ≤ n) : ds ++ [n.toUInt8] = uvarint x := by
  rw [← h, uvarint_small (by omega)]
theorem uv_len {n x : Nat} {ds : List UInt8} (h : ds ++ uvarint n = uvarint x) (hx : U64 x) : ds.length ≤ 10 := by
  have h1 := uvarint_length64 hx; rw [← h] at h1; simp at h1; omega

set_option maxRecDepth 20000 in
set_option maxHeartbeats 1000000 in
theorem num_any (B pb : Nat) (x : Nat) (bs : List UInt8) (w : World) (hx : U64 x) (hpb : pb < B) (hB : B ≤ w.heap.size) (hw : Wr B w pb bs) (hlen : bs.length ≤ 1000000000000) :
    Calls Tryd.prog 48 #[.pointer (some ⟨pb, 0, none⟩), .int .u64 x] w fun e w' => e = .returned (.tuple #[]) ∧ Wr B w' pb (bs ++ uvarint x) ∧ Fr B pb w w' := by
  obtain ⟨i0, hi, hz0, hz1, hz2⟩ := info_parts info5
  go_enter Tryd.func48, Tryd.ntmps48
  go_wp2
  go_loopw [1] (fun y wr => ∃ (n : Nat) (ds : List UInt8), U64 n ∧ y = .int .u64 n ∧ Wr B wr pb (bs ++ ds) ∧ ds ++ uvarint n = uvarint x ∧ Fr B pb w wr) (fun y _ => (intOf y).toNat)
  case atStart => exact ⟨x, [], hx, rfl, by simpa using hw, rfl, Fr.refl _ _ _⟩
  case round =>
    obtain ⟨n, ds, hn, rfl, ⟨v, hp, hown⟩, hds, hfr⟩ := hrel
    have hdl := uv_len hds hx
    have HD := Lib.hid hds
    clear hds
    have hcell := cell_of_one hp
    have hfree := free_of_one hp
    by_cases hbig : 128 ≤ n
    · go_wp2_with (at_builtin; refine wpList_append_own _ rfl _ _ 32 rfl B 5 i0 (.int .u8 0) 1 1 Tryd.underlying32 hi hz0 hz1 hz2 rfl (by decide) _ _ _ rfl (hown.alloc _) ⟨wr.heap.size, 0, none⟩ 1 1 [.int .u8 ((n % 128 + 128 : Nat) : Int)] rfl rfl ?c1 ?c2 ?c3 ?c4 ?c5 ?_)
      case c1 =>
        intro j u hj
        match j, hj with
        | 0, hj => simp at hj; subst hj; simp [Addr.add, lo_byte]
      case c2 => intro u hu; simp at hu; subst hu; rfl
      case c3 => simp [maxLen]; omega
      case c4 => simp; omega
      case c5 => have := hfr.size; simp; omega
      · intro v' w1 hown' hgrow _
        obtain ⟨ao, cp, rfl⟩ := own_shape hown'
        obtain ⟨hw2, hfr2, hc2, hf2⟩ := wr_step (out := bs ++ (ds ++ [(n % 128 + 128).toUInt8])) hpb (by have := hfr.size; omega) hp hown hown' (by simp; omega) (by rw [← List.append_assoc, byteCells_snoc _ (by omega)]; simp) ((Below.refl _ _).alloc (Nat.le_refl _) _) hgrow
        clear hown' hgrow hown hp hcell hfree hw
        go_wp2
        go_roundw
        case rel => exact ⟨n / 128, _, hn.div _, by go_num, hw2, uv_more HD.out hbig, hfr.trans hfr2⟩
        case measure => simp [intOf]; omega
    · go_wp2_with (at_builtin; refine wpList_append_own _ rfl _ _ 32 rfl B 5 i0 (.int .u8 0) 1 1 Tryd.underlying32 hi hz0 hz1 hz2 rfl (by decide) _ _ _ rfl (hown.alloc _) ⟨wr.heap.size, 0, none⟩ 1 1 [.int .u8 (n : Int)] rfl rfl ?d1 ?d2 ?d3 ?d4 ?d5 ?_)
      case d1 =>
        intro j u hj
        match j, hj with
        | 0, hj => simp at hj; subst hj; simp [Addr.add]
      case d2 => intro u hu; simp at hu; subst hu; rfl
      case d3 => simp [maxLen]; omega
      case d4 => simp; omega
      case d5 => have := hfr.size; simp; omega
      · intro v' w1 hown' hgrow _
        obtain ⟨ao, cp, rfl⟩ := own_shape hown'
        obtain ⟨hw2, hfr2, hc2, hf2⟩ := wr_step (out := bs ++ (ds ++ [n.toUInt8])) hpb (by have := hfr.size; omega) hp hown hown' (by simp; omega) (by rw [← List.append_assoc, byteCells_snoc _ (by omega)]) ((Below.refl _ _).alloc (Nat.le_refl _) _) hgrow
        clear hown' hgrow hown hp hcell hfree hw
        go_wp2
        go_end0
        exact ⟨rfl, by rw [← uv_last HD.out hbig]; exact hw2, hfr.trans hfr2⟩

set_option maxHeartbeats 1000000 in
theorem raw_any (B pb : Nat) (a : Option Addr) (len cap : Nat) (l bs : List UInt8) (w : World) (hpb : pb < B) (hB : B ≤ w.heap.size) (hw : Wr B w pb bs) (hl : IsB w a len cap l) (hlen : bs.length + l.length ≤ 1000000000000) :
    Calls Tryd.prog 47 #[.pointer (some ⟨pb, 0, none⟩), .slice a len cap] w fun e w' => e = .returned (.tuple #[]) ∧ Wr B w' pb (bs ++ l) ∧ Fr B pb w w' := by
  obtain ⟨i0, hi, hz0, hz1, hz2⟩ := info_parts info5
  obtain ⟨v, hp, hown⟩ := hw
  have hcell := cell_of_one hp
  have hfree := free_of_one hp
  obtain ⟨rfl, ⟨rfl, h0, rfl⟩ | ⟨x, rfl, hlc, hcm, hcs⟩⟩ := hl
  · obtain ⟨ao, cp, rfl⟩ := own_shape hown
    have hl0 : l = [] := List.length_eq_zero_iff.1 h0
    subst hl0
    have hsame : Wr B (w.setCell ⟨pb, 0, none⟩ (.slice ao bs.length cp)) pb bs ∧ Fr B pb w (w.setCell ⟨pb, 0, none⟩ (.slice ao bs.length cp)) := by
      have h := wr_step (out := bs) hpb hB hp hown hown rfl rfl (Below.refl _ _) ⟨rfl, rfl, rfl, Nat.le_refl _, fun _ _ _ => rfl⟩
      exact ⟨h.1, h.2.1⟩
    simp only [List.length_nil]
    go_enter Tryd.func47, Tryd.ntmps47
    go_wp2_with (at_builtin; refine wpList_append_own_none rfl _ _ 32 rfl B 5 i0 1 Tryd.underlying32 hi _ _ _ rfl hown rfl ?_)
    go_end0
    exact ⟨rfl, by simpa using hsame.1, hsame.2⟩
  · go_enter Tryd.func47, Tryd.ntmps47
    go_wp2_with (at_builtin; refine wpList_append_own _ rfl _ _ 32 rfl B 5 i0 (.int .u8 0) 1 1 Tryd.underlying32 hi hz0 hz1 hz2 rfl (by decide) _ _ _ rfl hown x l.length _ (byteCells l) rfl ?c1 ?c2 ?c3 ?c4 ?c5 hB ?_)
    case c1 => simp [byteCells]
    case c2 => exact hcs
    case c3 => exact bytes_one l
    case c4 => simp [maxLen]; omega
    case c5 => omega
    · intro v' w1 hown' hgrow _
      obtain ⟨ao, cp, rfl⟩ := own_shape hown'
      obtain ⟨hw2, hfr2, hc2, hf2⟩ := wr_step (out := bs ++ l) hpb hB hp hown hown' (by simp) (by rw [byteCells_append]) (Below.refl _ _) hgrow
      clear hown' hgrow hown hp hcell hfree hcs
      go_wp2
      go_end0
      exact ⟨rfl, hw2, hfr2⟩

set_option maxHeartbeats 1000000 in
theorem clone_any (a : Option Addr) (len cap : Nat) (l : List UInt8) (w : World) (hl : IsB w a len cap l) (hlen : l.length ≤ 1000000000000) :
    Calls Tryd.prog 58 #[.slice a len cap] w fun e w' => ∃ v', e = .returned v' ∧ w'.ownsRow w.heap.size 5 1 v' l.length (byteCells l) ∧ Below w.heap.size w w' := by
  obtain ⟨i0, hi, hz0, hz1, hz2⟩ := info_parts info5
  obtain ⟨rfl, ⟨rfl, h0, rfl⟩ | ⟨x, rfl, hlc, hcm, hcs⟩⟩ := hl
  · have hl0 : l = [] := List.length_eq_zero_iff.1 h0
    subst hl0
    simp only [List.length_nil]
    have hne := run_eql_slice_nil (P := Tryd.prog) (t := 32) (e := 5) (h := Tryd.underlying32)
    go_enter Tryd.func58, Tryd.ntmps58
    go_wp2
    go_ret
    exact ⟨_, rfl, World.ownsRow_nil _ _ _ _, Below.refl _ _⟩
  · have hne := run_eql_slice_nil (P := Tryd.prog) (t := 32) (e := 5) (h := Tryd.underlying32)
    go_enter Tryd.func58, Tryd.ntmps58
    go_wp2_with (at_builtin; refine wpList_append_own _ rfl _ _ 32 rfl w.heap.size 5 i0 (.int .u8 0) 1 1 Tryd.underlying32 hi hz0 hz1 hz2 rfl (by decide) _ 0 [] rfl ?c0 x l.length _ (byteCells l) rfl ?c1 ?c2 ?c3 ?c4 ?c5 ?c6 ?_)
    case c0 => exact World.ownsRow_made w #[] 0 (Nat.le_refl _) (Nat.zero_le _) rfl
    case c1 => simp [byteCells]
    case c2 => exact fun j u hu => ((((Below.refl w.heap.size w).alloc (Nat.le_refl _) _).cell (World.block_lt_of_cell? w _ (hcs j u hu))).trans (hcs j u hu))
    case c3 => exact bytes_one l
    case c4 => simp [maxLen]; omega
    case c5 => omega
    case c6 => simp
    · intro v' w1 hown' hgrow _
      go_wp2
      go_ret
      exact ⟨_, rfl, hown', ((Below.refl _ _).alloc (Nat.le_refl _) _).grown hgrow (by simp) (fun k hk => by simp [Value.ownBlock] at hk; omega)⟩

set_option maxHeartbeats 1000000 in
theorem bytes_any (B pb : Nat) (bs : List UInt8) (w : World) (hw : Wr B w pb bs) (hlen : bs.length ≤ 1000000000000) :
    Calls Tryd.prog 49 #[.pointer (some ⟨pb, 0, none⟩)] w fun e w' => ∃ v', e = .returned v' ∧ w'.ownsRow w.heap.size 5 1 v' bs.length (byteCells bs) ∧ Below w.heap.size w w' := by
  obtain ⟨v, hp, hown⟩ := hw
  obtain ⟨a, cap, rfl, hb⟩ := isB_own hown
  have hcell := cell_of_one hp
  clear hown hp
  go_enter Tryd.func49, Tryd.ntmps49
  go_wp2_with (go_at_call 58; refine (clone_any a bs.length cap bs _ hb hlen).mono ?_; rintro e w' ⟨v', rfl, hown', hbel⟩)
  go_ret
  exact ⟨_, rfl, hown', hbel⟩

/-! ### a new writer -/
theorem wr_nil {w : World} {B pb : Nat} (h : w.heap[pb]? = some (.cells #[.slice none 0 0] 93 (0, 0))) : Wr B w pb [] := ⟨_, h, World.ownsRow_nil _ _ _ _⟩
theorem wr_new (w : World) (B : Nat) : Wr B (w.alloc (.cells #[.slice none 0 0] 93)) w.heap.size [] :=
  ⟨_, heap_alloc_new w _, World.ownsRow_nil _ _ _ _⟩
/-- a writer stands while others write -/
theorem Wr.below {B N pb : Nat} {w w' : World} {bs : List UInt8} (h : Wr B w pb bs) (hb : Below N w w') (hp : pb < N) (hn : ∀ k, k < w.heap.size → k < N) : Wr B w' pb bs := by
  obtain ⟨v, hp1, hown⟩ := h
  refine ⟨v, (hb.block pb hp).trans hp1, hown.1, ?_⟩
  rcases hown.2 with h1 | ⟨g, cap, cur, h1, h2, h3, h4⟩
  · exact .inl h1
  · exact .inr ⟨g, cap, cur, h1, h2, (hb.block g (hn g (lt_of_block h3))).trans h3, h4⟩
theorem Wr.fr {B B' pb pb' : Nat} {w w' : World} {bs : List UInt8} (h : Wr B w pb bs) (hf : Fr B' pb' w w') (hp : pb ≠ pb') (hb : pb < B') (hpb : pb' < B) (hn : ∀ k, B ≤ k → k < w.heap.size → k < B') : Wr B w' pb bs := by
  obtain ⟨v, hp1, hown⟩ := h
  refine ⟨v, (hf.block pb hb hp).trans hp1, hown.1, ?_⟩
  rcases hown.2 with h1 | ⟨g, cap, cur, h1, h2, h3, h4⟩
  · exact .inl h1
  · exact .inr ⟨g, cap, cur, h1, h2, (hf.block g (hn g h2 (lt_of_block h3)) (by omega)).trans h3, h4⟩

/-- 'string(b)' -/
theorem str_of {w : World} {a : Option Addr} {len cap : Nat} {l : List UInt8} (h : IsB w a len cap l) : (convert 32 9 (.slice a len cap)).run Tryd.prog w = .ok (.string ⟨l.toArray⟩) w := by
  obtain ⟨rfl, ⟨rfl, h0, rfl⟩ | ⟨x, rfl, _, _, hcs⟩⟩ := h
  · obtain rfl : l = [] := List.length_eq_zero_iff.1 h0
    exact run_convert_nil_bytes w 32 9 5 0 Tryd.underlying32 Tryd.underlying5 Tryd.underlying9
  · exact run_convert_bytes_back w 32 9 5 x cap l Tryd.underlying32 Tryd.underlying5 Tryd.underlying9 (fun j hj => hcs j _ (by simp [byteCells, hj]))

theorem isB_one (w : World) (c : UInt8) : IsB (w.alloc (.cells #[.int .u8 c.toNat] 5)) (some ⟨w.heap.size, 0, none⟩) 1 1 [c] :=
  ⟨rfl, .inr ⟨_, rfl, by simp, by simp [maxLen], fun j u hu => by
    match j, hu with
    | 0, hu => simp [byteCells] at hu; subst hu; simp [Addr.add]⟩⟩
/-- a text's bytes -/
def textB (s : ByteArray) : List UInt8 := uvarint s.size ++ s.data.toList

/-! ### the document's -/
theorem bytes_app (a b : List UInt8) : (⟨a.toArray⟩ : ByteArray) ++ ⟨b.toArray⟩ = ⟨(a ++ b).toArray⟩ := by
  apply ByteArray.ext
  simp [ByteArray.data_append]
theorem bytes_size (l : List UInt8) : (⟨l.toArray⟩ : ByteArray).size = l.length := by
  show l.toArray.size = _; simp
theorem bytes_cons (c : UInt8) (r : List UInt8) : (⟨#[c]⟩ : ByteArray) ++ ⟨r.toArray⟩ = ⟨(c :: r).toArray⟩ := bytes_app [c] r

end Go.Proofs.YtjblkmjdepdekaaDoor.Oc

/- the reader's contracts, over Nm -/
namespace Go.Proofs.YtjblkmjdepdekaaDoor.Oc
open Go.RowKit Go.Lib Go.Proofs.YtjblkmjdepdekaaDoor.By

/-! ### a block of two cells -/
theorem two_setCell0 {w : World} {b : Nat} {v e u : Value} {t : TypeId} (h : w.heap[b]? = some (.cells #[v, e] t (0, 0))) : (w.setCell ⟨b, 0, none⟩ u).heap[b]? = some (.cells #[u, e] t (0, 0)) := by
  have hlt := lt_of_block h
  have h' : w.heap[b] = .cells #[v, e] t (0, 0) := by simpa [Array.getElem?_eq_getElem hlt] using h
  show (w.heap.modify b _)[b]? = _
  rw [Array.getElem?_eq_getElem (by simpa using hlt), Array.getElem_modify_self, h']
  rfl
theorem two_setCell1 {w : World} {b : Nat} {v e u : Value} {t : TypeId} (h : w.heap[b]? = some (.cells #[v, e] t (0, 0))) : (w.setCell ⟨b, 1, none⟩ u).heap[b]? = some (.cells #[v, u] t (0, 0)) := by
  have hlt := lt_of_block h
  have h' : w.heap[b] = .cells #[v, e] t (0, 0) := by simpa [Array.getElem?_eq_getElem hlt] using h
  show (w.heap.modify b _)[b]? = _
  rw [Array.getElem?_eq_getElem (by simpa using hlt), Array.getElem_modify_self, h']
  rfl
theorem two_cell0 {w : World} {b : Nat} {v e : Value} {t : TypeId} (h : w.heap[b]? = some (.cells #[v, e] t (0, 0))) : w.cell? ⟨b, 0, none⟩ = some v ∧ w.frozen? ⟨b, 0, none⟩ = false := by simp [World.cell?, World.frozen?, h]
theorem two_cell1 {w : World} {b : Nat} {v e : Value} {t : TypeId} (h : w.heap[b]? = some (.cells #[v, e] t (0, 0))) : w.cell? ⟨b, 1, none⟩ = some e ∧ w.frozen? ⟨b, 1, none⟩ = false := by simp [World.cell?, World.frozen?, h]

/-- but for block rb nothing has turned -/
structure At (rb : Nat) (w w' : World) : Prop where
  os : w'.os = w.os
  tape : w'.tape = w.tape
  output : w'.output = w.output
  size : w'.heap.size = w.heap.size
  block : ∀ k, k ≠ rb → w'.heap[k]? = w.heap[k]?
theorem At.refl (rb : Nat) (w : World) : At rb w w := ⟨rfl, rfl, rfl, rfl, fun _ _ => rfl⟩
theorem At.trans {rb : Nat} {a b c : World} (h : At rb a b) (k : At rb b c) : At rb a c :=
  ⟨k.os.trans h.os, k.tape.trans h.tape, k.output.trans h.output, k.size.trans h.size, fun i hn => (k.block i hn).trans (h.block i hn)⟩
theorem At.setCell {rb : Nat} {a b : World} (h : At rb a b) (i : Nat) (u : Value) : At rb a (b.setCell ⟨rb, i, none⟩ u) :=
  h.trans ⟨rfl, rfl, rfl, by simp [World.setCell], fun k hk => Below.heap_setCell _ _ _ _ hk⟩
theorem At.below {rb N : Nat} {a b : World} (h : At rb a b) (hN : N ≤ rb) : Below N a b :=
  ⟨h.os, h.tape, h.output, Nat.le_of_eq h.size.symm, fun k hk => h.block k (by omega)⟩
theorem At.cell {rb : Nat} {a b : World} (h : At rb a b) {p : Addr} (hp : p.block ≠ rb) : b.cell? p = a.cell? p := World.cell?_of_block (w := a) (h.block p.block hp)

/-- the bytes that are left: nil, or cells in another block than rb -/
def Lf (w : World) (rb : Nat) (a : Option Addr) (cap : Nat) (l : List UInt8) : Prop :=
  (a = none ∧ l = [] ∧ cap = 0) ∨ ∃ g o, a = some ⟨g, o, none⟩ ∧ l.length ≤ cap ∧ cap ≤ maxLen ∧ g ≠ rb ∧ ∀ j u, (byteCells l)[j]? = some u → w.cell? ⟨g, o + j, none⟩ = some u

/-- a reader at block rb: what is left, its error -/
def Rd (w : World) (rb : Nat) (l : List UInt8) (e : Int) : Prop :=
  ∃ a cap, w.heap[rb]? = some (.cells #[.slice a l.length cap, .int .i64 e] 121 (0, 0)) ∧ Lf w rb a cap l

theorem Lf.at {w w' : World} {rb : Nat} {a : Option Addr} {cap : Nat} {l : List UInt8} (h : Lf w rb a cap l) (hA : At rb w w') : Lf w' rb a cap l := by
  rcases h with h | ⟨g, o, rfl, h1, h2, h3, h4⟩
  · exact .inl h
  · exact .inr ⟨g, o, rfl, h1, h2, h3, fun j u hu => (hA.cell h3).trans (h4 j u hu)⟩
theorem Rd.below {w w' : World} {rb : Nat} {l : List UInt8} {e : Int} (h : Rd w rb l e) (hb : Below w.heap.size w w') : Rd w' rb l e := by
  obtain ⟨a, cap, h1, h2⟩ := h
  refine ⟨a, cap, (hb.block rb (lt_of_block h1)).trans h1, ?_⟩
  rcases h2 with h | ⟨g, o, rfl, h3, h4, h5, h6⟩
  · exact .inl h
  · exact .inr ⟨g, o, rfl, h3, h4, h5, fun j u hu => (hb.cell (World.block_lt_of_cell? w _ (h6 j u hu))).trans (h6 j u hu)⟩
theorem Rd.len {w : World} {rb : Nat} {l : List UInt8} {e : Int} (h : Rd w rb l e) : l.length ≤ maxLen := by
  obtain ⟨a, cap, h1, ⟨_, rfl, _⟩ | ⟨g, o, rfl, h3, h4, h5, h6⟩⟩ := h
  · simp
  · omega

theorem err_any (rb : Nat) (l : List UInt8) (er : Int) (w : World) (h : Rd w rb l er) :
    Calls Tryd.prog 68 #[.pointer (some ⟨rb, 0, none⟩)] w fun e w' => e = .returned (.int .i64 er) ∧ w = w' := by
  obtain ⟨a, cap, hp, _⟩ := h
  have hc := (two_cell1 hp).1
  go_enter Tryd.func68, Tryd.ntmps68
  go_wp2
  go_ret
  exact ⟨rfl, rfl⟩

theorem left_any (rb : Nat) (l : List UInt8) (er : Int) (w : World) (h : Rd w rb l er) :
    Calls Tryd.prog 66 #[.pointer (some ⟨rb, 0, none⟩)] w fun e w' => e = .returned (.int .i64 l.length) ∧ w = w' := by
  obtain ⟨a, cap, hp, _⟩ := h
  have hc := (two_cell0 hp).1
  go_enter Tryd.func66, Tryd.ntmps66
  go_wp2
  go_ret
  exact ⟨rfl, rfl⟩

theorem fail_any (rb : Nat) (l : List UInt8) (er new : Int) (w : World) (h : Rd w rb l er) :
    Calls Tryd.prog 70 #[.pointer (some ⟨rb, 0, none⟩), .int .i64 new] w fun e w' => e = .returned (.tuple #[]) ∧ Rd w' rb [] (if er = 0 then new else er) ∧ At rb w w' := by
  obtain ⟨a, cap, hp, _⟩ := h
  have hc := two_cell1 hp
  have hc0 := two_cell0 hp
  by_cases he : er = 0
  · subst he
    rw [if_pos rfl]
    have hR : Rd ((w.setCell ⟨rb, 1, none⟩ (.int .i64 new)).setCell ⟨rb, 0, none⟩ (.slice none 0 0)) rb [] new :=
      ⟨none, 0, two_setCell0 (two_setCell1 hp), .inl ⟨rfl, rfl, rfl⟩⟩
    have hA : At rb w ((w.setCell ⟨rb, 1, none⟩ (.int .i64 new)).setCell ⟨rb, 0, none⟩ (.slice none 0 0)) := ((At.refl _ _).setCell _ _).setCell _ _
    have hc2 := two_cell0 (two_setCell1 (u := .int .i64 new) hp)
    have HH := Lib.hid (And.intro hR hA)
    clear hR hA hp
    go_enter Tryd.func70, Tryd.ntmps70
    go_wp2
    go_end0
    exact ⟨rfl, HH.out⟩
  · rw [if_neg he]
    have hR : Rd (w.setCell ⟨rb, 0, none⟩ (.slice none 0 0)) rb [] er := ⟨none, 0, two_setCell0 hp, .inl ⟨rfl, rfl, rfl⟩⟩
    have hA : At rb w (w.setCell ⟨rb, 0, none⟩ (.slice none 0 0)) := (At.refl _ _).setCell _ _
    have hne : (er == 0) = false := by simpa using he
    have HH := Lib.hid (And.intro hR hA)
    clear hR hA hp
    go_enter Tryd.func70, Tryd.ntmps70
    go_wp2
    go_end0
    exact ⟨rfl, HH.out⟩
theorem octet_err (rb : Nat) (l : List UInt8) (er : Int) (w : World) (h : Rd w rb l er) (he : er ≠ 0) :
    Calls Tryd.prog 71 #[.pointer (some ⟨rb, 0, none⟩)] w fun e w' => e = .returned (.tuple #[.int .u8 0, .bool false]) ∧ w = w' := by
  have hne : (er != 0) = true := by simpa using he
  go_enter Tryd.func71, Tryd.ntmps71
  go_wp2_with (go_at_call 68; refine (err_any rb l er _ h).mono ?_; rintro e w' ⟨rfl, rfl⟩)
  go_ret2
  exact ⟨rfl, rfl⟩

theorem octet_end (rb : Nat) (w : World) (h : Rd w rb [] 0) :
    Calls Tryd.prog 71 #[.pointer (some ⟨rb, 0, none⟩)] w fun e w' => e = .returned (.tuple #[.int .u8 0, .bool false]) ∧ Rd w' rb [] 4 ∧ At rb w w' := by
  obtain ⟨a, cap, hp, _⟩ := id h
  have hc := (two_cell0 hp).1
  simp only [List.length_nil] at hc
  clear hp
  go_enter Tryd.func71, Tryd.ntmps71
  go_wp2_with (first | (go_at_call 68; refine (err_any rb [] 0 _ h).mono ?_; rintro e w' ⟨rfl, rfl⟩) | (go_at_call 70; refine (fail_any rb [] 0 4 _ h).mono ?_; rintro e w' ⟨rfl, hr, hA⟩))
  go_ret2
  exact ⟨rfl, hr, hA⟩

theorem lf_tail {w : World} {g o : Nat} {c : UInt8} {t : List UInt8} (h : ∀ j u, (byteCells (c :: t))[j]? = some u → w.cell? ⟨g, o + j, none⟩ = some u) :
    ∀ j u, (byteCells t)[j]? = some u → w.cell? ⟨g, o + 1 + j, none⟩ = some u := fun j u hu => by
  have := h (j + 1) u (by simpa [byteCells] using hu)
  rwa [show o + (j + 1) = o + 1 + j by omega] at this

theorem octet_more (rb : Nat) (c : UInt8) (t : List UInt8) (w : World) (h : Rd w rb (c :: t) 0) :
    Calls Tryd.prog 71 #[.pointer (some ⟨rb, 0, none⟩)] w fun e w' => e = .returned (.tuple #[.int .u8 c.toNat, .bool true]) ∧ Rd w' rb t 0 ∧ At rb w w' := by
  have hlen := h.len
  obtain ⟨a, cap, hp, ⟨_, h1, _⟩ | ⟨g, o, rfl, h3, h4, h5, h6⟩⟩ := id h
  · cases h1
  have hc := two_cell0 hp
  have hb : w.cell? ⟨g, o, none⟩ = some (.int .u8 c.toNat) := h6 0 _ (by simp [byteCells])
  simp only [List.length_cons, maxLen] at hc h3 h4 hlen
  have hA : ∀ u, At rb w (w.setCell ⟨rb, 0, none⟩ u) := fun u => (At.refl _ _).setCell _ _
  by_cases hcap : cap = 1
  · subst hcap
    have ht : t = [] := List.length_eq_zero_iff.1 (by omega)
    subst ht
    have hR : Rd (w.setCell ⟨rb, 0, none⟩ (.slice (some ⟨g, o, none⟩) 0 0)) rb [] 0 :=
      ⟨_, 0, two_setCell0 hp, .inr ⟨g, o, rfl, by simp, by simp, h5, fun j u hu => by simp [byteCells] at hu⟩⟩
    have HH := Lib.hid (And.intro hR (hA (.slice (some ⟨g, o, none⟩) 0 0)))
    clear hR hA hp h6
    simp only [List.length_nil, Nat.zero_add] at hc
    go_enter Tryd.func71, Tryd.ntmps71
    go_wp2_with (first | (go_at_call 68; refine (err_any rb _ 0 _ h).mono ?_; rintro e w' ⟨rfl, rfl⟩))
    go_ret2
    exact ⟨rfl, HH.out⟩
  · have hR : Rd (w.setCell ⟨rb, 0, none⟩ (.slice (some ⟨g, o + 1, none⟩) t.length (cap - 1))) rb t 0 :=
      ⟨_, cap - 1, two_setCell0 hp, .inr ⟨g, o + 1, rfl, by omega, by simp [maxLen]; omega, h5, fun j u hu => ((hA _).cell h5).trans (lf_tail h6 j u hu)⟩⟩
    have HH := Lib.hid (And.intro hR (hA (.slice (some ⟨g, o + 1, none⟩) t.length (cap - 1))))
    clear hR hA hp h6
    go_enter Tryd.func71, Tryd.ntmps71
    go_wp2_with (first | (go_at_call 68; refine (err_any rb _ 0 _ h).mono ?_; rintro e w' ⟨rfl, rfl⟩))
    go_ret2
    exact ⟨rfl, HH.out⟩

/-! ### Num -/
/-- what Num makes of the bytes, from the k-th on: the number, what is left, the error -/
def dec (k X : Nat) : List UInt8 → Nat × List UInt8 × Int
  | [] => (0, [], 4)
  | b :: t => if (k = 9 ∧ 1 < b.toNat) ∨ (0 < k ∧ b.toNat = 0) then (0, [], 2) else
      if b.toNat < 128 then (X + b.toNat * 128 ^ k, t, 0) else dec (k + 1) (X + (b.toNat - 128) * 128 ^ k) t

theorem dec_bad {k X : Nat} {c : UInt8} {t : List UInt8} (h : (k = 9 ∧ 1 < c.toNat) ∨ (0 < k ∧ c.toNat = 0)) : dec k X (c :: t) = (0, [], 2) := by
  simp only [dec]; rw [if_pos h]
theorem dec_last {k X : Nat} {c : UInt8} {t : List UInt8} (h : ¬ ((k = 9 ∧ 1 < c.toNat) ∨ (0 < k ∧ c.toNat = 0))) (hc : c.toNat < 128) : dec k X (c :: t) = (X + c.toNat % 128 * 128 ^ k, t, 0) := by
  simp only [dec]; rw [if_neg h, if_pos hc, Nat.mod_eq_of_lt hc]
theorem dec_more {k X : Nat} {c : UInt8} {t : List UInt8} (h : ¬ ((k = 9 ∧ 1 < c.toNat) ∨ (0 < k ∧ c.toNat = 0))) (hc : ¬ c.toNat < 128) : dec k X (c :: t) = dec (k + 1) (X + c.toNat % 128 * 128 ^ k) t := by
  have := c.toNat_lt
  simp only [dec]; rw [if_neg h, if_neg hc, show c.toNat % 128 = c.toNat - 128 by omega]

theorem pow_7 (k : Nat) : (2 : Int) ^ (7 * k) = ((128 ^ k : Nat) : Int) := by
  have h : (2 : Nat) ^ (7 * k) = 128 ^ k := by rw [Nat.pow_mul]
  rw [← h]; simp
theorem numbits {k X c : Nat} (hk : k ≤ 9) (hX : X < 128 ^ k) (hc : c < 256) (h9 : k = 9 → c ≤ 1) :
    bits .or .u64 (X : Int) (IntKind.u64.wrap (IntKind.u64.wrap (bits .andNot .u8 (c : Int) 128) * 2 ^ (7 * k))) = ((X + c % 128 * 128 ^ k : Nat) : Int) := by
  have e0 : bits .andNot .u8 (c : Int) 128 = ((c % 128 : Nat) : Int) := by
    rw [u8_andNot _ _ (by omega) (by omega) (by decide) (by decide)]
    simp only [Int.toNat_natCast]
    exact congrArg Nat.cast (Nat.and_two_pow_sub_one_eq_mod c 7)
  have hP : 128 ^ k ≤ 128 ^ 9 := Nat.pow_le_pow_right (by decide) hk
  have hlt : c % 128 * 128 ^ k < 18446744073709551616 := by
    by_cases h : k = 9
    · subst h; have := h9 rfl; have : c % 128 ≤ 1 := by omega
      exact Nat.lt_of_le_of_lt (Nat.mul_le_mul_right _ this) (by decide)
    · have h8 : 128 ^ k ≤ 128 ^ 8 := Nat.pow_le_pow_right (by decide) (by omega)
      exact Nat.lt_of_le_of_lt (Nat.mul_le_mul (show c % 128 ≤ 127 by omega) h8) (by decide)
  have hXl : X < 18446744073709551616 := Nat.lt_of_lt_of_le hX (Nat.le_trans hP (by decide))
  have e1 : IntKind.u64.wrap ((c % 128 : Nat) : Int) = ((c % 128 : Nat) : Int) := u64_wrap_id _ (by omega) (by omega)
  rw [e0, e1, pow_7, ← Int.natCast_mul, u64_wrap_id _ (by omega) (by omega)]
  rw [bits_join_low .u64 64 (by decide) wraps_u64 (7 * k) (X : Int) ((c % 128 * 128 ^ k : Nat) : Int) (by omega) (by rw [pow_7]; omega) (by omega) (by omega) (by rw [pow_7, ← Int.natCast_emod, Nat.mul_mod_left]; rfl) (by omega)]
  omega
theorem numbits_lt {k X c : Nat} (hX : X < 128 ^ k) : X + c % 128 * 128 ^ k < 128 ^ (k + 1) := by
  rw [Nat.pow_succ]
  have : c % 128 * 128 ^ k ≤ 127 * 128 ^ k := Nat.mul_le_mul_right _ (by omega)
  omega
theorem numbits0 {X c : Nat} (hX : X < 128 ^ 0) (hc : c < 256) :
    bits .or .u64 (X : Int) (IntKind.u64.wrap (IntKind.u64.wrap (bits .andNot .u8 (c : Int) 128))) = ((X + c % 128 * 128 ^ 0 : Nat) : Int) := by
  have := numbits (k := 0) (by omega) hX hc (by omega)
  simpa using this
theorem numbits9 {X c : Nat} (hX : X < 128 ^ 9) (hc : c ≤ 1) :
    bits .or .u64 (X : Int) (IntKind.u64.wrap (IntKind.u64.wrap (bits .andNot .u8 (c : Int) 128) * 9223372036854775808)) = ((X + c % 128 * 128 ^ 9 : Nat) : Int) := by
  have := numbits (k := 9) (by omega) hX (show c < 256 by omega) (by omega)
  simpa using this

theorem num_err (rb : Nat) (l : List UInt8) (er : Int) (w : World) (h : Rd w rb l er) (he : er ≠ 0) :
    Calls Tryd.prog 69 #[.pointer (some ⟨rb, 0, none⟩)] w fun e w' => e = .returned (.int .u64 0) ∧ w = w' := by
  go_enter Tryd.func69, Tryd.ntmps69
  go_wp2
  refine wp_loop_rounds 1 ?_
  rw [rounds_succ]
  go_wp2_with (go_at_call 71; refine (octet_err rb l er _ h he).mono ?_; rintro e w' ⟨rfl, rfl⟩)
  go_ret
  exact ⟨rfl, rfl⟩

set_option maxRecDepth 20000 in
set_option maxHeartbeats 1000000 in
theorem num_ok (rb : Nat) (l : List UInt8) (w : World) (h : Rd w rb l 0) :
    Calls Tryd.prog 69 #[.pointer (some ⟨rb, 0, none⟩)] w fun e w' => e = .returned (.int .u64 (dec 0 0 l).1) ∧ Rd w' rb (dec 0 0 l).2.1 (dec 0 0 l).2.2 ∧ At rb w w' := by
  obtain ⟨D, hD⟩ : ∃ D, D = dec 0 0 l := ⟨_, rfl⟩
  rw [← hD]
  obtain ⟨n, r, er⟩ := D
  simp only
  have HD0 := Lib.hid hD
  clear hD
  go_enter Tryd.func69, Tryd.ntmps69
  go_wp2
  go_loopw [3, 4] (fun x i wr => ∃ (k X : Nat) (t : List UInt8), k ≤ 9 ∧ X < 128 ^ k ∧ i = .int .i64 k ∧ x = .int .u64 X ∧ Rd wr rb t 0 ∧ (n, r, er) = dec k X t ∧ At rb w wr) (fun _ i _ => 10 - (intOf i).toNat)
  case atStart => exact ⟨0, 0, l, by omega, by decide, rfl, rfl, h, HD0.out, At.refl _ _⟩
  case round =>
    obtain ⟨k, X, t, hk, hX, rfl, rfl, hr, hd, hA⟩ := hrel
    have HD := Lib.hid (And.intro hX hd)
    clear hX hd
    cases t with
    | nil =>
      obtain ⟨_, hd⟩ := HD.out
      simp only [dec, Prod.mk.injEq] at hd
      obtain ⟨rfl, rfl, rfl⟩ := hd
      clear HD0 HD
      go_wp2_with (go_at_call 71; refine (octet_end rb _ hr).mono ?_; rintro e w' ⟨rfl, hr', hA'⟩)
      go_ret
      exact ⟨rfl, hr', hA.trans hA'⟩
    | cons c t =>
      have hc := c.toNat_lt
      by_cases hbad : (k = 9 ∧ 1 < c.toNat) ∨ (0 < k ∧ c.toNat = 0)
      · have HE : (n, r, er) = (0, [], 2) := HD.out.2.trans (dec_bad hbad)
        simp only [Prod.mk.injEq] at HE
        obtain ⟨rfl, rfl, rfl⟩ := HE
        clear HD HD0
        by_cases h1 : k = 9 ∧ 1 < c.toNat
        · obtain ⟨rfl, hc1⟩ := h1
          clear hbad
          go_wp2_with (first | (go_at_call 71; refine (octet_more rb c t _ hr).mono ?_; rintro e w' ⟨rfl, hr', hA'⟩) | (go_at_call 70; refine (fail_any rb t 0 2 _ hr').mono ?_; rintro e w'' ⟨rfl, hr'', hA''⟩))
          go_ret
          exact ⟨rfl, hr'', (hA.trans hA').trans hA''⟩
        · have h2 : 0 < k ∧ c.toNat = 0 := by omega
          obtain ⟨hk0, hc0⟩ := h2
          have hc1 : ((c.toNat : Int) == 0) = true := by simp [hc0]
          have hc2 : (c.toNat : Int) ≤ 0 := by omega
          clear hbad h1 hc0
          go_wp2_with (first | (go_at_call 71; refine (octet_more rb c t _ hr).mono ?_; rintro e w' ⟨rfl, hr', hA'⟩) | (go_at_call 70; refine (fail_any rb t 0 2 _ hr').mono ?_; rintro e w'' ⟨rfl, hr'', hA''⟩))
          all_goals go_ret
          all_goals exact ⟨rfl, hr'', (hA.trans hA').trans hA''⟩
      · have hlast := Lib.hid (fun h => HD.out.2.trans (dec_last hbad h))
        have hmore := Lib.hid (fun h => HD.out.2.trans (dec_more hbad h))
        have hX := Lib.hid HD.out.1
        have hb1 : k = 9 → c.toNat ≤ 1 := fun h => by omega
        have hb2 : 0 < k → c.toNat ≠ 0 := fun h => by omega
        have HB := Lib.hid (And.intro hb1 hb2)
        have hk9' : k = 9 → ¬ 128 ≤ c.toNat := fun h => by have := hb1 h; omega
        have HK := Lib.hid hk9'
        clear hbad hb1 hb2 HD hk9'
        by_cases hk0 : k = 0
        · subst hk0
          clear HB
          by_cases hbig : c.toNat < 128
          · go_wp2_with (go_at_call 71; refine (octet_more rb c t _ hr).mono ?_; rintro e w' ⟨rfl, hr', hA'⟩)
            go_ret
            have hl := hlast.out hbig
            simp only [Prod.mk.injEq] at hl
            obtain ⟨rfl, rfl, rfl⟩ := hl
            exact ⟨congrArg (fun z => Ending.returned (.int .u64 z)) (numbits0 hX.out hc), hr', hA.trans hA'⟩
          · go_wp2_with (go_at_call 71; refine (octet_more rb c t _ hr).mono ?_; rintro e w' ⟨rfl, hr', hA'⟩)
            go_roundw
            case rel => exact ⟨0 + 1, _, t, by omega, numbits_lt hX.out, by go_num, by rw [numbits0 hX.out hc], hr', hmore.out hbig, hA.trans hA'⟩
            case measure => simp [intOf]
        · have h0 : 0 < k := by omega
          have hcne : c.toNat ≠ 0 := HB.out.2 h0
          have hcpos : 0 < c.toNat := by omega
          clear hcne hk0
          by_cases hk9 : k = 9
          · have hc1 : c.toNat ≤ 1 := HB.out.1 hk9
            subst hk9
            have hz0 : ((c.toNat : Int) == 0) = false := by simp; omega
            clear HB
            go_wp2_with (go_at_call 71; refine (octet_more rb c t _ hr).mono ?_; rintro e w' ⟨rfl, hr', hA'⟩)
            go_ret
            have hl := hlast.out (by omega)
            simp only [Prod.mk.injEq] at hl
            obtain ⟨rfl, rfl, rfl⟩ := hl
            exact ⟨congrArg (fun z => Ending.returned (.int .u64 z)) (numbits9 hX.out hc1), hr', hA.trans hA'⟩
          · have hlt : k < 9 := by omega
            clear hk9 HB
            by_cases hbig : c.toNat < 128
            · go_wp2_with (go_at_call 71; refine (octet_more rb c t _ hr).mono ?_; rintro e w' ⟨rfl, hr', hA'⟩)
              go_ret
              have hl := hlast.out hbig
              simp only [Prod.mk.injEq] at hl
              obtain ⟨rfl, rfl, rfl⟩ := hl
              exact ⟨congrArg (fun z => Ending.returned (.int .u64 z)) (numbits hk hX.out hc (by omega)), hr', hA.trans hA'⟩
            · go_wp2_with (go_at_call 71; refine (octet_more rb c t _ hr).mono ?_; rintro e w' ⟨rfl, hr', hA'⟩)
              go_roundw
              case rel => exact ⟨k + 1, _, t, by omega, numbits_lt hX.out, by go_num, by rw [numbits hk hX.out hc (by omega)], hr', hmore.out hbig, hA.trans hA'⟩
              case measure => simp [intOf]; omega
theorem dec_u64 : ∀ (l : List UInt8) (k X : Nat), k ≤ 9 → X < 128 ^ k → U64 (dec k X l).1
  | [], k, X, _, _ => by simp only [dec]; unfold U64; decide
  | b :: t, k, X, hk, hX => by
    by_cases h : (k = 9 ∧ 1 < b.toNat) ∨ (0 < k ∧ b.toNat = 0)
    · rw [dec_bad h]; unfold U64; decide
    · by_cases hb : b.toNat < 128
      · rw [dec_last h hb]
        by_cases h9 : k = 9
        · subst h9
          have : b.toNat % 128 ≤ 1 := by omega
          have h2 : b.toNat % 128 * 128 ^ 9 ≤ 1 * 128 ^ 9 := Nat.mul_le_mul_right _ this
          show X + _ < 18446744073709551616
          omega
        · have h1 := numbits_lt (c := b.toNat) hX
          have h2 : 128 ^ (k + 1) ≤ 128 ^ 9 := Nat.pow_le_pow_right (by decide) (by omega)
          show X + _ < 18446744073709551616
          omega
      · rw [dec_more h hb]
        exact dec_u64 t (k + 1) _ (by omega) (numbits_lt hX)

/-! ### Count -/
theorem dec_zero : ∀ (l : List UInt8) (k X : Nat), (dec k X l).2.2 ≠ 0 → (dec k X l).1 = 0 ∧ (dec k X l).2.1 = []
  | [], k, X, _ => ⟨rfl, rfl⟩
  | b :: t, k, X, h => by
    by_cases h1 : (k = 9 ∧ 1 < b.toNat) ∨ (0 < k ∧ b.toNat = 0)
    · rw [dec_bad h1]; exact ⟨rfl, rfl⟩
    · by_cases hb : b.toNat < 128
      · rw [dec_last h1 hb] at h; exact absurd rfl h
      · rw [dec_more h1 hb] at h ⊢
        exact dec_zero t (k + 1) _ h
theorem dec_len : ∀ (l : List UInt8) (k X : Nat), (dec k X l).2.1.length ≤ l.length
  | [], k, X => by simp [dec]
  | b :: t, k, X => by
    by_cases h1 : (k = 9 ∧ 1 < b.toNat) ∨ (0 < k ∧ b.toNat = 0)
    · rw [dec_bad h1]; simp
    · by_cases hb : b.toNat < 128
      · rw [dec_last h1 hb]; simp
      · rw [dec_more h1 hb]
        have := dec_len t (k + 1) (X + b.toNat % 128 * 128 ^ k)
        simp; omega

/-- what Count makes of the bytes -/
def cnt (m : Nat) (l : List UInt8) : Nat × List UInt8 × Int := if (dec 0 0 l).1 ≤ m then dec 0 0 l else (0, [], 15)
theorem cnt_le (m : Nat) (l : List UInt8) : (cnt m l).1 ≤ m := by unfold cnt; split <;> simp_all
theorem cnt_zero (m : Nat) (l : List UInt8) (h : (cnt m l).2.2 ≠ 0) : (cnt m l).1 = 0 ∧ (cnt m l).2.1 = [] := by
  unfold cnt at h ⊢
  by_cases h1 : (dec 0 0 l).1 ≤ m
  · rw [if_pos h1] at h ⊢; exact dec_zero l 0 0 h
  · rw [if_neg h1]; exact ⟨rfl, rfl⟩

set_option maxHeartbeats 1000000 in
theorem count_err (rb : Nat) (l : List UInt8) (er : Int) (m : Nat) (w : World) (h : Rd w rb l er) (he : er ≠ 0) (hm2 : m ≤ 1000000000000) :
    Calls Tryd.prog 67 #[.pointer (some ⟨rb, 0, none⟩), .int .i64 m] w fun e w' => e = .returned (.int .i64 0) ∧ w = w' := by
  have H := Lib.hid (num_err rb l er w h he)
  clear he h
  go_enter Tryd.func67, Tryd.ntmps67
  go_wp2_with (go_at_call 69; refine H.out.mono ?_; rintro e w' ⟨rfl, rfl⟩)
  go_ret
  exact ⟨rfl, rfl⟩
set_option maxHeartbeats 1000000 in
theorem count_ok (rb : Nat) (l : List UInt8) (m : Nat) (w : World) (h : Rd w rb l 0) (hm2 : m ≤ 1000000000000) :
    Calls Tryd.prog 67 #[.pointer (some ⟨rb, 0, none⟩), .int .i64 m] w fun e w' => e = .returned (.int .i64 (cnt m l).1) ∧ Rd w' rb (cnt m l).2.1 (cnt m l).2.2 ∧ At rb w w' := by
  have H := Lib.hid (num_ok rb l w h)
  have hz := dec_zero l 0 0
  unfold cnt
  obtain ⟨D, hD⟩ : ∃ D, D = dec 0 0 l := ⟨_, rfl⟩
  rw [← hD] at H hz ⊢
  clear hD h
  obtain ⟨n, r, er⟩ := D
  simp only at H hz ⊢
  by_cases hn : n ≤ m
  · rw [if_pos hn]
    clear hz
    go_enter Tryd.func67, Tryd.ntmps67
    go_wp2_with (go_at_call 69; refine H.out.mono ?_; rintro e w' ⟨rfl, hr, hA⟩)
    go_ret
    exact ⟨rfl, hr, hA⟩
  · rw [if_neg hn]
    have he : er = 0 := Classical.byContradiction fun h => by have := (hz h).1; omega
    subst he
    clear hz
    go_enter Tryd.func67, Tryd.ntmps67
    go_wp2_with (first | (go_at_call 69; refine H.out.mono ?_; rintro e w' ⟨rfl, hr, hA⟩) | (go_at_call 70; refine (fail_any rb r 0 15 _ hr).mono ?_; rintro e w'' ⟨rfl, hr', hA'⟩))
    go_ret
    exact ⟨rfl, hr', hA.trans hA'⟩
theorem dec_uv : ∀ (m n k X : Nat) (t : List UInt8), n ≤ m → k ≤ 9 → n * 128 ^ k < 18446744073709551616 → (k = 0 ∨ 0 < n) → dec k X (uvarint n ++ t) = (X + n * 128 ^ k, t, 0)
  | m, n, k, X, t, hm, hk, hn, h0 => by
    have h9 : k = 9 → n < 2 := fun e => by
      subst e
      rcases Nat.lt_or_ge n 2 with h | h
      · exact h
      · have := Nat.mul_le_mul_right (128 ^ 9) h
        exact absurd hn (Nat.not_lt.2 (Nat.le_trans (by decide) this))
    by_cases hs : n < 128
    · rw [uvarint_small hs, List.singleton_append]
      have e : n.toUInt8.toNat = n := toUInt8_toNat (by omega)
      have hnb : ¬ ((k = 9 ∧ 1 < n.toUInt8.toNat) ∨ (0 < k ∧ n.toUInt8.toNat = 0)) := by rw [e]; omega
      rw [dec_last hnb (by omega), e, Nat.mod_eq_of_lt hs]
    · rw [uvarint_big (by omega), List.cons_append]
      have e : (n % 128 + 128).toUInt8.toNat = n % 128 + 128 := toUInt8_toNat (by omega)
      have hnb : ¬ ((k = 9 ∧ 1 < (n % 128 + 128).toUInt8.toNat) ∨ (0 < k ∧ (n % 128 + 128).toUInt8.toNat = 0)) := by rw [e]; omega
      rw [dec_more hnb (by omega), e]
      match m, hm with
      | 0, hm => omega
      | m + 1, hm =>
        have hd : n / 128 * 128 ^ (k + 1) ≤ n * 128 ^ k := by
          rw [Nat.pow_succ, Nat.mul_comm (128 ^ k), ← Nat.mul_assoc]
          exact Nat.mul_le_mul_right _ (Nat.div_mul_le_self n 128)
        rw [dec_uv m (n / 128) (k + 1) _ t (by omega) (by omega) (by omega) (.inr (by omega))]
        have e2 : (n % 128 + 128) % 128 = n % 128 := by omega
        rw [e2]
        have e3 : n % 128 * 128 ^ k + n / 128 * 128 ^ (k + 1) = n * 128 ^ k := by
          rw [Nat.pow_succ, Nat.mul_comm (128 ^ k), ← Nat.mul_assoc, ← Nat.add_mul]
          congr 1; omega
        rw [Nat.add_assoc, e3]
theorem dec_uv0 {n : Nat} (h : U64 n) (t : List UInt8) : dec 0 0 (uvarint n ++ t) = (n, t, 0) := by
  rw [dec_uv n n 0 0 t (Nat.le_refl _) (by omega) (by unfold U64 at h; omega) (.inl rfl)]; simp

theorem add_lit' (g o j : Nat) : (⟨g, o, none⟩ : Addr).add j = ⟨g, o + j, none⟩ := by unfold Addr.add; split <;> simp_all

theorem lf_own {w : World} {B rb : Nat} {a : Option Addr} {cap : Nat} {l : List UInt8} (h : w.ownsRow B 5 1 (.slice a l.length cap) l.length (byteCells l)) (hr : w.heap.size ≤ rb) (o : Obj) : Lf (w.alloc o) rb a cap l := by
  cases a with
  | none =>
    left
    rcases h.2 with ⟨h1, h2⟩ | ⟨g, c, cur, h1, _⟩
    · simp at h1; exact ⟨rfl, List.length_eq_zero_iff.1 h2, h1.2⟩
    · simp at h1
  | some x =>
    right
    rcases h.2 with ⟨h1, h2⟩ | ⟨g, c, cur, h1, h2, h3, h4, h5, h6, h7⟩
    · simp at h1
    · have h1' := h1
      simp only [Value.slice.injEq, Option.some.injEq, true_and] at h1'
      obtain ⟨rfl, rfl⟩ := h1'
      have hg := lt_of_block h3
      refine ⟨g, 0, rfl, h4, h5, by omega, fun j u hu => ?_⟩
      have := h.cells (g := g) rfl j u hu
      rw [add_lit'] at this
      exact ((((Below.refl w.heap.size w).alloc (Nat.le_refl _) o).cell (p := ⟨g, 0 + j, none⟩) hg)).trans this

theorem read_any (a : Option Addr) (len cap : Nat) (l : List UInt8) (w : World) (hl : IsB w a len cap l) (hlen : l.length ≤ 1000000000000) :
    Calls Tryd.prog 65 #[.slice a len cap] w fun e w' => ∃ rb, e = .returned (.pointer (some ⟨rb, 0, none⟩)) ∧ w.heap.size ≤ rb ∧ Rd w' rb l 0 ∧ Below w.heap.size w w' := by
  have H := Lib.hid (clone_any a len cap l w hl hlen)
  clear hl
  go_enter Tryd.func65, Tryd.ntmps65
  go_wp2_with fail
  refine H.out.mono ?_
  rintro e w1 ⟨v', rfl, hown, hb⟩
  obtain ⟨a1, c1, rfl⟩ := own_shape hown
  have hR : Rd (w1.alloc (.cells #[.slice a1 l.length c1, .int .i64 0] 121)) w1.heap.size l 0 := ⟨a1, c1, heap_alloc_new w1 _, lf_own hown (Nat.le_refl _) _⟩
  have HH := Lib.hid (And.intro hb.size (And.intro hR (hb.alloc hb.size (.cells #[.slice a1 l.length c1, .int .i64 0] 121))))
  clear hR hb hown H
  go_wp2
  go_ret
  exact ⟨_, rfl, HH.out.1, HH.out.2.1, HH.out.2.2⟩
end Go.Proofs.YtjblkmjdepdekaaDoor.Oc

/- the sums of bytes: the plain mathematics -/
namespace Go.Proofs.YtjblkmjdepdekaaDoor.Cr

/-- one bit goes by -/
def st (s : Nat) : Nat := s / 2 ^^^ (if s % 2 = 1 then 3988292384 else 0)
/-- so many bits go by -/
def it : Nat → Nat → Nat
  | 0, s => s
  | n + 1, s => st (it n s)
/-- a sum: a number of 32 bits -/
def U32 (n : Nat) : Prop := n < 4294967296

theorem U32.xor {a b : Nat} (ha : U32 a) (hb : U32 b) : U32 (a ^^^ b) := Nat.xor_lt_two_pow (n := 32) ha hb
theorem U32.div {a : Nat} (ha : U32 a) (k : Nat) : U32 (a / k) := Nat.lt_of_le_of_lt (Nat.div_le_self _ _) ha
theorem U32.zero : U32 0 := by unfold U32; decide
theorem U32.byte (c : UInt8) : U32 c.toNat := by have := c.toNat_lt; unfold U32; omega
theorem U32.st {s : Nat} (h : U32 s) : U32 (st s) := by
  unfold Cr.st
  refine U32.xor (h.div 2) ?_
  split
  · unfold U32; decide
  · exact U32.zero
theorem U32.it {s : Nat} (h : U32 s) (n : Nat) : U32 (it n s) := by
  induction n with
  | zero => exact h
  | succ n ih => exact ih.st

theorem xor4 (a b c d : Nat) : (a ^^^ b) ^^^ (c ^^^ d) = (a ^^^ c) ^^^ (b ^^^ d) := by
  rw [Nat.xor_assoc, Nat.xor_assoc, ← Nat.xor_assoc b c d, Nat.xor_comm b c, Nat.xor_assoc c b d]
theorem st_xor (a b : Nat) : st (a ^^^ b) = st a ^^^ st b := by
  unfold st
  rw [Nat.xor_div_two, xor4]
  congr 1
  have h := @Nat.xor_mod_two_eq_one a b
  by_cases ha : a % 2 = 1 <;> by_cases hb : b % 2 = 1 <;> simp [h, ha, hb]
theorem it_xor (n a b : Nat) : it n (a ^^^ b) = it n a ^^^ it n b := by
  induction n with
  | zero => rfl
  | succ n ih => show st (it n (a ^^^ b)) = _; rw [ih, st_xor]; rfl
theorem st_zero : st 0 = 0 := rfl
theorem it_zero (n : Nat) : it n 0 = 0 := by
  induction n with
  | zero => rfl
  | succ n ih => show st (it n 0) = 0; rw [ih]; rfl
theorem it_add (m n s : Nat) : it (m + n) s = it n (it m s) := by
  induction n with
  | zero => rfl
  | succ n ih => show st (it (m + n) s) = st (it n (it m s)); rw [ih]

theorem xor_zero_eq {a b : Nat} (h : a ^^^ b = 0) : a = b := by
  have h1 : (a ^^^ b) ^^^ b = a := by rw [Nat.xor_assoc, Nat.xor_self, Nat.xor_zero]
  rw [h, Nat.zero_xor] at h1
  exact h1.symm
theorem st_null {s : Nat} (h : U32 s) (h0 : st s = 0) : s = 0 := by
  unfold st at h0
  have h1 := xor_zero_eq h0
  unfold U32 at h
  split at h1 <;> omega
theorem it_null {s : Nat} (h : U32 s) : ∀ n, it n s = 0 → s = 0
  | 0, h0 => h0
  | n + 1, h0 => it_null h n (st_null (h.it n) h0)
theorem it_inj {s t : Nat} (hs : U32 s) (ht : U32 t) (n : Nat) (h : it n s = it n t) : s = t := by
  refine xor_zero_eq (it_null (hs.xor ht) n ?_)
  rw [it_xor, h, Nat.xor_self]

/-! ### the table -/
/-- what four bits leave behind -/
def nib (r : Nat) : Nat := [0, 498536548, 997073096, 651767980, 1994146192, 1802195444, 1303535960, 1342533948, 3988292384, 4027552580, 3604390888, 3412177804, 2607071920, 2262029012, 2685067896, 3183342108].getD r 0
theorem nib_it : ∀ r, r < 16 → it 4 r = nib r := by decide
theorem nib_u32 (r : Nat) : U32 (nib r) := by
  by_cases h : r < 16
  · rw [← nib_it r h]; exact U32.it (by unfold U32; omega) 4
  · have : nib r = 0 := by unfold nib; rw [List.getD_eq_getElem?_getD, List.getElem?_eq_none (by simp; omega)]; rfl
    rw [this]; exact U32.zero
theorem st_even (q : Nat) : st (2 * q) = q := by
  unfold st
  rw [if_neg (by omega), Nat.xor_zero]; omega
theorem low_xor (s k : Nat) : s = 2 ^ k * (s / 2 ^ k) ^^^ s % 2 ^ k := by
  apply Nat.eq_of_testBit_eq
  intro i
  rw [Nat.testBit_xor, Nat.testBit_two_pow_mul, Nat.testBit_div_two_pow, Nat.testBit_mod_two_pow]
  by_cases h : i < k
  · simp [h, Nat.not_le.mpr h]
  · have h2 : k ≤ i := by omega
    simp [h, h2]
theorem four (s : Nat) : it 4 s = s / 16 ^^^ nib (s % 16) := by
  have e := low_xor s 4
  have h16 : it 4 (2 ^ 4 * (s / 2 ^ 4)) = s / 16 := by
    show st (st (st (st (2 ^ 4 * (s / 2 ^ 4))))) = _
    rw [show 2 ^ 4 * (s / 2 ^ 4) = 2 * (2 * (2 * (2 * (s / 16)))) by omega, st_even, st_even, st_even, st_even]
  have hl : it 4 (s % 2 ^ 4) = nib (s % 16) := nib_it (s % 16) (by omega)
  calc it 4 s = it 4 (2 ^ 4 * (s / 2 ^ 4) ^^^ s % 2 ^ 4) := by rw [← e]
    _ = _ := by rw [it_xor, h16, hl]

/-- a byte goes by -/
def upd (s : Nat) (c : UInt8) : Nat := it 8 (s ^^^ c.toNat)
theorem upd_u32 {s : Nat} (h : U32 s) (c : UInt8) : U32 (upd s c) := (h.xor (U32.byte c)).it 8
theorem upd_four (s : Nat) (c : UInt8) : upd s c = it 4 (it 4 (s ^^^ c.toNat)) := it_add 4 4 _
/-- bytes go by -/
def run (s : Nat) (l : List UInt8) : Nat := l.foldl upd s
theorem run_u32 {s : Nat} (h : U32 s) (l : List UInt8) : U32 (run s l) := by
  induction l generalizing s with
  | nil => exact h
  | cons c l ih => exact ih (upd_u32 h c)
theorem run_snoc (s : Nat) (l : List UInt8) (c : UInt8) : run s (l ++ [c]) = upd (run s l) c := by simp [run]
theorem run_append (s : Nat) (a b : List UInt8) : run s (a ++ b) = run (run s a) b := by simp [run]
/-- all bits are turned -/
def tn (s : Nat) : Nat := 4294967295 - s
theorem tn_u32 (s : Nat) : U32 (tn s) := by unfold tn U32; omega
theorem tn_tn {s : Nat} (h : U32 s) : tn (tn s) = s := by unfold tn U32 at *; omega
theorem tn_xor {s : Nat} (h : U32 s) : tn s = 4294967295 ^^^ s := by
  have h1 : (BitVec.allOnes 32 ^^^ BitVec.ofNat 32 s).toNat = (~~~ BitVec.ofNat 32 s).toNat := by rw [BitVec.allOnes_xor]
  rw [BitVec.toNat_xor, BitVec.toNat_not, BitVec.toNat_allOnes, BitVec.toNat_ofNat, Nat.mod_eq_of_lt (show s < 2 ^ 32 from h)] at h1
  exact h1.symm
/-- the sum of bytes, and with more behind -/
def more (s : Nat) (l : List UInt8) : Nat := tn (run (tn s) l)
def sum (l : List UInt8) : Nat := tn (run 4294967295 l)
theorem more_u32 (s : Nat) (l : List UInt8) : U32 (more s l) := tn_u32 _
theorem sum_u32 (l : List UInt8) : U32 (sum l) := tn_u32 _
theorem more_zero (l : List UInt8) : more 0 l = sum l := rfl
theorem more_sum (a b : List UInt8) : more (sum a) b = sum (a ++ b) := by
  unfold more sum
  rw [tn_tn (run_u32 (by unfold U32; decide) a), run_append]

/-! ### bit by bit -/
def go (s : Nat) (B : Nat → Bool) : Nat → Nat
  | 0 => s
  | n + 1 => st (go s B n ^^^ (B n).toNat)
theorem go_u32 {s : Nat} (h : U32 s) (B : Nat → Bool) (n : Nat) : U32 (go s B n) := by
  induction n with
  | zero => exact h
  | succ n ih => exact (ih.xor (by cases B n <;> (unfold U32; decide))).st
theorem go_congr {s : Nat} {B C : Nat → Bool} (n : Nat) (h : ∀ i, i < n → B i = C i) : go s B n = go s C n := by
  induction n with
  | zero => rfl
  | succ n ih => show st (go s B n ^^^ _) = st (go s C n ^^^ _); rw [ih (fun i hi => h i (by omega)), h n (by omega)]
theorem go_add (s : Nat) (B : Nat → Bool) (m n : Nat) : go s B (m + n) = go (go s B m) (fun i => B (m + i)) n := by
  induction n with
  | zero => rfl
  | succ n ih => show st (go s B (m + n) ^^^ (B (m + n)).toNat) = st (go (go s B m) (fun i => B (m + i)) n ^^^ (B (m + n)).toNat); rw [ih]
theorem go_xor (s t : Nat) (B C : Nat → Bool) (n : Nat) : go (s ^^^ t) (fun i => B i ^^ C i) n = go s B n ^^^ go t C n := by
  induction n with
  | zero => rfl
  | succ n ih =>
    show st (go (s ^^^ t) (fun i => B i ^^ C i) n ^^^ (B n ^^ C n).toNat) = st (go s B n ^^^ (B n).toNat) ^^^ st (go t C n ^^^ (C n).toNat)
    rw [ih, ← st_xor, xor4]
    congr 2
    cases B n <;> cases C n <;> rfl
theorem go_none (s n : Nat) : go s (fun _ => false) n = it n s := by
  induction n with
  | zero => rfl
  | succ n ih => show st (go s (fun _ => false) n ^^^ 0) = _; rw [ih, Nat.xor_zero]; rfl
/-- bits that are handed in together -/
theorem go_at (s x : Nat) (k : Nat) : go s (fun i => x.testBit i) k ^^^ x / 2 ^ k = it k (s ^^^ x) := by
  induction k with
  | zero => simp [go, it]
  | succ k ih =>
    show st (go s (fun i => x.testBit i) k ^^^ (x.testBit k).toNat) ^^^ x / 2 ^ (k + 1) = st (it k (s ^^^ x))
    rw [← ih]
    have e : x / 2 ^ k = (x.testBit k).toNat ^^^ 2 * (x / 2 ^ (k + 1)) := by
      have h1 := low_xor (x / 2 ^ k) 1
      have h2 : x / 2 ^ k % 2 ^ 1 = (x.testBit k).toNat := by
        rw [Nat.testBit_eq_decide_div_mod_eq]
        have : x / 2 ^ k % 2 = 0 ∨ x / 2 ^ k % 2 = 1 := by omega
        rcases this with h | h <;> simp [h]
      have h3 : x / 2 ^ k / 2 ^ 1 = x / 2 ^ (k + 1) := by rw [Nat.div_div_eq_div_mul, Nat.pow_succ]; rfl
      rw [h2, h3, Nat.xor_comm] at h1
      exact h1
    rw [e, ← Nat.xor_assoc, st_xor _ (2 * _), st_even]
theorem go_all {s x k : Nat} (h : x < 2 ^ k) : go s (fun i => x.testBit i) k = it k (s ^^^ x) := by
  rw [← go_at, Nat.div_eq_of_lt h, Nat.xor_zero]
theorem upd_go (s : Nat) (c : UInt8) : upd s c = go s (fun i => c.toNat.testBit i) 8 := (go_all c.toNat_lt).symm

/-- the bits of bytes -/
def bt (l : List UInt8) (i : Nat) : Bool := (l.getD (i / 8) 0).toNat.testBit (i % 8)
theorem bt_cons (c : UInt8) (l : List UInt8) (i : Nat) : bt (c :: l) (8 + i) = bt l i := by
  unfold bt
  rw [show (8 + i) / 8 = i / 8 + 1 by omega, show (8 + i) % 8 = i % 8 by omega]; rfl
theorem bt_head (c : UInt8) (l : List UInt8) {i : Nat} (h : i < 8) : bt (c :: l) i = c.toNat.testBit i := by
  unfold bt
  rw [show i / 8 = 0 by omega, show i % 8 = i by omega]; rfl
theorem run_go (s : Nat) (l : List UInt8) : run s l = go s (bt l) (8 * l.length) := by
  induction l generalizing s with
  | nil => rfl
  | cons c l ih =>
    show run (upd s c) l = _
    rw [List.length_cons, show 8 * (l.length + 1) = 8 + 8 * l.length by omega, go_add, ih, upd_go]
    rw [go_congr 8 (fun i hi => (bt_head c l hi).symm)]
    exact go_congr _ (fun i _ => (bt_cons c l i).symm)

/-! ### what the laws say -/
/-- rows of as many bytes, their exclusive or -/
theorem sum_xor3 {a b c x : List UInt8} (hb : b.length = a.length) (hc : c.length = a.length) (hx : x.length = a.length) (h : ∀ i, i < a.length → x.getD i 0 = a.getD i 0 ^^^ b.getD i 0 ^^^ c.getD i 0) :
    sum x = sum a ^^^ sum b ^^^ sum c := by
  have hu : U32 4294967295 := by unfold U32; decide
  have e : run 4294967295 x = (run 4294967295 a ^^^ run 4294967295 b) ^^^ run 4294967295 c := by
    rw [run_go, run_go, run_go, run_go, hb, hc, hx, ← go_xor, ← go_xor]
    refine go_congr _ (fun i hi => ?_)
    unfold bt
    rw [h _ (by omega), UInt8.toNat_xor, UInt8.toNat_xor, Nat.testBit_xor, Nat.testBit_xor]
  unfold sum
  rw [tn_xor (run_u32 hu _), tn_xor (run_u32 hu _), tn_xor (run_u32 hu _), tn_xor (run_u32 hu _), e, xor4 4294967295 _ 4294967295 _, Nat.xor_self, Nat.zero_xor, Nat.xor_comm (run 4294967295 a ^^^ run 4294967295 b) (4294967295 ^^^ _), Nat.xor_assoc 4294967295 (run 4294967295 c) _, Nat.xor_comm (run 4294967295 c) _]
/-- which bits are turned, up to the k-th of them -/
def tb (f m k i : Nat) : Bool := decide (f ≤ i ∧ i < f + k) && m.testBit (i - f)
theorem sum_turned {b c : List UInt8} {f m : Nat} (hc : c.length = b.length) (hf : f + 32 ≤ 8 * b.length) (hm : U32 m) (h0 : m ≠ 0) (h : ∀ i, i < 8 * b.length → bt c i = (bt b i ^^ tb f m 32 i)) : sum c ≠ sum b := by
  intro he
  have hu : U32 4294967295 := by unfold U32; decide
  have h1 : run 4294967295 c = run 4294967295 b := by
    have := congrArg tn he
    unfold sum at this
    rwa [tn_tn (run_u32 hu _), tn_tn (run_u32 hu _)] at this
  rw [run_go, run_go, hc] at h1
  have h2 : go 4294967295 (bt c) (8 * b.length) = go 4294967295 (bt b) (8 * b.length) ^^^ go 0 (tb f m 32) (8 * b.length) := by
    rw [← go_xor, Nat.xor_zero]
    exact go_congr _ h
  rw [h1] at h2
  have h3 : go 0 (tb f m 32) (8 * b.length) = 0 := by
    have := congrArg (fun z => go 4294967295 (bt b) (8 * b.length) ^^^ z) h2
    simp only [← Nat.xor_assoc, Nat.xor_self, Nat.zero_xor] at this
    exact this.symm
  obtain ⟨r, hr⟩ : ∃ r, 8 * b.length = f + (32 + r) := ⟨8 * b.length - f - 32, by omega⟩
  rw [hr, go_add, go_add] at h3
  have z1 : go 0 (tb f m 32) f = 0 := by
    rw [go_congr (C := fun _ => false) f (fun i hi => by unfold tb; rw [decide_eq_false (by omega)]; rfl), go_none, it_zero]
  have z2 : go 0 (fun i => tb f m 32 (f + i)) 32 = it 32 m := by
    rw [go_congr (C := fun i => m.testBit i) 32 (fun i hi => by unfold tb; rw [decide_eq_true (by omega), Nat.add_sub_cancel_left]; rfl), go_all hm, Nat.zero_xor]
  have z3 : ∀ s, go s (fun i => tb f m 32 (f + (32 + i))) r = it r s := fun s => by
    rw [go_congr (C := fun _ => false) r (fun i hi => by unfold tb; rw [decide_eq_false (by omega)]; rfl), go_none]
  rw [z1, z2, z3] at h3
  exact h0 (it_null hm 32 (it_null (hm.it 32) r h3))

/-- a number's four bytes, the lowest first -/
def le4 (x : Nat) : List UInt8 := [(x % 256).toUInt8, (x / 256 % 256).toUInt8, (x / 65536 % 256).toUInt8, (x / 16777216 % 256).toUInt8]
theorem byte_nat {n : Nat} (h : n < 256) : n.toUInt8.toNat = n := by simp [Nat.toUInt8, UInt8.toNat_ofNat']; omega
theorem byte_bit (x k j : Nat) (h : j < 8) : (x / 2 ^ k % 256).testBit j = x.testBit (k + j) := by
  rw [show (256 : Nat) = 2 ^ 8 by rfl, Nat.testBit_mod_two_pow, Nat.testBit_div_two_pow, Nat.add_comm]; simp [h]
theorem le4_bit (x : Nat) {i : Nat} (h : i < 32) : bt (le4 x) i = x.testBit i := by
  have hi : i / 8 = 0 ∨ i / 8 = 1 ∨ i / 8 = 2 ∨ i / 8 = 3 := by omega
  unfold bt le4
  rcases hi with e | e | e | e <;> rw [e] <;> simp only [List.getD_cons_zero, List.getD_cons_succ] <;> rw [byte_nat (by omega)]
  · have := byte_bit x 0 (i % 8) (by omega); rw [show x / 2 ^ 0 = x by simp] at this; rw [this]; congr 1; omega
  · exact (byte_bit x 8 (i % 8) (by omega)).trans (by congr 1; omega)
  · exact (byte_bit x 16 (i % 8) (by omega)).trans (by congr 1; omega)
  · exact (byte_bit x 24 (i % 8) (by omega)).trans (by congr 1; omega)
theorem more_unlike {s x y : Nat} (hx : U32 x) (hy : U32 y) : more s (le4 x) = more s (le4 y) ↔ x = y := by
  refine ⟨fun h => ?_, fun h => by rw [h]⟩
  have hs := tn_u32 s
  have h1 : run (tn s) (le4 x) = run (tn s) (le4 y) := by
    have := congrArg tn h
    unfold more at this
    rwa [tn_tn (run_u32 hs _), tn_tn (run_u32 hs _)] at this
  rw [run_go, run_go, show (le4 x).length = 4 from rfl, show (le4 y).length = 4 from rfl, go_congr (C := fun i => x.testBit i) (8 * 4) (fun i hi => le4_bit x (by omega)), go_congr (C := fun i => y.testBit i) (8 * 4) (fun i hi => le4_bit y (by omega)), go_all hx, go_all hy] at h1
  have h2 := it_inj (hs.xor hx) (hs.xor hy) _ h1
  have := congrArg (fun z => tn s ^^^ z) h2
  simpa only [← Nat.xor_assoc, Nat.xor_self, Nat.zero_xor] using this

/-- the chapter's example -/
theorem sum_lives : sum [49, 50, 51, 52, 53, 54, 55, 56, 57] = 3421780262 := by decide +kernel
end Go.Proofs.YtjblkmjdepdekaaDoor.Cr

/- frames and chains: the plain mathematics -/
namespace Go.Proofs.YtjblkmjdepdekaaDoor.Fm
open Go.RowKit Go.Lib Go.Proofs.YtjblkmjdepdekaaDoor.Oc Go.Proofs.YtjblkmjdepdekaaDoor.Cr

/-- a frame ahead of its sum; the sum; all of it -/
def hd (k : UInt8) (d : List UInt8) : List UInt8 := [197, k] ++ (uvarint d.length ++ d)
def fs (s : Nat) (k : UInt8) (d : List UInt8) : Nat := more s (hd k d)
def fb (s : Nat) (k : UInt8) (d : List UInt8) : List UInt8 := hd k d ++ le4 (fs s k d)
theorem le4_len (x : Nat) : (le4 x).length = 4 := rfl
theorem fb_len (s : Nat) (k : UInt8) (d : List UInt8) : (fb s k d).length = (hd k d).length + 4 := by unfold fb; rw [List.length_append, le4_len]
theorem hd_len (k : UInt8) (d : List UInt8) : (hd k d).length = 2 + (uvarint d.length).length + d.length := by unfold hd; simp; omega
theorem uv_two {n : Nat} (h : n < 16384) : 1 ≤ (uvarint n).length ∧ (uvarint n).length ≤ 2 := by
  by_cases h1 : n < 128
  · rw [uvarint_small h1]; simp
  · rw [uvarint_big (by omega), uvarint_small (by omega)]; simp
theorem fb_le {k : UInt8} {d : List UInt8} (s : Nat) (h : d.length ≤ 1024) : (fb s k d).length ≤ 1032 := by
  rw [fb_len, hd_len]; have := uv_two (n := d.length) (by omega); omega

/-- where the data of the frame that bytes begin with begin, and end -/
def num (b : List UInt8) : Nat × List UInt8 × Int := cnt 1024 ((b.take 12).drop 2)
def dat (b : List UInt8) : Nat × Nat × Int :=
  if 0 < b.length ∧ b.getD 0 0 ≠ 197 then (0, 0, 2) else if b.length < 2 then (0, 0, 4) else if (num b).2.2 ≠ 0 then (0, 0, (num b).2.2) else
  if b.length - (2 + ((b.take 12).drop 2).length - (num b).2.1.length) < (num b).1 + 4 then (0, 0, 4) else
  (2 + ((b.take 12).drop 2).length - (num b).2.1.length, 2 + ((b.take 12).drop 2).length - (num b).2.1.length + (num b).1, 0)
/-- the record that bytes begin with -/
def nxt (s : Nat) (b : List UInt8) : (UInt8 × List UInt8) × Nat × Nat × Int :=
  if (dat b).2.2 ≠ 0 then ((0, []), 0, 0, (dat b).2.2) else
  if (b.drop (dat b).2.1).take 4 ≠ le4 (more s (b.take (dat b).2.1)) then ((0, []), 0, 0, 5) else
  ((b.getD 1 0, (b.take (dat b).2.1).drop (dat b).1), (dat b).2.1 + 4, more s (b.take (dat b).2.1), 0)

theorem cnt_len (m : Nat) (l : List UInt8) : (cnt m l).2.1.length ≤ l.length := by
  unfold cnt; split
  · exact dec_len l 0 0
  · simp
theorem dat_ok {b : List UInt8} (h : (dat b).2.2 = 0) : 2 ≤ b.length ∧ 2 ≤ (dat b).1 ∧ (dat b).1 ≤ (dat b).2.1 ∧ (dat b).2.1 + 4 ≤ b.length ∧ (dat b).2.1 - (dat b).1 ≤ 1024 := by
  have hc := cnt_len 1024 ((b.take 12).drop 2)
  have hm := cnt_le 1024 ((b.take 12).drop 2)
  have ht : ((b.take 12).drop 2).length ≤ b.length - 2 := by simp; omega
  unfold dat at h ⊢
  unfold num at *
  split at h
  · simp at h
  · split at h
    · simp at h
    · split at h
      · exact absurd h ‹_›
      · split at h
        · simp at h
        · rename_i h1 h2 h3 h4
          rw [if_neg h1, if_neg h2, if_neg h3, if_neg h4]
          refine ⟨?_, ?_, ?_, ?_, ?_⟩ <;> (try simp only) <;> omega
theorem nxt_ok {s : Nat} {b : List UInt8} (h : (nxt s b).2.2.2 = 0) : (dat b).2.2 = 0 ∧ (nxt s b).2.1 = (dat b).2.1 + 4 ∧ (b.drop (dat b).2.1).take 4 = le4 (more s (b.take (dat b).2.1)) ∧ (nxt s b).2.2.1 = more s (b.take (dat b).2.1) := by
  unfold nxt at h ⊢
  split at h
  · exact absurd h ‹_›
  · split at h
    · simp at h
    · rename_i h1 h2
      rw [if_neg h1, if_neg h2]
      exact ⟨Classical.byContradiction h1, rfl, Classical.byContradiction h2, rfl⟩
theorem nxt_len {s : Nat} {b : List UInt8} (h : (nxt s b).2.2.2 = 0) : 6 ≤ (nxt s b).2.1 ∧ (nxt s b).2.1 ≤ b.length := by
  obtain ⟨h1, h2, _⟩ := nxt_ok h
  have := dat_ok h1
  rw [h2]; omega
theorem nxt_bad {s : Nat} {b : List UInt8} (h : (nxt s b).2.2.2 ≠ 0) : nxt s b = ((0, []), 0, 0, (nxt s b).2.2.2) := by
  unfold nxt at h ⊢
  split at h
  · rw [if_pos ‹_›]
  · split at h
    · rw [if_neg ‹_›, if_pos ‹_›]
    · exact absurd rfl h
theorem nxt_u32 (s : Nat) (b : List UInt8) : U32 (nxt s b).2.2.1 := by
  unfold nxt
  split
  · exact U32.zero
  · split
    · exact U32.zero
    · exact more_u32 _ _

/-- the length of a frame, read -/
theorem num_hd {k : UInt8} {d t : List UInt8} (h : d.length ≤ 1024) : (197 :: k :: (uvarint d.length ++ (d ++ t))).take 12 = 197 :: k :: (uvarint d.length ++ (d ++ t).take (10 - (uvarint d.length).length)) := by
  have hu := uv_two (n := d.length) (by omega)
  simp only [List.take_succ_cons, List.cons.injEq, true_and]
  rw [List.take_append, List.take_of_length_le (by omega)]
theorem dat_hd {k : UInt8} {d t : List UInt8} (h : d.length ≤ 1024) (ht : 4 ≤ t.length) : dat (hd k d ++ t) = (2 + (uvarint d.length).length, (hd k d).length, 0) := by
  have hu := uv_two (n := d.length) (by omega)
  have hU : U64 d.length := by unfold U64; omega
  have e0 : hd k d ++ t = 197 :: k :: (uvarint d.length ++ (d ++ t)) := by unfold hd; simp
  have e1 := num_hd (k := k) (t := t) h
  have e2 : num (hd k d ++ t) = (d.length, (d ++ t).take (10 - (uvarint d.length).length), 0) := by
    unfold num cnt
    rw [e0, e1]
    simp only [List.drop_succ_cons, List.drop_zero]
    rw [dec_uv0 hU, if_pos h]
  have e3 : (((hd k d ++ t).take 12).drop 2).length = (uvarint d.length).length + ((d ++ t).take (10 - (uvarint d.length).length)).length := by
    rw [e0, e1]; simp only [List.drop_succ_cons, List.drop_zero, List.length_append]
  have e4 : (hd k d ++ t).length = 2 + (uvarint d.length).length + d.length + t.length := by rw [List.length_append, hd_len]
  have e5 : (hd k d ++ t).getD 0 0 = 197 := by rw [e0]; rfl
  unfold dat
  rw [e2, e3, e4, e5, hd_len]
  rw [if_neg (by simp), if_neg (by omega), if_neg (by simp), if_neg (by simp only; omega)]
  simp only [Prod.mk.injEq, and_true]
  omega
/-- what is written is read, whatever is behind -/
theorem nxt_fb {k : UInt8} {d : List UInt8} (s : Nat) (t : List UInt8) (h : d.length ≤ 1024) : nxt s (fb s k d ++ t) = ((k, d), (fb s k d).length, fs s k d, 0) := by
  have e0 : fb s k d ++ t = hd k d ++ (le4 (fs s k d) ++ t) := by unfold fb; rw [List.append_assoc]
  have e1 := dat_hd (k := k) (t := le4 (fs s k d) ++ t) h (by simp [le4_len])
  unfold nxt
  rw [e0, e1]
  simp only [ne_eq, not_true_eq_false, if_false]
  rw [List.drop_left, List.take_left, List.take_left' (le4_len _)]
  rw [if_neg (by simp [fs]), fb_len]
  have e2 : (hd k d).drop (2 + (uvarint d.length).length) = d := by
    unfold hd
    rw [show 2 + (uvarint d.length).length = ([197, k] ++ uvarint d.length).length by simp; omega, ← List.append_assoc, List.drop_left]
  rw [e2]
  have e3 : (hd k d ++ (le4 (fs s k d) ++ t)).getD 1 0 = k := by unfold hd; rfl
  rw [e3]; rfl

/-! ### chains -/
def walk (b : List UInt8) : Nat → Nat → Nat → Nat × Nat
  | 0, at', s => (at', s)
  | f + 1, at', s => if (nxt s (b.drop at')).2.2.2 ≠ 0 then (at', s) else walk b f (at' + (nxt s (b.drop at')).2.1) (nxt s (b.drop at')).2.2.1
theorem walk_fuel (b : List UInt8) : ∀ (f g at' s : Nat), b.length - at' < f → b.length - at' < g → walk b f at' s = walk b g at' s
  | f + 1, g + 1, at', s, hf, hg => by
    unfold walk
    split
    · rfl
    · have h0 : (nxt s (b.drop at')).2.2.2 = 0 := Classical.byContradiction ‹_›
      have hl := nxt_len h0
      rw [List.length_drop] at hl
      exact walk_fuel b f g _ _ (by omega) (by omega)
/-- how far it goes on from a place, and the sum there -/
def good (b : List UInt8) (at' s : Nat) : Nat × Nat := walk b (b.length + 1) at' s
theorem good_end {b : List UInt8} {at' s : Nat} (h : (nxt s (b.drop at')).2.2.2 ≠ 0) : good b at' s = (at', s) := by
  unfold good walk; rw [if_pos h]
theorem good_go {b : List UInt8} {at' s : Nat} (h : (nxt s (b.drop at')).2.2.2 = 0) : good b at' s = good b (at' + (nxt s (b.drop at')).2.1) (nxt s (b.drop at')).2.2.1 := by
  have hl := nxt_len h
  rw [List.length_drop] at hl
  rw [good, walk, if_neg (by simp [h])]
  exact walk_fuel b _ _ _ _ (by omega) (by omega)
theorem nxt_nil (s : Nat) : (nxt s []).2.2.2 ≠ 0 := by unfold nxt dat; simp
theorem good_fb {p t : List UInt8} {k : UInt8} {d : List UInt8} (s : Nat) (h : d.length ≤ 1024) : good (p ++ (fb s k d ++ t)) p.length s = good (p ++ (fb s k d ++ t)) (p ++ fb s k d).length (fs s k d) := by
  have e := nxt_fb s t h (k := k)
  have e1 : (p ++ (fb s k d ++ t)).drop p.length = fb s k d ++ t := List.drop_left
  rw [good_go (by rw [e1, e]), e1, e, List.length_append]
theorem good_all (b : List UInt8) (s : Nat) : good b b.length s = (b.length, s) := good_end (by rw [List.drop_length]; exact nxt_nil s)
end Go.Proofs.YtjblkmjdepdekaaDoor.Fm

/- the document's Read of a number -/
namespace Go.Proofs.YtjblkmjdepdekaaDoor.Fm
open Go.RowKit Go.Lib Go.Proofs.YtjblkmjdepdekaaDoor.By Go.Proofs.YtjblkmjdepdekaaDoor.Oc

/-- sevens of bits, the lowest first -/
def val : List UInt8 → Nat
  | [] => 0
  | c :: t => c.toNat % 128 + 128 * val t
theorem val_snoc : ∀ (a : List UInt8) (c : UInt8), val (a ++ [c]) = val a + c.toNat % 128 * 128 ^ a.length
  | [], c => by simp [val]
  | d :: a, c => by
    show d.toNat % 128 + 128 * val (a ++ [c]) = d.toNat % 128 + 128 * val a + c.toNat % 128 * 128 ^ (a.length + 1)
    rw [val_snoc a c, Nat.pow_succ, Nat.mul_add, Nat.add_assoc]
    congr 2
    rw [← Nat.mul_assoc, Nat.mul_comm 128, Nat.mul_assoc, Nat.mul_comm 128]
theorem val_lt : ∀ l : List UInt8, val l < 128 ^ l.length
  | [] => by simp [val]
  | c :: t => by
    have := val_lt t
    show c.toNat % 128 + 128 * val t < 128 ^ (t.length + 1)
    rw [Nat.pow_succ]; omega
theorem val_drop (l : List UInt8) : ∀ i, val (l.drop i) ≤ val l := by
  intro i
  induction i generalizing l with
  | zero => simp
  | succ i ih =>
    cases l with
    | nil => simp [val]
    | cons c t =>
      have := ih t
      show val (t.drop i) ≤ c.toNat % 128 + 128 * val t
      omega
theorem val_at {l : List UInt8} {i : Nat} (h : i < l.length) : val (l.drop i) = (l.getD i 0).toNat % 128 + 128 * val (l.drop (i + 1)) := by
  rw [List.drop_eq_getElem_cons h]
  show l[i].toNat % 128 + 128 * val (l.drop (i + 1)) = _
  simp [List.getD, h]

/-- what the document's Read tells -/
def rdr (l : List UInt8) : Nat × Nat × Int := if (dec 0 0 l).2.2 = 0 then ((dec 0 0 l).1, l.length - (dec 0 0 l).2.1.length, 0) else (0, 0, (dec 0 0 l).2.2)

end Go.Proofs.YtjblkmjdepdekaaDoor.Fm

/- what the law's next tells is what Next tells: the plain part -/
namespace Go.Proofs.YtjblkmjdepdekaaDoor.Fm
open Go.RowKit Go.Lib Go.Proofs.YtjblkmjdepdekaaDoor.By Go.Proofs.YtjblkmjdepdekaaDoor.Oc Go.Proofs.YtjblkmjdepdekaaDoor.Cr

/-- what is read is in its shortest form -/
theorem dec_back : ∀ (l : List UInt8) (k X v : Nat) (r : List UInt8), dec k X l = (v, r, 0) → ∃ y, v = X + y * 128 ^ k ∧ l = uvarint y ++ r ∧ (0 < k → 0 < y)
  | [], k, X, v, r, h => by simp [dec] at h
  | c :: t, k, X, v, r, h => by
    have hc := c.toNat_lt
    by_cases hb : (k = 9 ∧ 1 < c.toNat) ∨ (0 < k ∧ c.toNat = 0)
    · rw [dec_bad hb] at h; simp at h
    · by_cases hl : c.toNat < 128
      · rw [dec_last hb hl] at h
        obtain ⟨h1, h2⟩ := Prod.mk.inj h
        obtain ⟨h2, _⟩ := Prod.mk.inj h2
        refine ⟨c.toNat, ?_, ?_, fun h0 => ?_⟩
        · rw [← h1, Nat.mod_eq_of_lt hl]
        · rw [uvarint_small hl, h2]
          have : c.toNat.toUInt8 = c := by simp [Nat.toUInt8]
          rw [this]; rfl
        · rcases Nat.eq_zero_or_pos c.toNat with h3 | h3
          · exact absurd (.inr ⟨h0, h3⟩) hb
          · exact h3
      · rw [dec_more hb hl] at h
        obtain ⟨y, h1, h2, h3⟩ := dec_back t (k + 1) _ v r h
        have hy := h3 (by omega)
        refine ⟨c.toNat % 128 + 128 * y, ?_, ?_, fun _ => by omega⟩
        · rw [h1, Nat.pow_succ, Nat.add_mul, Nat.add_assoc]
          congr 2
          rw [Nat.mul_comm (128 ^ k) 128, ← Nat.mul_assoc, Nat.mul_comm y 128]
        · rw [uvarint_big (by omega), h2]
          have e1 : (c.toNat % 128 + 128 * y) % 128 + 128 = c.toNat := by omega
          have e2 : (c.toNat % 128 + 128 * y) / 128 = y := by omega
          rw [e1, e2]
          have : c.toNat.toUInt8 = c := by simp [Nat.toUInt8]
          rw [this]; rfl
/-- ten bytes are enough -/
theorem dec_take : ∀ (l : List UInt8) (k X j : Nat), k + j = 10 → 0 < j → (dec k X (l.take j)).1 = (dec k X l).1 ∧ (dec k X (l.take j)).2.2 = (dec k X l).2.2 ∧ ((dec k X l).2.2 = 0 → (l.take j).length - (dec k X (l.take j)).2.1.length = l.length - (dec k X l).2.1.length)
  | [], k, X, j, _, _ => by simp
  | c :: t, k, X, 0, _, h0 => by omega
  | c :: t, k, X, j + 1, hj, _ => by
    rw [List.take_succ_cons]
    have hc := c.toNat_lt
    by_cases hb : (k = 9 ∧ 1 < c.toNat) ∨ (0 < k ∧ c.toNat = 0)
    · rw [dec_bad hb, dec_bad hb]; simp
    · by_cases hl : c.toNat < 128
      · rw [dec_last hb hl, dec_last hb hl]
        refine ⟨rfl, rfl, fun _ => ?_⟩
        simp only [List.length_cons]
        omega
      · rw [dec_more hb hl, dec_more hb hl]
        have hj0 : 0 < j := by omega
        obtain ⟨h1, h2, h3⟩ := dec_take t (k + 1) (X + c.toNat % 128 * 128 ^ k) j (by omega) hj0
        refine ⟨h1, h2, fun h => ?_⟩
        have := h3 h
        have l1 := dec_len t (k + 1) (X + c.toNat % 128 * 128 ^ k)
        have l2 := dec_len (t.take j) (k + 1) (X + c.toNat % 128 * 128 ^ k)
        simp only [List.length_cons]
        omega

/-- how the data begins and ends, by the document's Read -/
theorem dat_rdr {b : List UInt8} (h0 : ¬ (0 < b.length ∧ b.getD 0 0 ≠ 197)) (h2 : ¬ b.length < 2) :
    dat b = if (rdr (b.drop 2)).2.2 ≠ 0 then (0, 0, (rdr (b.drop 2)).2.2) else if 1024 < (rdr (b.drop 2)).1 then (0, 0, 15) else
      if b.length < 2 + (rdr (b.drop 2)).2.1 + (rdr (b.drop 2)).1 + 4 then (0, 0, 4) else (2 + (rdr (b.drop 2)).2.1, 2 + (rdr (b.drop 2)).2.1 + (rdr (b.drop 2)).1, 0) := by
  have e : (b.take 12).drop 2 = (b.drop 2).take 10 := by rw [List.drop_take]
  obtain ⟨t1, t2, t3⟩ := dec_take (b.drop 2) 0 0 10 rfl (by decide)
  have l1 := dec_len (b.drop 2) 0 0
  have l2 := dec_len ((b.drop 2).take 10) 0 0
  have lb : (b.drop 2).length = b.length - 2 := List.length_drop
  unfold dat num cnt rdr
  rw [if_neg h0, if_neg h2, e]
  obtain ⟨D, hD⟩ : ∃ D, D = dec 0 0 (b.drop 2) := ⟨_, rfl⟩
  obtain ⟨T, hT⟩ : ∃ T, T = dec 0 0 ((b.drop 2).take 10) := ⟨_, rfl⟩
  have hz := dec_zero ((b.drop 2).take 10) 0 0
  rw [← hD] at t1 t2 t3 l1 ⊢
  rw [← hT] at t1 t2 t3 l2 hz ⊢
  obtain ⟨D1, D2, D3⟩ := D
  obtain ⟨T1, T2, T3⟩ := T
  simp only at t1 t2 t3 l1 l2 hz ⊢
  subst t1 t2
  by_cases hd : T3 = 0
  · subst hd
    have t3 := t3 rfl
    by_cases hx : T1 ≤ 1024
    · rw [if_pos hx]
      simp only [ne_eq, not_true_eq_false, if_false, if_true]
      rw [if_neg (show ¬ 1024 < T1 by omega)]
      have e2 : 2 + ((b.drop 2).take 10).length - T2.length = 2 + ((b.drop 2).length - D2.length) := by omega
      rw [e2]
      by_cases hs : b.length < 2 + ((b.drop 2).length - D2.length) + T1 + 4
      · rw [if_pos hs, if_pos (by omega)]
      · rw [if_neg hs, if_neg (by omega)]
    · rw [if_neg hx]
      simp only [ne_eq, not_true_eq_false, if_false, if_true]
      rw [if_pos (show 1024 < T1 by omega)]
      simp
  · have hx := (hz hd).1
    subst hx
    simp [hd]

/-- the bytes up to the sum are a frame's -/
theorem take_hd {b : List UInt8} (h : (dat b).2.2 = 0) : b.take (dat b).2.1 = hd (b.getD 1 0) ((b.take (dat b).2.1).drop (dat b).1) := by
  have hok := dat_ok h
  by_cases h0 : 0 < b.length ∧ b.getD 0 0 ≠ 197
  · unfold dat at h; rw [if_pos h0] at h; simp at h
  · by_cases h2 : b.length < 2
    · omega
    · have hd1 := dat_rdr h0 h2
      rw [hd1] at h hok ⊢
      by_cases hr : (rdr (b.drop 2)).2.2 = 0
      · rw [if_neg (by simp [hr])] at h hok ⊢
        by_cases hx : 1024 < (rdr (b.drop 2)).1
        · rw [if_pos hx] at h; simp at h
        · rw [if_neg hx] at h hok ⊢
          by_cases hs : b.length < 2 + (rdr (b.drop 2)).2.1 + (rdr (b.drop 2)).1 + 4
          · rw [if_pos hs] at h; simp at h
          · rw [if_neg hs]
            simp only
            have hdz : (dec 0 0 (b.drop 2)).2.2 = 0 := by
              unfold rdr at hr; split at hr
              · assumption
              · exact hr
            have er : rdr (b.drop 2) = ((dec 0 0 (b.drop 2)).1, (b.drop 2).length - (dec 0 0 (b.drop 2)).2.1.length, 0) := by unfold rdr; rw [if_pos hdz]
            obtain ⟨y, h1, h3, _⟩ := dec_back (b.drop 2) 0 0 (dec 0 0 (b.drop 2)).1 (dec 0 0 (b.drop 2)).2.1 (by rw [← hdz])
            rw [Nat.pow_zero, Nat.mul_one, Nat.zero_add] at h1
            rw [er] at hs ⊢
            simp only at hs ⊢
            obtain ⟨v, hv⟩ : ∃ v, v = (dec 0 0 (b.drop 2)).1 := ⟨_, rfl⟩
            obtain ⟨r, hrr⟩ : ∃ r, r = (dec 0 0 (b.drop 2)).2.1 := ⟨_, rfl⟩
            rw [← hv] at h1 hs ⊢
            rw [← hrr] at h3 hs ⊢
            subst h1
            have hlen : (b.drop 2).length - r.length = (uvarint v).length := by rw [h3, List.length_append]; omega
            rw [hlen] at hs ⊢
            have hb : b = [197, b.getD 1 0] ++ (uvarint v ++ r) := by
              rw [← h3]
              match b, h2 with
              | [], h2 => simp at h2
              | [_], h2 => simp at h2
              | c0 :: c1 :: t, _ =>
                have : c0 = 197 := Classical.byContradiction fun hc => h0 ⟨by simp, hc⟩
                subst this; rfl
            have hrl : v + 4 ≤ r.length := by
              have := congrArg List.length hb
              simp only [List.length_append, List.length_cons, List.length_nil] at this
              omega
            have hk : b.getD 1 0 = b.getD 1 0 := rfl
            obtain ⟨kk, hkk⟩ : ∃ kk, kk = b.getD 1 0 := ⟨_, rfl⟩
            rw [← hkk] at hb ⊢
            have hT : b.take (2 + (uvarint v).length + v) = [197, kk] ++ (uvarint v ++ r.take v) := by
              rw [hb]
              have e1 : 2 + (uvarint v).length + v = ([197, kk] ++ uvarint v).length + v := by simp; omega
              rw [← List.append_assoc, e1, List.take_append, List.take_of_length_le (by omega), Nat.add_sub_cancel_left, List.append_assoc]
            have hD : (b.take (2 + (uvarint v).length + v)).drop (2 + (uvarint v).length) = r.take v := by
              rw [hT, ← List.append_assoc]
              exact List.drop_left' (by simp; omega)
            rw [hD, hT]
            unfold hd
            rw [List.length_take, Nat.min_eq_left (by omega)]
      · rw [if_pos (by simpa using hr)] at h
        exact absurd h hr
/-- what is held against the bytes -/
theorem nxt_fbq {s : Nat} {b : List UInt8} (h : (dat b).2.2 = 0) : (fb s (b.getD 1 0) ((b.take (dat b).2.1).drop (dat b).1)).length = (dat b).2.1 + 4 ∧ fs s (b.getD 1 0) ((b.take (dat b).2.1).drop (dat b).1) = more s (b.take (dat b).2.1) ∧
    (fb s (b.getD 1 0) ((b.take (dat b).2.1).drop (dat b).1) = b.take ((dat b).2.1 + 4) ↔ (b.drop (dat b).2.1).take 4 = le4 (more s (b.take (dat b).2.1))) := by
  have hok := dat_ok h
  have ht := take_hd h
  have e1 : fs s (b.getD 1 0) ((b.take (dat b).2.1).drop (dat b).1) = more s (b.take (dat b).2.1) := by unfold fs; rw [← ht]
  have hl : (b.take (dat b).2.1).length = (dat b).2.1 := by rw [List.length_take]; omega
  refine ⟨by rw [fb_len, ← ht, hl], e1, ?_⟩
  have e2 : fb s (b.getD 1 0) ((b.take (dat b).2.1).drop (dat b).1) = b.take (dat b).2.1 ++ le4 (more s (b.take (dat b).2.1)) := by unfold fb; rw [e1, ← ht]
  have e3 : b.take ((dat b).2.1 + 4) = b.take (dat b).2.1 ++ (b.drop (dat b).2.1).take 4 := by rw [List.take_add]
  rw [e2, e3, List.append_cancel_left_eq]
  exact ⟨fun h => h.symm, fun h => h.symm⟩
end Go.Proofs.YtjblkmjdepdekaaDoor.Fm

/- the sum's contract: More alone -/
namespace Go.Proofs.YtjblkmjdepdekaaDoor.Cr
open Go.RowKit Go.Lib Go.Proofs.YtjblkmjdepdekaaDoor.By

/-- the table lies where it was laid -/
def Nibs (w : World) : Prop := ∀ i, i < 16 → w.cell? ⟨0, i, none⟩ = some (.int .u32 (nib i : Nat))
theorem Nibs.old {w w' : World} (h : Nibs w) (hb : Below w.heap.size w w') : Nibs w' := fun i hi => (hb.cell (World.block_lt_of_cell? w _ (h i hi))).trans (h i hi)

theorem xor32 {a b : Nat} (ha : U32 a) (hb : U32 b) : bits .xor .u32 (a : Int) (b : Int) = ((a ^^^ b : Nat) : Int) := u32_xor_nat a b ha hb
theorem and15 {a : Nat} (ha : U32 a) : bits .and .u32 (a : Int) 15 = ((a % 16 : Nat) : Int) := by
  have h := u32_and_nat a 15 ha (by decide)
  rw [show a &&& 15 = a % 16 from Nat.and_two_pow_sub_one_eq_mod a 4] at h
  exact h
theorem not32 {a : Nat} (ha : U32 a) : bits .xor .u32 IntKind.u32.max (a : Int) = ((tn a : Nat) : Int) := by
  have h := u32_xor_nat 4294967295 a (by decide) ha
  rw [← tn_xor ha] at h
  exact h
theorem ret_int {k : IntKind} {a b : Int} (h : a = b) : Ending.returned (.int k a) = .returned (.int k b) := by rw [h]
theorem take_snoc {l : List UInt8} {k : Nat} (h : k < l.length) : l.take (k + 1) = l.take k ++ [l[k]] := by rw [List.take_succ_eq_append_getElem h]
theorem run_take {l : List UInt8} {k : Nat} (s : Nat) (h : k < l.length) : run s (l.take (k + 1)) = upd (run s (l.take k)) l[k] := by rw [take_snoc h, run_snoc]

set_option maxHeartbeats 1000000 in
theorem more_any (s : Nat) (a : Option Addr) (len cap : Nat) (l : List UInt8) (w : World) (hs : U32 s) (hl : IsB w a len cap l) (hn : Nibs w) :
    Calls Tryd.prog 50 #[.int .u32 s, .slice a len cap] w fun e w' => e = .returned (.int .u32 (more s l : Nat)) ∧ w = w' := by
  have hm := hl.le
  unfold maxLen at hm
  obtain rfl : l.length = len := hl.1
  have HL := Lib.hid hl
  have HN := Lib.hid hn
  have e0 := not32 hs
  have hts := tn_u32 s
  obtain ⟨t, ht⟩ : ∃ t, t = tn s := ⟨_, rfl⟩
  have HM : Hid (more s l = tn (run t l)) := by subst ht; exact rfl
  rw [← ht] at e0 hts
  have HT := Lib.hid hts
  clear hl hn ht hs hts
  go_enter Tryd.func50, Tryd.ntmps50
  go_wp2
  clear e0
  go_loop [0, 11] (fun u i => ∃ k r : Nat, k ≤ l.length ∧ i = .int .i64 k ∧ u = .int .u32 r ∧ U32 r ∧ r = run t (l.take k)) (fun _ i => l.length - (intOf i).toNat)
  case atStart => exact ⟨0, t, by omega, rfl, rfl, HT.out, rfl⟩
  case round =>
    obtain ⟨k, r, hk, rfl, rfl, hr, he⟩ := hrel
    by_cases hlt : k < l.length
    · obtain ⟨x, hx, hc⟩ := HL.out.at hlt
      subst hx
      have hstep := run_take t hlt
      rw [← he] at hstep
      obtain ⟨c, hcc⟩ : ∃ c, c = l[k] := ⟨_, rfl⟩
      rw [← hcc] at hc hstep
      have hb := c.toNat_lt
      have hcu : U32 c.toNat := U32.byte c
      have h1 := xor32 hr hcu
      have u1 := hr.xor hcu
      obtain ⟨r1, hr1⟩ : ∃ r1, r1 = r ^^^ c.toNat := ⟨_, rfl⟩
      rw [← hr1] at h1 u1
      have h2 := and15 u1
      have h3 : bits .xor .u32 ((r1 : Int) / 16) ((nib (r1 % 16) : Nat) : Int) = (((r1 / 16) ^^^ nib (r1 % 16) : Nat) : Int) := xor32 (u1.div 16) (nib_u32 _)
      rw [← four] at h3
      have n1 := HN.out (r1 % 16) (by omega)
      have u2 := u1.it 4
      obtain ⟨r2, hr2⟩ : ∃ r2, r2 = it 4 r1 := ⟨_, rfl⟩
      rw [← hr2] at h3 u2
      have h4 := and15 u2
      have h5 : bits .xor .u32 ((r2 : Int) / 16) ((nib (r2 % 16) : Nat) : Int) = (((r2 / 16) ^^^ nib (r2 % 16) : Nat) : Int) := xor32 (u2.div 16) (nib_u32 _)
      rw [← four] at h5
      have n2 := HN.out (r2 % 16) (by omega)
      have u3 := u2.it 4
      obtain ⟨r3, hr3⟩ : ∃ r3, r3 = it 4 r2 := ⟨_, rfl⟩
      rw [← hr3] at h5 u3
      have HE : Hid (r3 = run t (l.take (k + 1))) := by rw [hstep, upd_four, ← hr1, ← hr2, ← hr3]; exact rfl
      have HU := Lib.hid u3
      clear he hstep hcc hr hcu u1 u2 u3 hr1 hr2 hr3
      go_wp2
      go_round
      case rel => exact ⟨k + 1, r3, by omega, by go_num, rfl, HU.out, HE.out⟩
      case measure => simp [intOf]; omega
    · obtain rfl : k = l.length := by omega
      have h6 := not32 hr
      have HE : Hid (tn r = more s l) := by rw [HM.out, he, List.take_length]; exact rfl
      have HR : Hid (U32 r) := hr
      clear he hr
      go_wp2
      go_ret
      exact ⟨ret_int (by rw [HE.out]), rfl⟩

theorem isB_nil (w : World) : IsB w none 0 0 [] := ⟨rfl, .inl ⟨rfl, rfl, rfl⟩⟩
end Go.Proofs.YtjblkmjdepdekaaDoor.Cr

/- frames: the contracts of low, Bytes, the law's bytes, same -/
namespace Go.Proofs.YtjblkmjdepdekaaDoor.Fm
open Go.RowKit Go.Lib Go.Proofs.YtjblkmjdepdekaaDoor.By Go.Proofs.YtjblkmjdepdekaaDoor.Oc Go.Proofs.YtjblkmjdepdekaaDoor.Cr

set_option maxHeartbeats 1000000 in
theorem low_any (s : Nat) (w : World) (hs : U32 s) :
    Calls Tryd.prog 51 #[.int .u32 s] w fun e w' => e = .returned (.agg #[.int .u8 (((s : Nat) : Int) % 256), .int .u8 (((s : Nat) : Int) / 256 % 256), .int .u8 (((s : Nat) : Int) / 65536 % 256), .int .u8 (((s : Nat) : Int) / 16777216 % 256)]) ∧ Below w.heap.size w w' := by
  unfold U32 at hs
  go_enter Tryd.func51, Tryd.ntmps51
  go_wp2
  (try simp only [Exit.inBlock, Exit.then])
  refine bodyPost_ret (v := .agg #[.int .u8 (((s : Nat) : Int) % 256), .int .u8 (((s : Nat) : Int) / 256 % 256), .int .u8 (((s : Nat) : Int) / 65536 % 256), .int .u8 (((s : Nat) : Int) / 16777216 % 256)]) ?_ rfl ⟨rfl, ?_⟩
  · rw [results_cell1 rfl]
    go_simp
    omega
  · (repeat' (first | exact Below.refl _ _ | refine Below.setCell ?_ (by simp <;> omega) _ | refine Below.alloc ?_ (by simp <;> omega) _))

/-- a record's value -/
def recV (k : UInt8) (a : Option Addr) (len cap : Nat) : Value := .agg #[.int .u8 (k.toNat : Nat), .slice a len cap]

set_option maxHeartbeats 1000000 in
theorem frBytes_long (s : Nat) (k : UInt8) (a : Option Addr) (len cap : Nat) (w : World) (hl : 1024 < len) :
    Calls Tryd.prog 32 #[.int .u32 s, .agg #[.int .u8 (k.toNat : Nat), .slice a len cap]] w fun e w' => e = .returned (.tuple #[.slice none 0 0, .int .u32 0, .int .i64 15]) ∧ Below w.heap.size w w' := by
  go_enter Tryd.func32, Tryd.ntmps32
  go_wp2
  go_ret3
  exact ⟨rfl, (Below.refl _ _).alloc (Nat.le_refl _) _⟩

theorem isB_two (w : World) (c k : UInt8) : IsB (w.alloc (.cells #[.int .u8 (c.toNat : Nat), .int .u8 (k.toNat : Nat)] 5)) (some ⟨w.heap.size, 0, none⟩) 2 2 [c, k] :=
  ⟨rfl, .inr ⟨_, rfl, by simp, by simp [maxLen], fun j u hu => by
    match j, hu with
    | 0, hu | 1, hu => simp [byteCells] at hu; subst hu; simp [Addr.add]⟩⟩
theorem isB_four (w : World) (s : Nat) : IsB (w.alloc (.cells #[.int .u8 (((s : Nat) : Int) % 256), .int .u8 (((s : Nat) : Int) / 256 % 256), .int .u8 (((s : Nat) : Int) / 65536 % 256), .int .u8 (((s : Nat) : Int) / 16777216 % 256)] 98)) (some ⟨w.heap.size, 0, none⟩) 4 4 (le4 s) :=
  ⟨rfl, .inr ⟨_, rfl, by simp, by simp [maxLen], fun j u hu => by
    match j, hu with
    | 0, hu | 1, hu | 2, hu | 3, hu => simp [byteCells, le4] at hu; subst hu; simp [Addr.add]⟩⟩

set_option maxRecDepth 20000 in
set_option maxHeartbeats 2000000 in
theorem frBytes_ok (s : Nat) (k : UInt8) (a : Option Addr) (len cap : Nat) (d : List UInt8) (w : World) (hs : U32 s) (hd0 : IsB w a len cap d) (hl : len ≤ 1024) (hn : Nibs w) :
    Calls Tryd.prog 32 #[.int .u32 s, .agg #[.int .u8 (k.toNat : Nat), .slice a len cap]] w fun e w' => ∃ ao cp, e = .returned (.tuple #[.slice ao (fb s k d).length cp, .int .u32 (fs s k d : Nat), .int .i64 0]) ∧ w'.ownsRow w.heap.size 5 1 (.slice ao (fb s k d).length cp) (fb s k d).length (byteCells (fb s k d)) ∧ Below w.heap.size w w' := by
  obtain rfl : d.length = len := hd0.1
  have HD := Lib.hid hd0
  have HS := Lib.hid hs
  have HN := Lib.hid hn
  have hk := k.toNat_lt
  clear hd0 hs hn
  go_enter Tryd.func32, Tryd.ntmps32
  go_wp2_with fail
  obtain ⟨W0, hW0⟩ : ∃ W0, W0 = ((w.alloc (.cells #[.int .u8 (k.toNat : Nat), .slice a d.length cap] 34)).alloc (.cells #[.slice none 0 0] 93)).alloc (.cells #[.int .u8 197, .int .u8 (k.toNat : Nat)] 5) := ⟨_, rfl⟩
  have hx : W0.heap[w.heap.size]? = some (.cells #[.int .u8 (k.toNat : Nat), .slice a d.length cap] 34 (0, 0)) := by
    rw [hW0]
    exact heap_old ((Below.refl _ _).alloc (Nat.le_refl _) _) (heap_old ((Below.refl _ _).alloc (Nat.le_refl _) _) (heap_alloc_new w _))
  have hw0 : Wr (w.heap.size + 2) W0 (w.heap.size + 1) [] := by
    rw [hW0]
    refine wr_nil (heap_old ((Below.refl _ _).alloc (Nat.le_refl _) _) ?_)
    have := heap_alloc_new (w.alloc (.cells #[.int .u8 (k.toNat : Nat), .slice a d.length cap] 34)) (.cells #[.slice none 0 0] 93)
    simpa using this
  have hib : IsB W0 (some ⟨w.heap.size + 1 + 1, 0, none⟩) 2 2 [197, k] := by
    have := isB_two ((w.alloc (.cells #[.int .u8 (k.toNat : Nat), .slice a d.length cap] 34)).alloc (.cells #[.slice none 0 0] 93)) 197 k
    rw [hW0]; simpa using this
  have hb0 : Below w.heap.size w W0 := by
    rw [hW0]; exact (((Below.refl _ _).alloc (Nat.le_refl _) _).alloc (by simp) _).alloc (by simp; omega) _
  have hz0 : W0.heap.size = w.heap.size + 3 := by rw [hW0]; simp
  rw [← hW0]
  clear hW0
  refine (raw_any (w.heap.size + 2) (w.heap.size + 1) _ 2 2 [197, k] [] W0 (by omega) (by omega) hw0 hib (by simp)).mono ?_
  rintro e W1 ⟨rfl, hw1, hf1⟩
  have hb1 : Below w.heap.size w W1 := hb0.trans (hf1.below (by omega) (by omega))
  have hx1 : W1.heap[w.heap.size]? = some (.cells #[.int .u8 (k.toNat : Nat), .slice a d.length cap] 34 (0, 0)) := (hf1.block _ (by omega) (by omega)).trans hx
  have hz1 : w.heap.size + 3 ≤ W1.heap.size := by have := hf1.size; omega
  obtain ⟨⟨c0, c1⟩, _⟩ := two_cells hx1
  have H1 := Lib.hid (And.intro hw1 (And.intro hb1 hx1))
  clear hx hw0 hib hb0 hz0 hw1 hf1 hb1 hx1
  go_wp2_with fail
  have hU : U64 d.length := by unfold U64; omega
  have hul := uv_two (n := d.length) (by omega)
  refine (num_any (w.heap.size + 2) (w.heap.size + 1) d.length _ W1 hU (by omega) (by omega) H1.out.1 (by simp)).mono ?_
  rintro e W2 ⟨rfl, hw2, hf2⟩
  have hb2 : Below w.heap.size w W2 := H1.out.2.1.trans (hf2.below (by omega) (by omega))
  have hx2 : W2.heap[w.heap.size]? = some (.cells #[.int .u8 (k.toNat : Nat), .slice a d.length cap] 34 (0, 0)) := (hf2.block _ (by omega) (by omega)).trans H1.out.2.2
  have hz2 : w.heap.size + 3 ≤ W2.heap.size := by have := hf2.size; omega
  obtain ⟨⟨c0, c1⟩, _⟩ := two_cells hx2
  have H2 := Lib.hid (And.intro hw2 (And.intro hb2 hx2))
  clear hw2 hf2 hb2 hx2 H1 hz1
  go_wp2_with fail
  refine (raw_any (w.heap.size + 2) (w.heap.size + 1) a d.length cap d _ W2 (by omega) (by omega) H2.out.1 (HD.out.old H2.out.2.1) (by simp; omega)).mono ?_
  rintro e W3 ⟨rfl, hw3, hf3⟩
  have hb3 : Below w.heap.size w W3 := H2.out.2.1.trans (hf3.below (by omega) (by omega))
  have hz3 : w.heap.size + 3 ≤ W3.heap.size := by have := hf3.size; omega
  have he3 : [] ++ [197, k] ++ uvarint d.length ++ d = hd k d := by unfold hd; simp
  rw [he3] at hw3
  have hhl : (hd k d).length ≤ 1100 := by rw [hd_len]; omega
  have H3 := Lib.hid (And.intro hw3 hb3)
  clear hw3 hf3 hb3 H2 hz2 he3
  go_wp2_with fail
  refine (bytes_any _ _ (hd k d) W3 H3.out.1 (by omega)).mono ?_
  rintro e W4 ⟨v4, rfl, hown4, hb4⟩
  obtain ⟨a4, c4, rfl, hib4⟩ := isB_own hown4
  have hb4' : Below w.heap.size w W4 := H3.out.2.trans (hb4.mono (by omega))
  have hz4 : W3.heap.size ≤ W4.heap.size := hb4.size
  have H4 := Lib.hid (And.intro hown4 (And.intro hib4 hb4'))
  clear hown4 hib4 hb4 hb4' H3
  go_wp2_with fail
  refine (more_any s a4 (hd k d).length c4 (hd k d) W4 HS.out H4.out.2.1 (HN.out.old H4.out.2.2)).mono ?_
  rintro e W4' ⟨rfl, rfl⟩
  go_wp2_with fail
  refine (low_any (more s (hd k d)) W4 (more_u32 _ _)).mono ?_
  rintro e W5 ⟨rfl, hb5⟩
  have hb5' : Below w.heap.size w W5 := H4.out.2.2.trans (hb5.mono (by omega))
  have hown5 := own_below H4.out.1 hb5 (Nat.le_refl _)
  have hz5 : W4.heap.size ≤ W5.heap.size := hb5.size
  have hib5 := isB_four W5 (more s (hd k d))
  have hb6 : Below w.heap.size w (W5.alloc (.cells #[.int .u8 (((more s (hd k d) : Nat) : Int) % 256), .int .u8 (((more s (hd k d) : Nat) : Int) / 256 % 256), .int .u8 (((more s (hd k d) : Nat) : Int) / 65536 % 256), .int .u8 (((more s (hd k d) : Nat) : Int) / 16777216 % 256)] 98)) := hb5'.alloc (by omega) _
  have hown6 := hown5.alloc (.cells #[.int .u8 (((more s (hd k d) : Nat) : Int) % 256), .int .u8 (((more s (hd k d) : Nat) : Int) / 256 % 256), .int .u8 (((more s (hd k d) : Nat) : Int) / 65536 % 256), .int .u8 (((more s (hd k d) : Nat) : Int) / 16777216 % 256)] 98)
  have H6 := Lib.hid (And.intro hown6 (And.intro hib5 hb6))
  clear hb5 hb5' hown5 hib5 hb6 hown6 H4
  go_wp2_with (at_builtin; refine wpList_append_bytes rfl _ _ rfl W3.heap.size _ (hd k d).length (hd k d) rfl H6.out.1 (some ⟨W5.heap.size, 0, none⟩) 4 4 (le4 (more s (hd k d))) rfl H6.out.2.1 ?c1 ?c2 ?_)
  case c1 => omega
  case c2 => simp; omega
  · intro ao cp w7 hown7 hg7
    have hb7 : Below w.heap.size w w7 := H6.out.2.2.grown hg7 (by simp; omega) (fun k hk => by have := (H6.out.1.lt k hk).1; omega)
    have e7 : (fb s k d).length = (hd k d).length + 4 := fb_len s k d
    have hown7' := Joins.ownsRow_le hown7 (show w.heap.size ≤ W3.heap.size by omega)
    have H7 := Lib.hid (And.intro hown7' hb7)
    clear hown7 hown7' hg7 hb7 H6
    go_wp2_with fail
    go_ret3
    rw [e7]
    exact ⟨_, _, rfl, H7.out⟩
end Go.Proofs.YtjblkmjdepdekaaDoor.Fm

/- frames: the contracts of the law's bytes, Size, same -/
namespace Go.Proofs.YtjblkmjdepdekaaDoor.Fm
open Go.RowKit Go.Lib Go.Proofs.YtjblkmjdepdekaaDoor.By Go.Proofs.YtjblkmjdepdekaaDoor.Oc Go.Proofs.YtjblkmjdepdekaaDoor.Cr

/-- 'append(own, text...)' at a step of a region that draws -/
theorem step_append_str {w : World} {ops : Array Oper} {o : Oper} {a : Act} {K : Act → World → Prop} {Q : Exit → Act → World → Prop} {E : Prop} (hgd : o.guard = none) (sl x : Operand)
    (ho : o.op = .call { callee := .builtin .append, args := #[sl, x], argTypes := #[32, 9] })
    (base : Nat) (v : Value) (n : Nat) (bs : List UInt8) (hs : a.eval sl = v) (hown : w.ownsRow base 5 1 v n (byteCells bs)) (l : List UInt8) (hx : a.eval x = .string ⟨l.toArray⟩)
    (hb : n + l.length ≤ 1000000000000) (hbase : base ≤ w.heap.size)
    (h : ∀ ao cp w', w'.ownsRow base 5 1 (.slice ao (n + l.length) cp) (n + l.length) (byteCells (bs ++ l)) → Below base w w' → K (a.put o.dst (.slice ao (n + l.length) cp)) w') :
    if Region.wanted o (yielded ops a.tmps) = true then Oper.wp Tryd.prog o a w K Q else E := by
  have hw : Region.wanted o (yielded ops a.tmps) = true := by simp [Region.wanted, hgd]
  rw [if_pos hw]
  obtain ⟨i0, hi, hz0, hz1, hz2⟩ := info_parts info5
  have hsz : (⟨l.toArray⟩ : ByteArray).size = l.length := bytes_size l
  obtain ⟨v', w', hr, h2, h3, h4⟩ := run_append_own_string (P := Tryd.prog) w base 32 9 o.type 5 i0 Tryd.underlying32 Tryd.underlying9 hi hz0 hz1 hz2 v n _ hown ⟨l.toArray⟩ (by rw [hsz]; unfold maxLen; omega) (by rw [hsz]; omega) hbase
  rw [hsz] at h2
  obtain ⟨ao, cp, rfl⟩ := own_shape h2
  unfold Oper.wp execOp
  simp only [ho, resolve, invoke, builtin, Sem.run_bind, Sem.run_pure, Result.andThen_ok, List.map_toArray, List.map_cons, List.map_nil, hs, hx, hr]
  refine h ao cp w' ?_ ((Below.refl base w).grown h3 hbase fun k hk => (hown.lt k hk).1)
  rw [byteCells_append]; exact h2

theorem text_l (d : List UInt8) : textB ⟨d.toArray⟩ = uvarint d.length ++ d := by
  unfold textB; rw [bytes_size]
theorem own_two (w : World) (k : UInt8) {B : Nat} (hB : B ≤ w.heap.size) : (w.alloc (.cells #[.int .u8 197, .int .u8 (k.toNat : Nat)] 5)).ownsRow B 5 1 (.slice (some ⟨w.heap.size, 0, none⟩) 2 2) 2 (byteCells [197, k]) :=
  World.ownsRow_lit w #[.int .u8 197, .int .u8 (k.toNat : Nat)] 2 hB (by simp [maxLen]) rfl

theorem isB_four8 (w : World) (s : Nat) (hs : U32 s) : IsB (w.alloc (.cells #[.int .u8 (((s : Nat) : Int) % 256), .int .u8 (((s : Nat) : Int) / 256 % 256), .int .u8 (((s : Nat) : Int) / 65536 % 256), .int .u8 (((s : Nat) : Int) / 16777216)] 5)) (some ⟨w.heap.size, 0, none⟩) 4 4 (le4 s) :=
  ⟨rfl, .inr ⟨_, rfl, by simp, by simp [maxLen], fun j u hu => by
    have h3 : s / 16777216 < 256 := by unfold U32 at hs; omega
    match j, hu with
    | 0, hu | 1, hu | 2, hu => simp [byteCells, le4] at hu; subst hu; simp [Addr.add]
    | 3, hu => simp [byteCells, le4] at hu; subst hu; simp [Addr.add]; omega⟩⟩

end Go.Proofs.YtjblkmjdepdekaaDoor.Fm

/- frames: the contracts of Size, same, data, Next -/
namespace Go.Proofs.YtjblkmjdepdekaaDoor.Fm
open Go.RowKit Go.Lib Go.Proofs.YtjblkmjdepdekaaDoor.By Go.Proofs.YtjblkmjdepdekaaDoor.Oc Go.Proofs.YtjblkmjdepdekaaDoor.Cr

set_option maxHeartbeats 1000000 in
theorem size_any (k : UInt8) (a : Option Addr) (len cap : Nat) (d : List UInt8) (w : World) (hd0 : IsB w a len cap d) (hl : len ≤ 1024) (hn : Nibs w) :
    Calls Tryd.prog 27 #[.agg #[.int .u8 (k.toNat : Nat), .slice a len cap]] w fun e w' => e = .returned (.int .i64 ((fb 0 k d).length : Nat)) ∧ Below w.heap.size w w' := by
  have hb0 : Below w.heap.size w (w.alloc (.cells #[.int .u8 (k.toNat : Nat), .slice a len cap] 34)) := (Below.refl _ _).alloc (Nat.le_refl _) _
  have H := Lib.hid (frBytes_ok 0 k a len cap d (w.alloc (.cells #[.int .u8 (k.toNat : Nat), .slice a len cap] 34)) U32.zero (hd0.old hb0) hl (hn.old hb0))
  clear hn hd0
  go_enter Tryd.func27, Tryd.ntmps27
  go_wp2_with fail
  refine H.out.mono ?_
  rintro e w' ⟨ao, cp, rfl, _, hb⟩
  have HB := Lib.hid (hb0.trans (hb.mono (by simp)))
  clear hb hb0 H
  go_wp2
  go_ret
  exact ⟨rfl, HB.out⟩

/-- where a slice that isn't empty lies -/
theorem isB_spot {w : World} {a : Option Addr} {len cap : Nat} {l : List UInt8} (h : IsB w a len cap l) (h0 : 0 < l.length) : ∃ g o, a = some ⟨g, o, none⟩ := by
  obtain ⟨x, rfl, hc⟩ := h.at h0
  obtain ⟨g, o, sp⟩ := x
  have : sp = none := by simpa [Addr.add] using World.cell?_spot hc
  subst this
  exact ⟨g, o, rfl⟩
/-- a piece of it -/
theorem IsB.sub {w : World} {g o len cap i j : Nat} {l : List UInt8} (h : IsB w (some ⟨g, o, none⟩) len cap l) (hi : i ≤ j) (hj : j ≤ len) : IsB w (some ⟨g, o + i, none⟩) (j - i) (cap - i) ((l.take j).drop i) := by
  obtain ⟨h1, ⟨h2, _⟩ | ⟨x, h2, h3, h4, h5⟩⟩ := h
  · cases h2
  · obtain rfl := Option.some.inj h2
    refine ⟨by simp; omega, .inr ⟨_, rfl, by omega, by omega, fun k u hu => ?_⟩⟩
    have hk : (byteCells l)[i + k]? = some u := by
      simp only [byteCells, List.map_drop, List.map_take, List.getElem?_drop, List.getElem?_take] at hu
      split at hu
      · exact hu
      · cases hu
    have := h5 _ u hk
    rw [add_lit'] at this ⊢
    rwa [← Nat.add_assoc] at this
theorem IsB.sub0 {w : World} {g o len cap j : Nat} {l : List UInt8} (h : IsB w (some ⟨g, o, none⟩) len cap l) (hj : j ≤ len) : IsB w (some ⟨g, o, none⟩) 0 0 ((l.take j).drop cap) := by
  obtain ⟨h1, ⟨h2, _⟩ | ⟨x, h2, h3, h4, h5⟩⟩ := h
  · cases h2
  · have e : (l.take j).drop cap = [] := by rw [List.drop_eq_nil_iff]; simp; omega
    rw [e]
    exact ⟨rfl, .inr ⟨_, rfl, by omega, by omega, fun k u hu => by simp [byteCells] at hu⟩⟩

theorem ret_data {a b c d e : Int} (h1 : a = c) (h2 : b = d) : Ending.returned (.tuple #[.int .i64 a, .int .i64 b, .int .i64 e]) = .returned (.tuple #[.int .i64 c, .int .i64 d, .int .i64 e]) := by rw [h1, h2]
set_option maxHeartbeats 2000000 in
theorem data_any (a : Option Addr) (len cap : Nat) (b : List UInt8) (w : World) (hb : IsB w a len cap b) :
    Calls Tryd.prog 64 #[.slice a len cap] w fun e w' => e = .returned (.tuple #[.int .i64 ((dat b).1 : Nat), .int .i64 ((dat b).2.1 : Nat), .int .i64 (dat b).2.2]) ∧ Below w.heap.size w w' := by
  obtain rfl : b.length = len := hb.1
  have hm := hb.le
  unfold maxLen at hm
  by_cases h0 : b.length = 0
  · have hD : dat b = (0, 0, 4) := by unfold dat; rw [if_neg (by omega), if_pos (by omega)]
    rw [hD]
    go_enter Tryd.func64, Tryd.ntmps64
    go_wp2
    go_ret3
    exact ⟨rfl, Below.refl _ _⟩
  · obtain ⟨g, o, rfl⟩ := isB_spot hb (by omega)
    have hc0 : w.cell? ⟨g, o, none⟩ = some (.int .u8 ((b.getD 0 0).toNat : Nat)) := by
      obtain ⟨x, hx, hc⟩ := hb.at (k := 0) (by omega)
      obtain rfl := Option.some.inj hx
      rw [add_lit', Nat.add_zero] at hc
      rw [hc]; simp [List.getD, show 0 < b.length by omega]
    have hlc : b.length ≤ cap ∧ cap ≤ 9223372036854775807 := by
      obtain ⟨h1, ⟨h2, _⟩ | ⟨x, h2, h3, h4, h5⟩⟩ := id hb
      · cases h2
      · exact ⟨h3, by unfold maxLen at h4; omega⟩
    by_cases h1 : b.getD 0 0 = 197
    · by_cases h2 : b.length < 2
      · have hD : dat b = (0, 0, 4) := by unfold dat; rw [if_neg (fun e => e.2 h1), if_pos (by omega)]
        rw [hD]
        have HB := Lib.hid hb
        clear hb
        rw [h1] at hc0
        go_enter Tryd.func64, Tryd.ntmps64
        go_wp2
        go_ret3
        exact ⟨rfl, Below.refl _ _⟩
      · have HB := Lib.hid hb
        clear hb
        rw [h1] at hc0
        go_enter Tryd.func64, Tryd.ntmps64
        have hql : ((b.take 12).drop 2).length ≤ 10 := by simp; omega
        have hqb : 2 + ((b.take 12).drop 2).length ≤ b.length := by simp; omega
        have hnl : (num b).2.1.length ≤ ((b.take 12).drop 2).length := cnt_len 1024 _
        have hnm : (num b).1 ≤ 1024 := cnt_le 1024 _
        have hD : dat b = if (num b).2.2 ≠ 0 then (0, 0, (num b).2.2) else if b.length - (2 + ((b.take 12).drop 2).length - (num b).2.1.length) < (num b).1 + 4 then (0, 0, 4) else (2 + ((b.take 12).drop 2).length - (num b).2.1.length, 2 + ((b.take 12).drop 2).length - (num b).2.1.length + (num b).1, 0) := by
          conv => lhs; unfold dat
          rw [if_neg (fun e => e.2 h1), if_neg h2]
        obtain ⟨D, hDD⟩ : ∃ D, D = dat b := ⟨_, rfl⟩
        rw [← hDD]
        have HDD := Lib.hid (hDD.trans hD)
        clear hDD
        obtain ⟨D1, D2, D3⟩ := D
        have hC : ∀ (rb : Nat) (W : World), Rd W rb ((b.take 12).drop 2) 0 → Calls Tryd.prog 67 #[.pointer (some ⟨rb, 0, none⟩), .int .i64 1024] W fun e w' => e = .returned (.int .i64 ((num b).1 : Nat)) ∧ Rd w' rb (num b).2.1 (num b).2.2 ∧ At rb W w' := fun rb W h => count_ok rb _ 1024 W h (by decide)
        have HC := Lib.hid hC
        have hbl2 : 2 ≤ b.length := by omega
        clear hD hC h1 h2
        obtain ⟨N, hN⟩ : ∃ N, N = num b := ⟨_, rfl⟩
        obtain ⟨q, hq⟩ : ∃ q, q = (b.take 12).drop 2 := ⟨_, rfl⟩
        rw [← hN] at HC hnl hnm HDD
        rw [← hq] at HC hnl hql hqb HDD
        have HQ := Lib.hid hq
        clear hN hq
        obtain ⟨N1, N2, N3⟩ := N
        simp only at HC hnl hnm HDD ⊢
        go_wp2_with fail
        · have hib : IsB w (some ⟨g, o, none⟩) (b.length - 2) 0 q := by
            have := IsB.sub0 HB.out (j := min b.length 12) (by omega)
            have h3 : b.length = 2 := by omega
            have e : q = (b.take (min b.length 12)).drop cap := by rw [HQ.out]; rw [List.drop_eq_nil_iff.2 (by simp; omega), List.drop_eq_nil_iff.2 (by simp; omega)]
            rw [e, show b.length - 2 = 0 by omega]; exact this
          have HI := Lib.hid hib
          clear hib
          refine (read_any _ _ _ q w HI.out (by omega)).mono ?_
          rintro e W1 ⟨rb, rfl, hrb, hR1, hb1⟩
          have H1 := Lib.hid (And.intro hR1 hb1)
          clear hR1 hb1
          go_wp2_with fail
          refine (left_any rb q 0 W1 H1.out.1).mono ?_
          rintro e W1' ⟨rfl, rfl⟩
          go_wp2_with fail
          refine (HC.out rb W1 H1.out.1).mono ?_
          rintro e W2 ⟨rfl, hR2, hA2⟩
          have H2 := Lib.hid (And.intro hR2 (H1.out.2.trans (hA2.below hrb)))
          clear hR2 hA2
          go_wp2_with fail
          refine (err_any rb N2 N3 W2 H2.out.1).mono ?_
          rintro e W2' ⟨rfl, rfl⟩
          by_cases hN3 : N3 = 0
          · subst hN3
            go_wp2_with fail
            refine (left_any rb N2 0 W2 H2.out.1).mono ?_
            rintro e W2' ⟨rfl, rfl⟩
            by_cases hsh : b.length - (2 + q.length - N2.length) < N1 + 4
            · go_wp2
              go_ret3
              have e := HDD.out
              rw [if_neg (by simp), if_pos hsh] at e
              obtain ⟨rfl, e2⟩ := Prod.mk.inj e
              obtain ⟨rfl, rfl⟩ := Prod.mk.inj e2
              exact ⟨rfl, H2.out.2⟩
            · go_wp2
          · have hne : (N3 != 0) = true := by simpa using hN3
            go_wp2
            go_ret3
            have e := HDD.out
            rw [if_pos hN3] at e
            obtain ⟨rfl, e2⟩ := Prod.mk.inj e
            obtain ⟨rfl, rfl⟩ := Prod.mk.inj e2
            exact ⟨rfl, H2.out.2⟩
        · have hib : IsB w (some ⟨g, o + 2, none⟩) 10 (cap - 2) q := by
            have := IsB.sub HB.out (i := 2) (j := 12) (by omega) (by omega)
            rw [HQ.out]; exact this
          have HI := Lib.hid hib
          clear hib
          refine (read_any _ _ _ q w HI.out (by omega)).mono ?_
          rintro e W1 ⟨rb, rfl, hrb, hR1, hb1⟩
          have H1 := Lib.hid (And.intro hR1 hb1)
          clear hR1 hb1
          go_wp2_with fail
          refine (left_any rb q 0 W1 H1.out.1).mono ?_
          rintro e W1' ⟨rfl, rfl⟩
          go_wp2_with fail
          refine (HC.out rb W1 H1.out.1).mono ?_
          rintro e W2 ⟨rfl, hR2, hA2⟩
          have H2 := Lib.hid (And.intro hR2 (H1.out.2.trans (hA2.below hrb)))
          clear hR2 hA2
          go_wp2_with fail
          refine (err_any rb N2 N3 W2 H2.out.1).mono ?_
          rintro e W2' ⟨rfl, rfl⟩
          by_cases hN3 : N3 = 0
          · subst hN3
            go_wp2_with fail
            refine (left_any rb N2 0 W2 H2.out.1).mono ?_
            rintro e W2' ⟨rfl, rfl⟩
            by_cases hsh : b.length - (2 + q.length - N2.length) < N1 + 4
            · go_wp2
              go_ret3
              have e := HDD.out
              rw [if_neg (by simp), if_pos hsh] at e
              obtain ⟨rfl, e2⟩ := Prod.mk.inj e
              obtain ⟨rfl, rfl⟩ := Prod.mk.inj e2
              exact ⟨rfl, H2.out.2⟩
            · go_wp2
              go_ret3
              have e := HDD.out
              rw [if_neg (by simp), if_neg hsh] at e
              obtain ⟨e1, e2⟩ := Prod.mk.inj e
              obtain ⟨e2, e3⟩ := Prod.mk.inj e2
              subst e3
              exact ⟨ret_data (by omega) (by omega), H2.out.2⟩
          · have hne : (N3 != 0) = true := by simpa using hN3
            go_wp2
            go_ret3
            have e := HDD.out
            rw [if_pos hN3] at e
            obtain ⟨rfl, e2⟩ := Prod.mk.inj e
            obtain ⟨rfl, rfl⟩ := Prod.mk.inj e2
            exact ⟨rfl, H2.out.2⟩
        · have hib : IsB w (some ⟨g, o + 2, none⟩) (b.length - 2) (cap - 2) q := by
            have := IsB.sub HB.out (i := 2) (j := b.length) (by omega) (by omega)
            rw [HQ.out, show b.take 12 = b.take b.length by rw [List.take_of_length_le (by omega), List.take_of_length_le (by omega)]]; exact this
          have HI := Lib.hid hib
          clear hib
          refine (read_any _ _ _ q w HI.out (by omega)).mono ?_
          rintro e W1 ⟨rb, rfl, hrb, hR1, hb1⟩
          have H1 := Lib.hid (And.intro hR1 hb1)
          clear hR1 hb1
          go_wp2_with fail
          refine (left_any rb q 0 W1 H1.out.1).mono ?_
          rintro e W1' ⟨rfl, rfl⟩
          go_wp2_with fail
          refine (HC.out rb W1 H1.out.1).mono ?_
          rintro e W2 ⟨rfl, hR2, hA2⟩
          have H2 := Lib.hid (And.intro hR2 (H1.out.2.trans (hA2.below hrb)))
          clear hR2 hA2
          go_wp2_with fail
          refine (err_any rb N2 N3 W2 H2.out.1).mono ?_
          rintro e W2' ⟨rfl, rfl⟩
          by_cases hN3 : N3 = 0
          · subst hN3
            go_wp2_with fail
            refine (left_any rb N2 0 W2 H2.out.1).mono ?_
            rintro e W2' ⟨rfl, rfl⟩
            by_cases hsh : b.length - (2 + q.length - N2.length) < N1 + 4
            · go_wp2
              go_ret3
              have e := HDD.out
              rw [if_neg (by simp), if_pos hsh] at e
              obtain ⟨rfl, e2⟩ := Prod.mk.inj e
              obtain ⟨rfl, rfl⟩ := Prod.mk.inj e2
              exact ⟨rfl, H2.out.2⟩
            · go_wp2
              go_ret3
              have e := HDD.out
              rw [if_neg (by simp), if_neg hsh] at e
              obtain ⟨e1, e2⟩ := Prod.mk.inj e
              obtain ⟨e2, e3⟩ := Prod.mk.inj e2
              subst e3
              exact ⟨ret_data (by omega) (by omega), H2.out.2⟩
          · have hne : (N3 != 0) = true := by simpa using hN3
            go_wp2
            go_ret3
            have e := HDD.out
            rw [if_pos hN3] at e
            obtain ⟨rfl, e2⟩ := Prod.mk.inj e
            obtain ⟨rfl, rfl⟩ := Prod.mk.inj e2
            exact ⟨rfl, H2.out.2⟩
    · have hD : dat b = (0, 0, 2) := by unfold dat; rw [if_pos ⟨by omega, h1⟩]
      rw [hD]
      have hne : (b.getD 0 0).toNat ≠ 197 := fun e => h1 (UInt8.toNat_inj.1 e)
      obtain ⟨c, hcc⟩ : ∃ c, c = (b.getD 0 0).toNat := ⟨_, rfl⟩
      rw [← hcc] at hc0 hne
      have hT : ((c : Int) == 197) = false := by simp; omega
      have HB := Lib.hid hb
      clear hb hcc
      go_enter Tryd.func64, Tryd.ntmps64
      go_wp2
      go_ret3
      exact ⟨rfl, Below.refl _ _⟩

end Go.Proofs.YtjblkmjdepdekaaDoor.Fm

/- frames: ahead of Next: rows of four bytes, held against each other -/
namespace Go.Proofs.YtjblkmjdepdekaaDoor.Fm
open Go.RowKit Go.Lib Go.Proofs.YtjblkmjdepdekaaDoor.By Go.Proofs.YtjblkmjdepdekaaDoor.Oc Go.Proofs.YtjblkmjdepdekaaDoor.Cr

/-- two rows of four bytes, held against each other -/
theorem run_eq4 (a0 a1 a2 a3 b0 b1 b2 b3 : Int) (w : World) :
    (Op.equalIn 10000 98 (.agg #[.int .u8 a0, .int .u8 a1, .int .u8 a2, .int .u8 a3]) (.agg #[.int .u8 b0, .int .u8 b1, .int .u8 b2, .int .u8 b3])).run Tryd.prog w = .ok (a0 == b0 && (a1 == b1 && (a2 == b2 && a3 == b3))) w := by
  obtain ⟨i0, hi, _⟩ := info_parts info5
  have hc : Tryd.prog.cellsOf 5 = 1 := by kernel_rfl
  have hp : Tryd.prog.plainKey 5 = true := by kernel_rfl
  have pa : ∀ (k : Nat) (v : Value), #[Value.int .u8 a0, .int .u8 a1, .int .u8 a2, .int .u8 a3][k]? = some v → (part 5 #[Value.int .u8 a0, .int .u8 a1, .int .u8 a2, .int .u8 a3] k).run Tryd.prog w = .ok v w := fun k v h => run_part_plain w hp h
  have pb : ∀ (k : Nat) (v : Value), #[Value.int .u8 b0, .int .u8 b1, .int .u8 b2, .int .u8 b3][k]? = some v → (part 5 #[Value.int .u8 b0, .int .u8 b1, .int .u8 b2, .int .u8 b3] k).run Tryd.prog w = .ok v w := fun k v h => run_part_plain w hp h
  rw [run_equalIn_array w 9999 _ _ Tryd.underlying98 hi, hc]
  have e : List.range 4 = [0, 1, 2, 3] := rfl
  rw [e]
  simp only [Op.eqItems, Sem.run_bind, Nat.mul_one]
  have q0 := run_equalIn_int (P := Tryd.prog) w 9998 5 .u8 .u8 a0 b0 Tryd.underlying5
  have q1 := run_equalIn_int (P := Tryd.prog) w 9998 5 .u8 .u8 a1 b1 Tryd.underlying5
  have q2 := run_equalIn_int (P := Tryd.prog) w 9998 5 .u8 .u8 a2 b2 Tryd.underlying5
  have q3 := run_equalIn_int (P := Tryd.prog) w 9998 5 .u8 .u8 a3 b3 Tryd.underlying5
  have z : ∀ (b : Bool) (k : Sem Bool), (if (!b) = true then pure false else k : Sem Bool).run Tryd.prog w = if b then k.run Tryd.prog w else .ok false w := fun b k => by cases b <;> simp
  simp only [pa 0 (.int .u8 a0) rfl, pa 1 (.int .u8 a1) rfl, pa 2 (.int .u8 a2) rfl, pa 3 (.int .u8 a3) rfl, pb 0 (.int .u8 b0) rfl, pb 1 (.int .u8 b1) rfl, pb 2 (.int .u8 b2) rfl, pb 3 (.int .u8 b3) rfl, q0, q1, q2, q3, z, Sem.run_bind, Sem.run_pure, Result.andThen_ok]
  cases (a0 == b0) <;> cases (a1 == b1) <;> cases (a2 == b2) <;> cases (a3 == b3) <;> rfl
theorem le4_iff {b : List UInt8} {en x : Nat} (h : en + 4 ≤ b.length) : (b.drop en).take 4 = le4 x ↔ (b.getD en 0).toNat = x % 256 ∧ (b.getD (en + 1) 0).toNat = x / 256 % 256 ∧ (b.getD (en + 2) 0).toNat = x / 65536 % 256 ∧ (b.getD (en + 3) 0).toNat = x / 16777216 % 256 := by
  have e : (b.drop en).take 4 = [b.getD en 0, b.getD (en + 1) 0, b.getD (en + 2) 0, b.getD (en + 3) 0] := by
    apply List.ext_getElem
    · simp; omega
    · intro i h1 h2
      simp at h2
      rw [List.getElem_take, List.getElem_drop]
      match i, h2 with
      | 0, _ | 1, _ | 2, _ | 3, _ => simp [List.getD, show en < b.length by omega, show en + 1 < b.length by omega, show en + 2 < b.length by omega, show en + 3 < b.length by omega]
  rw [e]
  unfold le4
  simp only [List.cons.injEq, and_true]
  have key : ∀ (c : UInt8) (n : Nat), n < 256 → (c = n.toUInt8 ↔ c.toNat = n) := fun c n hn => by
    rw [← UInt8.toNat_inj, byte_nat hn]
  rw [key _ _ (by omega), key _ _ (by omega), key _ _ (by omega), key _ _ (by omega)]

end Go.Proofs.YtjblkmjdepdekaaDoor.Fm

/- frames: the contract of Next -/
namespace Go.Proofs.YtjblkmjdepdekaaDoor.Fm
open Go.RowKit Go.Lib Go.Proofs.YtjblkmjdepdekaaDoor.By Go.Proofs.YtjblkmjdepdekaaDoor.Oc Go.Proofs.YtjblkmjdepdekaaDoor.Cr

set_option maxRecDepth 20000 in
set_option maxHeartbeats 4000000 in
theorem next_own (s : Nat) (a : Option Addr) (len cap : Nat) (b : List UInt8) (w : World) (hs : U32 s) (hb : IsB w a len cap b) (hn : Nibs w) :
    Calls Tryd.prog 63 #[.int .u32 s, .slice a len cap] w fun e w' => ∃ ao co, e = .returned (.tuple #[.agg #[.int .u8 ((nxt s b).1.1.toNat : Nat), .slice ao (nxt s b).1.2.length co], .int .i64 ((nxt s b).2.1 : Nat), .int .u32 ((nxt s b).2.2.1 : Nat), .int .i64 (nxt s b).2.2.2]) ∧ w'.ownsRow w.heap.size 5 1 (.slice ao (nxt s b).1.2.length co) (nxt s b).1.2.length (byteCells (nxt s b).1.2) ∧ Below w.heap.size w w' := by
  obtain rfl : b.length = len := hb.1
  have hm := hb.le
  unfold maxLen at hm
  have hb0 : Below w.heap.size w (w.alloc (.cells #[.int .u8 0, .slice none 0 0] 34)) := (Below.refl _ _).alloc (Nat.le_refl _) _
  have HD := Lib.hid (data_any a b.length cap b _ (hb.old hb0))
  have HN := Lib.hid hn
  have HB := Lib.hid hb
  have HS := Lib.hid hs
  have HB0 := Lib.hid hb0
  by_cases he : (dat b).2.2 = 0
  · have hok := dat_ok he
    obtain ⟨g, o, rfl⟩ := isB_spot hb (by omega)
    have hlc : b.length ≤ cap ∧ cap ≤ 9223372036854775807 := by
      obtain ⟨h1, ⟨h2, _⟩ | ⟨x, h2, h3, h4, h5⟩⟩ := id hb
      · cases h2
      · exact ⟨h3, by unfold maxLen at h4; omega⟩
    have hcell : ∀ W, Below w.heap.size w W → ∀ j, j < b.length → W.cell? ⟨g, o + j, none⟩ = some (.int .u8 ((b.getD j 0).toNat : Nat)) := fun W hW j hj => by
      obtain ⟨x, hx, hc⟩ := (hb.old hW).at (k := j) hj
      obtain rfl := Option.some.inj hx
      rw [add_lit'] at hc
      rw [hc]; simp [List.getD, hj]
    have HX : Hid (nxt s b = if (b.drop (dat b).2.1).take 4 ≠ le4 (more s (b.take (dat b).2.1)) then ((0, []), 0, 0, 5) else ((b.getD 1 0, (b.take (dat b).2.1).drop (dat b).1), (dat b).2.1 + 4, more s (b.take (dat b).2.1), 0)) := by
      show _ = _
      conv => lhs; unfold nxt
      rw [if_neg (by simp [he])]
    obtain ⟨D, hD⟩ : ∃ D, D = dat b := ⟨_, rfl⟩
    rw [← hD] at he HD HX hok
    obtain ⟨D1, en, D3⟩ := D
    simp only at he HD HX hok ⊢
    subst he
    have HC := Lib.hid hcell
    have HM := Lib.hid (fun W (hW : Below w.heap.size w W) => more_any s (some ⟨g, o, none⟩) en cap (b.take en) W hs ((hb.old hW).take (by omega)) (hn.old hW))
    obtain ⟨x, hx⟩ : ∃ x, x = more s (b.take en) := ⟨_, rfl⟩
    have hxu : U32 x := by rw [hx]; exact more_u32 _ _
    rw [← hx] at HX HM
    obtain ⟨N, hN⟩ : ∃ N, N = nxt s b := ⟨_, rfl⟩
    rw [← hN] at HX ⊢
    have HU := Lib.hid hxu
    have hcen : ¬ cap = en := by omega
    clear hb hn hb0 hD hs hcell hx hN hxu
    go_enter Tryd.func63, Tryd.ntmps63
    go_wp2_with fail
    refine HD.out.mono ?_
    rintro e W1 ⟨rfl, hb1⟩
    have hx1 : W1.heap[w.heap.size]? = some (.cells #[.int .u8 0, .slice none 0 0] 34 (0, 0)) := heap_old hb1 (heap_alloc_new w _)
    have H1 := Lib.hid (And.intro hx1 (HB0.out.trans (hb1.mono (by simp))))
    have hz1 : w.heap.size < W1.heap.size := by have := hb1.size; simp at this; omega
    clear hb1 hx1
    go_wp2_with fail
    refine (HM.out W1 H1.out.2).mono ?_
    rintro e W1' ⟨rfl, rfl⟩
    go_wp2_with fail
    have hiff := le4_iff (b := b) (en := en) (x := x) (by omega)
    have k0 := HC.out W1 H1.out.2 en (by omega)
    have k1 := HC.out W1 H1.out.2 (en + 1) (by omega)
    have k2 := HC.out W1 H1.out.2 (en + 2) (by omega)
    have k3 := HC.out W1 H1.out.2 (en + 3) (by omega)
    have i1 : (en : Int) + 4 ≤ (cap : Int) := by omega
    have i2 : en + 4 ≤ cap := by omega
    have i3 : IntKind.i64.wrap ((en : Int) + 4) = (en : Int) + 4 := by rw [IntKind.wrap_i64]; omega
    have i4 : ((en : Int) + 4).toNat = en + 4 := by omega
    have i5 : wrap64 ((en : Int) + 4) = (en : Int) + 4 := by unfold wrap64; omega
    have i6 : (en : Int) ≤ (en : Int) + 4 := by omega
    have i7 : (0 : Int) ≤ (en : Int) + 4 := by omega
    have i8 : (en : Int) ≤ (cap : Int) := by omega
    rw [← Nat.add_assoc] at k1 k2 k3
    have hgl : g < W1.heap.size := World.block_lt_of_cell? W1 _ k0
    obtain ⟨B, hB⟩ : ∃ B : Bool, B = ((((b.getD en 0).toNat : Int) == (x : Int) % 256) && ((((b.getD (en + 1) 0).toNat : Int) == (x : Int) / 256 % 256) && ((((b.getD (en + 2) 0).toNat : Int) == (x : Int) / 65536 % 256) && (((b.getD (en + 3) 0).toNat : Int) == (x : Int) / 16777216 % 256)))) := ⟨_, rfl⟩
    have heq4 := run_eq4 ((b.getD en 0).toNat : Nat) ((b.getD (en + 1) 0).toNat : Nat) ((b.getD (en + 2) 0).toNat : Nat) ((b.getD (en + 3) 0).toNat : Nat) ((x : Int) % 256) ((x : Int) / 256 % 256) ((x : Int) / 65536 % 256) ((x : Int) / 16777216 % 256)
    rw [← hB] at heq4
    have hBq : B = true ↔ (b.drop en).take 4 = le4 x := by
      rw [hiff, hB]
      simp only [Bool.and_eq_true, beq_iff_eq]
      constructor <;> intro h <;> refine ⟨?_, ?_, ?_, ?_⟩ <;> omega
    have HBQ := Lib.hid hBq
    obtain ⟨e0, he0⟩ : ∃ e : Nat, e = (b.getD en 0).toNat := ⟨_, rfl⟩
    obtain ⟨e1, he1⟩ : ∃ e : Nat, e = (b.getD (en + 1) 0).toNat := ⟨_, rfl⟩
    obtain ⟨e2, he2⟩ : ∃ e : Nat, e = (b.getD (en + 2) 0).toNat := ⟨_, rfl⟩
    obtain ⟨e3, he3⟩ : ∃ e : Nat, e = (b.getD (en + 3) 0).toNat := ⟨_, rfl⟩
    rw [← he0] at k0 heq4
    rw [← he1] at k1 heq4
    rw [← he2] at k2 heq4
    rw [← he3] at k3 heq4
    have HOK := Lib.hid (And.intro hok (And.intro hlc (And.intro hm hz1)))
    have hat : ∀ w, (Instr.arrayAt 98 (.slice (some ⟨g, o + en, none⟩) 4 (cap - en))).run Tryd.prog w = .ok (.pointer (some ⟨g, o + en, none⟩)) w := fun w => run_arrayAt w 98 _ 4 _ 4 (cap - en) Tryd.underlying98 (Nat.le_refl _)
    have HSS := Lib.hid (And.intro HD (And.intro HN (And.intro HB (And.intro HS (And.intro HB0 (And.intro HX (And.intro HC HM)))))))
    clear hB hBq hiff he0 he1 he2 he3 hok hlc hm hz1 HD HN HB HS HB0 HX HC HM
    go_cut [35] (fun s35 wx => s35 = .bool (!B) ∧ Below W1.heap.size W1 wx)
    case first =>
      go_region_with (first | (go_at_call 51; refine (low_any x _ HU.out).mono ?_; rintro e w' ⟨rfl, hb'⟩; have l0 := (hb'.cell (p := ⟨g, o + en, none⟩) hgl).trans k0; have l1 := (hb'.cell (p := ⟨g, o + en + 1, none⟩) hgl).trans k1; have l2 := (hb'.cell (p := ⟨g, o + en + 2, none⟩) hgl).trans k2; have l3 := (hb'.cell (p := ⟨g, o + en + 3, none⟩) hgl).trans k3))
      all_goals (go_wp2_with fail; go_meet; exact ⟨rfl, (Below.refl _ _).drew.trans hb'⟩)
    case rest =>
      obtain ⟨rfl, hbc⟩ := hcut
      obtain ⟨HD, HN, HB, HS, HB0, HX, HC, HM⟩ := HSS.out
      obtain ⟨hok, hlc, hm, hz1⟩ := HOK.out
      have hwc : Below w.heap.size w wc := H1.out.2.trans (hbc.mono (by omega))
      have hxc : wc.heap[w.heap.size]? = some (.cells #[.int .u8 0, .slice none 0 0] 34 (0, 0)) := heap_old hbc H1.out.1
      have hzc : w.heap.size < wc.heap.size := by have := hbc.size; omega
      obtain ⟨⟨c0, c1⟩, f0, f1⟩ := two_cells hxc
      have HW := Lib.hid (And.intro hwc hxc)
      have HCW := Lib.hid (HC.out wc hwc 1 (by omega))
      clear hbc hwc hxc HD HN HS HB0 HC HM HSS HOK H1 k0 k1 k2 k3 heq4 hat i1 i2 i3 i4 i5 i6 i7 i8 hgl HU
      cases B
      · have hX : N = ((0, []), 0, 0, 5) := by
          rw [HX.out, if_pos]
          intro e
          exact Bool.noConfusion (HBQ.out.2 e)
        subst hX
        clear HX HBQ HCW
        go_wp2
        (try simp only [Exit.inBlock, Exit.then])
        refine bodyPost_ret (v := .tuple #[.agg #[.int .u8 0, .slice none 0 0], .int .i64 0, .int .u32 0, .int .i64 5]) ?_ rfl ⟨none, 0, rfl, ?_, ?_⟩
        · rw [results_cell4 rfl]
          go_simp
        · exact World.ownsRow_nil _ _ _ _
        · exact (HW.out.1.setCell (Nat.le_refl _) _).setCell (Nat.le_refl _) _
      · have hX : N = ((b.getD 1 0, (b.take en).drop D1), en + 4, x, 0) := by
          rw [HX.out, if_neg]
          exact fun h => h (HBQ.out.1 rfl)
        have hk1 : wc.cell? ⟨g, o + 1, none⟩ = some (.int .u8 ((b.getD 1 0).toNat : Nat)) := HCW.out
        obtain ⟨kc, hkc⟩ : ∃ e : UInt8, e = b.getD 1 0 := ⟨_, rfl⟩
        rw [← hkc] at hk1
        obtain ⟨d, hd⟩ : ∃ d, d = (b.take en).drop D1 := ⟨_, rfl⟩
        have hib : IsB wc (some ⟨g, o + D1, none⟩) (en - D1) (cap - D1) d := by
          rw [hd]; exact IsB.sub (HB.out.old HW.out.1) (by omega) (by omega)
        have hdl : d.length = en - D1 := hib.1
        have hib2 : IsB wc.drew (some ⟨g, o + D1, none⟩) (en - D1) (cap - D1) d := hib
        have HI := Lib.hid hib2
        have HDL := Lib.hid (And.intro hdl (And.intro hd hkc))
        have hgl : g < wc.heap.size := World.block_lt_of_cell? wc _ hk1
        have j1 : (D1 : Int) ≤ (en : Int) := by omega
        have j2 : D1 ≤ en := by omega
        have j3 : (en : Int) ≤ (cap : Int) := by omega
        have j4 : en ≤ cap := by omega
        have j5 : ¬ cap = D1 := by omega
        have j6 : wrap64 ((en : Int) + 4) = (en : Int) + 4 := by unfold wrap64; omega
        have j7 : (1 : Int) < (b.length : Int) := by omega
        have j8 : 1 < b.length := by omega
        have hdl2 : d.length ≤ 1000000000000 := by omega
        have HO := Lib.hid (And.intro hok (And.intro hlc hm))
        have hzd : w.heap.size < wc.drew.heap.size := hzc
        rw [← hd, ← hkc] at hX
        clear HX HBQ HCW HB hib hib2 hd hkc hdl hok hlc hm
        subst hX
        go_wp2_with fail
        go_region_with (first
          | (go_at_call 58; refine (clone_any (some ⟨g, o + D1, none⟩) (en - D1) (cap - D1) d _ HI.out hdl2).mono ?_; rintro e w' ⟨v', rfl, hown, hb'⟩; have l1 := (hb'.cell (p := ⟨g, o + 1, none⟩) hgl).trans hk1; obtain ⟨⟨q0, q1⟩, p0, p1⟩ := two_cells (heap_old hb' (show wc.drew.heap[w.heap.size]? = _ from HW.out.2)); obtain ⟨ao, cp, rfl⟩ := own_shape hown))
        all_goals
          have jw : IntKind.i64.wrap ((en : Int) + 4) = ((en + 4 : Nat) : Int) := by have := HO.out; rw [IntKind.wrap_i64]; omega
          have hown2 := ownsRow_setCell_below (a := ⟨w.heap.size, 1, none⟩) (ownsRow_setCell_below (a := ⟨w.heap.size, 0, none⟩) hown hzd (.int .u8 (kc.toNat : Nat))) hzd (.slice ao d.length cp)
          have H9 := Lib.hid (And.intro (Joins.ownsRow_le hown2 (Nat.le_of_lt hzd)) (((HW.out.1.drew.trans (hb'.mono (Nat.le_of_lt hzd))).setCell (p := ⟨w.heap.size, 0, none⟩) (Nat.le_refl _) (.int .u8 (kc.toNat : Nat))).setCell (p := ⟨w.heap.size, 1, none⟩) (Nat.le_refl _) (.slice ao d.length cp)))
          clear hown2 hb' hown
          go_wp2_with fail
          (try simp only [Exit.inBlock, Exit.then])
          refine bodyPost_ret (v := .tuple #[.agg #[.int .u8 (kc.toNat : Nat), .slice ao d.length cp], .int .i64 ((en + 4 : Nat) : Int), .int .u32 (x : Nat), .int .i64 0]) ?_ rfl ?_
          · rw [results_cell4 rfl]
            go_simp
          · exact ⟨ao, cp, rfl, H9.out.1, H9.out.2⟩
  · have hX : nxt s b = ((0, []), 0, 0, (dat b).2.2) := by unfold nxt; rw [if_pos he]
    rw [hX]
    obtain ⟨D, hD⟩ : ∃ D, D = dat b := ⟨_, rfl⟩
    rw [← hD] at he HD ⊢
    obtain ⟨D1, D2, D3⟩ := D
    simp only at he HD ⊢
    have hne : (D3 != 0) = true := by simpa using he
    clear hb hn hb0 hX hD hs
    go_enter Tryd.func63, Tryd.ntmps63
    go_wp2_with fail
    refine HD.out.mono ?_
    rintro e W1 ⟨rfl, hb1⟩
    have hx1 : W1.heap[w.heap.size]? = some (.cells #[.int .u8 0, .slice none 0 0] 34 (0, 0)) := heap_old hb1 (heap_alloc_new w _)
    obtain ⟨⟨c0, c1⟩, f0, f1⟩ := two_cells hx1
    have H1 := Lib.hid (And.intro hx1 (HB0.out.trans (hb1.mono (by simp))))
    clear hb1 hx1
    go_wp2
    (try simp only [Exit.inBlock, Exit.then])
    refine bodyPost_ret (v := .tuple #[.agg #[.int .u8 0, .slice none 0 0], .int .i64 0, .int .u32 0, .int .i64 D3]) ?_ rfl ⟨none, 0, rfl, ?_, ?_⟩
    · rw [results_cell4 rfl]
      go_simp
    · exact World.ownsRow_nil _ _ _ _
    · exact (H1.out.2.setCell (Nat.le_refl _) _).setCell (Nat.le_refl _) _
theorem next_any (s : Nat) (a : Option Addr) (len cap : Nat) (b : List UInt8) (w : World) (hs : U32 s) (hb : IsB w a len cap b) (hn : Nibs w) :
    Calls Tryd.prog 63 #[.int .u32 s, .slice a len cap] w fun e w' => ∃ ao co, e = .returned (.tuple #[.agg #[.int .u8 ((nxt s b).1.1.toNat : Nat), .slice ao (nxt s b).1.2.length co], .int .i64 ((nxt s b).2.1 : Nat), .int .u32 ((nxt s b).2.2.1 : Nat), .int .i64 (nxt s b).2.2.2]) ∧ IsB w' ao (nxt s b).1.2.length co (nxt s b).1.2 ∧ Below w.heap.size w w' :=
  (next_own s a len cap b w hs hb hn).mono fun _ _ ⟨ao, co, he, ho, hb⟩ => by
    obtain ⟨x9, y9, hv9, hib9⟩ := isB_own ho
    simp only [Value.slice.injEq, true_and] at hv9
    obtain ⟨rfl, rfl⟩ := hv9
    exact ⟨ao, co, he, hib9, hb⟩
end Go.Proofs.YtjblkmjdepdekaaDoor.Fm
