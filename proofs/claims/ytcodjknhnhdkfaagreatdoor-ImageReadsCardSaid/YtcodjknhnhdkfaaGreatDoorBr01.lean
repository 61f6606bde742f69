/- specs: as they lie, and their bytes (mathematics) -/
import Derived.Test.YtcodjknhnhdkfaaGreatDoorBr00
import Derived.Laws.AppendOwnNone
import Derived.BigQuiet
import Derived.Lib.SmallJoins
namespace Go.Proofs.YtcodjknhnhdkfaaGreatDoor.Sp
open Go.RowKit Go.Lib Rf
set_option linter.unusedVariables false
/-- a spec as it came -/
structure Spc where
  nm : ByteArray
  tn : ByteArray
  pr : Int
  dl : Int
  a : Option Addr
  n : Nat
  c : Nat
  ds : List ByteArray
  bs : Int
  cp : Int
  at' : Int
  ls : Int
  cr : ByteArray
  ct : Int
def W64 (x : Int) : Prop := (Lit.int .i64 x).wf = true
def Spc.cells (x : Spc) : Array Value := #[.string x.nm, .string x.tn, .int .i64 x.pr, .int .i64 x.dl, .slice x.a x.n x.c, .int .i64 x.bs, .int .i64 x.cp, .int .i64 x.at', .int .i64 x.ls, .string x.cr, .int .i64 x.ct]
def Spc.wf (x : Spc) : Prop := W64 x.pr ∧ W64 x.dl ∧ W64 x.bs ∧ W64 x.cp ∧ W64 x.at' ∧ W64 x.ls ∧ W64 x.ct
/-- a row of texts that may be read -/
def Dp (w : World) (a : Option Addr) (n : Nat) (ds : List ByteArray) : Prop :=
  ds.length = n ∧ (a = none → n = 0) ∧ (n = 0 ∨ ∃ b o, a = some ⟨b, o, none⟩ ∧ ∀ i (h : i < ds.length), w.cell? ⟨b, o + i, none⟩ = some (.string ds[i]))
theorem Dp.old {w w' : World} {a : Option Addr} {n : Nat} {ds : List ByteArray} (h : Dp w a n ds) (hb : Below w.heap.size w w') : Dp w' a n ds := by
  refine ⟨h.1, h.2.1, ?_⟩
  rcases h.2.2 with h0 | ⟨b, o, h1, h2⟩
  · exact .inl h0
  · exact .inr ⟨b, o, h1, fun i hi => (hb.cell (World.block_lt_of_cell? w _ (h2 i hi))).trans (h2 i hi)⟩
theorem Dp.below {w w' : World} {a : Option Addr} {n N : Nat} {ds : List ByteArray} (h : Dp w a n ds) (hb : Below N w w') (ha : ∀ x, a = some x → x.block < N) : Dp w' a n ds := by
  refine ⟨h.1, h.2.1, ?_⟩
  rcases h.2.2 with h0 | ⟨b, o, h1, h2⟩
  · exact .inl h0
  · exact .inr ⟨b, o, h1, fun i hi => (hb.cell (p := ⟨b, o + i, none⟩) (show b < N from ha ⟨b, o, none⟩ h1)).trans (h2 i hi)⟩
/-- a little one -/
def Spc.few (x : Spc) : Prop := (∀ d ∈ x.ds, d.size ≤ 60) ∧ x.nm.size ≤ 60 ∧ x.tn.size ≤ 60 ∧ x.n ≤ 20 ∧ x.cr.size ≤ 200
/-! ### bytes -/
def zz (x : Int) : List UInt8 := uvarint (zigzag x)
def rowB (ds : List ByteArray) : List UInt8 := ds.flatMap textB
def headB (x : Spc) : List UInt8 := textB x.nm ++ textB x.tn ++ zz x.pr ++ zz x.dl ++ uvarint x.n
def tailB (x : Spc) : List UInt8 := zz x.bs ++ (zz x.cp ++ (zz x.at' ++ (zz x.ls ++ (textB x.cr ++ zz x.ct))))
def specB (x : Spc) : List UInt8 := headB x ++ rowB x.ds ++ tailB x
theorem uv_inj : ∀ (k m n : Nat) (s t : List UInt8), m ≤ k → uvarint m ++ s = uvarint n ++ t → m = n ∧ s = t
  | k, m, n, s, t, hk, h => by
    by_cases hm : m < 128
    · rw [uvarint_small hm, List.singleton_append] at h
      by_cases hn : n < 128
      · rw [uvarint_small hn, List.singleton_append] at h
        obtain ⟨h1, h2⟩ := List.cons.inj h
        have := congrArg UInt8.toNat h1
        rw [toUInt8_toNat (by omega), toUInt8_toNat (by omega)] at this
        exact ⟨this, h2⟩
      · rw [uvarint_big (by omega), List.cons_append] at h
        have := congrArg UInt8.toNat (List.cons.inj h).1
        rw [toUInt8_toNat (by omega), toUInt8_toNat (by omega)] at this
        omega
    · rw [uvarint_big (x := m) (by omega), List.cons_append] at h
      by_cases hn : n < 128
      · rw [uvarint_small hn, List.singleton_append] at h
        have := congrArg UInt8.toNat (List.cons.inj h).1
        rw [toUInt8_toNat (by omega), toUInt8_toNat (by omega)] at this
        omega
      · rw [uvarint_big (x := n) (by omega), List.cons_append] at h
        obtain ⟨h1, h2⟩ := List.cons.inj h
        have := congrArg UInt8.toNat h1
        rw [toUInt8_toNat (by omega), toUInt8_toNat (by omega)] at this
        match k, hk with
        | 0, hk => omega
        | k + 1, hk =>
          have := uv_inj k (m / 128) (n / 128) s t (by omega) h2
          exact ⟨by omega, this.2⟩
theorem zig_inj {x y : Int} (h : zigzag x = zigzag y) : x = y := by
  unfold zigzag at h
  split at h <;> split at h <;> omega
theorem zz_inj {x y : Int} {s t : List UInt8} (h : zz x ++ s = zz y ++ t) : x = y ∧ s = t := by
  obtain ⟨h1, h2⟩ := uv_inj _ _ _ _ _ (Nat.le_refl _) h
  exact ⟨zig_inj h1, h2⟩
theorem tx_inj {x y : ByteArray} {s t : List UInt8} (h : textB x ++ s = textB y ++ t) : x = y ∧ s = t := by
  unfold textB at h
  rw [List.append_assoc, List.append_assoc] at h
  obtain ⟨h1, h2⟩ := uv_inj _ _ _ _ _ (Nat.le_refl _) h
  have e1 : x.data.toList.length = y.data.toList.length := by rw [Array.length_toList, Array.length_toList]; exact h1
  obtain ⟨h3, h4⟩ := List.append_inj h2 e1
  exact ⟨ByteArray.ext (Array.toList_inj.1 h3), h4⟩
theorem row_inj : ∀ {l m : List ByteArray} {s t : List UInt8}, l.length = m.length → rowB l ++ s = rowB m ++ t → l = m ∧ s = t
  | [], [], _, _, _, h => ⟨rfl, h⟩
  | x :: l, y :: m, s, t, hl, h => by
    simp only [rowB, List.flatMap_cons, List.append_assoc] at h
    obtain ⟨rfl, h2⟩ := tx_inj h
    obtain ⟨h3, h4⟩ := row_inj (l := l) (m := m) (by simpa using hl) h2
    exact ⟨by rw [h3], h4⟩
/-- are all fields the same? -/
def Spc.eqv (x y : Spc) : Prop := x.nm = y.nm ∧ x.tn = y.tn ∧ x.pr = y.pr ∧ x.dl = y.dl ∧ x.ds = y.ds ∧ x.bs = y.bs ∧ x.cp = y.cp ∧ x.at' = y.at' ∧ x.ls = y.ls ∧ x.cr = y.cr ∧ x.ct = y.ct
theorem eqv_iff {x y : Spc} (hx : x.ds.length = x.n) (hy : y.ds.length = y.n) : x.eqv y ↔ specB x = specB y := by
  constructor
  · rintro ⟨h1, h2, h3, h4, h5, h6, h7, h8, h9, h10, h11⟩
    have hn : x.n = y.n := by rw [← hx, ← hy, h5]
    unfold specB headB tailB
    rw [h1, h2, h3, h4, h5, h6, h7, h8, h9, h10, h11, hn]
  · intro h
    unfold specB headB tailB at h
    simp only [List.append_assoc] at h
    obtain ⟨h1, h⟩ := tx_inj h
    obtain ⟨h2, h⟩ := tx_inj h
    obtain ⟨h3, h⟩ := zz_inj h
    obtain ⟨h4, h⟩ := zz_inj h
    obtain ⟨hn, h⟩ := uv_inj _ _ _ _ _ (Nat.le_refl _) h
    obtain ⟨h5, h⟩ := row_inj (by rw [hx, hy, hn]) h
    obtain ⟨h6, h⟩ := zz_inj h
    obtain ⟨h7, h⟩ := zz_inj h
    obtain ⟨h8, h⟩ := zz_inj h
    obtain ⟨h9, h⟩ := zz_inj h
    obtain ⟨h10, h⟩ := tx_inj h
    have h11 := zz_inj (x := x.ct) (y := y.ct) (s := []) (t := []) (by rw [List.append_nil, List.append_nil]; exact h)
    exact ⟨h1, h2, h3, h4, h5, h6, h7, h8, h9, h10, h11.1⟩
theorem text_len {s : ByteArray} (h : s.size ≤ 200) : (textB s).length ≤ 210 := by
  unfold textB
  have := uvarint_length64 (show U64 s.size by unfold U64; omega)
  have e : s.data.toList.length = s.size := Array.length_toList
  rw [List.length_append, e]
  omega
theorem zz_len {x : Int} (h : W64 x) : (zz x).length ≤ 10 := uvarint_length64 (zig_u64 h)
theorem row_len : ∀ {l : List ByteArray}, (∀ d ∈ l, d.size ≤ 60) → (rowB l).length ≤ 210 * l.length
  | [], _ => by simp [rowB]
  | x :: l, h => by
    have h1 := text_len (s := x) (by have := h x (by simp); omega)
    have h2 := row_len (l := l) (fun d hd => h d (by simp [hd]))
    simp only [rowB, List.flatMap_cons, List.length_append, List.length_cons] at *
    omega
theorem row_succ {l : List ByteArray} {k : Nat} (h : k < l.length) : rowB (l.take (k + 1)) = rowB (l.take k) ++ textB l[k] := by
  unfold rowB; rw [List.take_succ_eq_append_getElem h, List.flatMap_append]; simp
end Go.Proofs.YtcodjknhnhdkfaaGreatDoor.Sp
namespace Go.Proofs.YtcodjknhnhdkfaaGreatDoor.Sp
open Go.RowKit Go.Lib Rf By
set_option linter.unusedVariables false
set_option maxRecDepth 20000
theorem info9 : (Tryz.prog.info? 9).map (fun i => (i.zero, i.size, i.bytes)) = some (some (.string ⟨#[]⟩), 1, 16) := by kernel_rfl
theorem addl (b o j : Nat) : (⟨b, o, none⟩ : Addr).add j = ⟨b, o + j, none⟩ := by unfold Addr.add; split <;> simp_all
/-- a spec's block, cell by cell -/
def At (w : World) (b : Nat) (nm tn : ByteArray) (pr dl : Int) (a : Option Addr) (n c : Nat) (bs cp at' ls : Int) (cr : ByteArray) (ct : Int) : Prop :=
  w.heap[b]? = some (.cells #[.string nm, .string tn, .int .i64 pr, .int .i64 dl, .slice a n c, .int .i64 bs, .int .i64 cp, .int .i64 at', .int .i64 ls, .string cr, .int .i64 ct] 40 (0, 0))
theorem eleven {w : World} {b : Nat} {v0 v1 v2 v3 v4 v5 v6 v7 v8 v9 v10 : Value} {t : TypeId} (h : w.heap[b]? = some (.cells #[v0, v1, v2, v3, v4, v5, v6, v7, v8, v9, v10] t (0, 0))) :
    (w.cell? ⟨b, 0, none⟩ = some v0 ∧ w.cell? ⟨b, 1, none⟩ = some v1 ∧ w.cell? ⟨b, 2, none⟩ = some v2 ∧ w.cell? ⟨b, 3, none⟩ = some v3 ∧ w.cell? ⟨b, 4, none⟩ = some v4 ∧ w.cell? ⟨b, 5, none⟩ = some v5 ∧ w.cell? ⟨b, 6, none⟩ = some v6 ∧
      w.cell? ⟨b, 7, none⟩ = some v7 ∧ w.cell? ⟨b, 8, none⟩ = some v8 ∧ w.cell? ⟨b, 9, none⟩ = some v9 ∧ w.cell? ⟨b, 10, none⟩ = some v10) ∧ ∀ k, w.frozen? ⟨b, k, none⟩ = false := by
  refine ⟨⟨?_, ?_, ?_, ?_, ?_, ?_, ?_, ?_, ?_, ?_, ?_⟩, fun k => ?_⟩ <;> simp [World.cell?, World.frozen?, h]
theorem old2 {w w' : World} {k : Nat} {o : Obj} (h : Below w.heap.size w w') (e : w.heap[k]? = some o) : w'.heap[k]? = some o := (h.block k (Array.getElem?_eq_some_iff.1 e).1).trans e
theorem results_c1 {fn : Func} {p : Tmp} {ty : TypeId} (h : fn.results = #[.cell p ty]) (tmps : Array Value) (P : Program) (w : World) :
    (results fn tmps).run P w = ((asAddr (tmps.getD p undef)).run P w).andThen fun a w₁ => (loadVar ty a).run P w₁ := by
  simp only [results, h]
  simp [Sem.run_bind, Result.andThen]
/-- a row of one's own -/
theorem dp_own {w : World} {B : Nat} {v : Value} {n : Nat} {ds : List ByteArray} (h : w.ownsRow B 9 1 v n (ds.map Value.string)) (hl : ds.length = n) :
    ∃ a c, v = .slice a n c ∧ Dp w a n ds ∧ (n = 0 ∨ ∃ g cur, a = some ⟨g, 0, none⟩ ∧ B ≤ g ∧ w.heap[g]? = some (.cells cur 9 (0, 0)) ∧ n ≤ cur.size) := by
  rcases h.2 with ⟨rfl, h0⟩ | ⟨g, cap, cur, rfl, h2, h3, h4, h5, h6, h7⟩
  · exact ⟨none, 0, by rw [h0], ⟨hl, ⟨fun _ => h0, .inl h0⟩⟩, .inl h0⟩
  · refine ⟨some ⟨g, 0, none⟩, cap, rfl, ⟨hl, ⟨fun e => (by cases e), Or.inr ⟨g, 0, rfl, fun i hi => ?_⟩⟩⟩, Or.inr ⟨g, cur, rfl, h2, h3, by omega⟩⟩
    have := h.cells rfl i (.string ds[i]) (by simp [hi])
    rwa [addl] at this
set_option maxHeartbeats 2000000 in
theorem clone_ds {a : Option Addr} {n c : Nat} {ds : List ByteArray} {w : World} (hd : Dp w a n ds) (hn : n ≤ 1000000000) :
    Calls Tryz.prog 79 #[.slice a n c] w fun e w' => ∃ v', e = .returned v' ∧ w'.ownsRow w.heap.size 9 1 v' n (ds.map Value.string) ∧ Below w.heap.size w w' := by
  obtain ⟨i0, hi, hz0, hz1, hz2⟩ := info_parts info9
  have hne := run_eql_slice_nil (P := Tryz.prog) (t := 38) (e := 9) (h := Tryz.underlying38)
  cases a with
  | none =>
    obtain rfl : n = 0 := hd.2.1 rfl
    obtain rfl : ds = [] := List.length_eq_zero_iff.1 hd.1
    go_enter Tryz.func79, Tryz.ntmps79
    go_wp2
    go_ret
    exact ⟨_, rfl, World.ownsRow_nil _ _ _ _, Below.refl _ _⟩
  | some x =>
    have hc : ∀ j u, (ds.map Value.string)[j]? = some u → w.cell? (x.add j) = some u := by
      intro j u hj
      have hjl : j < ds.length := by have := (List.getElem?_eq_some_iff.1 hj).1; simpa using this
      rcases hd.2.2 with h0 | ⟨b, o, e, h⟩
      · rw [← hd.1] at h0; omega
      · obtain rfl := Option.some.inj e
        rw [addl, h j hjl]
        simpa [hjl] using hj
    have hl := hd.1
    clear hd
    go_enter Tryz.func79, Tryz.ntmps79
    go_wp2_with (at_builtin; refine wpList_append_own _ rfl _ _ 38 rfl w.heap.size 9 i0 (.string ⟨#[]⟩) 1 16 Tryz.underlying38 hi hz0 hz1 hz2 rfl (by decide) _ 0 [] rfl ?c0 x n c (ds.map Value.string) rfl ?c1 ?c2 ?c3 ?c4 ?c5 ?c6 ?_)
    case c0 => exact World.ownsRow_made w #[] 0 (Nat.le_refl _) (Nat.zero_le _) rfl
    case c1 => simp [hl]
    case c2 => exact fun j u hu => ((((Below.refl w.heap.size w).alloc (Nat.le_refl _) _).cell (World.block_lt_of_cell? w _ (hc j u hu))).trans (hc j u hu))
    case c3 => intro u hu; obtain ⟨x, _, rfl⟩ := List.mem_map.1 hu; rfl
    case c4 => simp [maxLen]; omega
    case c5 => omega
    case c6 => simp
    · intro v' w1 hown' hgrow _
      go_wp2
      go_ret
      exact ⟨_, rfl, by simpa using hown', ((Below.refl _ _).alloc (Nat.le_refl _) _).grown hgrow (by simp) (fun k hk => by simp [Value.ownBlock] at hk; omega)⟩
set_option maxHeartbeats 2000000 in
theorem Clone_any (x : Spc) {w : World} (hd : Dp w x.a x.n x.ds) (hn : x.n ≤ 1000000000) :
    Calls Tryz.prog 62 #[.agg x.cells] w fun e w' => ∃ y : Spc, e = .returned (.agg y.cells) ∧ y = { x with a := y.a, c := y.c } ∧ Below w.heap.size w w' ∧ Dp w' y.a y.n y.ds ∧
      (y.n = 0 ∨ ∃ g cur, y.a = some ⟨g, 0, none⟩ ∧ w.heap.size ≤ g ∧ w'.heap[g]? = some (.cells cur 9 (0, 0)) ∧ y.n ≤ cur.size) := by
  obtain ⟨nm, tn, pr, dl, a, n, c, ds, bs, cp, at', ls, cr, ct⟩ := x
  simp only at hd hn
  obtain ⟨V, hV⟩ : ∃ V, V = (w.alloc (.cells #[.string nm, .string tn, .int .i64 pr, .int .i64 dl, .slice a n c, .int .i64 bs, .int .i64 cp, .int .i64 at', .int .i64 ls, .string cr, .int .i64 ct] 40)).alloc (.cells #[.string ⟨#[]⟩, .string ⟨#[]⟩, .int .i64 0, .int .i64 0, .slice none 0 0, .int .i64 0, .int .i64 0, .int .i64 0, .int .i64 0, .string ⟨#[]⟩, .int .i64 0] 40) := ⟨_, rfl⟩
  have hb1 : Below w.heap.size w V := by rw [hV]; exact ((Below.refl _ w).alloc (Nat.le_refl _) _).alloc (by simp) _
  have hsz : V.heap.size = w.heap.size + 2 := by rw [hV]; simp
  have hx0 : V.heap[w.heap.size]? = some (.cells #[.string nm, .string tn, .int .i64 pr, .int .i64 dl, .slice a n c, .int .i64 bs, .int .i64 cp, .int .i64 at', .int .i64 ls, .string cr, .int .i64 ct] 40 (0, 0)) := by rw [hV]; exact ((Below.refl _ _).alloc (Nat.le_refl _) _ |>.block _ (by simp)).trans (MapKept.heap_alloc w _).1
  have hx00 : V.heap[w.heap.size + 1]? = some (.cells #[.string ⟨#[]⟩, .string ⟨#[]⟩, .int .i64 0, .int .i64 0, .slice none 0 0, .int .i64 0, .int .i64 0, .int .i64 0, .int .i64 0, .string ⟨#[]⟩, .int .i64 0] 40 (0, 0)) := by
    rw [hV]
    have h := (MapKept.heap_alloc (w.alloc (.cells #[.string nm, .string tn, .int .i64 pr, .int .i64 dl, .slice a n c, .int .i64 bs, .int .i64 cp, .int .i64 at', .int .i64 ls, .string cr, .int .i64 ct] 40)) (.cells #[.string ⟨#[]⟩, .string ⟨#[]⟩, .int .i64 0, .int .i64 0, .slice none 0 0, .int .i64 0, .int .i64 0, .int .i64 0, .int .i64 0, .string ⟨#[]⟩, .int .i64 0] 40)).1
    rwa [World.size_alloc] at h
  have HC := Lib.hid (clone_ds (w := V) (c := c) (hd.old hb1) hn)
  have HB := Lib.hid (And.intro hb1 hsz)
  unfold Spc.cells
  simp only
  go_enter Tryz.func62, Tryz.ntmps62
  go_wp2_with fail
  rw [← hV]
  refine HC.out.mono ?_
  rintro e w1 ⟨v, rfl, hown, hb2⟩
  have hx1 := (hb2.block w.heap.size (by omega)).trans hx0
  obtain ⟨a1, c1, rfl, hd1, hr1⟩ := dp_own hown (hd.1)
  obtain ⟨⟨l0, l1, l2, l3, l4, l5, l6, l7, l8, l9, l10⟩, lf⟩ := eleven hx1
  have f4 := lf 4
  obtain ⟨⟨r0, r1, r2, r3, r4, r5, r6, r7, r8, r9, r10⟩, rf⟩ := eleven (old2 hb2 hx00)
  have z0 := rf 0
  have z1 := rf 1
  have z2 := rf 2
  have z3 := rf 3
  have z4 := rf 4
  have z5 := rf 5
  have z6 := rf 6
  have z7 := rf 7
  have z8 := rf 8
  have z9 := rf 9
  have z10 := rf 10
  have hlt : w.heap.size + 1 < w1.heap.size := by have := hb2.size; omega
  go_wp2_with fail
  clear l0 l1 l2 l3 l4 l5 l6 l7 l8 l9 l10 r0 r1 r2 r3 r4 r5 r6 r7 r8 r9 r10 hx0 hx1 f4 z0 z1 z2 z3 z4 z5 z6 z7 z8 z9 z10 lf rf
  have hs2 := hb2.size
  obtain ⟨X, hX⟩ : ∃ X, X = (((((((((((w1.setCell ⟨w.heap.size, 4, none⟩ (.slice a1 n c1)).setCell ⟨w.heap.size + 1, 0, none⟩ (.string nm)).setCell ⟨w.heap.size + 1, 1, none⟩ (.string tn)).setCell ⟨w.heap.size + 1, 2, none⟩ (.int .i64 pr)).setCell ⟨w.heap.size + 1, 3, none⟩ (.int .i64 dl)).setCell ⟨w.heap.size + 1, 4, none⟩ (.slice a1 n c1)).setCell ⟨w.heap.size + 1, 5, none⟩ (.int .i64 bs)).setCell ⟨w.heap.size + 1, 6, none⟩ (.int .i64 cp)).setCell ⟨w.heap.size + 1, 7, none⟩ (.int .i64 at')).setCell ⟨w.heap.size + 1, 8, none⟩ (.int .i64 ls)).setCell ⟨w.heap.size + 1, 9, none⟩ (.string cr)).setCell ⟨w.heap.size + 1, 10, none⟩ (.int .i64 ct) := ⟨_, rfl⟩
  rw [← hX]
  have k0 := (heap_setCell_other w1 ⟨w.heap.size, 4, none⟩ (w.heap.size + 1) (.slice a1 n c1) (by simp)).trans (old2 hb2 hx00)
  have k1 := heap_setCell_same _ _ 0 _ _ (.string nm) k0
  have k2 := heap_setCell_same _ _ 1 _ _ (.string tn) k1
  have k3 := heap_setCell_same _ _ 2 _ _ (.int .i64 pr) k2
  have k4 := heap_setCell_same _ _ 3 _ _ (.int .i64 dl) k3
  have k5 := heap_setCell_same _ _ 4 _ _ (.slice a1 n c1) k4
  have k6 := heap_setCell_same _ _ 5 _ _ (.int .i64 bs) k5
  have k7 := heap_setCell_same _ _ 6 _ _ (.int .i64 cp) k6
  have k8 := heap_setCell_same _ _ 7 _ _ (.int .i64 at') k7
  have k9 := heap_setCell_same _ _ 8 _ _ (.int .i64 ls) k8
  have k10 := heap_setCell_same _ _ 9 _ _ (.string cr) k9
  have k11 := heap_setCell_same _ _ 10 _ _ (.int .i64 ct) k10
  rw [← hX] at k11
  simp only [List.setIfInBounds_toArray, List.set_cons_zero, List.set_cons_succ] at k11
  have hoth : ∀ k, k ≠ w.heap.size → k ≠ w.heap.size + 1 → X.heap[k]? = w1.heap[k]? := by
    intro k h1 h2
    rw [hX]
    iterate 11 rw [heap_setCell_other _ _ _ _ h2]
    rw [heap_setCell_other _ _ _ _ h1]
  have hbX : Below w.heap.size w X := by
    rw [hX]
    iterate 11 refine Below.setCell ?_ (p := ⟨w.heap.size + 1, _, none⟩) (Nat.le_succ _) _
    refine Below.setCell ?_ (p := ⟨w.heap.size, 4, none⟩) (Nat.le_refl _) _
    exact hb1.trans (hb2.mono hb1.size)
  clear k0 k1 k2 k3 k4 k5 k6 k7 k8 k9 k10 hX hV hx00
  obtain ⟨⟨l0, l1, l2, l3, l4, l5, l6, l7, l8, l9, l10⟩, _⟩ := eleven k11
  refine bodyPost_ret (v := .agg #[.string nm, .string tn, .int .i64 pr, .int .i64 dl, .slice a1 n c1, .int .i64 bs, .int .i64 cp, .int .i64 at', .int .i64 ls, .string cr, .int .i64 ct]) ?_ rfl ⟨⟨nm, tn, pr, dl, a1, n, c1, ds, bs, cp, at', ls, cr, ct⟩, rfl, rfl, hbX, ?_⟩
  · rw [results_c1 rfl]
    go_simp
  · rcases hr1 with h0 | ⟨g, cur, rfl, hg, hcur, hcn⟩
    · exact ⟨⟨hd1.1, hd1.2.1, .inl h0⟩, .inl h0⟩
    · have e := hoth g (by omega) (by omega)
      refine ⟨⟨hd1.1, hd1.2.1, ?_⟩, .inr ⟨g, cur, rfl, by omega, e.trans hcur, hcn⟩⟩
      rcases hd1.2.2 with h0 | ⟨b, o, e1, h⟩
      · exact .inl h0
      · obtain ⟨rfl, rfl⟩ : g = b ∧ 0 = o := by simpa using e1
        exact .inr ⟨g, 0, rfl, fun i hi => by rw [World.cell?_of_block e]; exact h i hi⟩
end Go.Proofs.YtcodjknhnhdkfaaGreatDoor.Sp
