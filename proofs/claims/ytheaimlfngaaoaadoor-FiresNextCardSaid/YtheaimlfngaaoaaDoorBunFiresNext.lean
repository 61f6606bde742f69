
/- FiresNext holds for every text, every number of 64 bits and every numbers of 32 bits: the next tick that an expression names is named by the document, too, and none between is; the tables of the program and of the library that are read are as the texts lay them; no other condition -/
import Derived.Test.YtheaimlfngaaoaaDoorRows
import Derived.ProofKit
import Derived.Deep.Slices
import Derived.Deep.Fields
import Derived.OpenShut
import Derived.Test.YtheaimlfngaaoaaDoorFiQ
import Derived.Test.YtheaimlfngaaoaaDoorRc7
import Derived.Test.YtheaimlfngaaoaaDoorFiLaid
import Derived.Test.YtheaimlfngaaoaaDoorSh
import Derived.WalkKit
import Derived.ShutString
import Derived.ChangeOld
import Derived.Below
/- a slice of structs that came in, cell by cell (of no program) -/
namespace Go.Proofs.YtheaimlfngaaoaaDoor.Op
open Go.ChangeShapes Go.WideShapes Go.Deep
section
variable {H : Type} {enc : TypeId × Value → H} {P : Program} {w : World} {base : Nat} {spare : Nat → Bool} {held : Bool}

theorem add_none (b o j : Nat) : (⟨b, o, none⟩ : Addr).add j = ⟨b, o + j, none⟩ := by unfold Addr.add; split <;> simp_all

theorem slice_fields {t e : TypeId} {fs : Array Field} {fuel : Nat} {a : Option Addr} {len cap : Nat} {x : DataW H × List MemPlace} (ht : P.underlying t = some (.slice e)) (he : P.underlying e = some (.struct fs))
    (hone : oneCellFields P fs = true) (hC : P.cellsOf e = fs.size) (hpos : 0 < fs.size) (h : DataW.trod enc P w base spare held fuel t [.slice a len cap] = some x) :
    len ≤ cap ∧ cap ≤ maxLen ∧ (len = 0 ∨ ∃ b o, a = some ⟨b, o, none⟩ ∧ ∀ i, i < len → ∀ (j : Nat) (f : Field), fs[j]? = some f →
      ∃ (v : Value) (n : Nat) (y : DataW H × List MemPlace), w.cell? ⟨b, o + (i * fs.size + j), none⟩ = some v ∧ DataW.trod enc P w base spare held n f.type [v] = some y) := by
  rcases open_slice ht h with ⟨h0, _⟩ | ⟨ad, l', c', m, n, D, Pl, hcs, _, hl, hc, hm, _, hi⟩
  · simp only [List.cons.injEq, Value.slice.injEq, and_true] at h0
    obtain ⟨rfl, rfl, rfl⟩ := h0
    exact ⟨Nat.le_refl _, Nat.zero_le _, .inl rfl⟩
  · simp only [List.cons.injEq, Value.slice.injEq, and_true] at hcs
    obtain ⟨rfl, rfl, rfl⟩ := hcs
    refine ⟨hl, hc, ?_⟩
    have hlm : len ≤ m := by rw [hm]; split <;> omega
    -- one element's cells
    have elem : ∀ i, i < len → ∀ (j : Nat) (f : Field), fs[j]? = some f →
        ∃ (v : Value) (k : Nat) (y : DataW H × List MemPlace), w.cell? (ad.add (i * fs.size + j)) = some v ∧ DataW.trod enc P w base spare held k f.type [v] = some y := by
      intro i hi' j f hj
      obtain ⟨cs', h1, h2⟩ := hi i (by omega)
      rw [hC] at h1
      obtain ⟨xs, k, _, _, hlen, hxl, hf⟩ := DataW.trod_struct he h2
      obtain ⟨_, hcl, hat⟩ := World.cells?_some h1
      obtain ⟨ho, hk⟩ := hone_of hone j f hj
      have hjl : j < fs.size := (Array.getElem?_eq_some_iff.1 hj).1
      have hg := hf j f hj
      rw [ho, hk, List.drop_eq_getElem_cons (by omega), List.take_succ_cons, List.take_zero, List.getElem?_eq_getElem (by omega)] at hg
      refine ⟨cs'[j]'(by omega), k, _, ?_, hg⟩
      rw [← add_add, hat j hjl, List.getElem?_eq_getElem (by omega)]
    by_cases h0 : len = 0
    · exact .inl h0
    · right
      obtain ⟨f0, hf0⟩ : ∃ f, fs[0]? = some f := ⟨_, Array.getElem?_eq_getElem hpos⟩
      obtain ⟨v, k, y, hv, _⟩ := elem 0 (by omega) 0 f0 hf0
      obtain ⟨b, o, spot⟩ := ad
      have hsp : spot = none := by simpa [Addr.add] using World.cell?_spot hv
      subst hsp
      refine ⟨b, o, rfl, fun i hi' j f hj => ?_⟩
      have := elem i hi' j f hj
      rwa [add_none] at this
end
end Go.Proofs.YtheaimlfngaaoaaDoor.Op

/- a slice of numbers of 32 bits that came in, opened -/
namespace Go.Proofs.YtheaimlfngaaoaaDoor.Fi
set_option maxRecDepth 20000
open Go.ChangeShapes Go.WideShapes Go.ChangeAt Go.RowKit

/-- numbers that lie in a row -/
def InU (W : World) (a : Option Addr) (n c : Nat) : Prop :=
  n ≤ c ∧ c ≤ 9223372036854775807 ∧ (n = 0 ∨ ∃ b o, a = some ⟨b, o, none⟩ ∧ ∀ i, i < n → ∃ m : Nat, m ≤ 4294967295 ∧ W.cell? ⟨b, o + i, none⟩ = some (.int .u32 (m : Nat)))
section
variable {H : Type} {enc : TypeId × Value → H} {W : World}
theorem open_u32s {r : Reach} {b0 base : Nat} {v : Value} {d : DataW H} {p : List MemPlace} (hv : Value.okWide Tryd.prog W r b0 22 v) (h : DataW.Trod enc Tryd.prog W base (fun _ => true) true 22 v d p) :
    ∃ a n c, v = .slice a n c ∧ InU W a n c := by
  obtain ⟨a, n, c, rfl⟩ := okWide_slice Tryd.underlying22 hv
  obtain ⟨fuel, hf⟩ := h
  simp only [Value.cells] at hf
  rcases open_ints Tryd.underlying22 Tryd.underlying40 (by kernel_rfl) hf with ⟨hcs, _⟩ | ⟨x, l, c', zs, hcs, _, hl, hm, hz, _, hcell, hwz⟩
  · simp only [List.cons.injEq, Value.slice.injEq, and_true] at hcs
    obtain ⟨rfl, rfl, rfl⟩ := hcs
    exact ⟨none, 0, 0, rfl, Nat.le_refl _, Nat.zero_le _, .inl rfl⟩
  · simp only [List.cons.injEq, Value.slice.injEq, and_true] at hcs
    obtain ⟨rfl, rfl, rfl⟩ := hcs
    refine ⟨some x, n, c, rfl, hl, by unfold maxLen at hm; omega, ?_⟩
    by_cases h0 : n = 0
    · exact .inl h0
    · right
      obtain ⟨b, o, spot⟩ := x
      have hz2 : zs.length = c := by simpa using hz
      have h1 := hcell 0 (by omega)
      have hsp : spot = none := by simpa [Addr.add] using World.cell?_spot h1
      subst hsp
      refine ⟨b, o, rfl, fun i hi => ?_⟩
      have h2 := hcell i (by omega)
      rw [Op.add_none] at h2
      have hmem : zs.getD i 0 ∈ zs := by
        rw [List.getD_eq_getElem?_getD, List.getElem?_eq_getElem (by omega)]
        exact List.getElem_mem _
      have h3 : 0 ≤ zs.getD i 0 ∧ zs.getD i 0 ≤ 4294967295 := by simpa [Lit.wf, IntKind.min, IntKind.max, IntKind.signed, IntKind.bits] using hwz _ hmem
      refine ⟨(zs.getD i 0).toNat, by omega, ?_⟩
      rw [h2]
      exact congrArg (fun z => some (Value.int .u32 z)) (by omega)
end
end Go.Proofs.YtheaimlfngaaoaaDoor.Fi

/- fires: FiresNext's walk: the document's answers -/
namespace Go.Proofs.YtheaimlfngaaoaaDoor.Fi
open Go.RowKit Go.Lib Go.Proofs.YtheaimlfngaaoaaDoor.Cn Go.Proofs.YtheaimlfngaaoaaDoor.Rg Go.Proofs.YtheaimlfngaaoaaDoor.Ht
set_option linter.unusedVariables false

/-- the maps and texts that the document's Parse told, in a later world -/
structure Doc (s : L) (w0 : World) (g5 c5 : Nat) (v6 : Value) (ms : List Nat) (W : World) : Prop where
  ok : parseE s = 0
  len : ms.length = 5
  pm : Pm w0 (sp 32 s) g5 c5 v6 ms W
theorem Doc.old {s : L} {w0 : World} {g5 c5 : Nat} {v6 : Value} {ms : List Nat} {W W' : World} (h : Doc s w0 g5 c5 v6 ms W) (hb : Below W.heap.size W W') : Doc s w0 g5 c5 v6 ms W' := ⟨h.ok, h.len, h.pm.old hb⟩
theorem Doc.five {s : L} {w0 : World} {g5 c5 : Nat} {v6 : Value} {ms : List Nat} {W : World} (h : Doc s w0 g5 c5 v6 ms W) : (sp 32 s).length = 5 := by
  have h9 := h.ok
  unfold parseE at h9
  split at h9
  · cases h9
  · split at h9
    · assumption
    · cases h9
/-- the document's answer is whether the tick is named -/
theorem Doc.named {s : L} {w0 : World} {g5 c5 : Nat} {v6 : Value} {ms : List Nat} {W : World} (h : Doc s w0 g5 c5 v6 ms W) {x y mo d wd hh mi : Int} (i : Ca.IsM x y mo d wd hh mi) :
    Calls Tryd.prog 11 #[v6, .slice (some ⟨g5, 0, none⟩) 5 c5, Ca.mom y mo d wd hh mi] W fun r w' => (∃ b, r = .returned (.bool b) ∧ (b = true ↔ nm (parseV s) x)) ∧ Below W.heap.size W w' := by
  obtain ⟨mo, d, wd, hh, mi, rfl, rfl, rfl, rfl, rfl, n1, n2, n3, n4, n5, n6⟩ := moment_nat i
  refine (named_any (sp 32 s) h.five _ _ g5 c5 v6 ms h.len h.pm y mo d wd hh mi n1 n3 n4 n5 n6).mono ?_
  rintro r w' ⟨rfl, hb⟩
  exact ⟨⟨_, rfl, by rw [nm_of i, names_same h.ok n1 n2 n3 n4 n5 n6]⟩, hb⟩
/-- .. of a tick that isn't named -/
theorem Doc.no {s : L} {w0 : World} {g5 c5 : Nat} {v6 : Value} {ms : List Nat} {W : World} (h : Doc s w0 g5 c5 v6 ms W) {x y mo d wd hh mi : Int} (i : Ca.IsM x y mo d wd hh mi) (hn : ¬ nm (parseV s) x) :
    Calls Tryd.prog 11 #[v6, .slice (some ⟨g5, 0, none⟩) 5 c5, Ca.mom y mo d wd hh mi] W fun r w' => r = .returned (.bool false) ∧ Below W.heap.size W w' := by
  refine (h.named i).mono ?_
  rintro r w' ⟨⟨b, rfl, hb⟩, hbl⟩
  refine ⟨?_, hbl⟩
  cases b
  · rfl
  · exact absurd (hb.1 rfl) hn
theorem Doc.yes {s : L} {w0 : World} {g5 c5 : Nat} {v6 : Value} {ms : List Nat} {W : World} (h : Doc s w0 g5 c5 v6 ms W) {x y mo d wd hh mi : Int} (i : Ca.IsM x y mo d wd hh mi) (hn : nm (parseV s) x) :
    Calls Tryd.prog 11 #[v6, .slice (some ⟨g5, 0, none⟩) 5 c5, Ca.mom y mo d wd hh mi] W fun r w' => r = .returned (.bool true) ∧ Below W.heap.size W w' := by
  refine (h.named i).mono ?_
  rintro r w' ⟨⟨b, rfl, hb⟩, hbl⟩
  obtain rfl := hb.2 hn
  exact ⟨rfl, hbl⟩
theorem next_long (s : L) (a : Int) (sv : Value) (hl : 200 < s.length) (w : World) (hg : Gd w) :
    Calls Tryd.prog 3 #[S s, .int .i64 a, sv] w fun e w' => e = .returned (.bool true) ∧ Below w.heap.size w w' := by
  have hz := size_S s
  have hlI : (200 : Int) < (s.length : Nat) := by omega
  have HG := Lib.hid hg
  clear hg
  go_enter Tryd.func3, Tryd.ntmps3
  go_wp2_with fail
  refine (lives08_any w HG.out).mono ?_
  rintro q w1 ⟨rfl, hb1⟩
  have H1 := Lib.hid hb1
  clear hb1
  go_wp2_with fail
  refine (lives08_any w1 (HG.out.old H1.out)).mono ?_
  rintro q w2 ⟨rfl, hb2⟩
  go_wp2_with fail
  go_ret
  exact ⟨rfl, H1.out.trans (hb2.mono H1.out.size)⟩
theorem next_many (s : L) (a : Int) (ao : Option Addr) (n c : Nat) (hn : n ≤ c ∧ c ≤ 9223372036854775807) (hl : s.length ≤ 200) (hn2 : 200 < n) (w : World) (hg : Gd w) :
    Calls Tryd.prog 3 #[S s, .int .i64 a, .slice ao n c] w fun e w' => e = .returned (.bool true) ∧ Below w.heap.size w w' := by
  have hz := size_S s
  have hlI : ((s.length : Nat) : Int) ≤ 200 := by omega
  have hnI : (200 : Int) < (n : Nat) := by omega
  have HG := Lib.hid hg
  clear hg
  go_enter Tryd.func3, Tryd.ntmps3
  go_wp2_with fail
  refine (lives08_any w HG.out).mono ?_
  rintro q w1 ⟨rfl, hb1⟩
  have H1 := Lib.hid hb1
  clear hb1
  go_wp2_with fail
  refine (lives08_any w1 (HG.out.old H1.out)).mono ?_
  rintro q w2 ⟨rfl, hb2⟩
  go_wp2_with fail
  go_ret
  exact ⟨rfl, H1.out.trans (hb2.mono H1.out.size)⟩
end Go.Proofs.YtheaimlfngaaoaaDoor.Fi

/- fires: FiresNext's walk -/
namespace Go.Proofs.YtheaimlfngaaoaaDoor.Fi
open Go.RowKit Go.Lib Go.Proofs.YtheaimlfngaaoaaDoor.Cn Go.Proofs.YtheaimlfngaaoaaDoor.Rg Go.Proofs.YtheaimlfngaaoaaDoor.Ht
set_option linter.unusedVariables false

/-- what the loops keep -/
structure FN (s : L) (w : World) (w0 : World) (g5 c5 : Nat) (v6 : Value) (ms : List Nat) (W : World) : Prop where
  d : Doc s w0 g5 c5 v6 ms W
  b : Below w.heap.size w W
theorem FN.old {s : L} {w w0 : World} {g5 c5 : Nat} {v6 : Value} {ms : List Nat} {W W' : World} (h : FN s w w0 g5 c5 v6 ms W) (hb : Below W.heap.size W W') : FN s w w0 g5 c5 v6 ms W' := ⟨h.d.old hb, h.b.trans (hb.mono h.b.size)⟩
set_option maxRecDepth 20000 in
set_option maxHeartbeats 16000000 in
theorem next_in (s : L) (a : Int) (ao : Option Addr) (n c : Nat) (w : World) (hg : Gd w) (ha : Ca.I64 a) (hu : InU w ao n c) (hl : s.length ≤ 200) (hn : n ≤ 200) :
    Calls Tryd.prog 3 #[S s, .int .i64 a, .slice ao n c] w fun e w' => e = .returned (.bool true) ∧ Below w.heap.size w w' := by
  have hz := size_S s
  have hlI : ((s.length : Nat) : Int) ≤ 200 := by omega
  have hnI : ((n : Nat) : Int) ≤ 200 := by omega
  have hP := fun W hW => parse_any s W hW
  have hok := exOk_parse s
  obtain ⟨X, hX⟩ : ∃ x, x = parseV s := ⟨_, rfl⟩
  obtain ⟨e, he⟩ : ∃ x, x = parseE s := ⟨_, rfl⟩
  rw [← hX, ← he] at hP
  rw [← hX] at hok
  have hN := fun W hW => next_any X hok a ha W hW
  obtain ⟨fr, hfr⟩ : ∃ f, f = max a (-1) := ⟨_, rfl⟩
  rw [show lo a = fr by rw [hfr]; rfl] at hN
  have hfr1 : -1 ≤ fr ∧ fr ≤ 9223372036854775807 := by unfold Ca.I64 at ha; omega
  have HF := Lib.hid hfr
  have HG := Lib.hid hg
  have HX := Lib.hid (And.intro hP (And.intro hN (And.intro he (And.intro hX hu))))
  have hmix : Tryd.prog.follows .mixedOrders = true := by kernel_rfl
  unfold Ca.I64 at ha
  clear hP hN hok hX he hg hl hn hu hfr
  go_enter Tryd.func3, Tryd.ntmps3
  go_wp2_with fail
  refine (lives08_any w HG.out).mono ?_
  rintro q w1 ⟨rfl, hb1⟩
  have H1 := Lib.hid hb1
  clear hb1
  go_wp2_with fail
  refine (HX.out.1 w1 (HG.out.old H1.out).gl).mono ?_
  rintro q w2 ⟨rfl, hb⟩
  obtain ⟨V, hV⟩ : ∃ V, V = w2.alloc (.cells (exC X) 26) := ⟨_, rfl⟩
  obtain ⟨a1, a2, a3⟩ := cell_new w2 (exC X) 26
  rw [← hV] at a1 a2 a3
  have hbV := H1.out.trans ((hb.trans (a1.mono hb.size)).mono H1.out.size)
  have hdV : Db V := (HG.out.old hbV).db
  have H2 := Lib.hid (And.intro hV (And.intro hbV (And.intro a2 (And.intro a3 hdV))))
  clear hb hV hbV a1 a2 a3 hdV
  by_cases he0 : e = 0
  case neg =>
    have heI : ((e : Int) != 0) = true := by simp; omega
    go_wp2_with fail
    rw [← H2.out.1]
    go_ret
    exact ⟨rfl, H2.out.2.1⟩
  subst he0
  go_wp2_with fail
  rw [← H2.out.1]
  refine (rparse_any s HX.out.2.2.1.symm _).mono ?_
  rintro q w3 ⟨v6, g5, c5, ms, rfl, hms, hpm⟩
  have h3 : FN s w V g5 c5 v6 ms w3 := ⟨⟨HX.out.2.2.1.symm, hms, hpm⟩, H2.out.2.1.trans (hpm.bel.mono H2.out.2.1.size)⟩
  have hx3 := old_blk hpm.bel H2.out.2.2.1
  have hd3 : Db w3 := H2.out.2.2.2.2.old hpm.bel
  have H3 := Lib.hid (And.intro h3 hd3)
  clear hms hpm h3 hd3
  obtain ⟨⟨c0, c1, c2, c3, c4, c5', c6⟩, _⟩ := seven hx3
  clear hx3
  go_wp2_with fail
  refine (HX.out.2.1 _ H3.out.2).mono ?_
  rintro q w4 ⟨⟨t, ok, rfl, hnx⟩, hb⟩
  have h4 := H3.out.1.old hb
  have H4 := Lib.hid (And.intro h4 hnx)
  clear h4 hb c0 c1 c2 c3 c4 c5' c6
  by_cases hbig : 1099511627776 ≤ fr
  case pos =>
    have hno : ok = false ∧ t = 0 := by
      rcases hnx with ⟨_, h1, h2⟩ | ⟨h1, h2, _⟩
      · have := h1.1; omega
      · exact ⟨h1, h2⟩
    obtain ⟨rfl, rfl⟩ := hno
    have hbm : 1099511627776 ≤ max a (-1) := by rw [← HF.out]; exact hbig
    clear hnx hbig
    go_wp2_with fail
    go_ret
    exact ⟨rfl, H4.out.1.b⟩
  have hbig' : fr < 1099511627776 := by omega
  have hbm : max a (-1) < 1099511627776 := by rw [← HF.out]; exact hbig'
  have hbm1 : -1 ≤ max a (-1) := by rw [← HF.out]; exact hfr1.1
  clear hbig
  cases ok
  · obtain ⟨rfl, hbs⟩ : t = 0 ∧ BS X 1099511627776 fr := by
      rcases hnx with ⟨h1, _⟩ | ⟨_, h2, h3⟩
      · cases h1
      · exact ⟨h2, h3⟩
    have hend : ∀ u, fr < u → u < 1099511627777 → ¬ nm (parseV s) u := fun u h1 h2 => by rw [← HX.out.2.2.2.1]; exact hbs u h1 (by omega)
    have HE := Lib.hid hend
    have HQ0 := Lib.hid H4.out.1
    clear hnx hbs hend
    go_wp2_with fail
    rw [← HF.out]
    clear hbm hbm1
    go_loopw [16] (fun i wr => ∃ x : Int, i = .int .i64 x ∧ fr + 1 ≤ x ∧ x ≤ fr + 2500 ∧ FN s w V g5 c5 v6 ms wr) (fun i _ => (fr + 2501 - RowKit.intOf i).toNat)
    case atStart => exact ⟨fr + 1, rfl, by omega, by omega, HQ0.out⟩
    case round =>
      obtain ⟨x, rfl, hx1, hx2, hfn⟩ := hrel
      have HQ := Lib.hid hfn
      clear hfn
      by_cases hxE : x < 1099511627777
      · by_cases hxF : x < fr + 2500
        · have hno := HE.out x (by omega) hxE
          have HN := Lib.hid hno
          clear hno
          go_wp2_with fail
          refine (Ca.Moment_in x wr (by omega) (by omega)).mono ?_
          rintro q w5 ⟨y, mo, d, wd, hh, mi, rfl, him, hb⟩
          have h5 := HQ.out.old hb
          have hK := h5.d.no him HN.out
          have H5 := Lib.hid (And.intro h5 hK)
          clear h5 hK him hb
          go_wp2_with fail
          refine H5.out.2.mono ?_
          rintro q w6 ⟨rfl, hb6⟩
          have h6 := H5.out.1.old hb6
          clear hb6
          go_wp2_with fail
          exact ⟨⟨x + 1, rfl, by omega, by omega, h6⟩, by simp [RowKit.intOf]; omega⟩
        · have hxF' : fr + 2500 ≤ x := by omega
          clear hxF
          go_wp2_with fail
          go_loopw [102] (fun j wr => ∃ k : Nat, j = .int .i64 (k : Nat) ∧ k ≤ n ∧ FN s w V g5 c5 v6 ms wr) (fun j _ => n - (RowKit.intOf j).toNat)
          case atStart => exact ⟨0, rfl, Nat.zero_le _, HQ.out⟩
          case round =>
            obtain ⟨k, rfl, hk, hfn2⟩ := hrel
            have HR := Lib.hid hfn2
            by_cases hkn : k < n
            · obtain ⟨b, o, rfl, hcells⟩ : ∃ b o, ao = some ⟨b, o, none⟩ ∧ ∀ i, i < n → ∃ m : Nat, m ≤ 4294967295 ∧ w.cell? ⟨b, o + i, none⟩ = some (.int .u32 (m : Nat)) := by
                rcases HX.out.2.2.2.2.2.2 with h | h
                · omega
                · exact h
              obtain ⟨m, hm, hc⟩ := hcells k hkn
              have hkI : ((k : Nat) : Int) < (n : Nat) := by omega
              have hcr := (hfn2.b.cell (World.block_lt_of_cell? _ _ hc)).trans hc
              clear hcells hc hfn2
              by_cases hltE : fr + 1 + (m : Nat) < 1099511627777
              · have hno2 := HE.out (fr + 1 + (m : Nat)) (by omega) hltE
                have HN := Lib.hid hno2
                clear hno2
                go_wp2_with fail
                refine (Ca.Moment_in _ wr (by omega) (by omega)).mono ?_
                rintro q w5 ⟨y, mo, d, wd, hh, mi, rfl, him, hb⟩
                have h5 := HR.out.old hb
                have hK := h5.d.no him HN.out
                have H5 := Lib.hid (And.intro h5 hK)
                clear h5 hK him hb hcr
                go_wp2_with fail
                refine H5.out.2.mono ?_
                rintro q w6 ⟨rfl, hb6⟩
                have h6 := H5.out.1.old hb6
                clear hb6
                go_wp2_with fail
                exact ⟨⟨k + 1, rfl, by omega, h6⟩, by simp [RowKit.intOf]; omega⟩
              · have hltE' : 1099511627777 ≤ fr + 1 + (m : Nat) := by omega
                clear hltE
                go_wp2_with fail
                exact ⟨⟨k + 1, rfl, by omega, HR.out⟩, by simp [RowKit.intOf]; omega⟩
            · have hkI : ((n : Nat) : Int) ≤ (k : Nat) := by omega
              clear hfn2 hkn
              go_wp2_with fail
              go_ret
              exact ⟨rfl, HR.out.b⟩
      · have hxE' : 1099511627777 ≤ x := by omega
        clear hxE
        go_wp2_with fail
        go_loopw [102] (fun j wr => ∃ k : Nat, j = .int .i64 (k : Nat) ∧ k ≤ n ∧ FN s w V g5 c5 v6 ms wr) (fun j _ => n - (RowKit.intOf j).toNat)
        case atStart => exact ⟨0, rfl, Nat.zero_le _, HQ.out⟩
        case round =>
          obtain ⟨k, rfl, hk, hfn2⟩ := hrel
          have HR := Lib.hid hfn2
          by_cases hkn : k < n
          · obtain ⟨b, o, rfl, hcells⟩ : ∃ b o, ao = some ⟨b, o, none⟩ ∧ ∀ i, i < n → ∃ m : Nat, m ≤ 4294967295 ∧ w.cell? ⟨b, o + i, none⟩ = some (.int .u32 (m : Nat)) := by
              rcases HX.out.2.2.2.2.2.2 with h | h
              · omega
              · exact h
            obtain ⟨m, hm, hc⟩ := hcells k hkn
            have hkI : ((k : Nat) : Int) < (n : Nat) := by omega
            have hcr := (hfn2.b.cell (World.block_lt_of_cell? _ _ hc)).trans hc
            clear hcells hc hfn2
            by_cases hltE : fr + 1 + (m : Nat) < 1099511627777
            · have hno2 := HE.out (fr + 1 + (m : Nat)) (by omega) hltE
              have HN := Lib.hid hno2
              clear hno2
              go_wp2_with fail
              refine (Ca.Moment_in _ wr (by omega) (by omega)).mono ?_
              rintro q w5 ⟨y, mo, d, wd, hh, mi, rfl, him, hb⟩
              have h5 := HR.out.old hb
              have hK := h5.d.no him HN.out
              have H5 := Lib.hid (And.intro h5 hK)
              clear h5 hK him hb hcr
              go_wp2_with fail
              refine H5.out.2.mono ?_
              rintro q w6 ⟨rfl, hb6⟩
              have h6 := H5.out.1.old hb6
              clear hb6
              go_wp2_with fail
              exact ⟨⟨k + 1, rfl, by omega, h6⟩, by simp [RowKit.intOf]; omega⟩
            · have hltE' : 1099511627777 ≤ fr + 1 + (m : Nat) := by omega
              clear hltE
              go_wp2_with fail
              exact ⟨⟨k + 1, rfl, by omega, HR.out⟩, by simp [RowKit.intOf]; omega⟩
          · have hkI : ((n : Nat) : Int) ≤ (k : Nat) := by omega
            clear hfn2 hkn
            go_wp2_with fail
            go_ret
            exact ⟨rfl, HR.out.b⟩
  · obtain ⟨hx, hle⟩ : nx X fr t ∧ t ≤ 1099511627776 := by
      rcases hnx with ⟨_, h2, h3⟩ | ⟨h1, _⟩
      · exact ⟨h2, h3⟩
      · cases h1
    have hft := hx.1
    have hfm : max a (-1) < t := by rw [← HF.out]; exact hft
    have hend : ∀ u, fr < u → u < t → ¬ nm (parseV s) u := fun u h1 h2 => by rw [← HX.out.2.2.2.1]; exact hx.2.2 u h1 h2
    have hyes : nm (parseV s) t := by rw [← HX.out.2.2.2.1]; exact hx.2.1
    have HE := Lib.hid hend
    have HYes := Lib.hid hyes
    clear hnx hend hyes hx
    go_wp2_with fail
    refine (Ca.Moment_in t w4 (by omega) (by omega)).mono ?_
    rintro q w5 ⟨y, mo, d, wd, hh, mi, rfl, him, hb⟩
    have h5 := H4.out.1.old hb
    have hK := h5.d.yes him HYes.out
    have H5 := Lib.hid (And.intro h5 hK)
    clear h5 hK him hb
    go_wp2_with fail
    refine H5.out.2.mono ?_
    rintro q w6 ⟨rfl, hb6⟩
    have h6 := H5.out.1.old hb6
    have HQ0 := Lib.hid h6
    clear hb6 h6
    go_wp2_with fail
    clear hfm
    rw [← HF.out]
    clear hbm hbm1
    go_loopw [16] (fun i wr => ∃ x : Int, i = .int .i64 x ∧ fr + 1 ≤ x ∧ x ≤ fr + 2500 ∧ FN s w V g5 c5 v6 ms wr) (fun i _ => (fr + 2501 - RowKit.intOf i).toNat)
    case atStart => exact ⟨fr + 1, rfl, by omega, by omega, HQ0.out⟩
    case round =>
      obtain ⟨x, rfl, hx1, hx2, hfn⟩ := hrel
      have HQ := Lib.hid hfn
      clear hfn
      by_cases hxE : x < t
      · by_cases hxF : x < fr + 2500
        · have hno := HE.out x (by omega) hxE
          have HN := Lib.hid hno
          clear hno
          go_wp2_with fail
          refine (Ca.Moment_in x wr (by omega) (by omega)).mono ?_
          rintro q w5 ⟨y, mo, d, wd, hh, mi, rfl, him, hb⟩
          have h5 := HQ.out.old hb
          have hK := h5.d.no him HN.out
          have H5 := Lib.hid (And.intro h5 hK)
          clear h5 hK him hb
          go_wp2_with fail
          refine H5.out.2.mono ?_
          rintro q w6 ⟨rfl, hb6⟩
          have h6 := H5.out.1.old hb6
          clear hb6
          go_wp2_with fail
          exact ⟨⟨x + 1, rfl, by omega, by omega, h6⟩, by simp [RowKit.intOf]; omega⟩
        · have hxF' : fr + 2500 ≤ x := by omega
          clear hxF
          go_wp2_with fail
          go_loopw [102] (fun j wr => ∃ k : Nat, j = .int .i64 (k : Nat) ∧ k ≤ n ∧ FN s w V g5 c5 v6 ms wr) (fun j _ => n - (RowKit.intOf j).toNat)
          case atStart => exact ⟨0, rfl, Nat.zero_le _, HQ.out⟩
          case round =>
            obtain ⟨k, rfl, hk, hfn2⟩ := hrel
            have HR := Lib.hid hfn2
            by_cases hkn : k < n
            · obtain ⟨b, o, rfl, hcells⟩ : ∃ b o, ao = some ⟨b, o, none⟩ ∧ ∀ i, i < n → ∃ m : Nat, m ≤ 4294967295 ∧ w.cell? ⟨b, o + i, none⟩ = some (.int .u32 (m : Nat)) := by
                rcases HX.out.2.2.2.2.2.2 with h | h
                · omega
                · exact h
              obtain ⟨m, hm, hc⟩ := hcells k hkn
              have hkI : ((k : Nat) : Int) < (n : Nat) := by omega
              have hcr := (hfn2.b.cell (World.block_lt_of_cell? _ _ hc)).trans hc
              clear hcells hc hfn2
              by_cases hltE : fr + 1 + (m : Nat) < t
              · have hno2 := HE.out (fr + 1 + (m : Nat)) (by omega) hltE
                have HN := Lib.hid hno2
                clear hno2
                go_wp2_with fail
                refine (Ca.Moment_in _ wr (by omega) (by omega)).mono ?_
                rintro q w5 ⟨y, mo, d, wd, hh, mi, rfl, him, hb⟩
                have h5 := HR.out.old hb
                have hK := h5.d.no him HN.out
                have H5 := Lib.hid (And.intro h5 hK)
                clear h5 hK him hb hcr
                go_wp2_with fail
                refine H5.out.2.mono ?_
                rintro q w6 ⟨rfl, hb6⟩
                have h6 := H5.out.1.old hb6
                clear hb6
                go_wp2_with fail
                exact ⟨⟨k + 1, rfl, by omega, h6⟩, by simp [RowKit.intOf]; omega⟩
              · have hltE' : t ≤ fr + 1 + (m : Nat) := by omega
                clear hltE
                go_wp2_with fail
                exact ⟨⟨k + 1, rfl, by omega, HR.out⟩, by simp [RowKit.intOf]; omega⟩
            · have hkI : ((n : Nat) : Int) ≤ (k : Nat) := by omega
              clear hfn2 hkn
              go_wp2_with fail
              go_ret
              exact ⟨rfl, HR.out.b⟩
      · have hxE' : t ≤ x := by omega
        clear hxE
        go_wp2_with fail
        go_loopw [102] (fun j wr => ∃ k : Nat, j = .int .i64 (k : Nat) ∧ k ≤ n ∧ FN s w V g5 c5 v6 ms wr) (fun j _ => n - (RowKit.intOf j).toNat)
        case atStart => exact ⟨0, rfl, Nat.zero_le _, HQ.out⟩
        case round =>
          obtain ⟨k, rfl, hk, hfn2⟩ := hrel
          have HR := Lib.hid hfn2
          by_cases hkn : k < n
          · obtain ⟨b, o, rfl, hcells⟩ : ∃ b o, ao = some ⟨b, o, none⟩ ∧ ∀ i, i < n → ∃ m : Nat, m ≤ 4294967295 ∧ w.cell? ⟨b, o + i, none⟩ = some (.int .u32 (m : Nat)) := by
              rcases HX.out.2.2.2.2.2.2 with h | h
              · omega
              · exact h
            obtain ⟨m, hm, hc⟩ := hcells k hkn
            have hkI : ((k : Nat) : Int) < (n : Nat) := by omega
            have hcr := (hfn2.b.cell (World.block_lt_of_cell? _ _ hc)).trans hc
            clear hcells hc hfn2
            by_cases hltE : fr + 1 + (m : Nat) < t
            · have hno2 := HE.out (fr + 1 + (m : Nat)) (by omega) hltE
              have HN := Lib.hid hno2
              clear hno2
              go_wp2_with fail
              refine (Ca.Moment_in _ wr (by omega) (by omega)).mono ?_
              rintro q w5 ⟨y, mo, d, wd, hh, mi, rfl, him, hb⟩
              have h5 := HR.out.old hb
              have hK := h5.d.no him HN.out
              have H5 := Lib.hid (And.intro h5 hK)
              clear h5 hK him hb hcr
              go_wp2_with fail
              refine H5.out.2.mono ?_
              rintro q w6 ⟨rfl, hb6⟩
              have h6 := H5.out.1.old hb6
              clear hb6
              go_wp2_with fail
              exact ⟨⟨k + 1, rfl, by omega, h6⟩, by simp [RowKit.intOf]; omega⟩
            · have hltE' : t ≤ fr + 1 + (m : Nat) := by omega
              clear hltE
              go_wp2_with fail
              exact ⟨⟨k + 1, rfl, by omega, HR.out⟩, by simp [RowKit.intOf]; omega⟩
          · have hkI : ((n : Nat) : Int) ≤ (k : Nat) := by omega
            clear hfn2 hkn
            go_wp2_with fail
            go_ret
            exact ⟨rfl, HR.out.b⟩
end Go.Proofs.YtheaimlfngaaoaaDoor.Fi

/- fires: FiresNext's walk, for all that comes in -/
namespace Go.Proofs.YtheaimlfngaaoaaDoor.Fi
open Go.RowKit Go.Lib Go.Proofs.YtheaimlfngaaoaaDoor.Cn
set_option linter.unusedVariables false

theorem next_law (s : ByteArray) (a : Int) (ao : Option Addr) (n c : Nat) (ha : (Lit.int .i64 a).wf = true) (w : World) (hu : InU w ao n c) (hg : Gd w) :
    Calls Tryd.prog 3 #[.string s, .int .i64 a, .slice ao n c] w fun e w' => e = .returned (.bool true) ∧ Below w.heap.size w w' := by
  have ha2 : Ca.I64 a := by simpa [Ca.I64, Lit.wf, IntKind.min, IntKind.max, IntKind.signed, IntKind.bits] using ha
  rw [show Value.string s = S s.data.toList by cases s; simp [S]]
  by_cases h : s.data.toList.length ≤ 200
  · by_cases h2 : n ≤ 200
    · exact next_in _ a ao n c w hg ha2 hu h h2
    · exact next_many _ a ao n c ⟨hu.1, hu.2.1⟩ h (by omega) w hg
  · exact next_long _ a _ (by omega) w hg
end Go.Proofs.YtheaimlfngaaoaaDoor.Fi

/- FiresNext holds for every text, every number of 64 bits and every numbers of 32 bits: the next tick that an expression names is named by the document, too, and none between is; the tables of the program and of the library that are read are as the texts lay them; no other condition -/
namespace Go.Proofs.YtheaimlfngaaoaaDoor.firesNext
open Go.ChangeShapes Go.WideShapes Go.ChangeAt Go.RowKit
open Go.ChangeMaps (open_string shut_string)
set_option linter.unusedVariables false

theorem own : ownKnob Tryd.prog.godebug = none := by kernel_rfl
theorem laidOut : laidOutB Tryd.prog = true := by kernel_rfl

set_option maxRecDepth 100000 in
theorem lifted (os : Os) (started : os.Started) (H : Type) (enc : TypeId × Value → H) :
    ReturnsInHanded {} Tryd.checked os 3 .any (fun w args => (Rows.firesNextSpec.pre enc Tryd.prog Tryd.f3 [] false w args ∧ laidMetH Tryd.prog FiL.laidL w) ∧ sizedMet enc Tryd.prog Tryd.f3 (OpenSpec.ofChange Rows.firesNextSpec) false w args) (Rows.firesNextSpec.post enc Tryd.prog Tryd.f3 false true false false) := by
  refine Sh.handed (C := Tryd.checked) (X := fun w _ => laidMetH Tryd.prog FiL.laidL w) (fun _ _ _ hh h => h.of_heap hh) own started (by kernel_rfl) Tryd.func3
    (ChangeSpec.witness_shaped (enc := enc) (C := Tryd.checked) (os := os) (X := fun w _ => laidMetH Tryd.prog FiL.laidL w) false (World.laidAll Tryd.prog os FiL.laidL) #[.string ⟨#[]⟩, .int .i64 0, .slice none 0 0] 8 (World.laidAll_os _ _ _) (World.shaped_of_ZipB (by kernel_rfl) (by kernel_rfl)) (by kernel_rfl) (by kernel_rfl) (by kernel_rfl) (FiL.met_laid _ _)) ?_
  intro W base args ds gs before hval0 hW hcnd hL hsh
  have hval : ∀ (j : Nat) t v, Tryd.f3.params[j]? = some t → args[j]? = some v → Value.okWide Tryd.prog W .any base t v := hval0
  have hW' := hW
  obtain ⟨p, q, hA0, hV, rfl, hfz, hnd⟩ := hW
  have hA : DataW.TrodAll enc Tryd.prog W 0 (fun _ => true) true Tryd.f3.params.toList args.toList ds p := hA0
  rw [Tryd.params3] at hA hval
  obtain ⟨v0, vs0, d0, ds0, p0, q0, hargs, rfl, rfl, h0, r0⟩ := trodAll_cons hA
  obtain ⟨v1, vs1, d1, ds1, p1, q1, rfl, rfl, rfl, h1, r1⟩ := trodAll_cons r0
  obtain ⟨v2, vs2, d2, ds2, p2, q2, rfl, rfl, rfl, h2, r2⟩ := trodAll_cons r1
  obtain ⟨rfl, rfl, rfl⟩ := trodAll_nil r2
  obtain rfl : args = #[v0, v1, v2] := by cases args; simp_all
  obtain ⟨rfl, rfl⟩ := trodVars_none hV
  obtain ⟨a0, rfl, rfl, rfl, w0⟩ := open_string Tryd.underlying9 (hval 0 9 v0 rfl rfl) h0
  obtain ⟨m1, rfl, rfl, rfl, w1⟩ := open_int Tryd.underlying2 (hval 1 2 v1 rfl rfl) h1
  have k2 := h2
  have lt2 : ∀ x ∈ p2, x.block < W.heap.size := by obtain ⟨m, hm⟩ := k2; exact DataW.trod_lt m _ _ _ hm
  obtain ⟨a2, n2, c2, rfl, i2⟩ := Fi.open_u32s (hval 2 22 v2 rfl rfl) h2
  clear hA0 hval0
  have hn := FiL.gl_of hL hsh
  refine (Fi.next_law a0 m1 a2 n2 c2 w1 W i2 hn).mono fun e W' ⟨he, bel⟩ => ?_
  subst he
  exact ⟨_, rfl, _, _, _, [], _, [], hW', trodAll_mk1 (shut_bool Tryd.underlying4 _), (trodAll_cons_mk (shut_string Tryd.underlying9 w0) (trodAll_cons_mk (shut_int Tryd.underlying2 w1) (trodAll_cons_mk (Below.trod laidOut (by kernel_rfl) (of_decide_eq_true (by kernel_rfl)) k2 bel lt2) trodAll_mk0))), rfl, bel.frame _, fun h => by cases h⟩

theorem over : Rows.firesNextRow.holds Tryd.pinned (OpenSpec.ofChange Rows.firesNextSpec) :=
  OpenClaim.holds_of_wide 3 Tryd.f3 rfl rfl rfl rfl rfl rfl rfl ⟨rfl, rfl, rfl, rfl, rfl⟩ rfl rfl rfl rfl rfl (by kernel_rfl) Tryd.func3 (by kernel_rfl)
    (of_decide_eq_true (by kernel_rfl)) (by unfold Func.isWrapper; first | (rw [if_pos (by decide +kernel)]; kernel_rfl) | (rw [if_neg (by decide +kernel)]; exact ⟨rfl, rfl⟩))
    (fun os started H enc _ => lifted os started H enc)

theorem proved : Rows.FiresNextCardSaid :=
  Claim7.holds_tied_plain_at .later [] [.data, .data, .wider, .pinned] true _ false over (fun _ h => by cases h) (by kernel_rfl) (fun _ h => by cases h) firesNext_row_tie rfl ⟨rfl, rfl⟩ (by kernel_rfl) rfl
    (fun f fn hf hfn => by
      obtain rfl : f = 3 := Option.some.inj ((show Tryd.prog.funcNamed "compline/complinelaw08.FiresNext" = some 3 by kernel_rfl).symm.trans hf) |>.symm
      obtain rfl : fn = Tryd.f3 := (Option.some.inj (Tryd.func3.symm.trans hfn)).symm
      exact ⟨by kernel_rfl, fun j t ht => by
        rw [Tryd.params3] at ht
        have hm : t ∈ [9, 2, 22] := by simpa using Array.mem_of_getElem? ht
        have hall : ([9, 2, 22].all fun u => !Tryd.prog.wantsStandIn u) = true := by kernel_rfl
        exact (show Tryd.prog.wantsStandIn t = false by simpa using List.all_eq_true.1 hall t hm)⟩)
    (by kernel_rfl)
#print axioms proved
end Go.Proofs.YtheaimlfngaaoaaDoor.firesNext
