
/- an expression's text: its values, written out -/
import Derived.Test.YtjbfpllkgaialaaDoorCnT
import Derived.Test.YtjbfpllkgaialaaDoorBy
import Derived.Shelf.Spec.TrailingZeros
namespace Go.Proofs.YtjbfpllkgaialaaDoor.Cn
open Go.RowKit Go.Lib
set_option linter.unusedVariables false

/-- what a text reads beside: the table of the library -/
structure Gd (w : World) : Prop where
  gl : Gl w
  db : ∀ j, j < 64 → w.cell? ⟨1, j, none⟩ = some (.int .u8 (deBruijn64tab.getD j 0 : Nat))
theorem Gd.old {w w' : World} (h : Gd w) (hb : Below w.heap.size w w') : Gd w' :=
  ⟨h.gl.old hb, fun j hj => (hb.cell (World.block_lt_of_cell? _ _ (h.db j hj))).trans (h.db j hj)⟩
set_option maxRecDepth 20000 in
set_option maxHeartbeats 1000000 in
theorem tz_core (x k idx : Nat) (w : World) (h0 : ((x : Int) == 0) = false)
    (key : IntKind.u64.wrap (bits BinOp.and IntKind.u64 (x : Int) (IntKind.u64.wrap (-(x : Int))) * 285870213051353865) / 288230376151711744 = (idx : Int))
    (hi : idx < 64) (hk : k < 64) (hcell : w.cell? ⟨1, idx, none⟩ = some (.int .u8 (k : Nat))) :
    Calls Tryd.prog 57 #[.int .u64 x] w fun e w' => e = .returned (.int .i64 (k : Nat)) ∧ w' = w := by
  go_enter Tryd.func57, Tryd.ntmps57
  go_wp2_with (simp only [key])
  go_ret
  exact ⟨rfl, rfl⟩
theorem tz_any (x : Nat) (hx0 : x ≠ 0) (hx : x < 18446744073709551616) (w : World) (hg : Gd w) :
    Calls Tryd.prog 57 #[u x] w fun e w' => e = .returned (.int .i64 (ctz 64 x : Nat)) ∧ w' = w := by
  obtain ⟨hlow, hk⟩ := lowest_bit 64 x hx0 hx
  obtain ⟨hi, htab⟩ := deBruijn64_at _ hk
  have hcell := hg.db _ hi
  rw [htab] at hcell
  exact tz_core x _ _ w (by simp; omega) (tz64_key x _ hx hx0 hlow) hi hk hcell
theorem info9 : (Tryd.prog.info? 9).map (fun i => (i.zero, i.size, i.bytes)) = some (some (.string ⟨#[]⟩), 1, 16) := by kernel_rfl
theorem bytes_eq (x : ByteArray) (l : L) (h : x.data.toList = l) : x = ⟨l.toArray⟩ := by subst h; cases x; simp
/-- texts that lie in a row of one's own, joined -/
theorem join_row (l : List L) (sep : L) (B : Nat) (v : Value) (w : World) (hown : w.ownsRow B 9 1 v l.length (l.map fun x => S x)) (hlen : (join l sep).length ≤ 100000) (hN : l.length ≤ 100000) :
    Calls Tryd.prog 25 #[v, S sep] w fun e w' => e = .returned (S (join l sep)) ∧ Below w.heap.size w w' := by
  have hcell := fun g hg => hown.cells (g := g) hg
  rcases hown.2 with ⟨rfl, h0⟩ | ⟨g, cap, cur, rfl, hb, hg, hnc, hcm, _, _⟩
  · have hl : l = [] := List.eq_nil_of_length_eq_zero h0
    subst hl
    refine (Tryd.strings_Join_none none 0 _ w).mono ?_
    rintro e w' ⟨rfl, rfl⟩
    exact ⟨rfl, Below.refl _ _⟩
  · have h := Tryd.strings_Join g 0 cap (l.map fun x => (⟨x.toArray⟩ : ByteArray)) ⟨sep.toArray⟩ w (by
      intro j x hx
      rw [List.getElem?_map, Option.map_eq_some_iff] at hx
      obtain ⟨y, hy, rfl⟩ := hx
      have := hcell g rfl j (S y) (by rw [List.getElem?_map, hy]; rfl)
      have hadd : (⟨g, 0, none⟩ : Addr).add j = ⟨g, 0 + j, none⟩ := by unfold Addr.add; split <;> simp_all
      rw [hadd] at this
      exact this) (Array.getElem?_eq_some_iff.1 hg).1 (by simp; omega) (by simpa using hnc) (by
      have e1 : (l.map fun x => (⟨x.toArray⟩ : ByteArray)).map (·.data.toList) = l := by rw [List.map_map]; exact (List.map_congr_left fun x _ => by simp).trans (List.map_id _)
      rw [e1]; simp; omega)
    have e1 : (l.map fun x => (⟨x.toArray⟩ : ByteArray)).map (·.data.toList) = l := by rw [List.map_map]; exact (List.map_congr_left fun x _ => by simp).trans (List.map_id _)
    rw [e1, List.length_map] at h
    exact h
/-- the values' texts as cells -/
abbrev decs (l : List Nat) : List Value := l.map fun j => S (decDigits j)
set_option maxRecDepth 20000 in
set_option maxHeartbeats 4000000 in
theorem list_some (n : Nat) (h0 : n ≠ 0) (hn : n < 18446744073709551616) (w : World) (hg : Gd w) :
    Calls Tryd.prog 42 #[u n] w fun e w' => e = .returned (S (join ((bitsL n).map decDigits) [44])) ∧ Below w.heap.size w w' := by
  obtain ⟨i0, hi0, hz0, hz1, hz2⟩ := info_parts info9
  have hnI : ((n : Int) == 0) = false := by simp; omega
  have hJ : (join ((bitsL n).map decDigits) [44]).length ≤ 100000 := by
    have := listT_len n
    unfold listT at this
    rw [if_neg h0] at this
    omega
  have HG := Lib.hid hg
  clear hg
  go_enter Tryd.func42, Tryd.ntmps42
  go_wp2_with fail
  go_loopw [0, 3] (fun x sl wr => ∃ k : Nat, x = u (hi n k) ∧ k ≤ 64 ∧ wr.ownsRow w.heap.size 9 1 sl (bel n k).length (decs (bel n k)) ∧ Below w.heap.size w wr) (fun x _ _ => (RowKit.intOf x).toNat)
  case atStart => exact ⟨0, by rw [hi_zero hn], Nat.zero_le _, World.ownsRow_nil _ _ _ _, Below.refl _ _⟩
  case round =>
    obtain ⟨k, rfl, hk, hown, hbel⟩ := hrel
    have hml : hi n k < 18446744073709551616 := mk_lt _
    by_cases hX : hi n k = 0
    · have hend := hi_end hX hk
      have HE := Lib.hid (And.intro hend hbel)
      clear hend hbel hml
      rw [hX]
      go_wp2_with fail
      refine (join_row ((bel n k).map decDigits) [44] w.heap.size _ wr (by rw [List.length_map, List.map_map]; exact hown) (by rw [← HE.out.1]; exact hJ) (by rw [List.length_map]; have := bel_len n k; omega)).mono ?_
      rintro e w1 ⟨rfl, hb⟩
      go_wp2_with fail
      go_ret
      exact ⟨by rw [← HE.out.1]; rfl, HE.out.2.trans (hb.mono HE.out.2.size)⟩
    · obtain ⟨c1, c2, c3, c4⟩ := hi_next hX hk
      have htz := tz_any (hi n k) hX hml wr (HG.out.old hbel)
      have hit := Tryd.strconv_Itoa_small (ctz 64 (hi n k)) (by omega) wr
      have hband : bits .and .u64 ((hi n k : Nat) : Int) (((hi n k - 1 : Nat)) : Int) = ((hi n (ctz 64 (hi n k) + 1) : Nat) : Int) := by
        rw [← c3]; exact u64_and_nat _ _ hml (Nat.lt_of_le_of_lt (Nat.sub_le _ _) hml)
      have hlt : hi n (ctz 64 (hi n k) + 1) < hi n k := by
        rw [← c3]
        have := Nat.and_le_right (n := hi n k) (m := hi n k - 1)
        omega
      generalize ctz 64 (hi n k) = c at c1 c2 c3 c4 htz hit hband hlt
      obtain ⟨Y, hY⟩ : ∃ Y, Y = hi n (c + 1) := ⟨_, rfl⟩
      rw [← hY] at hband hlt c3
      generalize hi n k = X at hX hml htz hband hlt c3 ⊢
      have hXI : ((X : Int) != 0) = true := by simp; omega
      have hsub : IntKind.u64.wrap ((X : Int) - 1) = ((X - 1 : Nat) : Int) := by rw [IntWalk.u64_in _ (by omega)]; omega
      have HB := Lib.hid (And.intro hbel (And.intro c4 (And.intro hlt hY)))
      have HC := Lib.hid (And.intro htz hit)
      have HD := Lib.hid hband
      have hbl := bel_len n k
      clear hbel c4 htz hit hlt c3 hJ hband hY
      go_wp2_with fail
      refine HC.out.1.mono ?_
      rintro e w1 ⟨rfl, rfl⟩
      go_wp2_with fail
      refine HC.out.2.mono ?_
      rintro e w2 ⟨rfl, rfl⟩
      go_wp2_with (at_builtin; refine wpList_append_own _ rfl _ _ 31 rfl w.heap.size 9 i0 (.string ⟨#[]⟩) 1 16 Tryd.underlying31 hi0 hz0 hz1 hz2 rfl (by decide) _ _ _ rfl (hown.alloc _) ⟨w2.heap.size, 0, none⟩ 1 1 [S (decDigits c)] rfl rfl ?c1 ?c2 ?c3 ?c4 ?c5 ?_)
      case c1 =>
        intro j u hj
        match j, hj with
        | 0, hj => simp at hj; subst hj; simp [Addr.add]
      case c2 => intro u hu; simp at hu; subst hu; rfl
      case c3 => have : maxLen = 9223372036854775807 := rfl; omega
      case c4 => omega
      case c5 => have := HB.out.1.size; first | omega | (simp; omega)
      intro v' w3 hown' hgrow _
      obtain ⟨ao, cp, rfl⟩ := By.own_shape hown'
      have hb3 : Below w.heap.size w w3 := (HB.out.1.alloc HB.out.1.size _).grown hgrow (by have := HB.out.1.size; simp; omega) (fun g hg => (hown.lt g hg).1)
      have HR := Lib.hid (And.intro hown' hb3)
      clear hown' hgrow hb3 hown
      go_wp2_with fail
      rw [HD.out]
      have e1 : (bel n (c + 1)).length = (bel n k).length + 1 := by rw [HB.out.2.1]; simp
      have e2 : decs (bel n (c + 1)) = decs (bel n k) ++ [S (decDigits c)] := by rw [HB.out.2.1]; simp [decs]
      exact ⟨⟨c + 1, by rw [HB.out.2.2.2], by omega, by rw [e1, e2]; exact HR.out.1, HR.out.2⟩, by have := HB.out.2.2.1; simp [RowKit.intOf]; omega⟩
theorem list_any (n : Nat) (hn : n < 18446744073709551616) (w : World) (hg : Gd w) :
    Calls Tryd.prog 42 #[u n] w fun e w' => e = .returned (S (listT n)) ∧ Below w.heap.size w w' := by
  unfold listT
  by_cases h0 : n = 0
  · subst h0
    rw [if_pos rfl]
    go_enter Tryd.func42, Tryd.ntmps42
    go_wp2_with fail
    go_ret
    exact ⟨rfl, Below.refl _ _⟩
  · rw [if_neg h0]
    exact list_some n h0 hn w hg
theorem text_any (n : Nat) (hn : n < 18446744073709551616) (s : Bool) (w : World) (hg : Gd w) :
    Calls Tryd.prog 26 #[u n, .bool s] w fun e w' => e = .returned (S (textT n s)) ∧ Below w.heap.size w w' := by
  have hl := list_any n hn w hg
  have HL := Lib.hid hl
  clear hl hg
  cases s
  · go_enter Tryd.func26, Tryd.ntmps26
    go_wp2_with fail
    refine HL.out.mono ?_
    rintro e w1 ⟨rfl, hb⟩
    go_wp2_with fail
    go_ret
    exact ⟨rfl, hb⟩
  · go_enter Tryd.func26, Tryd.ntmps26
    go_wp2_with fail
    go_ret
    exact ⟨rfl, Below.refl _ _⟩
set_option maxRecDepth 20000 in
theorem full_any (i : Nat) (hi : i < 5) (n : Nat) (w : World) (hg : Gl w) :
    Calls Tryd.prog 27 #[.int .i64 (i : Nat), u n] w fun e w' => e = .returned (.bool (decide (n = allM i))) ∧ Below w.heap.size w w' := by
  have hf := fds_ok i
  have ha := fun W => all_any (fds i) W
  have hv := fun W => values_any ((fds i).lo, (fds i).hi, 1) (by have := hf.lo; show (fds i).lo ≤ 99; omega) (by exact hf.hi) (by show 1 ≤ 1; decide) (by show 1 ≤ 60; decide) W
  have HA := Lib.hid (And.intro ha hv)
  have c : ∀ (k : Nat) (v : Value), fldC[k]? = some v → w.cell? ⟨0, k, none⟩ = some v := hg.fld
  have hM : mk (inP ((fds i).lo, (fds i).hi, 1)) = allM i := rfl
  rw [hM] at HA
  clear ha hv hM
  generalize allM i = M at HA ⊢
  have hres : decide (n = M) = ((n : Int) == (M : Int)) := by rw [Bool.eq_iff_iff]; simp; omega
  rw [hres]
  clear hres
  have : i = 0 ∨ i = 1 ∨ i = 2 ∨ i = 3 ∨ i = 4 := by omega
  rcases this with rfl | rfl | rfl | rfl | rfl
  · have c0 : w.cell? ⟨0, 0, none⟩ = some (.int .i64 ((fds 0).lo : Nat)) := c 0 _ rfl
    have c1 : w.cell? ⟨0, 1, none⟩ = some (.int .i64 ((fds 0).hi : Nat)) := c 1 _ rfl
    have c2 : w.cell? ⟨0, 2, none⟩ = some (S (fds 0).nm) := c 2 _ rfl
    clear c hg hf
    go_enter Tryd.func27, Tryd.ntmps27
    go_wp2_with fail
    refine (HA.out.1 _).mono ?_
    rintro e w1 ⟨rfl, hb1⟩
    go_wp2_with fail
    refine (HA.out.2 _).mono ?_
    rintro e w2 ⟨rfl, hb2⟩
    go_wp2_with fail
    go_ret
    exact ⟨rfl, hb1.trans (hb2.mono hb1.size)⟩
  · have c0 : w.cell? ⟨0, 3, none⟩ = some (.int .i64 ((fds 1).lo : Nat)) := c 3 _ rfl
    have c1 : w.cell? ⟨0, 4, none⟩ = some (.int .i64 ((fds 1).hi : Nat)) := c 4 _ rfl
    have c2 : w.cell? ⟨0, 5, none⟩ = some (S (fds 1).nm) := c 5 _ rfl
    clear c hg hf
    go_enter Tryd.func27, Tryd.ntmps27
    go_wp2_with fail
    refine (HA.out.1 _).mono ?_
    rintro e w1 ⟨rfl, hb1⟩
    go_wp2_with fail
    refine (HA.out.2 _).mono ?_
    rintro e w2 ⟨rfl, hb2⟩
    go_wp2_with fail
    go_ret
    exact ⟨rfl, hb1.trans (hb2.mono hb1.size)⟩
  · have c0 : w.cell? ⟨0, 6, none⟩ = some (.int .i64 ((fds 2).lo : Nat)) := c 6 _ rfl
    have c1 : w.cell? ⟨0, 7, none⟩ = some (.int .i64 ((fds 2).hi : Nat)) := c 7 _ rfl
    have c2 : w.cell? ⟨0, 8, none⟩ = some (S (fds 2).nm) := c 8 _ rfl
    clear c hg hf
    go_enter Tryd.func27, Tryd.ntmps27
    go_wp2_with fail
    refine (HA.out.1 _).mono ?_
    rintro e w1 ⟨rfl, hb1⟩
    go_wp2_with fail
    refine (HA.out.2 _).mono ?_
    rintro e w2 ⟨rfl, hb2⟩
    go_wp2_with fail
    go_ret
    exact ⟨rfl, hb1.trans (hb2.mono hb1.size)⟩
  · have c0 : w.cell? ⟨0, 9, none⟩ = some (.int .i64 ((fds 3).lo : Nat)) := c 9 _ rfl
    have c1 : w.cell? ⟨0, 10, none⟩ = some (.int .i64 ((fds 3).hi : Nat)) := c 10 _ rfl
    have c2 : w.cell? ⟨0, 11, none⟩ = some (S (fds 3).nm) := c 11 _ rfl
    clear c hg hf
    go_enter Tryd.func27, Tryd.ntmps27
    go_wp2_with fail
    refine (HA.out.1 _).mono ?_
    rintro e w1 ⟨rfl, hb1⟩
    go_wp2_with fail
    refine (HA.out.2 _).mono ?_
    rintro e w2 ⟨rfl, hb2⟩
    go_wp2_with fail
    go_ret
    exact ⟨rfl, hb1.trans (hb2.mono hb1.size)⟩
  · have c0 : w.cell? ⟨0, 12, none⟩ = some (.int .i64 ((fds 4).lo : Nat)) := c 12 _ rfl
    have c1 : w.cell? ⟨0, 13, none⟩ = some (.int .i64 ((fds 4).hi : Nat)) := c 13 _ rfl
    have c2 : w.cell? ⟨0, 14, none⟩ = some (S (fds 4).nm) := c 14 _ rfl
    clear c hg hf
    go_enter Tryd.func27, Tryd.ntmps27
    go_wp2_with fail
    refine (HA.out.1 _).mono ?_
    rintro e w1 ⟨rfl, hb1⟩
    go_wp2_with fail
    refine (HA.out.2 _).mono ?_
    rintro e w2 ⟨rfl, hb2⟩
    go_wp2_with fail
    go_ret
    exact ⟨rfl, hb1.trans (hb2.mono hb1.size)⟩
end Go.Proofs.YtjbfpllkgaialaaDoor.Cn
