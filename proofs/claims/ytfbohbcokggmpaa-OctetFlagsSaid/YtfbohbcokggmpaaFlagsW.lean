/- the walk of OctetFlags -/
import Derived.Test.YtfbohbcokggmpaaRd4
namespace Go.Proofs.Ytfbohbcokggmpaa.Oc
open Go.RowKit Go.Lib

/-- a row of numbers that fit a byte, as bytes -/
theorem isB_row {w : World} {a : Option Addr} {len cap : Nat} {zs : List Int}
    (h : (a = none ∧ len = 0 ∧ cap = 0 ∧ zs = []) ∨ ∃ x, a = some x ∧ len ≤ cap ∧ cap ≤ maxLen ∧ zs.length = cap ∧ (∀ i, i < zs.length → w.cell? (x.add i) = some (.int .u8 (zs.getD i 0))) ∧ ∀ n ∈ zs, (Lit.int .u8 n).wf = true) :
    ∃ l, IsB w a len cap l := by
  rcases h with ⟨rfl, rfl, rfl, rfl⟩ | ⟨x, rfl, h1, h2, h3, h4, h5⟩
  · exact ⟨[], rfl, .inl ⟨rfl, rfl, rfl⟩⟩
  · refine ⟨(zs.take len).map fun n => UInt8.ofNat n.toNat, by simp; omega, .inr ⟨x, rfl, h1, h2, fun j u hu => ?_⟩⟩
    simp only [byteCells, List.map_map, List.getElem?_map, List.getElem?_take] at hu
    split at hu
    · have hj : j < zs.length := by omega
      rw [List.getElem?_eq_getElem hj] at hu
      simp only [Option.map_some, Option.some.injEq, Function.comp] at hu
      have hw : 0 ≤ zs[j] ∧ zs[j] ≤ 255 := by simpa [Lit.wf, IntKind.min, IntKind.max, IntKind.signed, IntKind.bits] using h5 _ (List.getElem_mem hj)
      have e : ((UInt8.ofNat zs[j].toNat).toNat : Int) = zs[j] := by
        rw [UInt8.toNat_ofNat']
        have : zs[j].toNat % 2 ^ 8 = zs[j].toNat := Nat.mod_eq_of_lt (by omega)
        rw [this]; omega
      rw [h4 j hj, ← hu, e]
      simp [List.getD, hj]
    · cases hu

theorem byte_of {a : Int} (h : (Lit.int .u8 a).wf = true) : ∃ c : UInt8, a = c.toNat := by
  have hw : 0 ≤ a ∧ a ≤ 255 := by simpa [Lit.wf, IntKind.min, IntKind.max, IntKind.signed, IntKind.bits] using h
  refine ⟨UInt8.ofNat a.toNat, ?_⟩
  rw [UInt8.toNat_ofNat']
  have : a.toNat % 2 ^ 8 = a.toNat := Nat.mod_eq_of_lt (by omega)
  rw [this]; omega

set_option maxHeartbeats 2000000 in
theorem flags_walk (c : UInt8) (a1 : Option Addr) (len1 cap1 : Nat) (l : List UInt8) (w : World) (hl : IsB w a1 len1 cap1 l) :
    Calls Try.prog 4 #[.int .u8 c.toNat, .slice a1 len1 cap1] w fun e w' => e = .returned (.bool true) ∧ Below w.heap.size w w' := by
  have hc := c.toNat_lt
  by_cases hbig : 100 < len1
  · go_enter Try.func4, Try.ntmps4
    have hlen : len1 ≤ 9223372036854775807 := by
      obtain ⟨_, ⟨_, h, _⟩ | ⟨x, _, h1, h2, _⟩⟩ := hl
      · omega
      · unfold maxLen at h2; omega
    go_wp2_with (first | (go_at_call 6; refine (lives_any _).mono ?_; rintro e wl ⟨rfl, hbl⟩))
    go_ret
    exact ⟨rfl, Below.trans (by assumption) ((by assumption : Below _ _ _).mono (by have := (by assumption : Below w.heap.size w _).size; exact this))⟩
  · go_enter Try.func4, Try.ntmps4
    go_wp2_with (first | (go_at_call 6; refine (lives_any _).mono ?_; rintro e wl ⟨rfl, hbl⟩))
    have hs := hbl.size
    have hll : l.length = len1 := hl.1
    -- the writer, its first byte
    have hb0 : Below wl.heap.size wl ((wl.alloc (.cells #[.slice none 0 0] 27)).alloc (.cells #[.int .u8 c.toNat] 5)) := ((Below.refl _ _).alloc (Nat.le_refl _) _).alloc (by simp) _
    have hw0 : Wr (wl.heap.size + 1) ((wl.alloc (.cells #[.slice none 0 0] 27)).alloc (.cells #[.int .u8 c.toNat] 5)) wl.heap.size [] :=
      wr_nil (by rw [Below.heap_alloc _ _ _ (by simp)]; exact heap_alloc_new wl _)
    have h1 : IsB ((wl.alloc (.cells #[.slice none 0 0] 27)).alloc (.cells #[.int .u8 c.toNat] 5)) (some ⟨wl.heap.size + 1, 0, none⟩) 1 1 [c] := by
      have := isB_one (wl.alloc (.cells #[.slice none 0 0] 27)) c
      simpa using this
    have hs0 : ((wl.alloc (.cells #[.slice none 0 0] 27)).alloc (.cells #[.int .u8 c.toNat] 5)).heap.size = wl.heap.size + 2 := by simp
    obtain ⟨W0, hW0⟩ : ∃ W0, W0 = (wl.alloc (.cells #[.slice none 0 0] 27)).alloc (.cells #[.int .u8 c.toNat] 5) := ⟨_, rfl⟩
    rw [← hW0] at hw0 hb0 hs0 h1 ⊢
    clear hW0
    refine (raw_any (wl.heap.size + 1) wl.heap.size _ 1 1 [c] [] W0 (by omega) (by omega) hw0 h1 (by simp)).mono ?_
    rintro e W1 ⟨rfl, hw1, hf1⟩
    have hs1 := hf1.size
    have hbel1 : Below w.heap.size w W1 := (hbl.trans (hb0.mono hs)).trans (hf1.below (by omega) (by omega))
    have hl1 : IsB W1 a1 len1 cap1 l := hl.old hbel1
    rw [List.nil_append] at hw1
    clear hf1 h1 hw0 hb0 hl
    go_wp2_with fail
    refine (raw_any (wl.heap.size + 1) wl.heap.size a1 len1 cap1 l [c] W1 (by omega) (by omega) hw1 hl1 (by simp; omega)).mono ?_
    rintro e W2 ⟨rfl, hw2, hf2⟩
    have hs2 := hf2.size
    have hbel2 : Below w.heap.size w W2 := hbel1.trans (hf2.below (by omega) (by omega))
    have hcl : ([c] ++ l).length = len1 + 1 := by simp; omega
    clear hf2 hw1 hbel1 hl1
    go_wp2_with fail
    refine (bytes_any _ _ ([c] ++ l) _ hw2 (by omega)).mono ?_
    rintro e W3 ⟨v3, rfl, ho3, hb3⟩
    obtain ⟨a3, c3, rfl, hib3⟩ := isB_own ho3
    have hs3 := hb3.size
    have hbel3 : Below w.heap.size w W3 := hbel2.trans (hb3.mono (by omega))
    clear hb3 ho3 hw2 hbel2
    rw [hcl] at hib3
    go_wp2_with fail
    refine (read_any a3 (len1 + 1) c3 ([c] ++ l) W3 hib3 (by omega)).mono ?_
    rintro e W4 ⟨rb, rfl, hrb, hR, hb4⟩
    have hbel4 : Below w.heap.size w W4 := hbel3.trans (hb4.mono (by omega))
    have hrw : w.heap.size ≤ rb := by omega
    clear hb4 hib3 hbel3 hcl
    by_cases hc1 : 1 < c.toNat
    · go_wp2_with fail
      refine (flag_bad rb c l W4 hR hc1).mono ?_
      rintro e W5 ⟨rfl, hR5, hA5⟩
      have hbel5 : Below w.heap.size w W5 := hbel4.trans (hA5.below hrw)
      have HE := Lib.hid (err_any rb [] 2 W5 hR5)
      have HN := Lib.hid (end_any rb [] 2 W5 hR5)
      have hv : endE [] 2 = 2 := rfl
      rw [hv] at HN
      clear hv hR5 hR hA5 hbel4
      go_wp2_with (first | (go_at_call 20; refine HE.out.mono ?_; rintro e w' ⟨rfl, rfl⟩) | (go_at_call 21; refine HN.out.mono ?_; rintro e w' ⟨rfl, rfl⟩))
      go_ret
      exact ⟨rfl, hbel5⟩
    · go_wp2_with fail
      refine (flag_ok rb c l W4 hR (by omega)).mono ?_
      rintro e W5 ⟨rfl, hR5, hA5⟩
      have hbel5 : Below w.heap.size w W5 := hbel4.trans (hA5.below hrw)
      have HE := Lib.hid (err_any rb l 0 W5 hR5)
      have HN := Lib.hid (end_any rb l 0 W5 hR5)
      have HL := Lib.hid (left_any rb l 0 W5 hR5)
      clear hR5 hR hA5 hbel4
      by_cases h0 : len1 = 0
      · subst h0
        obtain rfl : l = [] := List.length_eq_zero_iff.1 hll
        have hv : endE [] 0 = 0 := rfl
        rw [hv] at HN
        clear hv hll
        go_wp2_with (first | (go_at_call 20; refine HE.out.mono ?_; rintro e w' ⟨rfl, rfl⟩) | (go_at_call 21; refine HN.out.mono ?_; rintro e w' ⟨rfl, rfl⟩) | (go_at_call 22; refine HL.out.mono ?_; rintro e w' ⟨rfl, rfl⟩))
        go_ret
        exact ⟨rfl, hbel5⟩
      · have hv : endE l 0 = 15 := by
          have : l ≠ [] := fun h => by subst h; simp at hll; omega
          simp [endE, this]
        rw [hv] at HN
        rw [hll] at HL
        have hpos : 0 < len1 := by omega
        clear hv hll h0
        go_wp2_with (first | (go_at_call 20; refine HE.out.mono ?_; rintro e w' ⟨rfl, rfl⟩) | (go_at_call 21; refine HN.out.mono ?_; rintro e w' ⟨rfl, rfl⟩) | (go_at_call 22; refine HL.out.mono ?_; rintro e w' ⟨rfl, rfl⟩))
        go_ret
        exact ⟨rfl, hbel5⟩
end Go.Proofs.Ytfbohbcokggmpaa.Oc
