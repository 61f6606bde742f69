
/- disks: the chapter's example; what a disk that isn't there answers -/
import Derived.Test.YtjblkmjdepdekaaDk8
import Derived.Lib.SmallJoins
namespace Go.Proofs.Ytjblkmjdepdekaa.Dk
open Go.RowKit Go.Lib Go.Proofs.Ytjblkmjdepdekaa.By Go.Proofs.Ytjblkmjdepdekaa.Ht

theorem isB_one (w : World) (c : UInt8) (fr : Nat × Nat) : IsB (w.alloc (.cells #[.int .u8 (c.toNat : Nat)] 5 fr)) (some ⟨w.heap.size, 0, none⟩) 1 1 [c] := by
  refine ⟨rfl, .inr ⟨_, rfl, Nat.le_refl _, by unfold maxLen; omega, fun j u hu => ?_⟩⟩
  rw [Addr.add_mid, Nat.zero_add, cell_of_row _ _ j _ _ _ (heap_alloc_new w _)]
  simpa [byteCells] using hu
theorem getM_one (G : List UInt8) (i : Nat) : getM G i 1 = getS G i := rfl
section
variable {w : World} {B bd gs cs gn cn n : Nat} {vw : Value} {F G : List UInt8} {W : List Wr} {dn : Bool}
theorem IsDk.foot_ge (h : IsDk w B bd gs cs gn cn vw n F G W dn) : ∀ k, Foot bd gs gn vw k → B ≤ k := by
  rintro k (rfl | rfl | rfl | hk)
  · exact h.hb
  · exact (h.os.lt k rfl).1
  · exact (h.on.lt k rfl).1
  · exact (h.ow.lt k hk.symm).1
theorem IsDk.below {w' : World} (h : IsDk w B bd gs cs gn cn vw n F G W dn) (hf : Fr (Foot bd gs gn vw) w w') : Below B w w' := hf.below (Nat.le_trans h.hb (Nat.le_of_lt (lt_of_block h.blk))) h.foot_ge
end
theorem first_byte {w : World} {a : Option Addr} {len cap : Nat} {l : List UInt8} {c : UInt8} (h : IsB w a len cap l) (hc : l[0]? = some c) : ∃ x, a = some x ∧ w.cell? x = some (.int .u8 (c.toNat : Nat)) := by
  obtain ⟨h0, e⟩ := List.getElem?_eq_some_iff.1 hc
  obtain ⟨x, hx, hcx⟩ := h.at h0
  refine ⟨x, hx, ?_⟩
  rw [e] at hcx
  have : x.add 0 = x := by obtain ⟨b, o, sp⟩ := x; unfold Addr.add; split <;> simp_all
  rwa [this] at hcx
set_option maxHeartbeats 4000000 in
theorem lives_any (w : World) : Calls Try.prog 4 #[] w fun e w' => e = .returned (.bool true) ∧ Below w.heap.size w w' := by
  have kc := fun (w : World) (C : Array Value) (n c : Nat) => Lib.run_convert_bytes_const (P := Try.prog) w 30 5 C n c Try.underlying30 Try.underlying5
  go_enter Try.func4, Try.ntmps4
  go_wp2_with fail
  refine (new_any 2 w (by decide)).mono ?_
  rintro e w1 ⟨bd, gs, gn, rfl, hd1, hb1⟩
  have HD1 := Lib.hid (And.intro hd1 hb1)
  clear hd1 hb1
  go_wp2_with fail
  obtain ⟨w2, hw2⟩ : ∃ X, X = w1.alloc (.cells #[.int .u8 97] 5 (1, 2)) := ⟨_, rfl⟩
  have hb2 : Below w1.heap.size w1 w2 := by rw [hw2]; exact (Below.refl _ _).alloc (Nat.le_refl _) _
  have hi2 : IsB w2 (some ⟨w1.heap.size, 0, none⟩) 1 1 [97] := by rw [hw2]; exact isB_one w1 97 (1, 2)
  rw [← hw2]
  have hd2 := HD1.out.1.old hb2
  refine (write_ok hd2 1 (by decide) _ _ _ [97] (by decide) hi2 (by simp)).mono ?_
  rintro e w3 ⟨rfl, ⟨v3, hd3, _⟩, hf3⟩
  have hb3 : Below w.heap.size w w3 := (HD1.out.2.trans (hb2.mono HD1.out.2.size)).trans (hd2.below hf3)
  have HD3 := Lib.hid (And.intro hd3 hb3)
  clear hw2 hb2 hi2 hd2 hd3 hf3 hb3
  go_wp2_with fail
  refine (sync_ok HD3.out.1 (by simp)).mono ?_
  rintro e w4 ⟨rfl, hd4, hf4⟩
  have HD4 := Lib.hid (And.intro hd4 (HD3.out.2.trans (HD3.out.1.below hf4)))
  clear hd4 hf4
  go_wp2_with fail
  obtain ⟨w5, hw5⟩ : ∃ X, X = w4.alloc (.cells #[.int .u8 98] 5 (1, 2)) := ⟨_, rfl⟩
  have hb5 : Below w4.heap.size w4 w5 := by rw [hw5]; exact (Below.refl _ _).alloc (Nat.le_refl _) _
  have hi5 : IsB w5 (some ⟨w4.heap.size, 0, none⟩) 1 1 [98] := by rw [hw5]; exact isB_one w4 98 (1, 2)
  rw [← hw5]
  have hd5 := HD4.out.1.old hb5
  refine (write_ok hd5 1 (by decide) _ _ _ [98] (by decide) hi5 (by simp)).mono ?_
  rintro e w6 ⟨rfl, ⟨v6, hd6, _⟩, hf6⟩
  have HD6 := Lib.hid (And.intro hd6 ((HD4.out.2.trans (hb5.mono HD4.out.2.size)).trans (hd5.below hf6)))
  clear hw5 hb5 hi5 hd5 hd6 hf6
  go_wp2_with fail
  refine (crash_any HD6.out.1 asks_nil (fun _ _ => trivial) (by simp)).mono ?_
  rintro e w7 ⟨rfl, hd7, hf7⟩
  have HD7 := Lib.hid (And.intro hd7 (HD6.out.2.trans (HD6.out.1.below hf7)))
  clear hd7 hf7
  go_wp2_with fail
  refine (read_down HD7.out.1 0 1).mono ?_
  rintro e w8 ⟨rfl, rfl⟩
  go_wp2_with fail
  refine (up_any HD7.out.1).mono ?_
  rintro e w9 ⟨rfl, hd9, hf9, _⟩
  have HD9 := Lib.hid (And.intro hd9 (HD7.out.2.trans (HD7.out.1.below hf9)))
  clear hd9 hf9
  go_wp2_with fail
  refine (read_ok HD9.out.1 1 1 (by decide) (by decide)).mono ?_
  rintro e w10 ⟨ao, cp, rfl, hib, _, hb10⟩
  have hbw : Below w.heap.size w w10 := HD9.out.2.trans (hb10.mono HD9.out.2.size)
  obtain ⟨⟨g, o, sp⟩, rfl, hc⟩ := first_byte hib (c := 97) (by decide +kernel)
  have HBW := Lib.hid hbw
  clear hib hb10 hbw
  go_wp2_with fail
  go_ret
  exact ⟨rfl, HBW.out⟩
end Go.Proofs.Ytjblkmjdepdekaa.Dk
