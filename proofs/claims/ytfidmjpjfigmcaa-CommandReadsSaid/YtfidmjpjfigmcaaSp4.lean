
/- specs: whether one is little -/
import Derived.Test.YtfidmjpjfigmcaaSp3
namespace Go.Proofs.Ytfidmjpjfigmcaa.Sp
open Go.RowKit Go.Lib Rf By
set_option linter.unusedVariables false
set_option maxRecDepth 20000
set_option maxHeartbeats 4000000 in
theorem Few_any (x : Spc) {w : World} (hd : Dp w x.a x.n x.ds) (hm : x.n ≤ maxLen) :
    Calls Try.prog 34 #[.agg x.cells] w fun e w' => ∃ r : Bool, e = .returned (.bool r) ∧ (r = true → x.few) ∧ Below w.heap.size w w' := by
  obtain ⟨nm, tn, pr, dl, a, n, c, ds, bs, cp, at', ls, cr, ct⟩ := x
  simp only at hd hm
  unfold Spc.cells Spc.few
  simp only
  obtain ⟨V, hV⟩ : ∃ V, V = w.alloc (.cells #[.string nm, .string tn, .int .i64 pr, .int .i64 dl, .slice a n c, .int .i64 bs, .int .i64 cp, .int .i64 at', .int .i64 ls, .string cr, .int .i64 ct] 27) := ⟨_, rfl⟩
  have hb1 : Below w.heap.size w V := by rw [hV]; exact (Below.refl _ w).alloc (Nat.le_refl _) _
  have hx0 : V.heap[w.heap.size]? = some (.cells #[.string nm, .string tn, .int .i64 pr, .int .i64 dl, .slice a n c, .int .i64 bs, .int .i64 cp, .int .i64 at', .int .i64 ls, .string cr, .int .i64 ct] 27 (0, 0)) := by rw [hV]; exact (MapKept.heap_alloc w _).1
  obtain ⟨⟨l0, l1, l2, l3, l4, l5, l6, l7, l8, l9, l10⟩, _⟩ := eleven hx0
  have hdV := hd.old hb1
  unfold maxLen at hm
  have HB := Lib.hid (And.intro hb1 (And.intro hdV hd.1))
  clear hb1 hx0 hdV hd
  go_enter Try.func34, Try.ntmps34
  go_wp2_with fail
  rw [← hV]
  have HV := Lib.hid hV
  clear hV
  go_loopw [8] (fun s8 wr => ∃ k : Nat, s8 = .int .i64 k ∧ wr = V ∧ k ≤ n ∧ ∀ j (h : j < ds.length), j < k → ds[j].size ≤ 60) (fun s8 _ => n - (RowKit.intOf s8).toNat)
  case atStart => exact ⟨0, rfl, rfl, Nat.zero_le _, fun j _ h => absurd h (Nat.not_lt_zero _)⟩
  case round =>
    obtain ⟨k, rfl, rfl, hk, hall⟩ := hrel
    by_cases hlt : k < n
    · have hkl : k < ds.length := by rw [HB.out.2.2]; exact hlt
      rcases HB.out.2.1.2.2 with h0 | ⟨b, o, rfl, hat⟩
      · omega
      have hc := hat k hkl
      have hall' := Lib.hid hall
      clear hall hat
      obtain ⟨d, hd⟩ : ∃ d, d = ds[k] := ⟨_, rfl⟩
      rw [← hd] at hc
      by_cases h60 : 60 < d.size
      · clear hd
        go_wp2_with fail
        go_ret
        first | exact ⟨false, rfl, (fun h => by cases h), HB.out.1⟩ | exact ⟨rfl, HB.out.1⟩
      · have hd' : ds[k].size ≤ 60 := by rw [← hd]; omega
        have HD := Lib.hid hd'
        clear hd' hd
        go_wp2_with fail
        go_roundw
        case rel => exact ⟨k + 1, rfl, trivial, hlt, fun j hj h => by
          rcases Nat.lt_or_ge j k with h' | h'
          · exact hall'.out j hj h'
          · obtain rfl : j = k := by omega
            exact HD.out⟩
        case measure => simp only [RowKit.intOf]; omega
    · have hall' := Lib.hid (fun d (hd : d ∈ ds) => by
        obtain ⟨i, hi, rfl⟩ := List.getElem_of_mem hd
        exact hall i hi (by rw [HB.out.2.2] at hi; omega) : ∀ d ∈ ds, d.size ≤ 60)
      clear hall
      by_cases h1 : nm.size ≤ 60
      · by_cases h2 : tn.size ≤ 60
        · by_cases h3 : n ≤ 20
          · go_wp2_with fail
            go_ret
            exact ⟨_, rfl, (fun h => ⟨hall'.out, h1, h2, h3, by have := of_decide_eq_true h; omega⟩), HB.out.1⟩
          · go_wp2_with fail
            go_ret
            first | exact ⟨false, rfl, (fun h => by cases h), HB.out.1⟩ | exact ⟨rfl, HB.out.1⟩
        · go_wp2_with fail
          go_ret
          first | exact ⟨false, rfl, (fun h => by cases h), HB.out.1⟩ | exact ⟨rfl, HB.out.1⟩
      · go_wp2_with fail
        go_ret
        first | exact ⟨false, rfl, (fun h => by cases h), HB.out.1⟩ | exact ⟨rfl, HB.out.1⟩
end Go.Proofs.Ytfidmjpjfigmcaa.Sp
