/- the reader's contracts: Text, Read -/
import Derived.Test.YtfbohbcokggmpaaRd3
namespace Go.Proofs.Ytfbohbcokggmpaa.Oc
open Go.RowKit Go.Lib

/-- what Text makes of the bytes -/
def txt (m : Nat) (l : List UInt8) : List UInt8 × List UInt8 × Int :=
  if (cnt m l).2.1.length < (cnt m l).1 then ([], [], 4) else ((cnt m l).2.1.take (cnt m l).1, (cnt m l).2.1.drop (cnt m l).1, (cnt m l).2.2)

theorem add_lit' (g o j : Nat) : (⟨g, o, none⟩ : Addr).add j = ⟨g, o + j, none⟩ := by unfold Addr.add; split <;> simp_all

set_option maxHeartbeats 1000000 in
theorem text_err (rb : Nat) (l : List UInt8) (er : Int) (m : Nat) (w : World) (h : Rd w rb l er) (he : er ≠ 0) (hm2 : m ≤ 1000000000000) :
    Calls Try.prog 19 #[.pointer (some ⟨rb, 0, none⟩), .int .i64 m] w fun e w' => e = .returned (.string ⟨#[]⟩) ∧ w = w' := by
  have H := Lib.hid (count_err rb l er m w h he hm2)
  have H2 := Lib.hid (left_any rb l er w h)
  have hlen := h.len
  unfold maxLen at hlen
  clear he h
  go_enter Try.func19, Try.ntmps19
  go_wp2_with (first | (go_at_call 27; refine H.out.mono ?_; rintro e w' ⟨rfl, rfl⟩) | (go_at_call 22; refine H2.out.mono ?_; rintro e w' ⟨rfl, rfl⟩))
  go_ret
  exact ⟨rfl, rfl⟩

set_option maxHeartbeats 1000000 in
theorem text_ok (rb : Nat) (l : List UInt8) (m : Nat) (w : World) (h : Rd w rb l 0) (hm2 : m ≤ 1000000000000) :
    Calls Try.prog 19 #[.pointer (some ⟨rb, 0, none⟩), .int .i64 m] w fun e w' => e = .returned (.string ⟨(txt m l).1.toArray⟩) ∧ Rd w' rb (txt m l).2.1 (txt m l).2.2 ∧ At rb w w' := by
  have H := Lib.hid (count_ok rb l m w h hm2)
  have hz := cnt_zero m l
  have hle := cnt_le m l
  unfold txt
  obtain ⟨D, hD⟩ : ∃ D, D = cnt m l := ⟨_, rfl⟩
  rw [← hD] at H hz hle ⊢
  clear hD h
  obtain ⟨n, r, er⟩ := D
  simp only at H hz hle ⊢
  by_cases hbig : r.length < n
  · rw [if_pos hbig]
    have he : er = 0 := Classical.byContradiction fun h => by have := (hz h).1; omega
    subst he
    clear hz
    go_enter Try.func19, Try.ntmps19
    go_wp2_with (first | (go_at_call 27; refine H.out.mono ?_; rintro e w' ⟨rfl, hr, hA⟩) | (go_at_call 22; refine (left_any rb r 0 _ hr).mono ?_; rintro e w' ⟨rfl, rfl⟩) | (go_at_call 26; refine (fail_any rb r 0 4 _ hr).mono ?_; rintro e w'' ⟨rfl, hr', hA'⟩))
    go_ret
    exact ⟨rfl, hr', hA.trans hA'⟩
  · rw [if_neg hbig]
    clear hz
    by_cases h0 : n = 0
    · subst h0
      go_enter Try.func19, Try.ntmps19
      go_wp2_with (first | (go_at_call 27; refine H.out.mono ?_; rintro e w' ⟨rfl, hr, hA⟩) | (go_at_call 22; refine (left_any rb r er _ hr).mono ?_; rintro e w' ⟨rfl, rfl⟩))
      go_ret
      exact ⟨rfl, by simpa using hr, hA⟩
    · have hpos : 0 < n := by omega
      have hle2 : n ≤ r.length := by omega
      have hne : ((n : Int) == 0) = false := by simp; omega
      clear hbig h0
      go_enter Try.func19, Try.ntmps19
      go_wp2_with fail
      refine H.out.mono ?_
      rintro e w' ⟨rfl, hr, hA⟩
      have hL := Lib.hid (left_any rb r er w' hr)
      obtain ⟨a, cap, hp, ⟨_, h1, _⟩ | ⟨g, o, rfl, h3, h4, h5, h6⟩⟩ := hr
      · simp [h1] at hle2; omega
      have hc := two_cell0 hp
      have hcv : (convert 25 9 (.slice (some ⟨g, o, none⟩) n cap)).run Try.prog w' = .ok (.string ⟨(r.take n).toArray⟩) w' := by
        refine str_of ⟨by simp; omega, .inr ⟨_, rfl, by omega, h4, fun j u hu => ?_⟩⟩
        have hj : (byteCells r)[j]? = some u := by
          simp only [byteCells, List.map_take, List.getElem?_take] at hu
          split at hu
          · exact hu
          · cases hu
        have := h6 j u hj
        rwa [add_lit'] 
      unfold maxLen at h4
      have hAA : ∀ u, At rb w (w'.setCell ⟨rb, 0, none⟩ u) := fun u => hA.setCell _ _
      have hAB : ∀ u, At rb w' (w'.setCell ⟨rb, 0, none⟩ u) := fun u => (At.refl _ _).setCell _ _
      have htail : ∀ j u, (byteCells (r.drop n))[j]? = some u → w'.cell? ⟨g, o + n + j, none⟩ = some u := fun j u hu => by
        have := h6 (n + j) u (by simpa [byteCells, List.getElem?_drop] using hu)
        rwa [← Nat.add_assoc] at this
      by_cases hcap : cap = n
      · have hcap' : n = cap := hcap.symm
        subst hcap'
        have hrl : r.length = n := by omega
        have hd : r.drop n = [] := by rw [List.drop_eq_nil_iff]; omega
        have hR : Rd (w'.setCell ⟨rb, 0, none⟩ (.slice (some ⟨g, o, none⟩) 0 0)) rb (r.drop n) er := by
          rw [hd]; exact ⟨_, 0, two_setCell0 hp, .inr ⟨g, o, rfl, by simp, by simp, h5, fun j u hu => by simp [byteCells] at hu⟩⟩
        have HH := Lib.hid (And.intro hR (hAA (.slice (some ⟨g, o, none⟩) 0 0)))
        clear hR hp hAA hAB htail h6 hcap hd
        rw [hrl] at hc hL
        clear hrl
        go_wp2_with (go_at_call 22; refine hL.out.mono ?_; rintro e w'' ⟨rfl, rfl⟩)
        go_ret
        exact ⟨rfl, HH.out⟩
      · have hR : Rd (w'.setCell ⟨rb, 0, none⟩ (.slice (some ⟨g, o + n, none⟩) (r.length - n) (cap - n))) rb (r.drop n) er :=
          ⟨_, cap - n, by rw [List.length_drop]; exact two_setCell0 hp, .inr ⟨g, o + n, rfl, by simp; omega, by unfold maxLen; omega, h5, fun j u hu => ((hAB _).cell h5).trans (htail j u hu)⟩⟩
        have HH := Lib.hid (And.intro hR (hAA (.slice (some ⟨g, o + n, none⟩) (r.length - n) (cap - n))))
        clear hR hp hAA hAB htail h6
        go_wp2_with (go_at_call 22; refine hL.out.mono ?_; rintro e w'' ⟨rfl, rfl⟩)
        go_ret
        exact ⟨rfl, HH.out⟩

theorem lf_own {w : World} {B rb : Nat} {a : Option Addr} {cap : Nat} {l : List UInt8} (h : w.ownsRow B 5 1 (.slice a l.length cap) l.length (byteCells l)) (hr : w.heap.size ≤ rb) (o : Obj) : Lf (w.alloc o) rb a cap l := by
  cases a with
  | none =>
    left
    rcases h.2 with ⟨h1, h2⟩ | ⟨g, c, cur, h1, _⟩
    · simp at h1; exact ⟨rfl, List.length_eq_zero_iff.1 h2, h1.2⟩
    · simp at h1
  | some x =>
    right
    rcases h.2 with ⟨h1, h2⟩ | ⟨g, c, cur, h1, h2, h3, h4, h5, h6, h7⟩
    · simp at h1
    · have h1' := h1
      simp only [Value.slice.injEq, Option.some.injEq, true_and] at h1'
      obtain ⟨rfl, rfl⟩ := h1'
      have hg := lt_of_block h3
      refine ⟨g, 0, rfl, h4, h5, by omega, fun j u hu => ?_⟩
      have := h.cells (g := g) rfl j u hu
      rw [add_lit'] at this
      exact ((((Below.refl w.heap.size w).alloc (Nat.le_refl _) o).cell (p := ⟨g, 0 + j, none⟩) hg)).trans this

theorem read_any (a : Option Addr) (len cap : Nat) (l : List UInt8) (w : World) (hl : IsB w a len cap l) (hlen : l.length ≤ 1000000000000) :
    Calls Try.prog 15 #[.slice a len cap] w fun e w' => ∃ rb, e = .returned (.pointer (some ⟨rb, 0, none⟩)) ∧ w.heap.size ≤ rb ∧ Rd w' rb l 0 ∧ Below w.heap.size w w' := by
  have H := Lib.hid (clone_any a len cap l w hl hlen)
  clear hl
  go_enter Try.func15, Try.ntmps15
  go_wp2_with fail
  refine H.out.mono ?_
  rintro e w1 ⟨v', rfl, hown, hb⟩
  obtain ⟨a1, c1, rfl⟩ := own_shape hown
  have hR : Rd (w1.alloc (.cells #[.slice a1 l.length c1, .int .i64 0] 54)) w1.heap.size l 0 := ⟨a1, c1, heap_alloc_new w1 _, lf_own hown (Nat.le_refl _) _⟩
  have HH := Lib.hid (And.intro hb.size (And.intro hR (hb.alloc hb.size (.cells #[.slice a1 l.length c1, .int .i64 0] 54))))
  clear hR hb hown H
  go_wp2
  go_ret
  exact ⟨_, rfl, HH.out.1, HH.out.2.1, HH.out.2.2⟩
end Go.Proofs.Ytfbohbcokggmpaa.Oc
