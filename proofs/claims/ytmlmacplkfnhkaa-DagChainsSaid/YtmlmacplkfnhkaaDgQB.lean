
/- graphs: All -/
import Derived.Test.YtmlmacplkfnhkaaDgPB
namespace Go.Proofs.Ytmlmacplkfnhkaa.DgB
open Go.RowKit Go.Lib Hp Mv Dg Ht
set_option linter.unusedVariables false
set_option maxRecDepth 20000
attribute [local go_sem] Oper.semAt_some
section
variable {S : Nat → Prop} {w : World} {gb : Nat} {mv : Option Nat} {ns : List Id} {E : Id → Id → Bool} {nb ob ub : Id → Nat}
set_option maxHeartbeats 2000000 in
theorem all_any (q : Gq S w gb mv ns E nb ob ub) (k : (List UInt8)) (hk : (k, false) ∈ ns) (hN : ns.length ≤ 900000) (l : List Id) (hl : l.Nodup) (hm : ∀ z, z ∈ l ↔ Re (fun a b => E b a) (k, false) z) (h1 : 1 ≤ l.length) : Calls Try.prog 13 #[.pointer (some ⟨gb, 0, none⟩), kv k] w fun e w' => (∃ a c, e = .returned (.slice a l.length c)) ∧ Below w.heap.size w w' := by
  have ha := at_any q k (q.ok _ hk).1
  rw [if_pos hk] at ha
  have HQ := Lib.hid (And.intro q (And.intro hk (And.intro hN (And.intro hl (And.intro hm h1)))))
  clear q hk hN hl hm h1
  obtain ⟨n, hnl⟩ : ∃ n, n = l.length := ⟨_, rfl⟩
  rw [← hnl]
  have HNL := Lib.hid hnl
  clear hnl
  generalize nb (k, false) = nk at *
  unfold kv at ha ⊢
  go_enter Try.func13, Try.ntmps13
  go_wp2_with fail
  refine ha.mono ?_
  rintro e W1 ⟨rfl, hb1⟩
  have q1 := HQ.out.1.below hb1 (Nat.le_refl _)
  have H1 := Lib.hid (And.intro hb1 q1)
  clear hb1 q1 ha
  go_wp2_with fail
  refine (idOf_any k _).mono ?_
  rintro e W2 ⟨rfl, hb2⟩
  have q2 := H1.out.2.below hb2 (Nat.le_refl _)
  have b2 : Below w.heap.size w W2 := H1.out.1.trans (hb2.mono H1.out.1.size)
  have hu := up_any q2 (k, false) HQ.out.2.1
  have H2 := Lib.hid (And.intro b2 q2)
  clear b2 q2 hb2
  unfold ek kv at hu ⊢
  go_wp2_with fail
  refine hu.mono ?_
  rintro e W3 ⟨v3, rfl, wb, fb, rv, cb, T, O, rfl, hk3, hn3⟩
  have hw := wall_any hk3 (WI.of_start (fun a b => E b a) (k, false)) HQ.out.2.2.1
  have H3 := Lib.hid (And.intro hk3 hn3)
  clear hk3 hn3 hu
  go_wp2_with fail
  refine hw.mono ?_
  rintro e W4 ⟨O', rv', F', n', rfl, p⟩
  have b4 : Below w.heap.size w W4 := by
    have b3 : Below w.heap.size w W3 := H2.out.1.trans (H3.out.2.below.mono H2.out.1.size)
    exact below_fr b3 p.fr (fun j hj => Nat.le_trans H2.out.1.size (H3.out.2.own j hj))
  have q4 := HQ.out.1.below b4 (Nat.le_refl _)
  have hn' : n' = n := by
    rw [HNL.out]
    refine p.mem.found.card kindS HQ.out.2.2.2.1 fun z => ?_
    rw [sf_some, HQ.out.2.2.2.2.1 z, ← p.wi.done z]
    exact ⟨fun h => ⟨(HQ.out.1.ok z (p.mem.fin z h)).1, h⟩, fun h => h.2⟩
  have hr := rising_any q4 p.mem.found p.mem.fin (by have := HQ.out.2.2.2.2.2; have := HNL.out; omega) HQ.out.2.2.1
  rw [hn'] at hr
  have H4 := Lib.hid b4
  clear b4 q4 hn' p hw
  go_wp2_with fail
  refine hr.mono ?_
  rintro e W5 ⟨⟨a, c, rfl⟩, hb5⟩
  have H5 := Lib.hid hb5
  clear hb5 hr
  go_wp2_with fail
  go_ret
  exact ⟨⟨a, c, by simp⟩, H4.out.trans (H5.out.mono H4.out.size)⟩
end
end Go.Proofs.Ytmlmacplkfnhkaa.DgB
