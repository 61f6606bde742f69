
/- frames: what Scan's iterator says -/
import Derived.Test.YtjblkmjdepdekaaDoorFm5
import Derived.Test.YtjblkmjdepdekaaDoorRg
import Derived.Shelf.Abstract
import Derived.Shelf.RegionOpen
import Derived.WalkKit
import Derived.OwnWalkIn
import Derived.TacticsInMore
import Derived.LoopNIn
import Derived.LoopIn
namespace Go.Proofs.YtjblkmjdepdekaaDoor.Fm
open Go.RowKit Go.Lib Go.Proofs.YtjblkmjdepdekaaDoor.By Go.Proofs.YtjblkmjdepdekaaDoor.Oc Go.Proofs.YtjblkmjdepdekaaDoor.Cr Go.Proofs.YtjblkmjdepdekaaDoor.Rg
attribute [local go_sem] Oper.semAt_some

/-- where the m-th record begins, and the sum ahead of it -/
def stt (b : List UInt8) (s : Nat) : Nat → Nat × Nat
  | 0 => (0, s)
  | m + 1 => ((stt b s m).1 + (nxt (stt b s m).2 (b.drop (stt b s m).1)).2.1, (nxt (stt b s m).2 (b.drop (stt b s m).1)).2.2.1)
/-- what the m-th is -/
def at' (b : List UInt8) (s m : Nat) : (UInt8 × List UInt8) × Nat × Nat × Int := nxt (stt b s m).2 (b.drop (stt b s m).1)
theorem stt_succ (b : List UInt8) (s m : Nat) : stt b s (m + 1) = ((stt b s m).1 + (at' b s m).2.1, (at' b s m).2.2.1) := rfl
theorem stt_u32 {b : List UInt8} {s : Nat} (h : U32 s) : ∀ m, U32 (stt b s m).2
  | 0 => h
  | _ + 1 => nxt_u32 _ _

/-- what a round is handed -/
structure Told where
  at' : Nat
  k : UInt8
  d : List UInt8
  a : Option Addr
  co : Nat
def enc2 (x : Told) : Array Value := #[.int .i64 (x.at' : Nat), .agg #[.int .u8 (x.k.toNat : Nat), .slice x.a x.d.length x.co]]
def Good2 (b : List UInt8) (s : Nat) (m : Nat) (x : Told) (A : World) : Prop :=
  (Fm.at' b s m).2.2.2 = 0 ∧ x.at' = (stt b s m).1 ∧ (x.k, x.d) = (Fm.at' b s m).1 ∧ IsB A x.a x.d.length x.co x.d

theorem yield_there (l : Nat) (w : World) : (binOp BinOp.eql 112 (.func (.yield l) #[] #[]) .nilFunc).run Tryd.prog w = .ok (.bool false) w := by
  kernel_rfl

set_option maxRecDepth 20000 in
set_option maxHeartbeats 4000000 in
theorem scan1_iter (n : Nat) (n₀ n₁ : Nat) (s : Nat) (a : Option Addr) (len cap : Nat) (b : List UInt8) (sb bb : Nat) (w : World) (hs : U32 s)
    (hK : ∀ W, Mid n₀ n₁ w.heap.size w W → Nibs W ∧ IsB W a len cap b ∧ W.cell? ⟨sb, 0, none⟩ = some (.int .u32 (s : Nat)) ∧ W.cell? ⟨bb, 0, none⟩ = some (.slice a len cap)) :
    Iter Fence.wide n Tryd.prog 62 #[.pointer (some ⟨sb, 0, none⟩), .pointer (some ⟨bb, 0, none⟩)] enc2 n₀ n₁ w.heap.size (Good2 b s) (fun m => (Fm.at' b s m).2.2.2 ≠ 0) w := by
  intro l J W hW hJ hY hJ0
  obtain ⟨hn0, hb0, hsc, hbc⟩ := hK W (Mid.of hW)
  obtain rfl : b.length = len := hb0.1
  have hlc : b.length ≤ cap ∧ cap ≤ 9223372036854775807 := by
    obtain ⟨h1, ⟨h2, h3, h4⟩ | ⟨x, h2, h3, h4, h5⟩⟩ := id hb0
    · omega
    · exact ⟨h3, by unfold maxLen at h4; omega⟩
  have HK := Lib.hid hK
  have HJ := Lib.hid hJ
  have HY := Lib.hid hY
  have HJ0 := Lib.hid hJ0
  have HW := Lib.hid hW
  have HS := Lib.hid hs
  clear hK hJ hY hJ0 hW hn0 hb0
  refine callsIn_of_wp Tryd.func62 rfl trivial ?_ rfl
  simp only [Tryd.ntmps62, List.size_toArray, List.length_cons, List.length_nil, Nat.reduceAdd, Nat.reduceSub, Array.replicate_succ, Array.replicate_zero, List.push_toArray, List.append_toArray, List.nil_append, List.cons_append]
  have hyl := yield_there l
  gi_wp2_with fail
  refine wpIn_wide.2 ?_
  go_region
  gi_wp2_with fail
  gi_loopw [4, 5] (fun p q wr => ∃ m : Nat, (stt b s m).1 ≤ b.length ∧ p = .int .i64 ((stt b s m).1 : Nat) ∧ q = .int .u32 ((stt b s m).2 : Nat) ∧ J m wr ∧ Mid n₀ n₁ w.heap.size w wr) (fun p _ _ => b.length - (intOf p).toNat)
  case atStart => exact ⟨0, Nat.zero_le _, rfl, rfl, HJ.out 0 W _ HJ0.out (Below.refl _ _).drew, Mid.of HW.out.drew⟩
  case round =>
    obtain ⟨m, hle, rfl, rfl, hj, hmid⟩ := hrel
    obtain ⟨hn0, hb0, hsc, hbc⟩ := HK.out wr hmid
    have hu := stt_u32 (b := b) HS.out m
    have hnx : nxt (stt b s m).2 (b.drop (stt b s m).1) = Fm.at' b s m := rfl
    have hl6 : (Fm.at' b s m).2.2.2 = 0 → 6 ≤ (Fm.at' b s m).2.1 ∧ (Fm.at' b s m).2.1 ≤ b.length - (stt b s m).1 := fun h => by
      have := nxt_len (s := (stt b s m).2) (b := b.drop (stt b s m).1) h
      rwa [List.length_drop] at this
    have hsu := stt_succ b s m
    have hG : ∀ (x : Told) A, Good2 b s m x A ↔ ((Fm.at' b s m).2.2.2 = 0 ∧ x.at' = (stt b s m).1 ∧ (x.k, x.d) = (Fm.at' b s m).1 ∧ IsB A x.a x.d.length x.co x.d) := fun _ _ => Iff.rfl
    obtain ⟨ST, hST⟩ : ∃ S, S = stt b s m := ⟨_, rfl⟩
    obtain ⟨N, hN⟩ : ∃ N, N = Fm.at' b s m := ⟨_, rfl⟩
    rw [← hST] at hle hu hnx hl6 hsu hG ⊢
    rw [← hN] at hnx hl6 hsu hG
    obtain ⟨k, r⟩ := ST
    obtain ⟨⟨Nk, Nd⟩, Nn, Ns, Ne⟩ := N
    simp only at hle hu hnx hl6 hsu hG ⊢
    have HA := Lib.hid (And.intro hj (And.intro hmid (And.intro hsu (And.intro hG (And.intro hl6 (And.intro hST hN))))))
    have HB := Lib.hid hb0
    have HN := Lib.hid (And.intro hn0 (And.intro hu hnx))
    clear hj hmid hn0 hb0 hsc hu hnx hl6 hsu hST hN hG
    gi_wp2_with fail
    · have hib := IsB.from0 HB.out hle (by assumption)
      refine ⟨trivial, (fun h => (by cases h)), ?_⟩
      have hnx := next_any r _ _ _ (b.drop k) wr HN.out.2.1 hib HN.out.1
      rw [HN.out.2.2] at hnx
      refine (callsIn_wide.2 hnx).mono ?_
      clear hnx
      rintro e W1 ⟨ao, co, rfl, hibd, hb1⟩
      have hj1 := HA.out.1
      have hmid := HA.out.2.1
      have hbA : Below wr.heap.size wr (W1.alloc (.cells #[.int .u8 (Nk.toNat : Nat), .slice ao Nd.length co] 34)) := hb1.alloc hb1.size _
      have hjA := HJ.out m _ _ hj1 hbA
      have hmA : Mid n₀ n₁ w.heap.size w (W1.alloc (.cells #[.int .u8 (Nk.toNat : Nat), .slice ao Nd.length co] 34)) := hmid.trans (Mid.of (hbA.mono hmid.size))
      have hibA := hibd.old ((Below.refl _ _).alloc (Nat.le_refl _) (.cells #[.int .u8 (Nk.toNat : Nat), .slice ao Nd.length co] 34))
      by_cases he : Ne = 0
      · subst he
        exact absurd (HA.out.2.2.2.2.1 rfl) (by omega)
      · have hne : (Ne != 0) = true := by simpa using he
        have HF := Lib.hid hjA
        clear hj1 hmid hbA hjA hmA hibA hibd hb1
        gi_wp2_with fail
        refine ⟨fun _ h => (by cases h), ?_⟩
        gi_wp2_with fail
        refine bodyPost_ret (results_none rfl _ _ _) rfl ?_
        refine ⟨⟨_, rfl⟩, m, ?_, HF.out⟩
        rw [← HA.out.2.2.2.2.2.2]
        exact he
    · have hib := IsB.from HB.out hle
      refine ⟨trivial, (fun h => (by cases h)), ?_⟩
      have hnx := next_any r _ _ _ (b.drop k) wr HN.out.2.1 hib HN.out.1
      rw [HN.out.2.2] at hnx
      refine (callsIn_wide.2 hnx).mono ?_
      clear hnx
      rintro e W1 ⟨ao, co, rfl, hibd, hb1⟩
      have hj1 := HA.out.1
      have hmid := HA.out.2.1
      have hbA : Below wr.heap.size wr (W1.alloc (.cells #[.int .u8 (Nk.toNat : Nat), .slice ao Nd.length co] 34)) := hb1.alloc hb1.size _
      have hjA := HJ.out m _ _ hj1 hbA
      have hmA : Mid n₀ n₁ w.heap.size w (W1.alloc (.cells #[.int .u8 (Nk.toNat : Nat), .slice ao Nd.length co] 34)) := hmid.trans (Mid.of (hbA.mono hmid.size))
      have hibA := hibd.old ((Below.refl _ _).alloc (Nat.le_refl _) (.cells #[.int .u8 (Nk.toNat : Nat), .slice ao Nd.length co] 34))
      by_cases he : Ne = 0
      · subst he
        have hg6 := HA.out.2.2.2.2.1 rfl
        obtain ⟨fn, tmps, assign, body, hy, hR⟩ := HY.out m ⟨k, Nk, Nd, ao, co⟩ _ hjA ((HA.out.2.2.2.1 ⟨k, Nk, Nd, ao, co⟩ _).2 ⟨rfl, rfl, rfl, hibA⟩)
        dsimp only [enc2] at hy
        have HM := Lib.hid hmA
        clear hj1 hmid hbA hjA hmA hibA hibd hb1
        gi_wp2_with fail
        refine ⟨(fun h => (by cases h)), hR.mono ?_⟩
        rintro e W3 ⟨rfl, hJ3, hm3⟩
        have HF := Lib.hid (And.intro hJ3 (HM.out.trans hm3))
        clear hJ3 hm3
        gi_wp2_with fail
        go_roundw
        case rel => exact ⟨m + 1, by rw [HA.out.2.2.1]; simp only; omega, by rw [HA.out.2.2.1]; go_num, by rw [HA.out.2.2.1], HF.out.1, HF.out.2⟩
        case measure => simp [intOf]; omega
      · have hne : (Ne != 0) = true := by simpa using he
        have HF := Lib.hid hjA
        clear hj1 hmid hbA hjA hmA hibA hibd hb1
        gi_wp2_with fail
        refine ⟨fun _ h => (by cases h), ?_⟩
        gi_wp2_with fail
        refine bodyPost_ret (results_none rfl _ _ _) rfl ?_
        refine ⟨⟨_, rfl⟩, m, ?_, HF.out⟩
        rw [← HA.out.2.2.2.2.2.2]
        exact he
end Go.Proofs.YtjblkmjdepdekaaDoor.Fm
