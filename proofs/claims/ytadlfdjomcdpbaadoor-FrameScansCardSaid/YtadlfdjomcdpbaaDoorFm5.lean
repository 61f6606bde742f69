/- frames: the contract of Good -/
import Derived.Test.YtadlfdjomcdpbaaDoorFm4
namespace Go.Proofs.YtadlfdjomcdpbaaDoor.Fm
open Go.RowKit Go.Lib Go.Proofs.YtadlfdjomcdpbaaDoor.By Go.Proofs.YtadlfdjomcdpbaaDoor.Oc Go.Proofs.YtadlfdjomcdpbaaDoor.Cr

theorem add_add2 (x : Addr) (i j : Nat) : (x.add i).add j = x.add (i + j) := by
  by_cases hi : i = 0
  · subst hi; simp [Addr.add]
  · by_cases hj : j = 0
    · subst hj; simp [Addr.add]
    · simp [Addr.add, hi, hj, Nat.add_assoc]
/-- what is left of it, from a place on -/
theorem IsB.from {w : World} {a : Option Addr} {len cap k : Nat} {l : List UInt8} (h : IsB w a len cap l) (hk : k ≤ len) : IsB w (a.map fun x => x.add k) (len - k) (cap - k) (l.drop k) := by
  obtain ⟨h1, ⟨rfl, h3, h4⟩ | ⟨x, rfl, h3, h4, h5⟩⟩ := h
  · exact ⟨by simp; omega, .inl ⟨rfl, by omega, by omega⟩⟩
  · refine ⟨by simp; omega, .inr ⟨_, rfl, by omega, by omega, fun j u hu => ?_⟩⟩
    rw [add_add2]
    refine h5 _ u ?_
    simpa [byteCells, List.getElem?_drop] using hu
theorem IsB.from0 {w : World} {a : Option Addr} {len cap k : Nat} {l : List UInt8} (h : IsB w a len cap l) (hk : k ≤ len) (hc : cap = k) : IsB w a (len - k) 0 (l.drop k) := by
  obtain ⟨h1, ⟨rfl, h3, h4⟩ | ⟨x, rfl, h3, h4, h5⟩⟩ := h
  · exact ⟨by simp; omega, .inl ⟨rfl, by omega, rfl⟩⟩
  · have e : l.drop k = [] := by rw [List.drop_eq_nil_iff]; omega
    rw [e]
    exact ⟨by simp; omega, .inr ⟨_, rfl, by omega, by omega, fun j u hu => by simp [byteCells] at hu⟩⟩

set_option maxRecDepth 20000 in
set_option maxHeartbeats 4000000 in
theorem good_any (s : Nat) (a : Option Addr) (len cap : Nat) (b : List UInt8) (w : World) (hs : U32 s) (hb : IsB w a len cap b) (hn : Nibs w) :
    Calls Tryd.prog 14 #[.int .u32 s, .slice a len cap] w fun e w' => e = .returned (.tuple #[.int .i64 ((good b 0 s).1 : Nat), .int .u32 ((good b 0 s).2 : Nat)]) ∧ Below w.heap.size w w' := by
  obtain rfl : b.length = len := hb.1
  have hm := hb.le
  unfold maxLen at hm
  have hlc : b.length ≤ cap ∧ cap ≤ 9223372036854775807 := by
    obtain ⟨h1, ⟨h2, h3, h4⟩ | ⟨x, h2, h3, h4, h5⟩⟩ := id hb
    · omega
    · exact ⟨h3, by unfold maxLen at h4; omega⟩
  have HB := Lib.hid hb
  have HN := Lib.hid hn
  obtain ⟨G, hG⟩ : ∃ G, G = good b 0 s := ⟨_, rfl⟩
  rw [← hG]
  obtain ⟨G1, G2⟩ := G
  have HG := Lib.hid hG
  have HS := Lib.hid hs
  clear hb hn hs hG
  go_enter Tryd.func14, Tryd.ntmps14
  go_wp2
  go_loopw [6, 7] (fun p q wr => ∃ k r : Nat, k ≤ b.length ∧ p = .int .i64 k ∧ q = .int .u32 r ∧ U32 r ∧ good b k r = (G1, G2) ∧ Below w.heap.size w wr) (fun p _ _ => b.length - (intOf p).toNat)
  case atStart => exact ⟨0, s, by omega, rfl, rfl, HS.out, HG.out.symm, Below.refl _ _⟩
  case round =>
    obtain ⟨k, r, hk, rfl, rfl, hr, hg, hbel⟩ := hrel
    have HR := Lib.hid (And.intro hr (And.intro hg hbel))
    clear hr hg hbel
    go_wp2_with fail
    · have hib := IsB.from0 (HB.out.old HR.out.2.2) hk (by assumption)
      have hb1 := HR.out.2.2
      have HE := Lib.hid (next_any r _ _ _ (b.drop k) wr HR.out.1 hib (HN.out.old hb1))
      have hg1 : (nxt r (b.drop k)).2.2.2 ≠ 0 → good b k r = (k, r) := good_end
      have hg2 : (nxt r (b.drop k)).2.2.2 = 0 → good b k r = good b (k + (nxt r (b.drop k)).2.1) (nxt r (b.drop k)).2.2.1 := good_go
      have hg3 : (nxt r (b.drop k)).2.2.2 = 0 → 6 ≤ (nxt r (b.drop k)).2.1 ∧ (nxt r (b.drop k)).2.1 ≤ (b.drop k).length := nxt_len
      have hg4 := nxt_u32 r (b.drop k)
      rw [List.length_drop] at hg3
      obtain ⟨N, hN⟩ : ∃ N, N = nxt r (b.drop k) := ⟨_, rfl⟩
      rw [← hN] at HE hg1 hg2 hg3 hg4
      obtain ⟨⟨Nk, Nd⟩, Nn, Ns, Ne⟩ := N
      simp only at HE hg1 hg2 hg3 hg4
      have HK := Lib.hid (And.intro hg1 (And.intro hg2 (And.intro hg3 hg4)))
      clear hb1 hg1 hg2 hg3 hg4 hN hib
      refine HE.out.mono ?_
      rintro e W1 ⟨ao, co, rfl, _, hb2⟩
      have hb3 := HR.out.2.2.trans (hb2.mono HR.out.2.2.size)
      have HB3 := Lib.hid (And.intro hb3 (hb3.alloc hb3.size (.cells #[.int .u8 (Nk.toNat : Nat), .slice ao Nd.length co] 25)))
      clear hb2 hb3 HE
      by_cases he : Ne = 0
      · subst he
        have h3 := HK.out.2.2.1 rfl
        exact absurd h3 (by omega)
      · have hne : (Ne != 0) = true := by simpa using he
        have HF := Lib.hid ((HK.out.1 he).symm.trans HR.out.2.1)
        clear he
        go_wp2
        go_ret2
        obtain ⟨rfl, rfl⟩ := Prod.mk.inj HF.out
        exact ⟨rfl, HB3.out.2⟩
    · have hib := IsB.from (HB.out.old HR.out.2.2) hk
      have hb1 := HR.out.2.2
      have HE := Lib.hid (next_any r _ _ _ (b.drop k) wr HR.out.1 hib (HN.out.old hb1))
      have hg1 : (nxt r (b.drop k)).2.2.2 ≠ 0 → good b k r = (k, r) := good_end
      have hg2 : (nxt r (b.drop k)).2.2.2 = 0 → good b k r = good b (k + (nxt r (b.drop k)).2.1) (nxt r (b.drop k)).2.2.1 := good_go
      have hg3 : (nxt r (b.drop k)).2.2.2 = 0 → 6 ≤ (nxt r (b.drop k)).2.1 ∧ (nxt r (b.drop k)).2.1 ≤ (b.drop k).length := nxt_len
      have hg4 := nxt_u32 r (b.drop k)
      rw [List.length_drop] at hg3
      obtain ⟨N, hN⟩ : ∃ N, N = nxt r (b.drop k) := ⟨_, rfl⟩
      rw [← hN] at HE hg1 hg2 hg3 hg4
      obtain ⟨⟨Nk, Nd⟩, Nn, Ns, Ne⟩ := N
      simp only at HE hg1 hg2 hg3 hg4
      have HK := Lib.hid (And.intro hg1 (And.intro hg2 (And.intro hg3 hg4)))
      clear hb1 hg1 hg2 hg3 hg4 hN hib
      refine HE.out.mono ?_
      rintro e W1 ⟨ao, co, rfl, _, hb2⟩
      have hb3 := HR.out.2.2.trans (hb2.mono HR.out.2.2.size)
      have HB3 := Lib.hid (And.intro hb3 (hb3.alloc hb3.size (.cells #[.int .u8 (Nk.toNat : Nat), .slice ao Nd.length co] 25)))
      clear hb2 hb3 HE
      by_cases he : Ne = 0
      · subst he
        have h3 := HK.out.2.2.1 rfl
        have h2 := HK.out.2.1 rfl
        have HF := Lib.hid (And.intro (h2.symm.trans HR.out.2.1) HK.out.2.2.2)
        clear h2
        go_wp2
        go_roundw
        case rel => exact ⟨k + Nn, Ns, by omega, by go_num, rfl, HF.out.2, HF.out.1, HB3.out.2⟩
        case measure => simp [intOf]; omega
      · have hne : (Ne != 0) = true := by simpa using he
        have HF := Lib.hid ((HK.out.1 he).symm.trans HR.out.2.1)
        clear he
        go_wp2
        go_ret2
        obtain ⟨rfl, rfl⟩ := Prod.mk.inj HF.out
        exact ⟨rfl, HB3.out.2⟩
end Go.Proofs.YtadlfdjomcdpbaaDoor.Fm
