
/- commands as bytes: Bytes -/
import Derived.Test.YtfidmjpjfigmcaaCmA
import Derived.Test.YtfidmjpjfigmcaaCmH
namespace Go.Proofs.Ytfidmjpjfigmcaa.Cm
open Go.RowKit Go.Lib Wn Rf By
set_option linter.unusedVariables false
set_option maxRecDepth 20000
theorem range_at {w : World} {b o : Nat} {vs : List Value} (h : w.rangeAt b o vs) {i : Nat} {v : Value} (hi : vs[i]? = some v) : w.cell? ⟨b, o + i, none⟩ = some v := h i v hi
/-- what Bytes answers -/
def ByGot (q : Req) (w : World) (e : Ending) (w' : World) : Prop :=
  ∃ (a : Option Addr) (n c : Nat) (er : Int), e = .returned (.tuple #[.slice a n c, .int .i64 er]) ∧ (er = 0 → isK q.c.kd = true ∧ n = (reqB q).length ∧ IsB w' a n c (reqB q)) ∧ Below w.heap.size w w'
set_option maxHeartbeats 8000000 in
theorem Bytes_any (q : Req) {w : World} (hd : Sp.Dp w q.c.sp.a q.c.sp.n q.c.sp.ds) (hwf : q.wf) (hm : q.c.med) :
    Calls Try.prog 16 #[.agg q.cells] w (ByGot q w) := by
  obtain ⟨u0, u1, hwc⟩ := hwf
  obtain ⟨V, hV⟩ : ∃ V, V = w.alloc (.cells q.cells 31) := ⟨_, rfl⟩
  have hb : Below w.heap.size w V := by rw [hV]; exact (Below.refl _ w).alloc (Nat.le_refl _) _
  have hs : V.heap.size = w.heap.size + 1 := by rw [hV]; simp
  have hx0 : V.heap[w.heap.size]? = some (.cells q.cells 31 (0, 0)) := by rw [hV]; exact heap_alloc_new w _
  obtain ⟨U, hU⟩ : ∃ U, U = V.alloc (.cells #[.slice none 0 0] 67) := ⟨_, rfl⟩
  have hbU : Below V.heap.size V U := by rw [hU]; exact (Below.refl _ _).alloc (Nat.le_refl _) _
  have hsU : U.heap.size = w.heap.size + 2 := by rw [hU]; simp [hs]
  have hwU : Wr (w.heap.size + 2) U (w.heap.size + 1) [] := by rw [hU, ← hs]; exact wr_new V _
  have hx1 := (hbU.block w.heap.size (by omega)).trans hx0
  obtain ⟨cl, nu, c⟩ := q
  simp only at hd hwc hm u0 u1 ⊢
  have HN := Lib.hid (num_w (w.heap.size + 2) (w.heap.size + 1) cl [] U u0 (by omega) (by omega) hwU (by simp))
  have HI := Lib.hid (isKind_any c.kd V)
  have HB := Lib.hid (And.intro hb (And.intro (hb.trans (hbU.mono hb.size)) (And.intro hwc (And.intro hm (And.intro hd hs)))))
  have HU := Lib.hid (And.intro hx1 hsU)
  have k0 : V.cell? ⟨w.heap.size, 2, none⟩ = some (.int .i64 c.kd) := (cell_at hx0 (i := 2) rfl).1
  have k1 : V.cell? ⟨w.heap.size, 0, none⟩ = some (.int .u64 cl) := (cell_at hx0 (i := 0) rfl).1
  have hlt : w.heap.size < V.heap.size := by omega
  have hpl : (⟨V.heap.size, 0, none⟩ : Addr) = ⟨w.heap.size + 1, 0, none⟩ := by rw [hs]
  have HP := Lib.hid hpl
  clear hb hbU hwU hx0 hx1 hsU hs hwc hm hd hpl
  unfold Req.cells at hV ⊢
  simp only at hV ⊢
  go_enter Try.func16, Try.ntmps16
  go_wp2_with fail
  rw [← hV]
  have HV := Lib.hid hV
  clear hV
  refine HI.out.mono ?_
  rintro e W0 ⟨rfl, rfl⟩
  clear HI
  cases hk : isK c.kd with
  | false =>
    have HK := Lib.hid hk
    clear hk k0 k1
    go_wp2_with fail
    go_ret2
    exact ⟨none, 0, 0, 1, rfl, fun h => absurd h (by decide), HB.out.1⟩
  | true =>
    have HK := Lib.hid hk
    clear hk
    go_wp2_with fail
    rw [HB.out.2.2.2.2.2, ← hU]
    have HUU := Lib.hid hU
    clear hU k0 k1 hlt
    refine HN.out.mono ?_
    rintro e U1 ⟨rfl, hw1, hf1⟩
    have hx1 := old_fr hf1 HU.out.1 (by decide) (by omega)
    obtain ⟨M1, hM1⟩ : ∃ M, M = [] ++ uvarint cl := ⟨_, rfl⟩
    rw [← hM1] at hw1
    have hl1 : M1.length ≤ 10 := by rw [hM1]; exact uvarint_length64 u0
    have k1 : U1.cell? ⟨w.heap.size, 1, none⟩ = some (.int .u64 nu) := (cell_at hx1 (i := 1) rfl).1
    have s1 := hf1.size
    have HN2 := Lib.hid (num_w (w.heap.size + 2) (w.heap.size + 1) nu M1 U1 u1 (by omega) (by have := HU.out.2; omega) hw1 (by omega))
    have F1 := Lib.hid (And.intro hf1 (And.intro hM1 hx1))
    clear hw1 hf1 hM1 hx1 HN
    go_wp2_with fail
    refine HN2.out.mono ?_
    rintro e U2 ⟨rfl, hw2, hf2⟩
    have hx2 := old_fr hf2 F1.out.2.2 (by decide) (by omega)
    obtain ⟨M2, hM2⟩ : ∃ M, M = M1 ++ uvarint nu := ⟨_, rfl⟩
    rw [← hM2] at hw2
    have hl2 : M2.length ≤ 20 := by rw [hM2, List.length_append]; have : (uvarint nu).length ≤ 10 := uvarint_length64 u1; omega
    have s2 := hf2.size
    have f12 : Fr (w.heap.size + 2) (w.heap.size + 1) U U2 := F1.out.1.trans hf2
    have hbw : Below w.heap.size w U2 := HB.out.2.1.trans (f12.below (by omega) (by omega))
    have hrg : U2.rangeAt w.heap.size 2 c.cells.toList := range_mid hx2 (fun j v hj => by
      have hj' : j < 16 := (List.getElem?_eq_some_iff.1 hj).1
      rw [← hj]
      match j, hj' with
      | 0, _ | 1, _ | 2, _ | 3, _ | 4, _ | 5, _ | 6, _ | 7, _ | 8, _ | 9, _ | 10, _ | 11, _ | 12, _ | 13, _ | 14, _ | 15, _ => rfl)
    have hdp : Sp.Dp U2 c.sp.a c.sp.n c.sp.ds := Sp.Dp.old HB.out.2.2.2.2.1 hbw
    have HC := Lib.hid (put_any (w.heap.size + 2) (w.heap.size + 1) c M2 U2 HK.out hdp HB.out.2.2.1 HB.out.2.2.2.1 (by omega) (by have := HU.out.2; omega) (fun hn b o e => by
      rcases HB.out.2.2.2.2.1.2.2 with h0 | ⟨b', o', h1, h2⟩
      · omega
      · rw [e] at h1
        simp only [Option.some.injEq, Addr.mk.injEq] at h1
        have h4 := World.block_lt_of_cell? w _ (h2 0 (by have := HB.out.2.2.2.2.1.1; omega))
        simp only at h4
        omega) hw2 (by omega))
    have F2 := Lib.hid (And.intro f12 (And.intro hM2 hbw))
    clear hw2 hf2 hM2 hx2 f12 hbw hdp HN2 k1
    go_wp2_with (refine wpList_load_mid rfl 29 _ rfl w.heap.size 2 rfl c.cells.toList _ hrg Try.underlying29 rfl info_cmd2 ?_)
    refine HC.out.mono ?_
    rintro e U3 ⟨rfl, hw3, hf3⟩
    obtain ⟨M3, hM3⟩ : ∃ M, M = M2 ++ cmdB c := ⟨_, rfl⟩
    rw [← hM3] at hw3
    have hl3 : M3.length ≤ 50000 := by
      have := cmd_len HB.out.2.2.1 HB.out.2.2.2.1
      rw [hM3, List.length_append]
      omega
    have HY := Lib.hid (bytes_any _ _ M3 U3 hw3 (by omega))
    have F3 := Lib.hid (And.intro (HB.out.2.1.trans ((F2.out.1.trans hf3).below (by omega) (by omega))) hM3)
    clear hw3 hf3 hM3 HC hrg
    go_wp2_with fail
    refine HY.out.mono ?_
    rintro e U4 ⟨v', rfl, hown, hb4⟩
    obtain ⟨a', c', rfl, hib⟩ := isB_own hown
    have hreq : reqB ⟨cl, nu, c⟩ = M3 := by
      unfold reqB
      rw [F3.out.2, F2.out.2.1, F1.out.2.1, List.nil_append, List.append_assoc]
    have H4 := Lib.hid (And.intro hib (And.intro (F3.out.1.trans (hb4.mono F3.out.1.size)) hreq))
    clear hown hib hb4 HY hreq
    by_cases h9 : 900 < M3.length
    · go_wp2_with fail
      go_ret2
      exact ⟨none, 0, 0, 15, rfl, fun h => absurd h (by decide), H4.out.2.1⟩
    · go_wp2_with fail
      go_ret2
      exact ⟨a', M3.length, c', 0, rfl, fun _ => ⟨HK.out, by rw [H4.out.2.2], by rw [H4.out.2.2]; exact H4.out.1⟩, H4.out.2.1⟩
end Go.Proofs.Ytfidmjpjfigmcaa.Cm
