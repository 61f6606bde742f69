
/- disks: the walk of DiskKeeps -/
import Derived.Test.YtjblkmjdepdekaaDkW
namespace Go.Proofs.Ytjblkmjdepdekaa.Dk
open Go.RowKit Go.Lib Go.Proofs.Ytjblkmjdepdekaa.By Go.Proofs.Ytjblkmjdepdekaa.Ht
open Go.ChangeMaps Go.MapKept

/-! ### plain mathematics -/
theorem txt_mem {X : List Wr} {j : Nat} {t : List UInt8} : t ∈ txt X j ↔ ∃ x ∈ X, x.1 = j ∧ x.2 = t := by
  unfold txt
  simp only [List.mem_map, List.mem_filter, beq_iff_eq]
  constructor
  · rintro ⟨x, ⟨h1, h2⟩, h3⟩; exact ⟨x, h1, h2, h3⟩
  · rintro ⟨x, h1, h2, h3⟩; exact ⟨x, ⟨h1, h2⟩, h3⟩
theorem ov_last {n : Nat} {F : List UInt8} (hF : F.length = 64 * n) : ∀ (m : Nat) (X : List Wr), X.length = m → OkW n X → ∀ j, getS (ov F X) j = (txt X j).getLastD (getS F j)
  | 0, X, hm, _, j => by
    obtain rfl : X = [] := List.length_eq_zero_iff.1 hm
    rfl
  | m + 1, X, hm, hw, j => by
    obtain ⟨Y, x, rfl⟩ : ∃ Y x, X = Y ++ [x] := ⟨X.dropLast, X.getLast (by intro e; subst e; simp at hm), (List.dropLast_concat_getLast _).symm⟩
    have hY : OkW n Y := fun y hy => hw y (by simp [hy])
    have hx := hw x (by simp)
    have ih := ov_last hF m Y (by simpa using hm) hY j
    have hl := ov_len Y F hF hY
    rw [ov_snoc]
    have e0 : Y ++ [x] = Y ++ [(x.1, x.2)] := rfl
    rw [e0, txt_snoc]
    by_cases e : j = x.1
    · subst e
      rw [getS_same hl hx.1 hx.2]
      simp
    · rw [getS_other hl hx.1 hx.2 e, ih]
      simp [e]
theorem getS_zero {n j : Nat} (h : j < n) : getS (List.replicate (64 * n) 0) j = full [] := by
  unfold getS full
  rw [List.drop_replicate, List.take_replicate]
  rw [show min 64 (64 * n - 64 * j) = 64 by omega]
  rfl
/-- behind a crash a sector is as it was synced, or one of what was written since -/
theorem crash_one {n : Nat} {S : List UInt8} {Y : List Wr} (k : Nat → Bool) (hS : S.length = 64 * n) (hY : OkW n Y) (j : Nat) :
    getS (syncF (cF k Y S Y.length) (ov S Y) Y) j = getS S j ∨ getS (syncF (cF k Y S Y.length) (ov S Y) Y) j ∈ txt Y j := by
  obtain ⟨V, hV, hC⟩ := cF_some k Y S Y.length (Nat.le_refl _)
  have hVo : OkW n V := fun x hx => hY x (hV x hx)
  have h := sync_get (ov_len V S hS hVo) Y (ov S Y) (ov_len Y S hS hY) hY j
  rw [hC]
  by_cases hr : ∃ x ∈ Y, x.1 = j
  · rw [h.1 hr]
    rcases ov_one V S hS hVo j with h1 | ⟨x, hx, h1, h2⟩
    · exact .inl h1
    · exact .inr (txt_mem.2 ⟨x, hV x hx, h1, h2.symm⟩)
  · have hr' : ∀ x ∈ Y, x.1 ≠ j := fun y hy e => hr ⟨y, hy, e⟩
    rw [h.2 hr', ov_get Y S hS hY j hr']
    exact .inl rfl
/-- is it the one, or one of the first so many others? -/
def metB (t u : ByteArray) (ys : List (List UInt8)) (j : Nat) : Bool := (t.toList == u.toList) || (ys.take j).any fun y => t.toList == (⟨y.toArray⟩ : ByteArray).toList
theorem metB_succ (t u : ByteArray) {ys : List (List UInt8)} {j : Nat} (h : j < ys.length) : metB t u ys (j + 1) = (metB t u ys j || (t.toList == (⟨ys[j].toArray⟩ : ByteArray).toList)) := by
  unfold metB
  rw [List.take_succ_eq_append_getElem h, List.any_append]
  simp [Bool.or_assoc]
theorem metB_all {g s : List UInt8} {ys : List (List UInt8)} (h : g = s ∨ g ∈ ys) : metB ⟨g.toArray⟩ ⟨s.toArray⟩ ys ys.length = true := by
  unfold metB
  rcases h with rfl | h
  · simp
  · rw [List.take_length]
    have : (ys.any fun y => (⟨g.toArray⟩ : ByteArray).toList == (⟨y.toArray⟩ : ByteArray).toList) = true := List.any_eq_true.2 ⟨g, h, by simp⟩
    rw [this, Bool.or_true]
set_option linter.unusedSimpArgs false in
set_option maxRecDepth 20000 in
set_option maxHeartbeats 16000000 in
theorem keeps_walk (a : Option Addr) (cap : Nat) (L : List Act4) (a2 : Option Addr) (cap2 : Nat) (M : List Act4) (keep : Nat) (w : World) (h1 : IsActs w a L) (h2 : IsActs w a2 M) (hc1 : L.length ≤ cap ∧ cap ≤ 9223372036854775807) (hc2 : M.length ≤ cap2 ∧ cap2 ≤ 9223372036854775807) :
    Calls Try.prog 3 #[.slice a L.length cap, .slice a2 M.length cap2, .int .u64 (keep : Nat)] w fun e w' => e = .returned (.bool true) ∧ Below w.heap.size w w' := by
  have hmf : ∀ (fn : Fn) (first cap : Array Value) (w : World), (Instr.makeFunc fn first cap).run Try.prog w = .ok (.func fn first cap) w := fun _ _ _ _ => rfl
  have HLV := fun W => Lib.hid (lives_any W)
  have HI := Lib.hid (And.intro h1 h2)
  have HM := Lib.hid hmf
  clear h1 h2
  go_enter Try.func3, Try.ntmps3
  by_cases g1 : 60 < L.length
  · have e1 : decide ((L.length : Int) > 60) = true := by simp; omega
    clear g1
    go_wp2_with fail
    refine (HLV _).out.mono ?_
    rintro e wa ⟨rfl, hba⟩
    go_wp2_with fail
    refine (HLV _).out.mono ?_
    rintro e wb ⟨rfl, hbb⟩
    go_wp2_with fail
    go_ret
    exact ⟨rfl, (((Below.refl _ w).alloc (Nat.le_refl _) _).trans (hba.mono (by simp))).trans (hbb.mono (by have := hba.size; simp at this; omega))⟩
  · by_cases g2 : 60 < M.length
    · have e1 : decide ((L.length : Int) > 60) = false := by simp; omega
      have e2 : decide ((M.length : Int) > 60) = true := by simp; omega
      clear g1 g2
      go_wp2_with fail
      refine (HLV _).out.mono ?_
      rintro e wa ⟨rfl, hba⟩
      go_wp2_with fail
      refine (HLV _).out.mono ?_
      rintro e wb ⟨rfl, hbb⟩
      go_wp2_with fail
      go_ret
      exact ⟨rfl, (((Below.refl _ w).alloc (Nat.le_refl _) _).trans (hba.mono (by simp))).trans (hbb.mono (by have := hba.size; simp at this; omega))⟩
    · have e1 : decide ((L.length : Int) > 60) = false := by simp; omega
      have e2 : decide ((M.length : Int) > 60) = false := by simp; omega
      have hL60 : L.length ≤ 60 := by omega
      have hM60 : M.length ≤ 60 := by omega
      have HG := Lib.hid (And.intro hL60 hM60)
      clear g1 g2 hL60 hM60
      have hbx : (w.alloc (.cells #[.int .u64 (keep : Nat)] 23)).heap[w.heap.size]? = some (.cells #[.int .u64 (keep : Nat)] 23 (0, 0)) := heap_alloc_new w _
      have hb0 : Below w.heap.size w (w.alloc (.cells #[.int .u64 (keep : Nat)] 23)) := (Below.refl _ _).alloc (Nat.le_refl _) _
      have hz0 : (w.alloc (.cells #[.int .u64 (keep : Nat)] 23)).heap.size = w.heap.size + 1 := by simp
      go_wp2_with (go_at_call 4; (with_reducible refine (HLV _).out.mono ?_); rintro e wa ⟨rfl, hba⟩)
      have hbwa : Below w.heap.size w wa := hb0.trans (hba.mono (by omega))
      have hka : wa.heap[w.heap.size]? = some (.cells #[.int .u64 (keep : Nat)] 23 (0, 0)) := (hba.block _ (by omega)).trans hbx
      have HA := Lib.hid (And.intro hbwa (And.intro hka (show w.heap.size + 1 ≤ wa.heap.size by have := hba.size; omega)))
      clear hbwa hka hba hbx hb0 hz0
      have hmf := HM.out
      go_wp2_with fail
      refine (new_any 8 wa (by decide)).mono ?_
      rintro e w1 ⟨bd, gs, gn, rfl, hd1, hb1⟩
      have hal : Below w1.heap.size w1 (w1.alloc (.cells #[.pointer (some ⟨bd, 0, none⟩)] 25)) := (Below.refl _ _).alloc (Nat.le_refl _) _
      have hq1 : (w1.alloc (.cells #[.pointer (some ⟨bd, 0, none⟩)] 25)).heap[w1.heap.size]? = some (.cells #[.pointer (some ⟨bd, 0, none⟩)] 25 (0, 0)) := heap_alloc_new w1 _
      have hba1 : Below wa.heap.size wa (w1.alloc (.cells #[.pointer (some ⟨bd, 0, none⟩)] 25)) := hb1.trans (hal.mono hb1.size)
      have hd2 := hd1.old hal
      obtain ⟨Z, hZ⟩ : ∃ Z : List UInt8, Z = List.replicate (64 * 8) 0 := ⟨_, rfl⟩
      obtain ⟨w2, hw2⟩ : ∃ w2, w2 = w1.alloc (.cells #[.pointer (some ⟨bd, 0, none⟩)] 25) := ⟨_, rfl⟩
      rw [← hZ] at hd2
      have hq2 := cell_of_one hq1
      have H2 := Lib.hid (And.intro hd2 (And.intro hq1 (And.intro hba1 (And.intro hZ hw2))))
      rw [← hw2] at H2
      clear hd1 hb1 hal hq1 hba1 hd2 hZ
      go_wp2_with fail
      rw [← hw2]
      have HQ2 := Lib.hid hq2
      clear hw2 hq2
      refine (map_any (W := []) (F := Z) H2.out.1 H2.out.2.1 a cap L (fun X hX => HI.out.1.old (HA.out.1.trans ((H2.out.2.2.1.trans hX).mono (by have := HA.out.2.2; omega)))) hc1 HG.out.1 (by simp)).mono ?_
      rintro e w3 ⟨rfl, n1, vs1, X, vw3, hn1, hX, hd3, hg3, hv3, hf3⟩
      rw [List.nil_append] at hd3
      have hba3 := H2.out.2.2.1.trans (H2.out.1.below hf3)
      have hq3 := (hf3.block _ (lt_of_block H2.out.2.1) (H2.out.1.not_foot H2.out.2.1 (by decide) (by decide) (by decide))).trans H2.out.2.1
      have hc3 := cell_of_one hq3
      have H3 := Lib.hid (And.intro hd3 (And.intro hg3 (And.intro hba3 (And.intro hq3 hX))))
      clear hd3 hg3 hba3 hv3 hf3 hn1 hX hq3
      go_wp2_with fail
      refine (sync_ok H3.out.1 (by have := H3.out.2.2.2.2; have := HG.out; omega)).mono ?_
      rintro e w4 ⟨rfl, hd4, hf4⟩
      rw [sync_ov H3.out.1.lenF H3.out.1.okW] at hd4
      have hg4 := H3.out.2.1.disk H3.out.1 hf4
      have hba4 := H3.out.2.2.1.trans (H3.out.1.below hf4)
      have hq4 := (hf4.block _ (lt_of_block H3.out.2.2.2.1) (H3.out.1.not_foot H3.out.2.2.2.1 (by decide) (by decide) (by decide))).trans H3.out.2.2.2.1
      obtain ⟨S, hS⟩ : ∃ S, S = ov Z X := ⟨_, rfl⟩
      rw [← hS] at hd4
      have H4 := Lib.hid (And.intro hd4 (And.intro hg4 (And.intro hba4 (And.intro hq4 (And.intro H3.out.2.2.2.2 (And.intro hS H3.out.1.okW))))))
      have hmf := HM.out
      clear hd4 hg4 hba4 hf4 hq4 hc3 hS
      go_wp2_with fail
      refine (map_any (W := []) (F := S) H4.out.1 H4.out.2.2.2.1 a2 cap2 M (fun X hX => HI.out.2.old (HA.out.1.trans ((H4.out.2.2.1.trans hX).mono (by have := HA.out.2.2; omega)))) hc2 HG.out.2 (by simp)).mono ?_
      rintro e w5 ⟨rfl, n2, vs2, Y, vw5, hn2, hY, hd5, hg5, hv5, hf5⟩
      rw [List.nil_append] at hd5
      have hg51 := H4.out.2.1.disk H4.out.1 hf5
      have hba5 := H4.out.2.2.1.trans (H4.out.1.below hf5)
      have hq5 := (hf5.block _ (lt_of_block H4.out.2.2.2.1) (H4.out.1.not_foot H4.out.2.2.2.1 (by decide) (by decide) (by decide))).trans H4.out.2.2.2.1
      have hc5 := cell_of_one hq5
      have hkp : ∀ X, Below w5.heap.size w5 X → X.cell? ⟨w.heap.size, 0, none⟩ = some (.int .u64 (keep : Nat)) := fun X hX =>
        cell_of_one (((hba5.trans (hX.mono hba5.size)).block _ (by have := HA.out.2.2; omega)).trans HA.out.2.1)
      have H5 := Lib.hid (And.intro hd5 (And.intro hg51 (And.intro hg5 (And.intro hba5 (And.intro hq5 (And.intro hY hkp))))))
      clear hd5 hg51 hg5 hba5 hv5 hf5 hn2 hY hq5 hkp
      have hmf := HM.out
      go_wp2_with fail
      refine (crash_any H5.out.1 (asks_keep keep w.heap.size) H5.out.2.2.2.2.2.2 (by have := H5.out.2.2.2.2.2.1; have := HG.out; omega)).mono ?_
      rintro e w6 ⟨rfl, hd6, hf6⟩
      have hg61 := H5.out.2.1.disk H5.out.1 hf6
      have hg62 := H5.out.2.2.1.disk H5.out.1 hf6
      have hba6 := H5.out.2.2.2.1.trans (H5.out.1.below hf6)
      have hq6 := (hf6.block _ (lt_of_block H5.out.2.2.2.2.1) (H5.out.1.not_foot H5.out.2.2.2.2.1 (by decide) (by decide) (by decide))).trans H5.out.2.2.2.2.1
      have hc6 := cell_of_one hq6
      have hcr := crash_one (keepB keep) H5.out.1.lenF H5.out.1.okW
      obtain ⟨G, hG⟩ : ∃ G, G = syncF (cF (keepB keep) Y S Y.length) (ov S Y) Y := ⟨_, rfl⟩
      obtain ⟨F6, hF6⟩ : ∃ F, F = cF (keepB keep) Y S Y.length := ⟨_, rfl⟩
      rw [← hG, ← hF6] at hd6
      rw [← hG] at hcr
      have hlast : ∀ j, j < 8 → getS S j = (txt X j).getLastD (full []) := fun j hj => by
        rw [H4.out.2.2.2.2.2.1, ov_last (n := 8) (by rw [H2.out.2.2.2.1]; simp) X.length X rfl H4.out.2.2.2.2.2.2 j, H2.out.2.2.2.1, getS_zero hj]
      have H6 := Lib.hid (And.intro hd6 (And.intro hg61 (And.intro hg62 (And.intro hba6 (And.intro hq6 (And.intro hcr (And.intro hlast (And.intro H4.out.2.2.2.2.1 H5.out.2.2.2.2.2.1))))))))
      clear hd6 hg61 hg62 hba6 hf6 hq6 hcr hG hF6 hlast hc5
      go_wp2_with fail
      refine (up_any H6.out.1).mono ?_
      rintro e w7 ⟨rfl, hd7, hf7, _⟩
      have h7 : IsDk w7 wa.heap.size bd gs 8 gn 8 (.slice none 0 0) 8 F6 G [] false ∧ Grp w7 w2.heap.size n1 (w2.heap.size + 1) vs1 (txt X) ∧ Grp w7 w4.heap.size n2 (w4.heap.size + 1) vs2 (txt Y) ∧ Below w.heap.size w w7 ∧ w7.heap[w1.heap.size]? = some (.cells #[.pointer (some ⟨bd, 0, none⟩)] 25 (0, 0)) :=
        ⟨hd7, H6.out.2.1.disk H6.out.1 hf7, H6.out.2.2.1.disk H6.out.1 hf7, HA.out.1.trans ((H6.out.2.2.2.1.trans (H6.out.1.below hf7)).mono (by have := HA.out.2.2; omega)),
          (hf7.block _ (lt_of_block H6.out.2.2.2.2.1) (H6.out.1.not_foot H6.out.2.2.2.2.1 (by decide) (by decide) (by decide))).trans H6.out.2.2.2.2.1⟩
      have H7 := Lib.hid h7
      clear hd7 hf7 h7 hc6
      go_wp2_with fail
      go_loopw [52] (fun kv wr => ∃ i : Nat, i ≤ 8 ∧ kv = .int .i64 i ∧ IsDk wr wa.heap.size bd gs 8 gn 8 (.slice none 0 0) 8 F6 G [] false ∧ Grp wr w2.heap.size n1 (w2.heap.size + 1) vs1 (txt X) ∧ Grp wr w4.heap.size n2 (w4.heap.size + 1) vs2 (txt Y) ∧ Below w.heap.size w wr ∧ wr.heap[w1.heap.size]? = some (.cells #[.pointer (some ⟨bd, 0, none⟩)] 25 (0, 0))) (fun kv _ => 8 - (intOf kv).toNat)
      case atStart => exact ⟨0, Nat.zero_le _, rfl, H7.out⟩
      case round =>
        obtain ⟨i, hi, rfl, hd, hg1, hg2, hb, hq⟩ := hrel
        by_cases hlt : i < 8
        · have hcq := cell_of_one hq
          have hiI : (i : Int) < 8 := by omega
          have HR := Lib.hid (And.intro hd (And.intro hg1 (And.intro hg2 (And.intro hb hq))))
          clear hd hg1 hg2 hb hq
          go_wp2_with fail
          refine (read_ok HR.out.1 i 1 (Nat.le_refl _) (by omega)).mono ?_
          rintro e w8 ⟨ao, cp, rfl, hib, _, hb8⟩
          rw [getM_one] at hib
          have HS := Lib.hid (And.intro (HR.out.1.old hb8) (And.intro (HR.out.2.1.old hb8) (And.intro (HR.out.2.2.1.old hb8) (And.intro (HR.out.2.2.2.1.trans (hb8.mono HR.out.2.2.2.1.size)) (And.intro ((hb8.block _ (lt_of_block HR.out.2.2.2.2)).trans HR.out.2.2.2.2) hib)))))
          clear hib hb8 hcq
          have hl1 := HS.out.2.1.look' rfl zeroStrs (show i ≤ 1000000 by omega)
          have hl2 := HS.out.2.2.1.look' rfl zeroStrs (show i ≤ 1000000 by omega)
          have hlen1 : (txt X i).length ≤ 60 := by
            have := H6.out.2.2.2.2.2.2.2.1
            have := HG.out
            have := List.length_filter_le (fun x : Wr => x.1 == i) X
            simp only [txt, List.length_map]
            omega
          have hlen2 : (txt Y i).length ≤ 60 := by
            have := H6.out.2.2.2.2.2.2.2.2
            have := HG.out
            have := List.length_filter_le (fun x : Wr => x.1 == i) Y
            simp only [txt, List.length_map]
            omega
          obtain ⟨a1, c1, hv1⟩ := own_shape (HS.out.2.1.own i)
          obtain ⟨a2', c2, hv2⟩ := own_shape (HS.out.2.2.1.own i)
          have hst := H6.out.2.2.2.2.2.2.1 i hlt
          have HF0 := Lib.hid (full_any [] (by simp))
          obtain ⟨t, ht⟩ : ∃ t, t = (⟨(getS G i).toArray⟩ : ByteArray) := ⟨_, rfl⟩
          obtain ⟨u, hu⟩ : ∃ t, t = (⟨(getS S i).toArray⟩ : ByteArray) := ⟨_, rfl⟩
          have hcv := str_of HS.out.2.2.2.2.2
          have hcq := cell_of_one HS.out.2.2.2.2.1
          rw [← ht] at hcv
          obtain ⟨n, hn⟩ : ∃ n, n = (txt X i).length := ⟨_, rfl⟩
          obtain ⟨m, hm⟩ : ∃ n, n = (txt Y i).length := ⟨_, rfl⟩
          rw [← hn] at hlen1 hv1
          rw [← hm] at hlen2 hv2
          rw [hv1] at hl1
          rw [hv2] at hl2
          have HL := Lib.hid (And.intro ht (And.intro hu (And.intro hv2 hm)))
          by_cases h0 : n = 0
          all_goals first
            | (
              have hst' : getS S i = full [] := by rw [hst, List.length_eq_zero_iff.1 (hn.symm.trans h0)]; rfl
              have HF1 : Hid (∀ W, Calls Try.prog 8 #[.string ⟨#[]⟩] W fun e w' => e = .returned (.string u) ∧ W = w') := Lib.hid fun W => by rw [hu, hst']; exact HF0.out W
              subst h0
              clear hst hst' hv1 hv2 hu ht HF0 hn hm
              go_wp2_with fail
              refine (HF1.out _).mono ?_
              rintro e w9 ⟨rfl, rfl⟩
              go_wp2_with fail
              )
            | (
              obtain ⟨g1, rfl⟩ : ∃ g, a1 = some ⟨g, 0, none⟩ := by
                have := (HS.out.2.1.own i).2
                rw [hv1, ← hn] at this
                rcases this with ⟨_, h⟩ | ⟨g, cap, cur, h, _⟩
                · exact absurd h h0
                · simp at h; exact ⟨g, h.1⟩
              have hown := HS.out.2.1.own i
              rw [hv1] at hown
              have hce : w8.cell? ⟨g1, n - 1, none⟩ = some (.string u) := by
                have h1 := hown.cells (g := g1) rfl (n - 1) (strV (getS S i)) (by
                  rw [List.getElem?_map, hst, List.getLastD_eq_getLast?, List.getLast?_eq_getElem?, ← hn]
                  have : n - 1 < (txt X i).length := by omega
                  simp [List.getElem?_eq_getElem this])
                rw [add_lit, Nat.zero_add] at h1
                rw [hu]; exact h1
              have hn0 : (0 : Int) < (n : Int) := by omega
              have hn60 : (n : Int) ≤ 60 := by omega
              clear hst hv1 hv2 hu ht hn hm hown h0
              go_wp2_with fail
              refine (HF0.out _).mono ?_
              rintro e w9 ⟨rfl, rfl⟩
              go_wp2_with fail
              )
          all_goals
            have hb0 : (t.toList == u.toList) = metB t u (txt Y i) 0 := by simp [metB]
            rw [hb0]
            clear hb0
            go_loop [17, 83] (fun b v => ∃ j : Nat, j ≤ m ∧ v = .int .i64 j ∧ b = .bool (metB t u (txt Y i) j)) (fun _ v => m - (intOf v).toNat)
            case atStart => exact ⟨0, Nat.zero_le _, rfl, rfl⟩
            case round =>
              obtain ⟨j, hj, rfl, rfl⟩ := hrel
              by_cases hjm : j < m
              · obtain ⟨g2, rfl⟩ : ∃ g, a2' = some ⟨g, 0, none⟩ := by
                  have := (HS.out.2.2.1.own i).2
                  rw [HL.out.2.2.1, ← HL.out.2.2.2] at this
                  rcases this with ⟨_, h⟩ | ⟨g, cap, cur, h, _⟩
                  · omega
                  · simp at h; exact ⟨g, h.1⟩
                have hjl : j < (txt Y i).length := by rw [← HL.out.2.2.2]; exact hjm
                have hown := HS.out.2.2.1.own i
                rw [HL.out.2.2.1] at hown
                obtain ⟨v, hv⟩ : ∃ v, v = (⟨((txt Y i)[j]).toArray⟩ : ByteArray) := ⟨_, rfl⟩
                have hce2 : w8.cell? ⟨g2, j, none⟩ = some (.string v) := by
                  have h1 := hown.cells (g := g2) rfl j (strV (txt Y i)[j]) (by simp [List.getElem?_eq_getElem hjl])
                  rw [add_lit, Nat.zero_add] at h1
                  rw [hv]; exact h1
                have hsu := metB_succ t u hjl
                rw [← hv] at hsu
                have HMS := Lib.hid hsu
                have hjI : (j : Int) < (m : Int) := by omega
                have hmI : (m : Int) ≤ 60 := by omega
                have hj0 : (0 : Int) ≤ (j : Int) := by omega
                clear hsu hown hv
                obtain ⟨mb, hmb⟩ : ∃ b, b = metB t u (txt Y i) j := ⟨_, rfl⟩
                rw [← hmb] at HMS ⊢
                clear hmb
                cases mb
                · go_wp2_with fail
                  go_round
                  case rel => exact ⟨j + 1, by omega, by go_num, by rw [HMS.out]; simp⟩
                  case measure => simp [intOf]; omega
                · go_wp2_with fail
                  go_round
                  case rel => exact ⟨j + 1, by omega, by go_num, by rw [HMS.out]; simp⟩
                  case measure => simp [intOf]; omega
              · obtain rfl : j = m := by omega
                have hmt : metB t u (txt Y i) j = true := by
                  have := H6.out.2.2.2.2.2.1 i
                  rw [HL.out.2.2.2, HL.out.1, HL.out.2.1]
                  exact metB_all this
                rw [hmt]
                have hjI : ¬ (j : Int) < (j : Int) := by omega
                have hcq2 := hcq
                clear hmt
                go_wp2_with fail
                go_roundw
                case rel => exact ⟨i + 1, by omega, by go_num, HS.out.1, HS.out.2.1, HS.out.2.2.1, HS.out.2.2.2.1, HS.out.2.2.2.2.1⟩
                case measure => simp [intOf]; omega
        · obtain rfl : i = 8 := by omega
          have HR := Lib.hid hb
          clear hd hg1 hg2 hb hq
          go_wp2_with fail
          go_ret
          exact ⟨rfl, HR.out⟩
theorem keeps_card (a : Option Addr) (len cap : Nat) (L : List Act4) (a2 : Option Addr) (len2 cap2 : Nat) (M : List Act4) (keep : Nat) (w : World) (h1 : L.length = len ∧ len ≤ cap ∧ cap ≤ 9223372036854775807 ∧ IsActs w a L) (h2 : M.length = len2 ∧ len2 ≤ cap2 ∧ cap2 ≤ 9223372036854775807 ∧ IsActs w a2 M) :
    Calls Try.prog 3 #[.slice a len cap, .slice a2 len2 cap2, .int .u64 (keep : Nat)] w fun e w' => e = .returned (.bool true) ∧ Below w.heap.size w w' := by
  obtain ⟨rfl, p1, p2, p3⟩ := h1
  obtain ⟨rfl, q1, q2, q3⟩ := h2
  exact keeps_walk a cap L a2 cap2 M keep w p3 q3 ⟨p1, p2⟩ ⟨q1, q2⟩
end Go.Proofs.Ytjblkmjdepdekaa.Dk
