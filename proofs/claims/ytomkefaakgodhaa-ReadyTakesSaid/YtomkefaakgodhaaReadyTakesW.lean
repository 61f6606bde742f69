
/- ReadyTakes, walked -/
import Derived.Test.YtomkefaakgodhaaNxT
import Derived.Test.YtomkefaakgodhaaNxPa
namespace Go.Proofs.Ytomkefaakgodhaa.Nx
open Go.RowKit Go.Lib Go.Sort Go.Shelf Hp HpE Ht Rg
set_option linter.unusedVariables false
set_option maxRecDepth 20000
open NxPa (InU)
theorem u16_rem (z : Int) (h : 0 ≤ z ∧ z < 65536) : z.tmod 4 = ((z.toNat % 4 : Nat) : Int) := by rw [Int.tmod_eq_emod_of_nonneg h.1]; omega
theorem u16_quo (z : Int) (h : 0 ≤ z ∧ z < 65536) : z.tdiv 4 = ((z.toNat / 4 : Nat) : Int) := by rw [Int.tdiv_eq_ediv_of_nonneg h.1]; omega
theorem getD_inI (l : List Int) {k : Nat} (h : k < l.length) : l.getD k 0 ∈ l := by
  rw [List.getD_eq_getElem?_getD, List.getElem?_eq_getElem h]; exact List.getElem_mem h
/-- what a walk wants of a number of 16 bits -/
theorem u16_all (z : Int) (h : 0 ≤ z ∧ z < 65536) : z.tmod 4 = ((z.toNat % 4 : Nat) : Int) ∧ z.tdiv 4 = ((z.toNat / 4 : Nat) : Int) ∧ z.toNat % 4 < 4 ∧ z.toNat / 4 < 16384 := ⟨u16_rem z h, u16_quo z h, by omega, by omega⟩
set_option maxHeartbeats 4000000 in
theorem takes_any (w : World) (a : Option Addr) (n c : Nat) (l : List Int) (hi : InU w a n c l) : Calls Try.prog 5 #[.slice a n c] w fun e w' => e = .returned (.bool true) ∧ Below w.heap.size w w' := by
  have hmix : Try.prog.follows .mixedOrders = true := by kernel_rfl
  have hnc := hi.2.1
  have hcb := hi.2.2.1
  have HI := Lib.hid hi
  clear hi
  by_cases h60 : 60 < n
  · have h60c : (60 : Int) < ((n : Nat) : Int) := by omega
    clear h60 HI
    go_enter Try.func5, Try.ntmps5
    go_wp2_with fail
    refine (lives15_any _).mono ?_
    rintro e w1 ⟨rfl, b1⟩
    have HB1 := Lib.hid b1
    clear b1
    go_wp2_with fail
    refine (lives15_any _).mono ?_
    rintro e w2 ⟨rfl, b2⟩
    have HB2 := Lib.hid (HB1.out.trans (b2.mono HB1.out.size))
    clear b2
    go_wp2_with fail
    go_ret
    exact ⟨rfl, HB2.out⟩
  have h60c : ((n : Nat) : Int) ≤ 60 := by omega
  have HN := Lib.hid (show n ≤ 60 by omega)
  clear h60
  go_enter Try.func5, Try.ntmps5
  go_wp2_with fail
  refine (lives15_any _).mono ?_
  rintro e w1 ⟨rfl, b1⟩
  have HB1 := Lib.hid b1
  clear b1
  go_wp2_with fail
  refine (new_row _).mono ?_
  rintro e w2 ⟨rfl, r2, b2⟩
  have HB2 := Lib.hid (And.intro (HB1.out.trans (b2.mono HB1.out.size)) r2)
  have z1 := HB1.out.size
  obtain ⟨ra, hra⟩ : ∃ x, x = w1.heap.size := ⟨_, rfl⟩
  rw [← hra] at HB2 z1 ⊢
  have HRA := Lib.hid (And.intro hra z1)
  clear b2 r2 hra z1
  go_wp2_with fail
  refine (new_row _).mono ?_
  rintro e w3 ⟨rfl, r3, b3⟩
  have hT : Tw w.heap.size (fun _ => False) w3 ra w2.heap.size [] [] := ⟨_, _, HB2.out.2.old b3, r3, fun k hk hk2 => by have := HB2.out.2.size k hk; omega, fun k hk => ⟨by have := HRA.out.2; omega, fun e => e⟩, fun k hk => ⟨by have := HB2.out.1.size; omega, fun e => e⟩⟩
  obtain ⟨rb, hrb⟩ : ∃ x, x = w2.heap.size := ⟨_, rfl⟩
  rw [← hrb] at hT ⊢
  have HB3 := Lib.hid (And.intro (HB2.out.1.trans (b3.mono HB2.out.1.size)) hT)
  clear b3 r3 hT hrb
  go_wp2_with fail
  go_loopw [30] (fun s wr => ∃ j : Nat, s = .int .i64 ((j : Nat) : Int) ∧ j ≤ n ∧ Tw w.heap.size (fun _ => False) wr ra rb (ups l j) (dns l n j) ∧ Below w.heap.size w wr) (fun s _ => n - (RowKit.intOf s).toNat)
  case atStart => exact ⟨0, rfl, Nat.zero_le _, HB3.out.2, HB3.out.1⟩
  case round =>
    obtain ⟨j, rfl, hj, hT, hb⟩ := hrel
    by_cases hlt : j < n
    · have hjc : ((j : Nat) : Int) < ((n : Nat) : Int) := by omega
      obtain ⟨b, o, ha, hcell⟩ : ∃ b o, a = some ⟨b, o, none⟩ ∧ ∀ i, i < n → w.cell? ⟨b, o + i, none⟩ = some (.int .u16 (l.getD i 0)) := by
        rcases HI.out.2.2.2.2 with h | ⟨b, o, h1, h2⟩
        · omega
        · exact ⟨b, o, h1, h2⟩
      subst ha
      obtain ⟨z, hz⟩ : ∃ z, z = l.getD j 0 := ⟨_, rfl⟩
      have hzb : 0 ≤ z ∧ z < 65536 := by rw [hz]; exact HI.out.2.2.2.1 _ (getD_inI l (by have := HI.out.1; omega))
      have k1 := (hb.cell (World.block_lt_of_cell? _ _ (hcell j hlt))).trans (hcell j hlt)
      rw [← hz] at k1
      obtain ⟨m1, m2, m3, m4⟩ := u16_all z hzb
      have hitm : itm l j = (nmOf j, z.toNat % 4, ((z.toNat / 4 : Nat) : Int)) := by unfold itm; rw [hz]
      obtain ⟨q, hq⟩ : ∃ q, q = z.toNat % 4 := ⟨_, rfl⟩
      obtain ⟨r, hr⟩ : ∃ r, r = z.toNat / 4 := ⟨_, rfl⟩
      rw [← hq] at m1 m3 hitm
      rw [← hr] at m2 m4 hitm
      have HC := Lib.hid (And.intro hcell (And.intro hT (And.intro hb (And.intro hitm (And.intro hlt m3)))))
      have hjn := hlt
      have hj100 : j < 100 := by have := HN.out; omega
      clear hcell hT hb hitm hlt hq hr hz hj
      go_wp2_with fail
      refine (name_any j hj100 _).mono ?_
      rintro e w4 ⟨rfl, b4⟩
      obtain ⟨Sa, h4, dA⟩ := (HC.out.2.1.old b4).a (Nat.le_trans HC.out.2.2.1.size b4.size) (fun k e => e.elim)
      have hP := h4.Put_ok (k := nmOf j) (by unfold wk nmOf; simp) ((r : Nat) : Int) HC.out.2.2.2.2.2 (ups_new hj100) (by unfold ups; simp; omega)
      have H4 := Lib.hid (And.intro dA (HC.out.2.2.1.trans (b4.mono HC.out.2.2.1.size)))
      clear b4 h4 dA
      unfold ek er at hP
      unfold ek
      go_wp2_with fail
      refine hP.mono ?_
      rintro e w5 ⟨rfl, hw5⟩
      obtain ⟨t5, f5, _⟩ := H4.out.1 _ _ hw5
      rw [← HC.out.2.2.2.1, ← ups_succ] at t5
      have H5 := Lib.hid (And.intro t5 (H4.out.2.trans (f5.mono (Nat.le_refl _))))
      clear hP hw5 t5 f5 k1 hzb m1 m2
      go_wp2_with fail
      obtain ⟨kx, hkx, hkn⟩ : ∃ kx : Nat, kx = n - 1 - j ∧ ((kx : Nat) : Int) = ((n : Nat) : Int) - 1 - ((j : Nat) : Int) := ⟨n - 1 - j, rfl, by omega⟩
      rw [← hkn]
      have hkl : kx < n := by omega
      have hkc : ((kx : Nat) : Int) < ((n : Nat) : Int) := by omega
      have hk0 : (0 : Int) ≤ ((kx : Nat) : Int) := by omega
      have hk100 : kx < 100 := by have := HN.out; omega
      obtain ⟨z2, hz2⟩ : ∃ z, z = l.getD kx 0 := ⟨_, rfl⟩
      have hzb2 : 0 ≤ z2 ∧ z2 < 65536 := by rw [hz2]; exact HI.out.2.2.2.1 _ (getD_inI l (by have := HI.out.1; omega))
      have k2 := (H5.out.2.cell (World.block_lt_of_cell? _ _ (HC.out.1 kx hkl))).trans (HC.out.1 kx hkl)
      rw [← hz2] at k2
      obtain ⟨y1, y2, y3, y4⟩ := u16_all z2 hzb2
      have hitm2 : itm l (n - 1 - j) = (nmOf kx, z2.toNat % 4, ((z2.toNat / 4 : Nat) : Int)) := by rw [← hkx]; unfold itm; rw [hz2]
      have hnew : nmOf kx ∉ (dns l n j).map (·.1) := by rw [hkx]; exact dns_new (by have := HN.out; omega) hjn
      obtain ⟨q2, hq2⟩ : ∃ q, q = z2.toNat % 4 := ⟨_, rfl⟩
      obtain ⟨r2, hr2⟩ : ∃ r, r = z2.toNat / 4 := ⟨_, rfl⟩
      rw [← hq2] at y1 y3 hitm2
      rw [← hr2] at y2 y4 hitm2
      have hcs : ∀ X, Below w5.heap.size w5 X → X.cell? ⟨b, o + kx, none⟩ = some (.int .u16 z2) := fun X hX => (hX.cell (World.block_lt_of_cell? _ _ k2)).trans k2
      have hw3 : IntKind.u16.wrap ((r2 : Nat) : Int) = ((r2 : Nat) : Int) := by simp [IntKind.wrap, IntKind.bits, IntKind.signed]; omega
      have hw4 : IntKind.i64.wrap ((q2 : Nat) : Int) = ((q2 : Nat) : Int) := by rw [IntWalk.i64_in] <;> omega
      have hw5 : IntKind.u64.wrap ((r2 : Nat) : Int) = ((r2 : Nat) : Int) := by rw [IntKind.wrap_u64]; omega
      have H6 := Lib.hid (And.intro hitm2 (And.intro hnew (And.intro y3 hkx)))
      clear hitm2 hnew hkx hkn hkl hzb2 hz2 hq2 hr2 k2
      refine begin' 16 (fun ZZ => Below w5.heap.size w5 ZZ) hmix ((Below.refl _ w5).drew) (fun hS0 => ?_)
      refine Ht.takeD 8 (i := 0) ⟨some 51, _, _, _, _, _⟩ (.pointer (some ⟨rb, 0, none⟩)) rfl (by kernel_rfl) (by kernel_rfl) (by decide) (by kernel_rfl) (by kernel_rfl) (by kernel_rfl) hS0 (Or.inl ⟨by rfl, by (intro X hX; go_simp)⟩) ?_
      simp only [Act.put, List.setIfInBounds_toArray, List.set_cons_zero, List.set_cons_succ]
      refine Ht.takeD 8 (i := 1) ⟨some 52, _, _, _, _, _⟩ (.func (.func 19) #[] #[]) rfl (by kernel_rfl) (by kernel_rfl) (by decide) (by kernel_rfl) (by kernel_rfl) (by kernel_rfl) hS0 (Or.inl ⟨by rfl, by (intro X hX; go_simp)⟩) ?_
      simp only [Act.put, List.setIfInBounds_toArray, List.set_cons_zero, List.set_cons_succ]
      refine Ht.takeD 8 (i := 2) ⟨some 53, _, _, _, _, _⟩ (.int .i64 ((kx : Nat) : Int)) rfl (by kernel_rfl) (by kernel_rfl) (by decide) (by kernel_rfl) (by kernel_rfl) (by kernel_rfl) hS0 (Or.inl ⟨by rfl, by (intro X hX; go_simp)⟩) ?_
      simp only [Act.put, List.setIfInBounds_toArray, List.set_cons_zero, List.set_cons_succ]
      refine Ht.takeD 8 (i := 4) ⟨some 55, _, _, _, _, _⟩ (.slice (some ⟨b, o, none⟩) n c) rfl (by kernel_rfl) (by kernel_rfl) (by decide) (by kernel_rfl) (by kernel_rfl) (by kernel_rfl) hS0 (Or.inl ⟨by rfl, by (intro X hX; go_simp)⟩) ?_
      simp only [Act.put, List.setIfInBounds_toArray, List.set_cons_zero, List.set_cons_succ]
      refine Ht.takeD 8 (i := 5) ⟨some 56, _, _, _, _, _⟩ (.int .i64 ((kx : Nat) : Int)) rfl (by kernel_rfl) (by kernel_rfl) (by decide) (by kernel_rfl) (by kernel_rfl) (by kernel_rfl) hS0 (Or.inl ⟨by rfl, by (intro X hX; go_simp)⟩) ?_
      simp only [Act.put, List.setIfInBounds_toArray, List.set_cons_zero, List.set_cons_succ]
      refine Ht.takeD 8 (i := 6) ⟨some 57, _, _, _, _, _⟩ (.pointer (some ⟨b, o + kx, none⟩)) rfl (by kernel_rfl) (by kernel_rfl) (by decide) (by kernel_rfl) (by kernel_rfl) (by kernel_rfl) hS0 (Or.inl ⟨by rfl, by (intro X hX; go_simp)⟩) ?_
      simp only [Act.put, List.setIfInBounds_toArray, List.set_cons_zero, List.set_cons_succ]
      refine Ht.takeD 8 (i := 7) ⟨some 58, _, _, _, _, _⟩ (.int .u16 z2) rfl (by kernel_rfl) (by kernel_rfl) (by decide) (by kernel_rfl) (by kernel_rfl) (by kernel_rfl) hS0 (Or.inl ⟨by rfl, by (intro X hX; have := hcs X hX; go_simp)⟩) ?_
      simp only [Act.put, List.setIfInBounds_toArray, List.set_cons_zero, List.set_cons_succ]
      refine Ht.takeD 8 (i := 8) ⟨some 59, _, _, _, _, _⟩ (.int .u16 ((q2 : Nat) : Int)) rfl (by kernel_rfl) (by kernel_rfl) (by decide) (by kernel_rfl) (by kernel_rfl) (by kernel_rfl) hS0 (Or.inl ⟨by rfl, by (intro X hX; have := y1; go_simp)⟩) ?_
      simp only [Act.put, List.setIfInBounds_toArray, List.set_cons_zero, List.set_cons_succ]
      refine Ht.takeD 8 (i := 9) ⟨some 60, _, _, _, _, _⟩ (.int .i64 ((q2 : Nat) : Int)) rfl (by kernel_rfl) (by kernel_rfl) (by decide) (by kernel_rfl) (by kernel_rfl) (by kernel_rfl) hS0 (Or.inl ⟨by rfl, by (intro X hX; have := hw4; go_simp)⟩) ?_
      simp only [Act.put, List.setIfInBounds_toArray, List.set_cons_zero, List.set_cons_succ]
      refine Ht.takeD 8 (i := 10) ⟨some 61, _, _, _, _, _⟩ (.slice (some ⟨b, o, none⟩) n c) rfl (by kernel_rfl) (by kernel_rfl) (by decide) (by kernel_rfl) (by kernel_rfl) (by kernel_rfl) hS0 (Or.inl ⟨by rfl, by (intro X hX; go_simp)⟩) ?_
      simp only [Act.put, List.setIfInBounds_toArray, List.set_cons_zero, List.set_cons_succ]
      refine Ht.takeD 8 (i := 11) ⟨some 62, _, _, _, _, _⟩ (.int .i64 ((kx : Nat) : Int)) rfl (by kernel_rfl) (by kernel_rfl) (by decide) (by kernel_rfl) (by kernel_rfl) (by kernel_rfl) hS0 (Or.inl ⟨by rfl, by (intro X hX; go_simp)⟩) ?_
      simp only [Act.put, List.setIfInBounds_toArray, List.set_cons_zero, List.set_cons_succ]
      refine Ht.takeD 8 (i := 12) ⟨some 63, _, _, _, _, _⟩ (.pointer (some ⟨b, o + kx, none⟩)) rfl (by kernel_rfl) (by kernel_rfl) (by decide) (by kernel_rfl) (by kernel_rfl) (by kernel_rfl) hS0 (Or.inl ⟨by rfl, by (intro X hX; go_simp)⟩) ?_
      simp only [Act.put, List.setIfInBounds_toArray, List.set_cons_zero, List.set_cons_succ]
      refine Ht.takeD 8 (i := 13) ⟨some 64, _, _, _, _, _⟩ (.int .u16 z2) rfl (by kernel_rfl) (by kernel_rfl) (by decide) (by kernel_rfl) (by kernel_rfl) (by kernel_rfl) hS0 (Or.inl ⟨by rfl, by (intro X hX; have := hcs X hX; go_simp)⟩) ?_
      simp only [Act.put, List.setIfInBounds_toArray, List.set_cons_zero, List.set_cons_succ]
      refine Ht.takeD 8 (i := 14) ⟨some 65, _, _, _, _, _⟩ (.int .u16 ((r2 : Nat) : Int)) rfl (by kernel_rfl) (by kernel_rfl) (by decide) (by kernel_rfl) (by kernel_rfl) (by kernel_rfl) hS0 (Or.inl ⟨by rfl, by (intro X hX; have := y2; have := hw3; go_simp)⟩) ?_
      simp only [Act.put, List.setIfInBounds_toArray, List.set_cons_zero, List.set_cons_succ]
      refine Ht.takeD 8 (i := 15) ⟨some 66, _, _, _, _, _⟩ (.int .u64 ((r2 : Nat) : Int)) rfl (by kernel_rfl) (by kernel_rfl) (by decide) (by kernel_rfl) (by kernel_rfl) (by kernel_rfl) hS0 (Or.inl ⟨by rfl, by (intro X hX; have := hw5; go_simp)⟩) ?_
      simp only [Act.put, List.setIfInBounds_toArray, List.set_cons_zero, List.set_cons_succ]
      refine Ht.step (i := 3) ⟨some 54, _, _, _, _, _⟩ rfl (by kernel_rfl) (by rfl) (fun K hK => ?_)
      refine Ht.enter 19 #[.int .i64 ((kx : Nat) : Int)] (by have hen := fun args w => enters_of (P := Try.prog) Try.func19 (by kernel_rfl) rfl args w; go_simp) (name_any kx hk100 _) ?_
      rintro e w6 ⟨rfl, b6⟩
      have b6' : Below w5.heap.size w5 w6 := hS0.trans (b6.mono hS0.size)
      have t6 := H5.out.1.old b6'
      obtain ⟨Sb, h6, dB⟩ := t6.turn.a (Nat.le_trans H5.out.2.size b6'.size) (fun k e => e.elim)
      have hP := h6.Put_ok (k := nmOf kx) (by unfold wk nmOf; simp) ((r2 : Nat) : Int) H6.out.2.2.1 H6.out.2.1 (by unfold dns; simp; omega)
      have HD := Lib.hid (And.intro dB b6')
      clear b6 t6 h6 dB
      unfold ek er at hP
      unfold ek
      refine ⟨_, rfl, hK _ _ (fun hn => HD.out.2) (fun hnx => ?_)⟩
      clear hK K hnx
      try simp only [Act.put, List.setIfInBounds_toArray, List.set_cons_zero, List.set_cons_succ]
      refine Ht.step (i := 16) ⟨some 67, _, _, _, _, _⟩ rfl (by kernel_rfl) (by rfl) (fun K hK => ?_)
      refine Ht.enter 10 #[.pointer (some ⟨rb, 0, none⟩), .string ⟨(nmOf kx).toArray⟩, .int .i64 ((q2 : Nat) : Int), .int .u64 ((r2 : Nat) : Int)] (by have hen := fun args w => enters_of (P := Try.prog) Try.func10 (by kernel_rfl) rfl args w; go_simp) (hP) ?_
      rintro e w7 ⟨rfl, hw7⟩
      obtain ⟨t7', f7, _⟩ := HD.out.1 _ _ hw7
      rw [← H6.out.1, ← dns_succ] at t7'
      have t7 := t7'.turn
      have b7 : Below w.heap.size w w7 := (H5.out.2.trans (HD.out.2.mono H5.out.2.size)).trans f7
      clear hP hw7 t7' f7
      refine ⟨_, rfl, hK _ _ (fun hn => absurd rfl hn) (fun hnx => ?_)⟩
      clear hK K hnx
      try simp only [Act.put, List.setIfInBounds_toArray, List.set_cons_zero, List.set_cons_succ]
      refine done (by kernel_rfl) ?_
      have H7 := Lib.hid (And.intro t7 b7)
      clear t7 b7 hcs y1 y2
      go_wp2_with fail
      go_roundw
      case rel => exact ⟨j + 1, by first | rfl | simp, HC.out.2.2.2.2.1, H7.out.1, H7.out.2⟩
      case measure => have := HC.out.2.2.2.2.1; simp only [RowKit.intOf]; omega
    · have hjc : ¬ ((j : Nat) : Int) < ((n : Nat) : Int) := by omega
      obtain rfl : n = j := by omega
      have hTT : Tw w.heap.size (fun _ => False) wr ra rb (ups l n) (ups l n) := by
        obtain ⟨Sa, Sb, h1, h2, h3⟩ := hT
        exact ⟨Sa, Sb, h1, h2.perm (ups_dns h1.nodup h2.nodup), h3⟩
      obtain ⟨V, hV⟩ : ∃ V, V = wr.alloc (.cells #[.string ⟨#[]⟩, .int .i64 (-1), .int .u64 0] 35) := ⟨_, rfl⟩
      have bV : Below wr.heap.size wr V := by rw [hV]; exact (Below.refl _ _).alloc (Nat.le_refl _) _
      obtain ⟨b9, hb9⟩ : ∃ b, b = wr.heap.size := ⟨_, rfl⟩
      have c9 : V.heap[b9]? = some (.cells #[ek [], .int .i64 (-1), er 0] 35 (0, 0)) := by rw [hV, hb9]; exact (MapKept.heap_alloc wr _).1
      have H0 := Lib.hid (And.intro ((hTT.also (Nt' := fun k => k = b9) (fun k e => .inr (by omega))).old bV) (And.intro c9 (And.intro (hb.trans (bV.mono hb.size)) (show w.heap.size ≤ b9 by have := hb.size; omega))))
      have hul : (ups l n).length = n := by unfold ups; simp
      have HU := Lib.hid hul
      clear hTT bV c9 hT hb hj hlt hul
      go_wp2_with fail
      rw [← hV, ← hb9]
      clear hV hb9
      go_loopw [72] (fun s wr => ∃ (j : Nat) (M : List O), s = .int .i64 ((j : Nat) : Int) ∧ j ≤ n ∧ M.length = n - j ∧ (∀ x ∈ M, ∃ i, i < n ∧ itm l i = x) ∧ Tw w.heap.size (fun k => k = b9) wr ra rb M M ∧ (∃ (k : K) (p r : Int), wr.heap[b9]? = some (.cells #[ek k, .int .i64 p, er r] 35 (0, 0)) ∧ (p = -1 ∨ ∃ q : Nat, p = ((q : Nat) : Int) ∧ ∀ y ∈ M, ah (k, q, r) y = true)) ∧ Below w.heap.size w wr) (fun s _ => n - (RowKit.intOf s).toNat)
      case atStart => exact ⟨0, ups l n, rfl, Nat.zero_le _, HU.out, fun x hx => mem_ups.1 hx, H0.out.1, ⟨_, _, _, H0.out.2.1, .inl rfl⟩, H0.out.2.2.1⟩
      case round =>
        obtain ⟨j, M, rfl, hj, hMl, hMi, hT, ⟨lk, lp, lr, h9, hlast⟩, hb⟩ := hrel
        by_cases hlt : j < n
        · have hjc : ((j : Nat) : Int) < ((n : Nat) : Int) := by omega
          have hne : M ≠ [] := fun e => by rw [e] at hMl; simp at hMl; omega
          obtain ⟨Sa, r1, dA⟩ := hT.a hb.size (fun k e => by rw [e]; exact (Array.getElem?_eq_some_iff.1 h9).1)
          have hTk := r1.Take_yes hne (by have := HN.out; omega)
          have HR := Lib.hid (And.intro hMl (And.intro hMi (And.intro hT (And.intro h9 (And.intro hlast (And.intro hb (And.intro dA (And.intro hlt hne))))))))
          clear hMl hMi hT h9 hlast hb dA r1 hj hlt hne
          go_wp2_with fail
          refine hTk.mono ?_
          rintro e w5 ⟨x, hx, rfl, hw5⟩
          obtain ⟨t5, f5, n5⟩ := HR.out.2.2.2.2.2.2.1 _ _ hw5
          have h95 := (n5 b9 rfl).trans HR.out.2.2.2.1
          have b5 := HR.out.2.2.2.2.2.1.trans f5
          obtain ⟨Sb, r2, dB⟩ := t5.turn.a b5.size (fun k e => by rw [e]; exact (Array.getElem?_eq_some_iff.1 h95).1)
          have hTk2 := r2.Take_yes HR.out.2.2.2.2.2.2.2.2 (by have := HN.out; have := HR.out.1; omega)
          have H5 := Lib.hid (And.intro hx (And.intro h95 (And.intro b5 dB)))
          clear hTk hx hw5 t5 f5 n5 h95 b5 r2 dB
          obtain ⟨k, p, r⟩ := x
          unfold ek
          simp only
          go_wp2_with fail
          refine hTk2.mono ?_
          rintro e w6 ⟨y, hy, rfl, hw6⟩
          obtain rfl : y = (k, p, r) := hy.one H5.out.1
          obtain ⟨t6', f6, n6⟩ := H5.out.2.2.2 _ _ hw6
          have h96 := (n6 b9 rfl).trans H5.out.2.1
          have b6 := H5.out.2.2.1.trans f6
          obtain ⟨i0, hi0, hit⟩ := HR.out.2.1 _ hy.1
          have H6 := Lib.hid (And.intro t6'.turn (And.intro h96 (And.intro b6 (And.intro hit (And.intro hi0 hy)))))
          have hi0c : ((i0 : Nat) : Int) < ((n : Nat) : Int) := by omega
          clear hTk2 hy hw6 t6' f6 n6 h96 b6 hit hi0
          unfold ek
          simp only
          go_wp2_with fail
          go_loopw [14] (fun s wr => ∃ i : Nat, s = .int .i64 ((i : Nat) : Int) ∧ i ≤ i0 ∧ Below w6.heap.size w6 wr) (fun s _ => n - (RowKit.intOf s).toNat)
          case atStart => exact ⟨0, rfl, Nat.zero_le _, Below.refl _ _⟩
          case round =>
            rename_i wr2 _
            obtain ⟨i, rfl, hii, hb7⟩ := hrel
            have hic : ((i : Nat) : Int) < ((n : Nat) : Int) := by omega
            have hi100 : i < 100 := by have := HN.out; omega
            have H7 := Lib.hid hb7
            clear hb7
            go_wp2_with fail
            refine (name_any i hi100 _).mono ?_
            rintro e w7 ⟨rfl, b7⟩
            have H8 := Lib.hid (H7.out.trans (b7.mono H7.out.size))
            clear b7
            unfold ek
            by_cases hie : i = i0
            · subst hie
              obtain rfl : nmOf i = k := congrArg (·.1) H6.out.2.2.2.1
              have hin : (((i : Nat) : Int) == ((n : Nat) : Int)) = false := beq_false_of_ne (by omega)
              obtain ⟨b, o, ha, hcell⟩ : ∃ b o, a = some ⟨b, o, none⟩ ∧ ∀ i, i < n → w.cell? ⟨b, o + i, none⟩ = some (.int .u16 (l.getD i 0)) := by
                rcases HI.out.2.2.2.2 with h | ⟨b, o, h1, h2⟩
                · omega
                · exact ⟨b, o, h1, h2⟩
              subst ha
              obtain ⟨z, hz⟩ : ∃ z, z = l.getD i 0 := ⟨_, rfl⟩
              have hzb : 0 ≤ z ∧ z < 65536 := by rw [hz]; exact HI.out.2.2.2.1 _ (getD_inI l (by have := HI.out.1; omega))
              obtain ⟨m1, m2, m3, m4⟩ := u16_all z hzb
              have e := H6.out.2.2.2.1
              unfold itm at e
              rw [← hz] at e
              obtain ⟨e2, e3⟩ := Prod.mk.inj (Prod.mk.inj e).2
              have hr0 : 0 ≤ r ∧ r < 16384 := by omega
              rw [e2] at m1 m3
              rw [e3] at m2
              have b7 : Below w.heap.size w w7 := H6.out.2.2.1.trans (H8.out.mono H6.out.2.2.1.size)
              have k7 := (b7.cell (World.block_lt_of_cell? _ _ (hcell i (by omega)))).trans (hcell i (by omega))
              rw [← hz] at k7
              have hcs : ∀ X, Below w7.heap.size w7 X → X.cell? ⟨b, o + i, none⟩ = some (.int .u16 z) := fun X hX => (hX.cell (World.block_lt_of_cell? _ _ k7)).trans k7
              have hw3 : IntKind.u16.wrap r = r := by simp [IntKind.wrap, IntKind.bits, IntKind.signed]; omega
              have hw4 : IntKind.i64.wrap ((p : Nat) : Int) = ((p : Nat) : Int) := by rw [IntWalk.i64_in] <;> omega
              have hw5 : IntKind.u64.wrap r = r := by rw [IntKind.wrap_u64]; omega
              have hi0' : (0 : Int) ≤ ((i : Nat) : Int) := by omega
              have HB7 := Lib.hid b7
              clear hz hzb e e2 e3 hcell k7 b7 hii hi0c
              go_wp2_with fail
              refine begin' 15 (fun ZZ => Below w7.heap.size w7 ZZ) hmix ((Below.refl _ w7).drew) (fun hS0 => ?_)
              refine Ht.takeD 8 (i := 0) ⟨some 114, _, _, _, _, _⟩ (.string ⟨(nmOf i).toArray⟩) rfl (by kernel_rfl) (by kernel_rfl) (by decide) (by kernel_rfl) (by kernel_rfl) (by kernel_rfl) hS0 (Or.inl ⟨by rfl, by (intro X hX; go_simp)⟩) ?_
              simp only [Act.put, List.setIfInBounds_toArray, List.set_cons_zero, List.set_cons_succ]
              refine Ht.takeD 8 (i := 1) ⟨some 115, _, _, _, _, _⟩ (.slice (some ⟨b, o, none⟩) n c) rfl (by kernel_rfl) (by kernel_rfl) (by decide) (by kernel_rfl) (by kernel_rfl) (by kernel_rfl) hS0 (Or.inl ⟨by rfl, by (intro X hX; go_simp)⟩) ?_
              simp only [Act.put, List.setIfInBounds_toArray, List.set_cons_zero, List.set_cons_succ]
              refine Ht.takeD 8 (i := 2) ⟨some 116, _, _, _, _, _⟩ (.int .i64 ((i : Nat) : Int)) rfl (by kernel_rfl) (by kernel_rfl) (by decide) (by kernel_rfl) (by kernel_rfl) (by kernel_rfl) hS0 (Or.inl ⟨by rfl, by (intro X hX; go_simp)⟩) ?_
              simp only [Act.put, List.setIfInBounds_toArray, List.set_cons_zero, List.set_cons_succ]
              refine Ht.takeD 8 (i := 3) ⟨some 117, _, _, _, _, _⟩ (.pointer (some ⟨b, o + i, none⟩)) rfl (by kernel_rfl) (by kernel_rfl) (by decide) (by kernel_rfl) (by kernel_rfl) (by kernel_rfl) hS0 (Or.inl ⟨by rfl, by (intro X hX; go_simp)⟩) ?_
              simp only [Act.put, List.setIfInBounds_toArray, List.set_cons_zero, List.set_cons_succ]
              refine Ht.takeD 8 (i := 4) ⟨some 118, _, _, _, _, _⟩ (.int .u16 z) rfl (by kernel_rfl) (by kernel_rfl) (by decide) (by kernel_rfl) (by kernel_rfl) (by kernel_rfl) hS0 (Or.inl ⟨by rfl, by (intro X hX; have := hcs X hX; go_simp)⟩) ?_
              simp only [Act.put, List.setIfInBounds_toArray, List.set_cons_zero, List.set_cons_succ]
              refine Ht.takeD 8 (i := 5) ⟨some 119, _, _, _, _, _⟩ (.int .u16 ((p : Nat) : Int)) rfl (by kernel_rfl) (by kernel_rfl) (by decide) (by kernel_rfl) (by kernel_rfl) (by kernel_rfl) hS0 (Or.inl ⟨by rfl, by (intro X hX; have := m1; go_simp)⟩) ?_
              simp only [Act.put, List.setIfInBounds_toArray, List.set_cons_zero, List.set_cons_succ]
              refine Ht.takeD 8 (i := 6) ⟨some 120, _, _, _, _, _⟩ (.int .i64 ((p : Nat) : Int)) rfl (by kernel_rfl) (by kernel_rfl) (by decide) (by kernel_rfl) (by kernel_rfl) (by kernel_rfl) hS0 (Or.inl ⟨by rfl, by (intro X hX; have := hw4; go_simp)⟩) ?_
              simp only [Act.put, List.setIfInBounds_toArray, List.set_cons_zero, List.set_cons_succ]
              refine Ht.takeD 8 (i := 7) ⟨some 121, _, _, _, _, _⟩ (.slice (some ⟨b, o, none⟩) n c) rfl (by kernel_rfl) (by kernel_rfl) (by decide) (by kernel_rfl) (by kernel_rfl) (by kernel_rfl) hS0 (Or.inl ⟨by rfl, by (intro X hX; go_simp)⟩) ?_
              simp only [Act.put, List.setIfInBounds_toArray, List.set_cons_zero, List.set_cons_succ]
              refine Ht.takeD 8 (i := 8) ⟨some 122, _, _, _, _, _⟩ (.int .i64 ((i : Nat) : Int)) rfl (by kernel_rfl) (by kernel_rfl) (by decide) (by kernel_rfl) (by kernel_rfl) (by kernel_rfl) hS0 (Or.inl ⟨by rfl, by (intro X hX; go_simp)⟩) ?_
              simp only [Act.put, List.setIfInBounds_toArray, List.set_cons_zero, List.set_cons_succ]
              refine Ht.takeD 8 (i := 9) ⟨some 123, _, _, _, _, _⟩ (.pointer (some ⟨b, o + i, none⟩)) rfl (by kernel_rfl) (by kernel_rfl) (by decide) (by kernel_rfl) (by kernel_rfl) (by kernel_rfl) hS0 (Or.inl ⟨by rfl, by (intro X hX; go_simp)⟩) ?_
              simp only [Act.put, List.setIfInBounds_toArray, List.set_cons_zero, List.set_cons_succ]
              refine Ht.takeD 8 (i := 10) ⟨some 124, _, _, _, _, _⟩ (.int .u16 z) rfl (by kernel_rfl) (by kernel_rfl) (by decide) (by kernel_rfl) (by kernel_rfl) (by kernel_rfl) hS0 (Or.inl ⟨by rfl, by (intro X hX; have := hcs X hX; go_simp)⟩) ?_
              simp only [Act.put, List.setIfInBounds_toArray, List.set_cons_zero, List.set_cons_succ]
              refine Ht.takeD 8 (i := 11) ⟨some 125, _, _, _, _, _⟩ (.int .u16 r) rfl (by kernel_rfl) (by kernel_rfl) (by decide) (by kernel_rfl) (by kernel_rfl) (by kernel_rfl) hS0 (Or.inl ⟨by rfl, by (intro X hX; have := m2; have := hw3; go_simp)⟩) ?_
              simp only [Act.put, List.setIfInBounds_toArray, List.set_cons_zero, List.set_cons_succ]
              refine Ht.takeD 8 (i := 12) ⟨some 126, _, _, _, _, _⟩ (.int .u64 r) rfl (by kernel_rfl) (by kernel_rfl) (by decide) (by kernel_rfl) (by kernel_rfl) (by kernel_rfl) hS0 (Or.inl ⟨by rfl, by (intro X hX; have := hw5; go_simp)⟩) ?_
              simp only [Act.put, List.setIfInBounds_toArray, List.set_cons_zero, List.set_cons_succ]
              refine Ht.takeD 8 (i := 13) ⟨some 127, _, _, _, _, _⟩ (.agg #[.string ⟨(nmOf i).toArray⟩, .int .i64 ((p : Nat) : Int), .int .u64 r]) rfl (by kernel_rfl) (by kernel_rfl) (by decide) (by kernel_rfl) (by kernel_rfl) (by kernel_rfl) hS0 (Or.inl ⟨by rfl, by (intro X hX; go_simp)⟩) ?_
              simp only [Act.put, List.setIfInBounds_toArray, List.set_cons_zero, List.set_cons_succ]
              refine Ht.step (i := 14) ⟨some 15, _, _, _, _, _⟩ rfl (by kernel_rfl) (by rfl) (fun K hK => ?_)
              go_simp
              refine hK _ _ (fun hn => hS0.alloc (Nat.le_refl _) _) (fun hnx => ?_)
              clear hK K hnx
              try simp only [Act.put, List.setIfInBounds_toArray, List.set_cons_zero, List.set_cons_succ]
              refine Ht.step (i := 15) ⟨none, _, _, _, _, _⟩ rfl (by kernel_rfl) (by rfl) (fun K hK => ?_)
              go_simp
              refine hK _ _ (fun hn => absurd rfl hn) (fun hnx => ?_)
              clear hK K hnx
              try simp only [Act.put, List.setIfInBounds_toArray, List.set_cons_zero, List.set_cons_succ]
              refine done (by kernel_rfl) ?_
              obtain ⟨V8, hV8⟩ : ∃ V, V = (w7.alloc (.cells #[.string ⟨(nmOf i).toArray⟩, .int .i64 ((p : Nat) : Int), .int .u64 r] 35)).drew := ⟨_, rfl⟩
              rw [← hV8]
              have bV8 : Below w7.heap.size w7 V8 := by rw [hV8]; exact ((Below.refl _ _).alloc (Nat.le_refl _) _).drew
              obtain ⟨b15, hb15⟩ : ∃ b, b = w7.heap.size := ⟨_, rfl⟩
              have c15 : V8.heap[b15]? = some (.cells #[.string ⟨(nmOf i).toArray⟩, .int .i64 ((p : Nat) : Int), .int .u64 r] 35 (0, 0)) := by rw [hV8, hb15]; exact (MapKept.heap_alloc w7 _).1
              have b68 : Below w6.heap.size w6 V8 := H8.out.trans (bV8.mono H8.out.size)
              have c9 := (b68.block b9 (Array.getElem?_eq_some_iff.1 H6.out.2.1).1).trans H6.out.2.1
              rw [← hb15]
              have hne9 : b9 ≠ b15 := fun e => by have h1 := (Array.getElem?_eq_some_iff.1 H6.out.2.1).1; have h2 := H8.out.size; omega
              obtain ⟨d0, d1, d2, _⟩ := three c9
              obtain ⟨g0, g1, g2, _⟩ := three c15
              unfold ek at d0
              unfold er at d2
              have HV := Lib.hid (And.intro c9 (And.intro c15 (And.intro (HB7.out.trans (bV8.mono HB7.out.size)) (And.intro (H6.out.1.old b68) hne9))))
              clear hV8 bV8 hb15 c15 b68 c9 hne9 hcs m1 m2 m3 m4 hw3 hw4 hw5 hS0
              rcases HR.out.2.2.2.2.1 with hlp | ⟨ql, hlp, hall⟩
              · subst hlp
                have f0 := (three HV.out.1).2.2.2
                go_wp2_with fail
                go_roundw
                case rel =>
                  obtain ⟨a1, a2⟩ := put3 (u0 := ek (nmOf i)) (u1 := .int .i64 ((p : Nat) : Int)) (u2 := er r) HV.out.1
                  have hfst := H6.out.2.2.2.2.2
                  have hnd : (M.map (·.1)).Nodup := by obtain ⟨_, _, h1, _⟩ := HR.out.2.2.1; exact h1.nodup
                  exact ⟨j + 1, Nx.del (nmOf i) M, by first | rfl | simp, HR.out.2.2.2.2.2.2.2.1, by have h1 := del_one hnd hfst.1; have h2 := HR.out.1; simp only at h1; omega, fun x hx => HR.out.2.1 x (mem_del.1 hx).1, HV.out.2.2.2.1.fr a2,
                    ⟨nmOf i, _, r, a1, .inr ⟨p, rfl, fun y hy => hfst.ahead (mem_del.1 hy).1 (fun e => (mem_del.1 hy).2 (congrArg (·.1) e))⟩⟩,
                    HV.out.2.2.1.trans (a2.below (by have h1 := H0.out.2.2.2; have h2 := (Array.getElem?_eq_some_iff.1 HV.out.1).1; omega) (fun k e => by rw [e]; exact H0.out.2.2.2))⟩
                case measure => have := HR.out.2.2.2.2.2.2.2.1; simp only [RowKit.intOf]; omega
              · subst hlp
                have hql : (0 : Int) ≤ ((ql : Nat) : Int) := by omega
                have hA := ahead_any (lk, ql, lr) (nmOf i, p, r) V8
                rw [hall _ H6.out.2.2.2.2.2.1] at hA
                clear hall
                unfold ov ek er at hA
                simp only at hA
                go_wp2_with fail
                refine hA.mono ?_
                rintro e V9 ⟨rfl, hb9⟩
                have c9' := (hb9.block b9 (Array.getElem?_eq_some_iff.1 HV.out.1).1).trans HV.out.1
                have c15' := (hb9.block b15 (Array.getElem?_eq_some_iff.1 HV.out.2.1).1).trans HV.out.2.1
                obtain ⟨s0, s1, s2, f0⟩ := three c9'
                obtain ⟨q0, q1, q2, _⟩ := three c15'
                unfold ek at s0
                unfold er at s2
                have HV9 := Lib.hid (And.intro c9' (And.intro c15' (And.intro (HV.out.2.2.1.trans (hb9.mono HV.out.2.2.1.size)) (And.intro (HV.out.2.2.2.1.old hb9) HV.out.2.2.2.2))))
                clear hA hb9 c9' c15' d0 d1 d2 g0 g1 g2
                go_wp2_with fail
                go_roundw
                case rel =>
                  obtain ⟨a1, a2⟩ := put3 (u0 := ek (nmOf i)) (u1 := .int .i64 ((p : Nat) : Int)) (u2 := er r) HV9.out.1
                  have hfst := H6.out.2.2.2.2.2
                  have hnd : (M.map (·.1)).Nodup := by obtain ⟨_, _, h1, _⟩ := HR.out.2.2.1; exact h1.nodup
                  exact ⟨j + 1, Nx.del (nmOf i) M, by first | rfl | simp, HR.out.2.2.2.2.2.2.2.1, by have h1 := del_one hnd hfst.1; have h2 := HR.out.1; simp only at h1; omega, fun x hx => HR.out.2.1 x (mem_del.1 hx).1, HV9.out.2.2.2.1.fr a2,
                    ⟨nmOf i, _, r, a1, .inr ⟨p, rfl, fun y hy => hfst.ahead (mem_del.1 hy).1 (fun e => (mem_del.1 hy).2 (congrArg (·.1) e))⟩⟩,
                    HV9.out.2.2.1.trans (a2.below (by have h1 := H0.out.2.2.2; have h2 := (Array.getElem?_eq_some_iff.1 HV9.out.1).1; omega) (fun k e => by rw [e]; exact H0.out.2.2.2))⟩
                case measure => have := HR.out.2.2.2.2.2.2.2.1; simp only [RowKit.intOf]; omega
            · have hkk : (nmOf i == k) = false := beq_false_of_ne fun e => hie (nm_inj hi100 (by have := HN.out; have := H6.out.2.2.2.2.1; omega) (e.trans (congrArg (·.1) H6.out.2.2.2.1).symm))
              go_wp2_with fail
              go_roundw
              case rel => exact ⟨i + 1, by first | rfl | simp, by omega, H8.out⟩
              case measure => have := H6.out.2.2.2.2.1; simp only [RowKit.intOf]; omega
        · have hjc : ¬ ((j : Nat) : Int) < ((n : Nat) : Int) := by omega
          obtain rfl : M = [] := List.eq_nil_of_length_eq_zero (by omega)
          obtain ⟨Sa, r1, dA⟩ := hT.a hb.size (fun k e => by rw [e]; exact (Array.getElem?_eq_some_iff.1 h9).1)
          have hTk := r1.Take_no
          have HB := Lib.hid hb
          clear hMl hMi hT h9 hlast hb dA r1 hj hlt
          go_wp2_with fail
          refine hTk.mono ?_
          rintro e w5 ⟨rfl, hb5⟩
          have H5 := Lib.hid (HB.out.trans (hb5.mono HB.out.size))
          clear hTk hb5
          go_wp2_with fail
          go_ret
          exact ⟨rfl, H5.out⟩
end Go.Proofs.Ytomkefaakgodhaa.Nx
