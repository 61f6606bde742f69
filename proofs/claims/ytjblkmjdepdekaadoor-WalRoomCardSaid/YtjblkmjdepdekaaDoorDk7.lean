
/- disks: Crash -/
import Derived.Test.YtjblkmjdepdekaaDoorDk6
namespace Go.Proofs.YtjblkmjdepdekaaDoor.Dk
open Go.RowKit Go.Lib Go.Proofs.YtjblkmjdepdekaaDoor.By Go.Proofs.YtjblkmjdepdekaaDoor.Ht
section
variable {w : World} {B bd gs cs gn cn n : Nat} {vw : Value} {F G : List UInt8} {W : List Wr} {dn : Bool}
theorem IsDk.lenF (h : IsDk w B bd gs cs gn cn vw n F G W dn) : F.length = 64 * n := by have := h.os.1; simp only [byteCells, List.length_map] at this; omega
theorem IsDk.lenG (h : IsDk w B bd gs cs gn cn vw n F G W dn) : G.length = 64 * n := by have := h.on.1; simp only [byteCells, List.length_map] at this; omega
theorem IsDk.blk_ne (h : IsDk w B bd gs cs gn cn vw n F G W dn) : bd ≠ gs ∧ bd ≠ gn := ⟨fun e => own_not h.os h.blk (by decide) gs rfl e.symm, fun e => own_not h.on h.blk (by decide) gn rfl e.symm⟩
theorem IsDk.waits_ne (h : IsDk w B bd gs cs gn cn vw n F G W dn) : ∀ g, vw.ownBlock = some g → g ≠ gs ∧ g ≠ gn := fun g hg => by
  obtain ⟨c1, h1⟩ := own_type (g := gs) h.os rfl
  obtain ⟨c2, h2⟩ := own_type (g := gn) h.on rfl
  exact ⟨own_not h.ow h1 (by decide) g hg, own_not h.ow h2 (by decide) g hg⟩
theorem IsDk.setSync (h : IsDk w B bd gs cs gn cn vw n F G W dn) {k : Nat} {b : List UInt8} (hk : k < n) (hb : b.length = 64) : w.there gs (k * 64) 64 ∧ IsDk (w.setCells gs (k * 64) (byteCells b)) B bd gs cs gn cn vw n (setS F k b) G W dn := by
  have h2 : ∀ j, j ≠ gs → (w.setCells gs (k * 64) (byteCells b)).heap[j]? = w.heap[j]? := fun j hj => heap_setCells_other hj _ _ _
  have h3 := own_sector h.os hk hb
  exact ⟨h3.1, (h2 bd h.blk_ne.1).trans h.blk, h3.2, own_other h.on (fun g hg => h2 g (fun e => h.ne (by rw [← e]; simpa [Value.ownBlock] using hg.symm))), own_other h.ow (fun g hg => h2 g (h.waits_ne g hg).1), h.ne, h.n1, h.n2, h.hw, h.hb⟩
theorem IsDk.setNow (h : IsDk w B bd gs cs gn cn vw n F G W dn) {k : Nat} {b : List UInt8} (hk : k < n) (hb : b.length = 64) : w.there gn (k * 64) 64 ∧ IsDk (w.setCells gn (k * 64) (byteCells b)) B bd gs cs gn cn vw n F (setS G k b) W dn := by
  have h2 : ∀ j, j ≠ gn → (w.setCells gn (k * 64) (byteCells b)).heap[j]? = w.heap[j]? := fun j hj => heap_setCells_other hj _ _ _
  have h3 := own_sector h.on hk hb
  exact ⟨h3.1, (h2 bd h.blk_ne.2).trans h.blk, own_other h.os (fun g hg => h2 g (fun e => h.ne (by rw [← e]; simpa [Value.ownBlock] using hg))), h3.2, own_other h.ow (fun g hg => h2 g (h.waits_ne g hg).2), h.ne, h.n1, h.n2, h.hw, h.hb⟩
end
/-- what a crash keeps of the first m writings -/
def cF (k : Nat → Bool) (W : List Wr) (F : List UInt8) (m : Nat) : List UInt8 := (List.range m).foldl (fun F i => if k i then setS F (W.getD i (0, [])).1 (W.getD i (0, [])).2 else F) F
theorem cF_succ (k : Nat → Bool) (W : List Wr) (F : List UInt8) (m : Nat) : cF k W F (m + 1) = if k m then setS (cF k W F m) (W.getD m (0, [])).1 (W.getD m (0, [])).2 else cF k W F m := by
  unfold cF; rw [List.range_succ, List.foldl_append]; rfl
theorem crash_nil (kv : Value) (w : World) : Calls Tryd.prog 15 #[.pointer none, kv] w fun e w' => e = .returned (.tuple #[]) ∧ w = w' := by
  go_enter Tryd.func15, Tryd.ntmps15
  go_wp2_with fail
  first | go_end0 | refine bodyPost_ret (results_none rfl _ _ _) rfl ?_
  exact ⟨rfl, rfl⟩
section
variable {w : World} {B bd gs cs gn cn n : Nat} {vw : Value} {F G : List UInt8} {W : List Wr} {dn : Bool}
set_option maxRecDepth 20000 in
set_option maxHeartbeats 4000000 in
theorem crash_any {kv : Value} {k : Nat → Bool} {p : World → Prop} (h : IsDk w B bd gs cs gn cn vw n F G W dn) (hA : Asks kv k p) (hp : ∀ w', Below w.heap.size w w' → p w') (hWl : W.length ≤ 1000000) :
    Calls Tryd.prog 15 #[.pointer (some ⟨bd, 0, none⟩), kv] w fun e w' =>
      e = .returned (.tuple #[]) ∧ IsDk w' B bd gs cs gn cn (.slice none 0 0) n (cF k W F W.length) (syncF (cF k W F W.length) G W) [] true ∧ Fr (Foot bd gs gn vw) w w' := by
  have HT := Lib.hid (tell_any hA W.length hWl w hp)
  obtain ⟨aw, cw, rfl⟩ := own_shape h.ow
  have hz0 := zero_writing
  obtain ⟨Z, hZ⟩ : ∃ Z, Z = (Zl (.int .i64 0)).toArray := ⟨_, rfl⟩
  rw [← hZ] at hz0
  have HZ := Lib.hid hZ
  clear hZ hp hA
  obtain ⟨⟨c0, c1, c2, c3⟩, _⟩ := four_cells h.blk
  have HH := Lib.hid h
  clear h c0 c1 c3
  go_enter Tryd.func15, Tryd.ntmps15
  go_wp2_with (go_at_call 36; (with_reducible refine HT.out.mono ?_); rintro e wt ⟨rfl, hkb, hbt⟩; have ct := (four_cells (HH.out.old hbt).blk).1.2.2.1)
  have hdt := HH.out.old hbt
  have HKB := Lib.hid (And.intro hkb (And.intro hbt hdt))
  have hkbe : ∃ q, q = w.heap.size := ⟨_, rfl⟩
  obtain ⟨kb, hkbe⟩ := hkbe
  rw [← hkbe] at HKB
  rw [← hkbe]
  have HE := Lib.hid hkbe
  clear hkb hbt hdt hkbe HT ct c2
  go_loopw [23] (fun kv wr => ∃ m : Nat, m ≤ W.length ∧ kv = .int .i64 m ∧ IsDk wr B bd gs cs gn cn (.slice aw W.length cw) n (cF k W F m) G W dn ∧ Fr (Foot bd gs gn (.slice aw W.length cw)) w wr ∧ wr.heap[kb]? = some (.cells (toldL k W.length W.length).toArray 4 (0, 0))) (fun kv _ => W.length - (intOf kv).toNat)
  case atStart => exact ⟨0, Nat.zero_le _, rfl, HKB.out.2.2, Fr.of (by rw [← HE.out]; exact HKB.out.2.1), HKB.out.1⟩
  case round =>
    obtain ⟨m, hm, rfl, hdk, hfr, hkb⟩ := hrel
    by_cases hlt : m < W.length
    · obtain ⟨gw, cw', hv, hcw, hrg⟩ := waits_range hdk hlt
      simp only [Value.slice.injEq, true_and] at hv
      obtain ⟨rfl, rfl⟩ := hv
      obtain ⟨x, hx⟩ : ∃ x, x = W[m] := ⟨_, rfl⟩
      rw [← hx] at hrg
      have hxw := hdk.hw x (by rw [hx]; exact List.getElem_mem hlt)
      obtain ⟨W1, hsc, hg1, hb1⟩ := var_made wr x hxw.2
      have hsz := size_writing (wcell_len hxw.2)
      have hYs : (wcell x).toArray.size = 65 := by simpa using wcell_len hxw.2
      obtain ⟨Y, hY⟩ : ∃ Y, Y = (wcell x).toArray := ⟨_, rfl⟩
      rw [show wcell x = Y.toList by rw [hY], ← HZ.out] at hsc
      rw [← hY] at hYs hg1
      have HRG := Lib.hid (And.intro hrg hsz)
      have hkl : wr.cell? ⟨kb, m, none⟩ = some (.bool (k m)) := by
        rw [cell_of_row wr _ m _ _ _ hkb]; simp [toldL, hlt]
      have hk1 : W1.cell? ⟨kb, m, none⟩ = some (.bool (k m)) := (World.cell?_of_block (hb1.block kb (lt_of_block hkb))).trans hkl
      have hdk1 := hdk.old hb1
      have hfr1 := hfr.trans (Fr.of (p := Foot bd gs gn (.slice (some ⟨gw, 0, none⟩) W.length cw)) hb1)
      have hkb1 : W1.heap[kb]? = some (.cells (toldL k W.length W.length).toArray 4 (0, 0)) := (hb1.block kb (lt_of_block hkb)).trans hkb
      have hgd : W.getD m (0, []) = x := by rw [hx]; simp [List.getD, hlt]
      have HK := Lib.hid (And.intro hdk1 (And.intro hfr1 (And.intro hkb1 (And.intro hg1 (And.intro hxw (And.intro hY hgd))))))
      have c2' := (four_cells hdk.blk).1.2.2.1
      rw [show wcell x = Y.toList by rw [hY]] at HRG
      clear hdk hfr hkb hx hxw hg1 hb1 hY hrg hsz hkl hdk1 hfr1 hkb1 hgd
      have hkc : (m : Int) < (W.length : Int) := by omega
      have hm0 : (0 : Int) ≤ (m : Int) := by omega
      by_cases hkm : k m = true
      · rw [hkm] at hk1
        have hsn := cF_succ k W F m
        rw [hkm, if_pos rfl, HK.out.2.2.2.2.2.2] at hsn
        have HSN := Lib.hid hsn
        clear hsn hkm
        go_wp2_with (refine wpList_load_mid rfl 81 _ rfl gw (m * 65) rfl Y.toList _ HRG.out.1 Tryd.underlying81 rfl HRG.out.2 ?_)
        have hmix : Tryd.prog.follows .mixedOrders = true := by kernel_rfl
        have hS1 : W1.heap[bd]? = some (.cells #[.slice (some ⟨gs, 0, none⟩) n cs, .slice (some ⟨gn, 0, none⟩) n cn, .slice (some ⟨gw, 0, none⟩) W.length cw, .bool dn] 63 (0, 0)) ∧ W1.heap[wr.heap.size]? = some (.cells Y 81 (0, 0)) := ⟨HK.out.1.blk, HK.out.2.2.2.1⟩
        have hat0 : (0 : Int) ≤ (x.1 : Int) := by omega
        have hat1 : (x.1 : Int) < (n : Int) := by have := HK.out.2.2.2.2.1.1; omega
        have hn4 := HK.out.1.n2
        have hyc : ∀ X : World, X.heap[wr.heap.size]? = some (.cells Y 81 (0, 0)) → X.cell? ⟨wr.heap.size, 0, none⟩ = some (.int .i64 (x.1 : Nat)) := fun X hX => by
          rw [cell_of_row X _ 0 Y _ _ hX, HK.out.2.2.2.2.2.1]; simp [wcell]
        have hyr : ∀ X : World, X.heap[wr.heap.size]? = some (.cells Y 81 (0, 0)) → X.rangeAt wr.heap.size 1 (byteCells x.2) := fun X hX => by
          rw [HK.out.2.2.2.2.2.1] at hX
          exact range_tail (m := 64) hX (by simp [byteCells, HK.out.2.2.2.2.1.2])
        have HHY := Lib.hid (And.intro hyc hyr)
        have hrs := size_sector (cs := byteCells x.2) (by simpa [byteCells] using HK.out.2.2.2.2.1.2)
        have HRS := Lib.hid hrs
        have hst := (HK.out.1.other (w' := W1.drew) (fun _ _ _ => rfl)).setSync HK.out.2.2.2.2.1.1 HK.out.2.2.2.2.1.2
        have HST := Lib.hid hst
        clear hyc hyr hrs hst c2'
        refine begin' 9 (fun X => X.heap[bd]? = some (.cells #[.slice (some ⟨gs, 0, none⟩) n cs, .slice (some ⟨gn, 0, none⟩) n cn, .slice (some ⟨gw, 0, none⟩) W.length cw, .bool dn] 63 (0, 0)) ∧ X.heap[wr.heap.size]? = some (.cells Y 81 (0, 0))) hmix hS1 (fun hS0 => ?_)
        refine Ht.take (i := 0) ⟨some 38, _, _, _, _, _⟩ (.pointer (some ⟨bd, 0, none⟩)) rfl (by kernel_rfl) (by kernel_rfl) (by decide) (by kernel_rfl) (by kernel_rfl) (by kernel_rfl) hS0 (Or.inl ⟨by rfl, by (intro X hX; go_simp)⟩) ?_
        simp only [Act.put, List.setIfInBounds_toArray, List.set_cons_zero, List.set_cons_succ]
        refine Ht.take (i := 1) ⟨some 39, _, _, _, _, _⟩ (.pointer (some ⟨bd, 0, none⟩)) rfl (by kernel_rfl) (by kernel_rfl) (by decide) (by kernel_rfl) (by kernel_rfl) (by kernel_rfl) hS0 (Or.inl ⟨by rfl, by (intro X hX; go_simp)⟩) ?_
        simp only [Act.put, List.setIfInBounds_toArray, List.set_cons_zero, List.set_cons_succ]
        refine Ht.take (i := 2) ⟨some 40, _, _, _, _, _⟩ (.pointer (some ⟨bd, 0, none⟩)) rfl (by kernel_rfl) (by kernel_rfl) (by decide) (by kernel_rfl) (by kernel_rfl) (by kernel_rfl) hS0 (Or.inl ⟨by rfl, by (intro X hX; go_simp)⟩) ?_
        simp only [Act.put, List.setIfInBounds_toArray, List.set_cons_zero, List.set_cons_succ]
        refine Ht.take (i := 3) ⟨some 41, _, _, _, _, _⟩ (.slice (some ⟨gs, 0, none⟩) n cs) rfl (by kernel_rfl) (by kernel_rfl) (by decide) (by kernel_rfl) (by kernel_rfl) (by kernel_rfl) hS0 (Or.inl ⟨by rfl, by (intro X hX; have := (four_cells hX.1).1.1; go_simp)⟩) ?_
        simp only [Act.put, List.setIfInBounds_toArray, List.set_cons_zero, List.set_cons_succ]
        refine Ht.take (i := 4) ⟨some 42, _, _, _, _, _⟩ (.pointer (some ⟨wr.heap.size, 0, none⟩)) rfl (by kernel_rfl) (by kernel_rfl) (by decide) (by kernel_rfl) (by kernel_rfl) (by kernel_rfl) hS0 (Or.inl ⟨by rfl, by (intro X hX; go_simp)⟩) ?_
        simp only [Act.put, List.setIfInBounds_toArray, List.set_cons_zero, List.set_cons_succ]
        refine Ht.take (i := 5) ⟨some 43, _, _, _, _, _⟩ (.int .i64 (x.1 : Nat)) rfl (by kernel_rfl) (by kernel_rfl) (by decide) (by kernel_rfl) (by kernel_rfl) (by kernel_rfl) hS0 (Or.inl ⟨by rfl, by (intro X hX; have := HHY.out.1 X hX.2; go_simp)⟩) ?_
        simp only [Act.put, List.setIfInBounds_toArray, List.set_cons_zero, List.set_cons_succ]
        refine Ht.take (i := 6) ⟨some 44, _, _, _, _, _⟩ (.pointer (some ⟨wr.heap.size, 1, none⟩)) rfl (by kernel_rfl) (by kernel_rfl) (by decide) (by kernel_rfl) (by kernel_rfl) (by kernel_rfl) hS0 (Or.inl ⟨by rfl, by (intro X hX; go_simp)⟩) ?_
        simp only [Act.put, List.setIfInBounds_toArray, List.set_cons_zero, List.set_cons_succ]
        refine Ht.take (i := 7) ⟨some 45, _, _, _, _, _⟩ (.agg (byteCells x.2).toArray) rfl (by kernel_rfl) (by kernel_rfl) (by decide) (by kernel_rfl) (by kernel_rfl) (by kernel_rfl) hS0 (yieldsIf_load_mid (by rfl) _ _ rfl wr.heap.size 1 rfl (byteCells x.2) _ (fun X hX => HHY.out.2 X hX.2) Tryd.underlying79 rfl HRS.out) ?_
        simp only [Act.put, List.setIfInBounds_toArray, List.set_cons_zero, List.set_cons_succ]
        refine Ht.take (i := 8) ⟨some 46, _, _, _, _, _⟩ (.pointer (some ⟨gs, x.1 * 64, none⟩)) rfl (by kernel_rfl) (by kernel_rfl) (by decide) (by kernel_rfl) (by kernel_rfl) (by kernel_rfl) hS0 (Or.inl ⟨by rfl, by (intro X hX; go_simp)⟩) ?_
        simp only [Act.put, List.setIfInBounds_toArray, List.set_cons_zero, List.set_cons_succ]
        refine Ht.step (i := 9) ⟨none, _, _, _, _, _⟩ rfl (by kernel_rfl) (by rfl) (fun K hK => ?_)
        refine wp_store_mid 79 _ _ rfl gs (x.1 * 64) (byteCells x.2).toArray rfl rfl (by simpa [byteCells, HK.out.2.2.2.2.1.2] using HST.out.1) (by simpa using HRS.out) (all_oneCell_toArray (bytes_one _)) ?_
        refine hK _ _ (fun h => absurd rfl h) (fun _ => ?_)
        clear hK K
        refine done (by kernel_rfl) ?_
        dsimp only [Act.put]
        obtain ⟨W2, hW2⟩ : ∃ X, X = W1.drew.setCells gs (x.1 * 64) (byteCells x.2) := ⟨_, rfl⟩
        have hdk2 : IsDk W2 B bd gs cs gn cn (.slice (some ⟨gw, 0, none⟩) W.length cw) n (cF k W F (m + 1)) G W dn := by rw [hW2, HSN.out]; exact HST.out.2
        have hfr2 : Fr (Foot bd gs gn (.slice (some ⟨gw, 0, none⟩) W.length cw)) w W2 := by rw [hW2]; exact (HK.out.2.1.drew).setCells (.inl (.inr (.inl rfl))) _
        have hkb2 : W2.heap[kb]? = some (.cells (toldL k W.length W.length).toArray 4 (0, 0)) := by
          rw [hW2]
          exact (heap_setCells_other (fun e => own_not HK.out.1.os HK.out.2.2.1 (by decide) gs rfl e.symm) _ _ _).trans HK.out.2.2.1
        have H2 := Lib.hid (And.intro hdk2 (And.intro hfr2 hkb2))
        rw [← hW2]
        clear hW2 hdk2 hfr2 hkb2 hS1 hS0
        go_wp2_with fail
        go_roundw
        case rel => exact ⟨m + 1, by omega, by go_num, H2.out.1, H2.out.2.1, H2.out.2.2⟩
        case measure => simp [intOf]; omega
      · have hkf : k m = false := by simpa using hkm
        rw [hkf] at hk1
        have hsn := cF_succ k W F m
        rw [hkf, if_neg (by simp)] at hsn
        have HSN := Lib.hid hsn
        clear hsn hkm hkf
        go_wp2_with (refine wpList_load_mid rfl 81 _ rfl gw (m * 65) rfl Y.toList _ HRG.out.1 Tryd.underlying81 rfl HRG.out.2 ?_)
        go_roundw
        case rel => exact ⟨m + 1, by omega, by go_num, by rw [HSN.out]; exact HK.out.1, HK.out.2.1, HK.out.2.2.1⟩
        case measure => simp [intOf]; omega
    · obtain rfl : m = W.length := by omega
      obtain ⟨S, hS⟩ : ∃ S, S = cF k W F W.length := ⟨_, rfl⟩
      rw [← hS] at hdk
      have c2' := (four_cells hdk.blk).1.2.2.1
      obtain ⟨wo, rfl⟩ : ∃ wo : World, wo = wr := ⟨_, rfl⟩
      have HO := Lib.hid (And.intro hdk (And.intro hfr hS))
      clear hdk hfr hkb hS
      go_wp2_with fail
      go_loopw [53] (fun kv wr => ∃ m : Nat, m ≤ W.length ∧ kv = .int .i64 m ∧ IsDk wr B bd gs cs gn cn (.slice aw W.length cw) n S (syncF S G (W.take m)) W dn ∧ Fr (Foot bd gs gn (.slice aw W.length cw)) w wr) (fun kv _ => W.length - (intOf kv).toNat)
      case atStart => exact ⟨0, Nat.zero_le _, rfl, HO.out.1, HO.out.2.1⟩
      case round =>
        obtain ⟨m, hm, rfl, hdk, hfr⟩ := hrel
        clear c2'
        by_cases hlt : m < W.length
        · obtain ⟨gw, cw', hv, hcw, hrg⟩ := waits_range hdk hlt
          simp only [Value.slice.injEq, true_and] at hv
          obtain ⟨rfl, rfl⟩ := hv
          obtain ⟨x, hx⟩ : ∃ x, x = W[m] := ⟨_, rfl⟩
          rw [← hx] at hrg
          have hxw := hdk.hw x (by rw [hx]; exact List.getElem_mem hlt)
          obtain ⟨W1, hsc, hg1, hb1⟩ := var_made wr x hxw.2
          have hsz := size_writing (wcell_len hxw.2)
          have hYs : (wcell x).toArray.size = 65 := by simpa using wcell_len hxw.2
          obtain ⟨Y, hY⟩ : ∃ Y, Y = (wcell x).toArray := ⟨_, rfl⟩
          rw [show wcell x = Y.toList by rw [hY], ← HZ.out] at hsc
          rw [← hY] at hYs hg1
          have HRG := Lib.hid (And.intro hrg hsz)
          have hdk1 := hdk.old hb1
          have hfr1 := hfr.trans (Fr.of (p := Foot bd gs gn (.slice (some ⟨gw, 0, none⟩) W.length cw)) hb1)
          have htk : W.take (m + 1) = W.take m ++ [x] := by rw [List.take_succ_eq_append_getElem hlt, hx]
          have hsn := syncF_snoc S G (W.take m) x
          rw [← htk] at hsn
          have hgl := length_getS hdk.lenF hxw.1
          have HK := Lib.hid (And.intro hdk1 (And.intro hfr1 (And.intro hg1 (And.intro hxw (And.intro hY (And.intro hsn hgl))))))
          have c2' := (four_cells hdk.blk).1.2.2.1
          rw [show wcell x = Y.toList by rw [hY]] at HRG
          clear hdk hfr hx hxw hg1 hb1 hY hrg hsz hdk1 hfr1 htk hsn hgl
          have hkc : (m : Int) < (W.length : Int) := by omega
          go_wp2_with (refine wpList_load_mid rfl 81 _ rfl gw (m * 65) rfl Y.toList _ HRG.out.1 Tryd.underlying81 rfl HRG.out.2 ?_)
          have hmix : Tryd.prog.follows .mixedOrders = true := by kernel_rfl
          have hS1 : W1.heap[bd]? = some (.cells #[.slice (some ⟨gs, 0, none⟩) n cs, .slice (some ⟨gn, 0, none⟩) n cn, .slice (some ⟨gw, 0, none⟩) W.length cw, .bool dn] 63 (0, 0)) ∧ W1.heap[wr.heap.size]? = some (.cells Y 81 (0, 0)) ∧ W1.rangeAt gs (x.1 * 64) (byteCells (getS S x.1)) := ⟨HK.out.1.blk, HK.out.2.2.1, sector_range HK.out.1.os⟩
          have hat0 : (0 : Int) ≤ (x.1 : Int) := by omega
          have hat1 : (x.1 : Int) < (n : Int) := by have := HK.out.2.2.2.1.1; omega
          have hn4 := HK.out.1.n2
          have hyc : ∀ X : World, X.heap[wr.heap.size]? = some (.cells Y 81 (0, 0)) → X.cell? ⟨wr.heap.size, 0, none⟩ = some (.int .i64 (x.1 : Nat)) := fun X hX => by
            rw [cell_of_row X _ 0 Y _ _ hX, HK.out.2.2.2.2.1]; simp [wcell]
          have HHY := Lib.hid hyc
          have hrs := size_sector (cs := byteCells (getS S x.1)) (by simpa [byteCells] using HK.out.2.2.2.2.2.2)
          have HRS := Lib.hid hrs
          have hst := (HK.out.1.other (w' := W1.drew) (fun _ _ _ => rfl)).setNow HK.out.2.2.2.1.1 HK.out.2.2.2.2.2.2
          have HST := Lib.hid hst
          clear hyc hrs hst c2'
          refine begin' 15 (fun X => X.heap[bd]? = some (.cells #[.slice (some ⟨gs, 0, none⟩) n cs, .slice (some ⟨gn, 0, none⟩) n cn, .slice (some ⟨gw, 0, none⟩) W.length cw, .bool dn] 63 (0, 0)) ∧ X.heap[wr.heap.size]? = some (.cells Y 81 (0, 0)) ∧ X.rangeAt gs (x.1 * 64) (byteCells (getS S x.1))) hmix hS1 (fun hS0 => ?_)
          refine Ht.take (i := 0) ⟨some 57, _, _, _, _, _⟩ (.pointer (some ⟨bd, 0, none⟩)) rfl (by kernel_rfl) (by kernel_rfl) (by decide) (by kernel_rfl) (by kernel_rfl) (by kernel_rfl) hS0 (Or.inl ⟨by rfl, by (intro X hX; go_simp)⟩) ?_
          simp only [Act.put, List.setIfInBounds_toArray, List.set_cons_zero, List.set_cons_succ]
          refine Ht.take (i := 1) ⟨some 58, _, _, _, _, _⟩ (.pointer (some ⟨bd, 0, none⟩)) rfl (by kernel_rfl) (by kernel_rfl) (by decide) (by kernel_rfl) (by kernel_rfl) (by kernel_rfl) hS0 (Or.inl ⟨by rfl, by (intro X hX; go_simp)⟩) ?_
          simp only [Act.put, List.setIfInBounds_toArray, List.set_cons_zero, List.set_cons_succ]
          refine Ht.take (i := 2) ⟨some 59, _, _, _, _, _⟩ (.pointer (some ⟨bd, 1, none⟩)) rfl (by kernel_rfl) (by kernel_rfl) (by decide) (by kernel_rfl) (by kernel_rfl) (by kernel_rfl) hS0 (Or.inl ⟨by rfl, by (intro X hX; go_simp)⟩) ?_
          simp only [Act.put, List.setIfInBounds_toArray, List.set_cons_zero, List.set_cons_succ]
          refine Ht.take (i := 3) ⟨some 60, _, _, _, _, _⟩ (.slice (some ⟨gn, 0, none⟩) n cn) rfl (by kernel_rfl) (by kernel_rfl) (by decide) (by kernel_rfl) (by kernel_rfl) (by kernel_rfl) hS0 (Or.inl ⟨by rfl, by (intro X hX; have := (four_cells hX.1).1.2.1; go_simp)⟩) ?_
          simp only [Act.put, List.setIfInBounds_toArray, List.set_cons_zero, List.set_cons_succ]
          refine Ht.take (i := 4) ⟨some 61, _, _, _, _, _⟩ (.pointer (some ⟨wr.heap.size, 0, none⟩)) rfl (by kernel_rfl) (by kernel_rfl) (by decide) (by kernel_rfl) (by kernel_rfl) (by kernel_rfl) hS0 (Or.inl ⟨by rfl, by (intro X hX; go_simp)⟩) ?_
          simp only [Act.put, List.setIfInBounds_toArray, List.set_cons_zero, List.set_cons_succ]
          refine Ht.take (i := 5) ⟨some 62, _, _, _, _, _⟩ (.int .i64 (x.1 : Nat)) rfl (by kernel_rfl) (by kernel_rfl) (by decide) (by kernel_rfl) (by kernel_rfl) (by kernel_rfl) hS0 (Or.inl ⟨by rfl, by (intro X hX; have := HHY.out X hX.2.1; go_simp)⟩) ?_
          simp only [Act.put, List.setIfInBounds_toArray, List.set_cons_zero, List.set_cons_succ]
          refine Ht.take (i := 6) ⟨some 63, _, _, _, _, _⟩ (.pointer (some ⟨bd, 0, none⟩)) rfl (by kernel_rfl) (by kernel_rfl) (by decide) (by kernel_rfl) (by kernel_rfl) (by kernel_rfl) hS0 (Or.inl ⟨by rfl, by (intro X hX; go_simp)⟩) ?_
          simp only [Act.put, List.setIfInBounds_toArray, List.set_cons_zero, List.set_cons_succ]
          refine Ht.take (i := 7) ⟨some 64, _, _, _, _, _⟩ (.pointer (some ⟨bd, 0, none⟩)) rfl (by kernel_rfl) (by kernel_rfl) (by decide) (by kernel_rfl) (by kernel_rfl) (by kernel_rfl) hS0 (Or.inl ⟨by rfl, by (intro X hX; go_simp)⟩) ?_
          simp only [Act.put, List.setIfInBounds_toArray, List.set_cons_zero, List.set_cons_succ]
          refine Ht.take (i := 8) ⟨some 65, _, _, _, _, _⟩ (.pointer (some ⟨bd, 0, none⟩)) rfl (by kernel_rfl) (by kernel_rfl) (by decide) (by kernel_rfl) (by kernel_rfl) (by kernel_rfl) hS0 (Or.inl ⟨by rfl, by (intro X hX; go_simp)⟩) ?_
          simp only [Act.put, List.setIfInBounds_toArray, List.set_cons_zero, List.set_cons_succ]
          refine Ht.take (i := 9) ⟨some 66, _, _, _, _, _⟩ (.slice (some ⟨gs, 0, none⟩) n cs) rfl (by kernel_rfl) (by kernel_rfl) (by decide) (by kernel_rfl) (by kernel_rfl) (by kernel_rfl) hS0 (Or.inl ⟨by rfl, by (intro X hX; have := (four_cells hX.1).1.1; go_simp)⟩) ?_
          simp only [Act.put, List.setIfInBounds_toArray, List.set_cons_zero, List.set_cons_succ]
          refine Ht.take (i := 10) ⟨some 67, _, _, _, _, _⟩ (.pointer (some ⟨wr.heap.size, 0, none⟩)) rfl (by kernel_rfl) (by kernel_rfl) (by decide) (by kernel_rfl) (by kernel_rfl) (by kernel_rfl) hS0 (Or.inl ⟨by rfl, by (intro X hX; go_simp)⟩) ?_
          simp only [Act.put, List.setIfInBounds_toArray, List.set_cons_zero, List.set_cons_succ]
          refine Ht.take (i := 11) ⟨some 68, _, _, _, _, _⟩ (.int .i64 (x.1 : Nat)) rfl (by kernel_rfl) (by kernel_rfl) (by decide) (by kernel_rfl) (by kernel_rfl) (by kernel_rfl) hS0 (Or.inl ⟨by rfl, by (intro X hX; have := HHY.out X hX.2.1; go_simp)⟩) ?_
          simp only [Act.put, List.setIfInBounds_toArray, List.set_cons_zero, List.set_cons_succ]
          refine Ht.take (i := 12) ⟨some 69, _, _, _, _, _⟩ (.pointer (some ⟨gs, x.1 * 64, none⟩)) rfl (by kernel_rfl) (by kernel_rfl) (by decide) (by kernel_rfl) (by kernel_rfl) (by kernel_rfl) hS0 (Or.inl ⟨by rfl, by (intro X hX; go_simp)⟩) ?_
          simp only [Act.put, List.setIfInBounds_toArray, List.set_cons_zero, List.set_cons_succ]
          refine Ht.take (i := 13) ⟨some 70, _, _, _, _, _⟩ (.agg (byteCells (getS S x.1)).toArray) rfl (by kernel_rfl) (by kernel_rfl) (by decide) (by kernel_rfl) (by kernel_rfl) (by kernel_rfl) hS0 (yieldsIf_load_mid (by rfl) _ _ rfl gs (x.1 * 64) rfl (byteCells (getS S x.1)) _ (fun X hX => hX.2.2) Tryd.underlying79 rfl HRS.out) ?_
          simp only [Act.put, List.setIfInBounds_toArray, List.set_cons_zero, List.set_cons_succ]
          refine Ht.take (i := 14) ⟨some 71, _, _, _, _, _⟩ (.pointer (some ⟨gn, x.1 * 64, none⟩)) rfl (by kernel_rfl) (by kernel_rfl) (by decide) (by kernel_rfl) (by kernel_rfl) (by kernel_rfl) hS0 (Or.inl ⟨by rfl, by (intro X hX; go_simp)⟩) ?_
          simp only [Act.put, List.setIfInBounds_toArray, List.set_cons_zero, List.set_cons_succ]
          refine Ht.step (i := 15) ⟨none, _, _, _, _, _⟩ rfl (by kernel_rfl) (by rfl) (fun K hK => ?_)
          refine wp_store_mid 79 _ _ rfl gn (x.1 * 64) (byteCells (getS S x.1)).toArray rfl rfl (by simpa [byteCells, HK.out.2.2.2.2.2.2] using HST.out.1) (by simpa using HRS.out) (all_oneCell_toArray (bytes_one _)) ?_
          refine hK _ _ (fun h => absurd rfl h) (fun _ => ?_)
          clear hK K
          refine done (by kernel_rfl) ?_
          dsimp only [Act.put]
          obtain ⟨W2, hW2⟩ : ∃ X, X = W1.drew.setCells gn (x.1 * 64) (byteCells (getS S x.1)) := ⟨_, rfl⟩
          have hdk2 : IsDk W2 B bd gs cs gn cn (.slice (some ⟨gw, 0, none⟩) W.length cw) n S (syncF S G (W.take (m + 1))) W dn := by rw [hW2, HK.out.2.2.2.2.2.1]; exact HST.out.2
          have hfr2 : Fr (Foot bd gs gn (.slice (some ⟨gw, 0, none⟩) W.length cw)) w W2 := by rw [hW2]; exact (HK.out.2.1.drew).setCells (.inl (.inr (.inr (.inl rfl)))) _
          have H2 := Lib.hid (And.intro hdk2 hfr2)
          rw [← hW2]
          clear hW2 hdk2 hfr2 hS1 hS0
          go_wp2_with fail
          go_roundw
          case rel => exact ⟨m + 1, by omega, by go_num, H2.out.1, H2.out.2⟩
          case measure => simp [intOf]; omega
        · obtain rfl : m = W.length := by omega
          rw [List.take_length] at hdk
          obtain ⟨⟨_, _, d2, d3⟩, _, _, f2, f3⟩ := four_cells hdk.blk
          have HK := Lib.hid (And.intro (hdk.nowait.cell3 true) hfr)
          clear hdk hfr
          go_wp2_with fail
          first | go_end0 | refine bodyPost_ret (results_none rfl _ _ _) rfl ?_
          exact ⟨rfl, by have h := HK.out.1; rw [HO.out.2.2] at h; exact h, (HK.out.2.setCell (.inl (.inl rfl)) _).setCell (.inl (.inl rfl)) _⟩
end
end Go.Proofs.YtjblkmjdepdekaaDoor.Dk
