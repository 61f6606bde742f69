
/- DagChains, walked -/
import Derived.Test.YtmlmacplkfnhkaaDgV
import Derived.Test.YtmlmacplkfnhkaaDgQA
namespace Go.Proofs.Ytmlmacplkfnhkaa.DgA
open Go.RowKit Go.Lib Hp Mv Dg Ht Rg
set_option linter.unusedVariables false
set_option maxRecDepth 20000
attribute [local go_sem] Oper.semAt_some
def mk1 (D : Nat) : Deferred := { target := .collected D, args := #[] }
/-- the end where the result lies in a cell -/
theorem leaveC {n : Nat} {fn : Func} {tmps : Array Value} {D r R0 : Nat} {ty : TypeId} {X : World} {b : Bool} {R : Ending → World → Prop} (hres : fn.results = #[.cell r ty]) (hty : ty = 4) (ht : tmps.getD r undef = .pointer (some ⟨R0, 0, none⟩)) (h : X.heap[D]? = some (.deferred (some []))) (hc : X.cell? ⟨R0, 0, none⟩ = some (.bool b)) (hR : ∀ X', But D X X' → R (.returned (.bool b)) X') :
    LeavesInM Fence.wide n Try.prog fn tmps R ([mk1 D]) .returning X := by
  subst hty
  refine ⟨by simp, .inl ⟨D, _, rfl, run_takeDeferred h, ?_⟩⟩
  have hbut := but_put D X (.deferred none)
  refine ⟨.bool b, ?_, hR _ hbut⟩
  have hne : R0 ≠ D := fun e => by subst e; unfold World.cell? at hc; rw [h] at hc; cases hc
  have hc' : (X.putObj D (.deferred none)).cell? ⟨R0, 0, none⟩ = some (.bool b) := by
    rw [← hc]; unfold World.cell?; rw [hbut.2.2.2.2 R0 hne]
  generalize X.putObj D (.deferred none) = X' at hc'
  rw [results_c1 hres, ht]
  clear hR h hc hne hbut ht hres
  go_simp
theorem moreO {own : Nat → Prop} {A B C : World} {N : Nat} (h : BelowO own A B) (hc : Below N B C) (hN : A.heap.size ≤ N) : BelowO own A C :=
  ⟨hc.os.trans h.os, hc.tape.trans h.tape, hc.output.trans h.output, Nat.le_trans h.size hc.size, fun k hk hn => (hc.block k (by omega)).trans (h.block k hk hn)⟩
theorem oneC {w : World} {b : Nat} {v : Value} {t : TypeId} (h : w.heap[b]? = some (.cells #[v] t (0, 0))) : w.cell? ⟨b, 0, none⟩ = some v ∧ w.frozen? ⟨b, 0, none⟩ = false := by
  constructor <;> simp [World.cell?, World.frozen?, h]
set_option maxHeartbeats 8000000 in
theorem chains_any (w : World) (n a b : Nat) (hn : n ≤ 255) (ha : a ≤ 255) (hb : b ≤ 255) :
    Calls Try.prog 3 #[.int .u8 (n : Int), .int .u8 (a : Int), .int .u8 (b : Int)] w fun e w' => e = .returned (.bool true) ∧ Below w.heap.size w w' := by
  obtain ⟨V, hV⟩ : ∃ V, V = w.alloc (.cells #[.bool false] 4) := ⟨_, rfl⟩
  have bV : Below w.heap.size w V := by rw [hV]; exact below_new _ _
  have rV : V.heap[w.heap.size]? = some (.cells #[.bool false] 4 (0, 0)) := by rw [hV]; exact (MapKept.heap_alloc w _).1
  have HV := Lib.hid (And.intro bV rV)
  clear bV rV
  refine (callsIn_wide (n := 5)).1 ?_
  refine callsIn_of_wp_marks Try.func3 rfl trivial ?_ rfl
  simp only [Try.ntmps3, List.size_toArray, List.length_cons, List.length_nil, Nat.reduceAdd, Nat.reduceSub, Array.replicate_succ, Array.replicate_zero, List.push_toArray, List.append_toArray, List.nil_append, List.cons_append]
  refine wpIn_wide.2 ?_
  go_wp2_with fail
  rw [← hV]
  clear hV
  refine (DgB.lives11_any _).mono ?_
  rintro e w1 ⟨rfl, b1⟩
  have HB1 := Lib.hid b1
  clear b1
  go_wp2_with fail
  obtain ⟨k, hk⟩ : ∃ k, k = 2 + n % 39 := ⟨_, rfl⟩
  have hkx : (2 + (n : Int) % 39) = (k : Int) := by omega
  rw [hkx]
  have HK := Lib.hid (show 2 ≤ k ∧ k ≤ 40 by omega)
  clear hk hkx
  refine (new_any _).mono ?_
  rintro e w2 ⟨rfl, q2, b2⟩
  have l2 : Lv w1 w1.heap.size (fun k => k = w1.heap.size) w2 [] (fun _ _ => false) := ⟨b2, fun k hk => by omega, q2⟩
  obtain ⟨gb, hgb⟩ : ∃ gb, gb = w1.heap.size := ⟨_, rfl⟩
  have HG := Lib.hid hgb
  have H2 := Lib.hid (show Lv w1 gb (fun k => k = w1.heap.size) w2 [] (fun _ _ => false) by rw [hgb]; exact l2)
  rw [← hgb]
  clear q2 b2 l2 hgb
  go_wp2_with fail
  go_loopw [24] (fun i wr => ∃ j : Nat, i = .int .i64 (j : Int) ∧ j ≤ k ∧ ∃ S ns E, Lv w1 gb S wr ns E ∧ Ch ns E j) (fun i _ => k - (RowKit.intOf i).toNat)
  case atStart => exact ⟨0, rfl, Nat.zero_le _, _, _, _, H2.out, Ch.nil⟩
  case round =>
    obtain ⟨j, rfl, hj, S, ns, E, hl, hc⟩ := hrel
    by_cases hlt : j < k
    · have hltx : (j : Int) < (k : Int) := by omega
      by_cases h0 : j = 0
      · subst h0
        have hadd := hl.first hc
        clear hl hc hj
        unfold kv at hadd
        go_wp2_with fail
        refine hadd.mono ?_
        rintro e w3 ⟨rfl, S3, ns3, E3, l3, c3⟩
        have H3 := Lib.hid (And.intro l3 c3)
        clear l3 c3 hadd
        go_wp2_with fail
        go_roundw
        case rel => exact ⟨1, by simp, hlt, _, _, _, H3.out.1, H3.out.2⟩
        case measure => simp [RowKit.intOf]; omega
      · have hpos : (j : Int) > 0 := by omega
        have hadd := hl.next hc (by omega) (by have := HK.out; omega)
        obtain ⟨m, hm⟩ : ∃ m, m = j - 1 := ⟨_, rfl⟩
        have hmx : (j : Int) - 1 = (m : Int) := by omega
        rw [← hm] at hadd
        have HJ := Lib.hid (And.intro hlt hm)
        clear hl hc hj hm h0 hlt
        unfold kv at hadd
        have hj40 : j ≤ 40 := by have := HK.out; have := HJ.out.1; omega
        go_wp2_with fail
        refine hadd.mono ?_
        rintro e w3 ⟨rfl, S3, ns3, E3, l3, c3⟩
        have H3 := Lib.hid (And.intro l3 c3)
        clear l3 c3 hadd
        go_wp2_with fail
        go_roundw
        case rel => exact ⟨j + 1, by simp, HJ.out.1, _, _, _, H3.out.1, H3.out.2⟩
        case measure => have := HJ.out.1; simp [RowKit.intOf]; omega
    · have hje : j = k := by omega
      subst hje
      have HL := Lib.hid (And.intro hl hc)
      clear hl hc hj hlt
      go_wp2_with fail
      obtain ⟨x, hx⟩ : ∃ x, x = a % j := ⟨_, rfl⟩
      obtain ⟨y, hy⟩ : ∃ y, y = b % j := ⟨_, rfl⟩
      have hj0 : ¬ (j : Int) = 0 := by have := HK.out; omega
      have hax : ((a : Nat) : Int).tmod (j : Int) = (x : Int) := by rw [hx]; rfl
      have hby : ((b : Nat) : Int).tmod (j : Int) = (y : Int) := by rw [hy]; rfl
      have HX := Lib.hid (show x < j ∧ y < j from ⟨by rw [hx]; exact Nat.mod_lt _ (by have := HK.out; omega), by rw [hy]; exact Nat.mod_lt _ (by have := HK.out; omega)⟩)
      clear hx hy
      go_quiet (fail)
      have hxy : x ≤ 40 ∧ y ≤ 40 := by have := HX.out; have := HK.out; omega
      obtain ⟨hx40, hy40⟩ := hxy
      obtain ⟨U, hU⟩ : ∃ U, U = wr.drewN nq := ⟨_, rfl⟩
      have bU : Below wr.heap.size wr U := by rw [hU]; exact below_drewN (Below.refl _ wr) nq
      rw [← hU]
      clear hU
      have lU := HL.out.1.below bU
      obtain ⟨mv, nb, ob, ub, q⟩ := (lU.below (below_new U (.cells #[.int .i64 0] 3))).q
      obtain ⟨M, rfl⟩ : ∃ M, mv = some M := by
        rcases q.map with ⟨_, e⟩ | ⟨M, e, _⟩
        · have h1 : ci 0 ∈ ns := (HL.out.2.mem _).2 ⟨0, by have := HK.out; omega, rfl⟩
          rw [e] at h1; simp at h1
        · exact ⟨M, e⟩
      have hord := order_any q HL.out.2 (by have := HK.out; omega) (by have := HK.out; omega)
      have hYs := Lib.hid (And.intro lU q)
      clear bU lU q
      have h3 : (x ≤ y ∧ want x y = 9) ∨ ((¬ x ≤ y ∧ x = y + 1) ∧ want x y = 8) ∨ ((¬ x ≤ y ∧ ¬ x = y + 1) ∧ want x y = 0) := by
        unfold want
        by_cases h1 : x ≤ y
        · exact .inl ⟨h1, if_pos h1⟩
        · by_cases h2 : x = y + 1
          · exact .inr (.inl ⟨⟨h1, h2⟩, by rw [if_neg h1, if_pos h2]⟩)
          · exact .inr (.inr ⟨⟨h1, h2⟩, by rw [if_neg h1, if_neg h2]⟩)
      rcases h3 with ⟨h1, hw⟩ | ⟨⟨h1, h2⟩, hw⟩ | ⟨⟨h1, h2⟩, hw⟩
      · have hc1 : (x : Int) ≤ (y : Int) := by omega
        have HW := Lib.hid hw
        clear hw h1
        go_wp2_with fail
        refine hord.mono ?_
        rintro e W ⟨v, rfl, cW, oW, bW⟩
        have HW2 := Lib.hid (And.intro cW (And.intro oW bW))
        clear cW oW bW hord
        go_wp2_with fail
        refine (wpIn_wide (n := 5)).1 ?_
        gi_wp2_with fail
        obtain ⟨cW, oW, bW⟩ := HW2.out
        have hzA : (U.alloc (.cells #[.int .i64 0] 3)).heap.size = U.heap.size + 1 := by simp
        have hcC : W.heap[U.heap.size]? = some (.cells #[.int .i64 (-1 + 1)] 3 (0, 0)) := (bW.block _ (by omega)).trans (MapKept.heap_alloc U (.cells #[.int .i64 0] 3)).1
        have hlt := bW.size
        have hit := ord_iter (5 - 1) _ _ j W cW oW (by have := HK.out; omega)
        have hol := fun t (ht : v.ownBlock = some t) => (oW.lt t ht).1
        rw [hzA] at hlt hit hol
        have HZ := Lib.hid (And.intro hlt hol)
        clear cW oW bW
        refine range_int (own := fun t => t = U.heap.size) (box := fun t => t = U.heap.size + 1 ∨ v.ownBlock = some t) (x0 := -1) (G := fun x y => y = x + 1 ∧ y < (j : Int)) (S := fun x => x + 1 = (j : Int)) rfl (by omega) (gf := 18) (lb := #[.pointer (some ⟨U.heap.size + 1, 0, none⟩)]) rfl trivial (enters_of Try.func18 (by kernel_rfl) rfl)
          hit (fun t ht => ⟨fun h => ?hb, by subst ht; omega⟩) rfl
          (fun x A => A.heap[U.heap.size]? = some (.cells #[.int .i64 (x + 1)] 3 (0, 0)) ∧ -1 ≤ x ∧ BelowO (fun t => t = U.heap.size) W A) (fun _ _ _ => False)
          (fun x A A' h hc => ⟨(hc.block _ (by omega)).trans h.1, h.2.1, moreO h.2.2 hc (Nat.le_refl _)⟩) (fun _ _ _ _ h _ => h) ⟨hcC, by omega, BelowO.of (Below.refl _ _)⟩ ?hround ?hdone (fun _ _ _ _ _ h _ => h.elim)
        case hb =>
          rcases h with h | h
          · omega
          · have := hol t h; omega
        case hround =>
          rintro l x' y' A hlB ⟨rr, hlr⟩ hzA' hI hG
          have HG2 := Lib.hid hG
          clear hI hlr hol hit hcC hlt hzA hG
          gi_wp2_with fail
          refine ⟨Below.refl _ _, ?_⟩
          intro A2 hbut _ hI
          obtain ⟨h1, h2⟩ := HG2.out
          have hx := hI.1
          rw [← h1] at hx
          obtain ⟨k1, f1⟩ := oneC hx
          have hj40 : j ≤ 40 := HK.out.2
          have h3 : -1 ≤ x' := hI.2.1
          have h4 : 0 ≤ y' := by omega
          have HI := Lib.hid (And.intro hI (And.intro hx h1))
          clear hI hx h1 hbut hzA' hlB
          gi_wp2_with fail
          have e1 : (A2.setCell ⟨U.heap.size, 0, none⟩ (.int .i64 (y' + 1))).heap[U.heap.size]? = some (.cells #[.int .i64 (y' + 1)] 3 (0, 0)) := (Lib.heap_setCell_same (i := 0) HI.out.2.1 _).trans rfl
          have e2 := BelowO.set (p := ⟨U.heap.size, 0, none⟩) (own := fun t => t = U.heap.size) (BelowO.of (Below.refl _ A2)) rfl (.int .i64 (y' + 1))
          exact ⟨e2, e1, by omega, HI.out.1.2.2.trans e2⟩
        case hdone =>
          intro D x' X hD hS hI hK
          dsimp only
          clear hit hcC hlt hzA hol
          obtain ⟨hI1, hI2, hI3⟩ := hI
          rw [hS] at hI1
          have bX : Below U.heap.size U X := ((below_new U (.cells #[.int .i64 0] 3)).trans (HW2.out.2.2.mono (by simp))).trans (hI3.below (Nat.le_of_succ_le HZ.out.1) (fun k hk => by rw [hk]; exact Nat.le_refl _))
          have lX := hYs.out.1.below bX
          have rX : X.heap[w.heap.size]? = some (.cells #[.bool false] 4 (0, 0)) := by
            have h1 := (Array.getElem?_eq_some_iff.1 HV.out.2).1
            exact (lX.b.block _ (by have := HB1.out.size; omega)).trans ((HB1.out.block _ h1).trans HV.out.2)
          obtain ⟨k1, f1⟩ := oneC hI1
          obtain ⟨k2, f2⟩ := oneC rX
          have hlen : ns.length = j := by obtain ⟨_, _, _, _, q⟩ := lX.q; exact HL.out.2.len q.nd
          have hlink := (link_any lX.q.choose_spec.choose_spec.choose_spec.choose_spec (x : Int) (y : Int) ((HL.out.2.mem _).2 ⟨x, HX.out.1, rfl⟩) ((HL.out.2.mem _).2 ⟨y, HX.out.2, rfl⟩) (by have := HK.out; omega)).mono (R' := fun e w' => e = .returned (.int .i64 (want x y)) ∧ ∃ E', Lv w1 gb S w' ns E' ∧ Up j E E' ∧ Fr S X w') (by
            rintro e w' ⟨n, rfl, hl⟩
            obtain ⟨rfl, E', q', f', u'⟩ := HL.out.2.link HX.out.1 HX.out.2 hl
            exact ⟨rfl, E', lX.step ⟨_, _, _, _, q'⟩ f' (fun k hk => .inl hk), u', f'⟩)
          have hSD : ¬ S D := fun e => by
            obtain ⟨_, _, _, _, q⟩ := hYs.out.1.q
            have := q.size D e
            have := HZ.out.1
            omega
          have hSC : ¬ S U.heap.size := fun e => by
            obtain ⟨_, _, _, _, q⟩ := hYs.out.1.q
            have := q.size _ e
            omega
          have hSR : ¬ S w.heap.size := fun e => by
            have := hYs.out.1.own _ e
            have := (Array.getElem?_eq_some_iff.1 HV.out.2).1
            have := HB1.out.size
            omega
          have HWD := Lib.hid (show w.heap.size ≤ D by have := hYs.out.1.b.size; have := HB1.out.size; have := HV.out.1.size; have := HZ.out.1; omega)
          have HX2 := Lib.hid (And.intro lX (And.intro rX (And.intro hlen (And.intro hK (And.intro hSD (And.intro hSR (And.intro hI1 hSC)))))))
          clear hI1 hI2 hI3 bX lX rX hD hK hS hlen hSD hSR hSC
          unfold kv at hlink
          rw [HW.out] at hlink
          gi_wp2_with fail
          go_wp2_with fail
          refine hlink.mono ?_
          rintro e X2 ⟨rfl, E2, l2, u2, f2'⟩
          have hall := all_any l2.q.choose_spec.choose_spec.choose_spec.choose_spec 0 ((HL.out.2.mem _).2 ⟨0, by have := HK.out; omega, rfl⟩) (by have := HX2.out.2.2.1; have := HK.out; omega) (tops j) (tops_nodup j) (HL.out.2.all u2) (by rw [tops_len]; have := HK.out; omega)
          rw [tops_len] at hall
          have hj1 : ((j - 1 : Nat) : Int) = (j : Int) - 1 := by have := HK.out; omega
          unfold kv at hall
          have H3 := Lib.hid (And.intro l2 (And.intro u2 f2'))
          clear l2 u2 f2' hlink k1 f1 k2 f2
          go_wp2_with fail
          refine hall.mono ?_
          rintro e X3 ⟨⟨a3, c3, rfl⟩, b3⟩
          have H4 := Lib.hid b3
          clear b3 hall
          have hj40 : j ≤ 40 := HK.out.2
          have rX3 : X3.heap[w.heap.size]? = some (.cells #[.bool false] 4 (0, 0)) := (H4.out.block _ (Nat.lt_of_lt_of_le (Array.getElem?_eq_some_iff.1 HX2.out.2.1).1 H3.out.2.2.size)).trans ((H3.out.2.2.block _ (Array.getElem?_eq_some_iff.1 HX2.out.2.1).1 HX2.out.2.2.2.2.2.1).trans HX2.out.2.1)
          have dX3 : X3.heap[D]? = some (.deferred (some [])) := (H4.out.block _ (Nat.lt_of_lt_of_le (Array.getElem?_eq_some_iff.1 HX2.out.2.2.2.1).1 H3.out.2.2.size)).trans ((H3.out.2.2.block _ (Array.getElem?_eq_some_iff.1 HX2.out.2.2.2.1).1 HX2.out.2.2.2.2.1).trans HX2.out.2.2.2.1)
          have cX3 : X3.heap[U.heap.size]? = some (.cells #[.int .i64 (j : Int)] 3 (0, 0)) := (H4.out.block _ (Nat.lt_of_lt_of_le (Array.getElem?_eq_some_iff.1 HX2.out.2.2.2.2.2.2.1).1 H3.out.2.2.size)).trans ((H3.out.2.2.block _ (Array.getElem?_eq_some_iff.1 HX2.out.2.2.2.2.2.2.1).1 HX2.out.2.2.2.2.2.2.2).trans HX2.out.2.2.2.2.2.2.1)
          obtain ⟨k3, f3⟩ := oneC rX3
          obtain ⟨k4, f4⟩ := oneC cX3
          have H5 := Lib.hid (And.intro rX3 dX3)
          clear rX3 dX3 cX3
          go_wp2_with fail
          obtain ⟨rX3, dX3⟩ := H5.out
          have hwD := HWD.out
          have hne : D ≠ w.heap.size := fun e => by rw [e, rX3] at dX3; cases dX3
          have d9 : (X3.setCell ⟨w.heap.size, 0, none⟩ (.bool true)).heap[D]? = some (.deferred (some [])) := (heap_setCell_other _ _ _ _ hne).trans dX3
          have c9 : (X3.setCell ⟨w.heap.size, 0, none⟩ (.bool true)).cell? ⟨w.heap.size, 0, none⟩ = some (.bool true) := (oneC ((Lib.heap_setCell_same (i := 0) rX3 (.bool true)).trans rfl)).1
          have b9 : Below w.heap.size w X3 := ((HV.out.1.trans (HB1.out.mono HV.out.1.size)).trans (H3.out.1.b.mono (Nat.le_trans HV.out.1.size HB1.out.size))).trans (H4.out.mono (Nat.le_trans (Nat.le_trans HV.out.1.size HB1.out.size) H3.out.1.b.size))
          exact leaveC rfl rfl rfl d9 c9 fun X' hbut => ⟨rfl, (b9.setCell (Nat.le_refl _) _).trans (hbut.below hwD)⟩
      · have hc1 : ¬ (x : Int) ≤ (y : Int) := by omega
        have hc2 : (x : Int) = (y : Int) + 1 := by omega
        have HW := Lib.hid hw
        clear hw h1 h2
        go_wp2_with fail
        rw [← hc2]
        clear hc2
        refine hord.mono ?_
        rintro e W ⟨v, rfl, cW, oW, bW⟩
        have HW2 := Lib.hid (And.intro cW (And.intro oW bW))
        clear cW oW bW hord
        go_wp2_with fail
        refine (wpIn_wide (n := 5)).1 ?_
        gi_wp2_with fail
        obtain ⟨cW, oW, bW⟩ := HW2.out
        have hzA : (U.alloc (.cells #[.int .i64 0] 3)).heap.size = U.heap.size + 1 := by simp
        have hcC : W.heap[U.heap.size]? = some (.cells #[.int .i64 (-1 + 1)] 3 (0, 0)) := (bW.block _ (by omega)).trans (MapKept.heap_alloc U (.cells #[.int .i64 0] 3)).1
        have hlt := bW.size
        have hit := ord_iter (5 - 1) _ _ j W cW oW (by have := HK.out; omega)
        have hol := fun t (ht : v.ownBlock = some t) => (oW.lt t ht).1
        rw [hzA] at hlt hit hol
        have HZ := Lib.hid (And.intro hlt hol)
        clear cW oW bW
        refine range_int (own := fun t => t = U.heap.size) (box := fun t => t = U.heap.size + 1 ∨ v.ownBlock = some t) (x0 := -1) (G := fun x y => y = x + 1 ∧ y < (j : Int)) (S := fun x => x + 1 = (j : Int)) rfl (by omega) (gf := 18) (lb := #[.pointer (some ⟨U.heap.size + 1, 0, none⟩)]) rfl trivial (enters_of Try.func18 (by kernel_rfl) rfl)
          hit (fun t ht => ⟨fun h => ?hb, by subst ht; omega⟩) rfl
          (fun x A => A.heap[U.heap.size]? = some (.cells #[.int .i64 (x + 1)] 3 (0, 0)) ∧ -1 ≤ x ∧ BelowO (fun t => t = U.heap.size) W A) (fun _ _ _ => False)
          (fun x A A' h hc => ⟨(hc.block _ (by omega)).trans h.1, h.2.1, moreO h.2.2 hc (Nat.le_refl _)⟩) (fun _ _ _ _ h _ => h) ⟨hcC, by omega, BelowO.of (Below.refl _ _)⟩ ?hround ?hdone (fun _ _ _ _ _ h _ => h.elim)
        case hb =>
          rcases h with h | h
          · omega
          · have := hol t h; omega
        case hround =>
          rintro l x' y' A hlB ⟨rr, hlr⟩ hzA' hI hG
          have HG2 := Lib.hid hG
          clear hI hlr hol hit hcC hlt hzA hG
          gi_wp2_with fail
          refine ⟨Below.refl _ _, ?_⟩
          intro A2 hbut _ hI
          obtain ⟨h1, h2⟩ := HG2.out
          have hx := hI.1
          rw [← h1] at hx
          obtain ⟨k1, f1⟩ := oneC hx
          have hj40 : j ≤ 40 := HK.out.2
          have h3 : -1 ≤ x' := hI.2.1
          have h4 : 0 ≤ y' := by omega
          have HI := Lib.hid (And.intro hI (And.intro hx h1))
          clear hI hx h1 hbut hzA' hlB
          gi_wp2_with fail
          have e1 : (A2.setCell ⟨U.heap.size, 0, none⟩ (.int .i64 (y' + 1))).heap[U.heap.size]? = some (.cells #[.int .i64 (y' + 1)] 3 (0, 0)) := (Lib.heap_setCell_same (i := 0) HI.out.2.1 _).trans rfl
          have e2 := BelowO.set (p := ⟨U.heap.size, 0, none⟩) (own := fun t => t = U.heap.size) (BelowO.of (Below.refl _ A2)) rfl (.int .i64 (y' + 1))
          exact ⟨e2, e1, by omega, HI.out.1.2.2.trans e2⟩
        case hdone =>
          intro D x' X hD hS hI hK
          dsimp only
          clear hit hcC hlt hzA hol
          obtain ⟨hI1, hI2, hI3⟩ := hI
          rw [hS] at hI1
          have bX : Below U.heap.size U X := ((below_new U (.cells #[.int .i64 0] 3)).trans (HW2.out.2.2.mono (by simp))).trans (hI3.below (Nat.le_of_succ_le HZ.out.1) (fun k hk => by rw [hk]; exact Nat.le_refl _))
          have lX := hYs.out.1.below bX
          have rX : X.heap[w.heap.size]? = some (.cells #[.bool false] 4 (0, 0)) := by
            have h1 := (Array.getElem?_eq_some_iff.1 HV.out.2).1
            exact (lX.b.block _ (by have := HB1.out.size; omega)).trans ((HB1.out.block _ h1).trans HV.out.2)
          obtain ⟨k1, f1⟩ := oneC hI1
          obtain ⟨k2, f2⟩ := oneC rX
          have hlen : ns.length = j := by obtain ⟨_, _, _, _, q⟩ := lX.q; exact HL.out.2.len q.nd
          have hlink := (link_any lX.q.choose_spec.choose_spec.choose_spec.choose_spec (x : Int) (y : Int) ((HL.out.2.mem _).2 ⟨x, HX.out.1, rfl⟩) ((HL.out.2.mem _).2 ⟨y, HX.out.2, rfl⟩) (by have := HK.out; omega)).mono (R' := fun e w' => e = .returned (.int .i64 (want x y)) ∧ ∃ E', Lv w1 gb S w' ns E' ∧ Up j E E' ∧ Fr S X w') (by
            rintro e w' ⟨n, rfl, hl⟩
            obtain ⟨rfl, E', q', f', u'⟩ := HL.out.2.link HX.out.1 HX.out.2 hl
            exact ⟨rfl, E', lX.step ⟨_, _, _, _, q'⟩ f' (fun k hk => .inl hk), u', f'⟩)
          have hSD : ¬ S D := fun e => by
            obtain ⟨_, _, _, _, q⟩ := hYs.out.1.q
            have := q.size D e
            have := HZ.out.1
            omega
          have hSC : ¬ S U.heap.size := fun e => by
            obtain ⟨_, _, _, _, q⟩ := hYs.out.1.q
            have := q.size _ e
            omega
          have hSR : ¬ S w.heap.size := fun e => by
            have := hYs.out.1.own _ e
            have := (Array.getElem?_eq_some_iff.1 HV.out.2).1
            have := HB1.out.size
            omega
          have HWD := Lib.hid (show w.heap.size ≤ D by have := hYs.out.1.b.size; have := HB1.out.size; have := HV.out.1.size; have := HZ.out.1; omega)
          have HX2 := Lib.hid (And.intro lX (And.intro rX (And.intro hlen (And.intro hK (And.intro hSD (And.intro hSR (And.intro hI1 hSC)))))))
          clear hI1 hI2 hI3 bX lX rX hD hK hS hlen hSD hSR hSC
          unfold kv at hlink
          rw [HW.out] at hlink
          gi_wp2_with fail
          go_wp2_with fail
          refine hlink.mono ?_
          rintro e X2 ⟨rfl, E2, l2, u2, f2'⟩
          have hall := all_any l2.q.choose_spec.choose_spec.choose_spec.choose_spec 0 ((HL.out.2.mem _).2 ⟨0, by have := HK.out; omega, rfl⟩) (by have := HX2.out.2.2.1; have := HK.out; omega) (tops j) (tops_nodup j) (HL.out.2.all u2) (by rw [tops_len]; have := HK.out; omega)
          rw [tops_len] at hall
          have hj1 : ((j - 1 : Nat) : Int) = (j : Int) - 1 := by have := HK.out; omega
          unfold kv at hall
          have H3 := Lib.hid (And.intro l2 (And.intro u2 f2'))
          clear l2 u2 f2' hlink k1 f1 k2 f2
          go_wp2_with fail
          refine hall.mono ?_
          rintro e X3 ⟨⟨a3, c3, rfl⟩, b3⟩
          have H4 := Lib.hid b3
          clear b3 hall
          have hj40 : j ≤ 40 := HK.out.2
          have rX3 : X3.heap[w.heap.size]? = some (.cells #[.bool false] 4 (0, 0)) := (H4.out.block _ (Nat.lt_of_lt_of_le (Array.getElem?_eq_some_iff.1 HX2.out.2.1).1 H3.out.2.2.size)).trans ((H3.out.2.2.block _ (Array.getElem?_eq_some_iff.1 HX2.out.2.1).1 HX2.out.2.2.2.2.2.1).trans HX2.out.2.1)
          have dX3 : X3.heap[D]? = some (.deferred (some [])) := (H4.out.block _ (Nat.lt_of_lt_of_le (Array.getElem?_eq_some_iff.1 HX2.out.2.2.2.1).1 H3.out.2.2.size)).trans ((H3.out.2.2.block _ (Array.getElem?_eq_some_iff.1 HX2.out.2.2.2.1).1 HX2.out.2.2.2.2.1).trans HX2.out.2.2.2.1)
          have cX3 : X3.heap[U.heap.size]? = some (.cells #[.int .i64 (j : Int)] 3 (0, 0)) := (H4.out.block _ (Nat.lt_of_lt_of_le (Array.getElem?_eq_some_iff.1 HX2.out.2.2.2.2.2.2.1).1 H3.out.2.2.size)).trans ((H3.out.2.2.block _ (Array.getElem?_eq_some_iff.1 HX2.out.2.2.2.2.2.2.1).1 HX2.out.2.2.2.2.2.2.2).trans HX2.out.2.2.2.2.2.2.1)
          obtain ⟨k3, f3⟩ := oneC rX3
          obtain ⟨k4, f4⟩ := oneC cX3
          have H5 := Lib.hid (And.intro rX3 dX3)
          clear rX3 dX3 cX3
          go_wp2_with fail
          obtain ⟨rX3, dX3⟩ := H5.out
          have hwD := HWD.out
          have hne : D ≠ w.heap.size := fun e => by rw [e, rX3] at dX3; cases dX3
          have d9 : (X3.setCell ⟨w.heap.size, 0, none⟩ (.bool true)).heap[D]? = some (.deferred (some [])) := (heap_setCell_other _ _ _ _ hne).trans dX3
          have c9 : (X3.setCell ⟨w.heap.size, 0, none⟩ (.bool true)).cell? ⟨w.heap.size, 0, none⟩ = some (.bool true) := (oneC ((Lib.heap_setCell_same (i := 0) rX3 (.bool true)).trans rfl)).1
          have b9 : Below w.heap.size w X3 := ((HV.out.1.trans (HB1.out.mono HV.out.1.size)).trans (H3.out.1.b.mono (Nat.le_trans HV.out.1.size HB1.out.size))).trans (H4.out.mono (Nat.le_trans (Nat.le_trans HV.out.1.size HB1.out.size) H3.out.1.b.size))
          exact leaveC rfl rfl rfl d9 c9 fun X' hbut => ⟨rfl, (b9.setCell (Nat.le_refl _) _).trans (hbut.below hwD)⟩
      · have hc1 : ¬ (x : Int) ≤ (y : Int) := by omega
        have hc2 : ¬ (x : Int) = (y : Int) + 1 := by omega
        have HW := Lib.hid hw
        clear hw h1 h2
        go_wp2_with fail
        refine hord.mono ?_
        rintro e W ⟨v, rfl, cW, oW, bW⟩
        have HW2 := Lib.hid (And.intro cW (And.intro oW bW))
        clear cW oW bW hord
        go_wp2_with fail
        refine (wpIn_wide (n := 5)).1 ?_
        gi_wp2_with fail
        obtain ⟨cW, oW, bW⟩ := HW2.out
        have hzA : (U.alloc (.cells #[.int .i64 0] 3)).heap.size = U.heap.size + 1 := by simp
        have hcC : W.heap[U.heap.size]? = some (.cells #[.int .i64 (-1 + 1)] 3 (0, 0)) := (bW.block _ (by omega)).trans (MapKept.heap_alloc U (.cells #[.int .i64 0] 3)).1
        have hlt := bW.size
        have hit := ord_iter (5 - 1) _ _ j W cW oW (by have := HK.out; omega)
        have hol := fun t (ht : v.ownBlock = some t) => (oW.lt t ht).1
        rw [hzA] at hlt hit hol
        have HZ := Lib.hid (And.intro hlt hol)
        clear cW oW bW
        refine range_int (own := fun t => t = U.heap.size) (box := fun t => t = U.heap.size + 1 ∨ v.ownBlock = some t) (x0 := -1) (G := fun x y => y = x + 1 ∧ y < (j : Int)) (S := fun x => x + 1 = (j : Int)) rfl (by omega) (gf := 18) (lb := #[.pointer (some ⟨U.heap.size + 1, 0, none⟩)]) rfl trivial (enters_of Try.func18 (by kernel_rfl) rfl)
          hit (fun t ht => ⟨fun h => ?hb, by subst ht; omega⟩) rfl
          (fun x A => A.heap[U.heap.size]? = some (.cells #[.int .i64 (x + 1)] 3 (0, 0)) ∧ -1 ≤ x ∧ BelowO (fun t => t = U.heap.size) W A) (fun _ _ _ => False)
          (fun x A A' h hc => ⟨(hc.block _ (by omega)).trans h.1, h.2.1, moreO h.2.2 hc (Nat.le_refl _)⟩) (fun _ _ _ _ h _ => h) ⟨hcC, by omega, BelowO.of (Below.refl _ _)⟩ ?hround ?hdone (fun _ _ _ _ _ h _ => h.elim)
        case hb =>
          rcases h with h | h
          · omega
          · have := hol t h; omega
        case hround =>
          rintro l x' y' A hlB ⟨rr, hlr⟩ hzA' hI hG
          have HG2 := Lib.hid hG
          clear hI hlr hol hit hcC hlt hzA hG
          gi_wp2_with fail
          refine ⟨Below.refl _ _, ?_⟩
          intro A2 hbut _ hI
          obtain ⟨h1, h2⟩ := HG2.out
          have hx := hI.1
          rw [← h1] at hx
          obtain ⟨k1, f1⟩ := oneC hx
          have hj40 : j ≤ 40 := HK.out.2
          have h3 : -1 ≤ x' := hI.2.1
          have h4 : 0 ≤ y' := by omega
          have HI := Lib.hid (And.intro hI (And.intro hx h1))
          clear hI hx h1 hbut hzA' hlB
          gi_wp2_with fail
          have e1 : (A2.setCell ⟨U.heap.size, 0, none⟩ (.int .i64 (y' + 1))).heap[U.heap.size]? = some (.cells #[.int .i64 (y' + 1)] 3 (0, 0)) := (Lib.heap_setCell_same (i := 0) HI.out.2.1 _).trans rfl
          have e2 := BelowO.set (p := ⟨U.heap.size, 0, none⟩) (own := fun t => t = U.heap.size) (BelowO.of (Below.refl _ A2)) rfl (.int .i64 (y' + 1))
          exact ⟨e2, e1, by omega, HI.out.1.2.2.trans e2⟩
        case hdone =>
          intro D x' X hD hS hI hK
          dsimp only
          clear hit hcC hlt hzA hol
          obtain ⟨hI1, hI2, hI3⟩ := hI
          rw [hS] at hI1
          have bX : Below U.heap.size U X := ((below_new U (.cells #[.int .i64 0] 3)).trans (HW2.out.2.2.mono (by simp))).trans (hI3.below (Nat.le_of_succ_le HZ.out.1) (fun k hk => by rw [hk]; exact Nat.le_refl _))
          have lX := hYs.out.1.below bX
          have rX : X.heap[w.heap.size]? = some (.cells #[.bool false] 4 (0, 0)) := by
            have h1 := (Array.getElem?_eq_some_iff.1 HV.out.2).1
            exact (lX.b.block _ (by have := HB1.out.size; omega)).trans ((HB1.out.block _ h1).trans HV.out.2)
          obtain ⟨k1, f1⟩ := oneC hI1
          obtain ⟨k2, f2⟩ := oneC rX
          have hlen : ns.length = j := by obtain ⟨_, _, _, _, q⟩ := lX.q; exact HL.out.2.len q.nd
          have hlink := (link_any lX.q.choose_spec.choose_spec.choose_spec.choose_spec (x : Int) (y : Int) ((HL.out.2.mem _).2 ⟨x, HX.out.1, rfl⟩) ((HL.out.2.mem _).2 ⟨y, HX.out.2, rfl⟩) (by have := HK.out; omega)).mono (R' := fun e w' => e = .returned (.int .i64 (want x y)) ∧ ∃ E', Lv w1 gb S w' ns E' ∧ Up j E E' ∧ Fr S X w') (by
            rintro e w' ⟨n, rfl, hl⟩
            obtain ⟨rfl, E', q', f', u'⟩ := HL.out.2.link HX.out.1 HX.out.2 hl
            exact ⟨rfl, E', lX.step ⟨_, _, _, _, q'⟩ f' (fun k hk => .inl hk), u', f'⟩)
          have hSD : ¬ S D := fun e => by
            obtain ⟨_, _, _, _, q⟩ := hYs.out.1.q
            have := q.size D e
            have := HZ.out.1
            omega
          have hSC : ¬ S U.heap.size := fun e => by
            obtain ⟨_, _, _, _, q⟩ := hYs.out.1.q
            have := q.size _ e
            omega
          have hSR : ¬ S w.heap.size := fun e => by
            have := hYs.out.1.own _ e
            have := (Array.getElem?_eq_some_iff.1 HV.out.2).1
            have := HB1.out.size
            omega
          have HWD := Lib.hid (show w.heap.size ≤ D by have := hYs.out.1.b.size; have := HB1.out.size; have := HV.out.1.size; have := HZ.out.1; omega)
          have HX2 := Lib.hid (And.intro lX (And.intro rX (And.intro hlen (And.intro hK (And.intro hSD (And.intro hSR (And.intro hI1 hSC)))))))
          clear hI1 hI2 hI3 bX lX rX hD hK hS hlen hSD hSR hSC
          unfold kv at hlink
          rw [HW.out] at hlink
          gi_wp2_with fail
          go_wp2_with fail
          refine hlink.mono ?_
          rintro e X2 ⟨rfl, E2, l2, u2, f2'⟩
          have hall := all_any l2.q.choose_spec.choose_spec.choose_spec.choose_spec 0 ((HL.out.2.mem _).2 ⟨0, by have := HK.out; omega, rfl⟩) (by have := HX2.out.2.2.1; have := HK.out; omega) (tops j) (tops_nodup j) (HL.out.2.all u2) (by rw [tops_len]; have := HK.out; omega)
          rw [tops_len] at hall
          have hj1 : ((j - 1 : Nat) : Int) = (j : Int) - 1 := by have := HK.out; omega
          unfold kv at hall
          have H3 := Lib.hid (And.intro l2 (And.intro u2 f2'))
          clear l2 u2 f2' hlink k1 f1 k2 f2
          go_wp2_with fail
          refine hall.mono ?_
          rintro e X3 ⟨⟨a3, c3, rfl⟩, b3⟩
          have H4 := Lib.hid b3
          clear b3 hall
          have hj40 : j ≤ 40 := HK.out.2
          have rX3 : X3.heap[w.heap.size]? = some (.cells #[.bool false] 4 (0, 0)) := (H4.out.block _ (Nat.lt_of_lt_of_le (Array.getElem?_eq_some_iff.1 HX2.out.2.1).1 H3.out.2.2.size)).trans ((H3.out.2.2.block _ (Array.getElem?_eq_some_iff.1 HX2.out.2.1).1 HX2.out.2.2.2.2.2.1).trans HX2.out.2.1)
          have dX3 : X3.heap[D]? = some (.deferred (some [])) := (H4.out.block _ (Nat.lt_of_lt_of_le (Array.getElem?_eq_some_iff.1 HX2.out.2.2.2.1).1 H3.out.2.2.size)).trans ((H3.out.2.2.block _ (Array.getElem?_eq_some_iff.1 HX2.out.2.2.2.1).1 HX2.out.2.2.2.2.1).trans HX2.out.2.2.2.1)
          have cX3 : X3.heap[U.heap.size]? = some (.cells #[.int .i64 (j : Int)] 3 (0, 0)) := (H4.out.block _ (Nat.lt_of_lt_of_le (Array.getElem?_eq_some_iff.1 HX2.out.2.2.2.2.2.2.1).1 H3.out.2.2.size)).trans ((H3.out.2.2.block _ (Array.getElem?_eq_some_iff.1 HX2.out.2.2.2.2.2.2.1).1 HX2.out.2.2.2.2.2.2.2).trans HX2.out.2.2.2.2.2.2.1)
          obtain ⟨k3, f3⟩ := oneC rX3
          obtain ⟨k4, f4⟩ := oneC cX3
          have H5 := Lib.hid (And.intro rX3 dX3)
          clear rX3 dX3 cX3
          go_wp2_with fail
          obtain ⟨rX3, dX3⟩ := H5.out
          have hwD := HWD.out
          have hne : D ≠ w.heap.size := fun e => by rw [e, rX3] at dX3; cases dX3
          have d9 : (X3.setCell ⟨w.heap.size, 0, none⟩ (.bool true)).heap[D]? = some (.deferred (some [])) := (heap_setCell_other _ _ _ _ hne).trans dX3
          have c9 : (X3.setCell ⟨w.heap.size, 0, none⟩ (.bool true)).cell? ⟨w.heap.size, 0, none⟩ = some (.bool true) := (oneC ((Lib.heap_setCell_same (i := 0) rX3 (.bool true)).trans rfl)).1
          have b9 : Below w.heap.size w X3 := ((HV.out.1.trans (HB1.out.mono HV.out.1.size)).trans (H3.out.1.b.mono (Nat.le_trans HV.out.1.size HB1.out.size))).trans (H4.out.mono (Nat.le_trans (Nat.le_trans HV.out.1.size HB1.out.size) H3.out.1.b.size))
          exact leaveC rfl rfl rfl d9 c9 fun X' hbut => ⟨rfl, (b9.setCell (Nat.le_refl _) _).trans (hbut.below hwD)⟩
end Go.Proofs.Ytmlmacplkfnhkaa.DgA
