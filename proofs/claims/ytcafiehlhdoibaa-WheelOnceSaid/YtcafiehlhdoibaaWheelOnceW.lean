
/- WheelOnce, walked -/
import Derived.Test.YtcafiehlhdoibaaWh20
namespace Go.Proofs.Ytcafiehlhdoibaa.Wh
open Go.RowKit Go.Lib Go.Sort Go.Maps Hp Ht
set_option linter.unusedVariables false
set_option maxRecDepth 20000
set_option maxHeartbeats 8000000 in
theorem once_any (w : World) (now : Int) (hnow : 0 ≤ now ∧ now < 4294967296) (a : Option Addr) (n c : Nat) (l : List Int) (hi : WhP.InU w a n c l) (a' : Option Addr) (n' c' : Nat) (l' : List Int) (hi' : WhP.InU w a' n' c' l') :
    Calls Try.prog 4 #[.int .u32 now, .slice a n c, .slice a' n' c'] w fun e w' => e = .returned (.bool true) ∧ Below w.heap.size w w' := by
  have hLV := fun W => lives_any W
  by_cases hbig : 60 < n ∨ 60 < n'
  · by_cases hb1 : 60 < n
    · have hb2 : (60 : Int) < ((n : Nat) : Int) := by omega
      clear hi hi' hbig hb1 hnow
      go_enter Try.func4, Try.ntmps4
      go_wp2_with fail
      refine (hLV _).mono ?_
      rintro e w1 ⟨rfl, b1⟩
      go_wp2_with fail
      refine (hLV _).mono ?_
      rintro e w2 ⟨rfl, b2⟩
      go_wp2_with fail
      go_ret
      exact ⟨by simp, b1.trans (b2.mono b1.size)⟩
    · have hb2 : (60 : Int) < ((n' : Nat) : Int) := by omega
      have hb3 : ((n : Nat) : Int) ≤ 60 := by omega
      clear hi hi' hbig hb1 hnow
      go_enter Try.func4, Try.ntmps4
      go_wp2_with fail
      refine (hLV _).mono ?_
      rintro e w1 ⟨rfl, b1⟩
      go_wp2_with fail
      refine (hLV _).mono ?_
      rintro e w2 ⟨rfl, b2⟩
      go_wp2_with fail
      go_ret
      exact ⟨by simp, b1.trans (b2.mono b1.size)⟩
  · have hn1 : ((n : Nat) : Int) ≤ 60 := by omega
    have hn2 : ((n' : Nat) : Int) ≤ 60 := by omega
    have HI := Lib.hid (And.intro hi (And.intro hi' hnow))
    have hw1 : IntKind.i64.wrap now = now := by rw [IntWalk.i64_in]; omega
    have hw2 : wrap64 now = now := by unfold wrap64; omega
    clear hi hi' hbig
    go_enter Try.func4, Try.ntmps4
    go_wp2_with fail
    refine (hLV _).mono ?_
    rintro e w1 ⟨rfl, b1⟩
    have hN := new_ow w1 (now := now) (most := 100) ⟨hnow.1, by unfold MT; omega⟩ (by decide) (by decide)
    go_wp2_with fail
    refine hN.mono ?_
    rintro e w2 ⟨wb, rfl, o2, b2⟩
    have HB := Lib.hid (And.intro b1 (And.intro o2 b2))
    clear hN hLV
    have hmm := @run_makeMap Try.prog
    obtain ⟨tb, htb⟩ : ∃ tb, tb = w2.heap.size := ⟨_, rfl⟩
    obtain ⟨W3, hW3⟩ : ∃ W, W = w2.alloc (.map #[] 0) := ⟨_, rfl⟩
    have b3 : Below w2.heap.size w2 W3 := by rw [hW3]; exact (Below.refl _ _).alloc (Nat.le_refl _) _
    have z3 : W3.heap.size = tb + 1 := by rw [hW3, htb]; simp
    have o3 : Ow w.heap.size (fun x => x = tb) W3 wb now 100 [] := ((o2.more b3 (N' := fun x => x = tb) (fun x e => by omega)).less fun x e => .inr e).base b1.size
    have m3 : Mq W3 tb 0 (fun _ => none) := by rw [hW3, htb]; exact mp_made kindA w2
    have bw3 : Below w.heap.size w W3 := (b1.trans (b2.mono b1.size)).trans (b3.mono (Nat.le_trans b1.size b2.size))
    have htw : w.heap.size ≤ tb := by rw [htb]; exact Nat.le_trans b1.size b2.size
    have H3 := Lib.hid (And.intro o3 (And.intro m3 (And.intro bw3 htw)))
    clear b1 o2 b2 b3 z3 o3 m3 bw3 htw HB
    go_wp2_with fail
    rw [← hW3, ← htb]
    clear hW3 htb hmm
    go_loopw [49] (fun cv wr => ∃ j : Nat, cv = .int .i64 ((j : Nat) : Int) ∧ j ≤ n ∧ Ow w.heap.size (fun x => x = tb) wr wb now 100 (ms now l j) ∧ Mq wr tb 0 (fun _ => none) ∧ Below w.heap.size w wr) (fun cv _ => n - (RowKit.intOf cv).toNat)
    case atStart => exact ⟨0, rfl, Nat.zero_le _, H3.out.1, H3.out.2.1, H3.out.2.2.1⟩
    case round =>
      obtain ⟨j, hcv, hjn, ho, hm, hb⟩ := hrel
      subst hcv
      by_cases hjx : j < n
      · obtain ⟨hi, hi', hnw⟩ := HI.out
        obtain ⟨b, o, ha, hcell⟩ : ∃ b o, a = some ⟨b, o, none⟩ ∧ w.cell? ⟨b, o + j, none⟩ = some (.int .u32 (l.getD j 0)) := by
          rcases hi.2.2.2.2.2 with h | ⟨b, o, e, h⟩
          · omega
          · exact ⟨b, o, e, h j hjx⟩
        subst ha
        have hc := (hb.cell (World.block_lt_of_cell? _ _ hcell)).trans hcell
        have hxb : 0 ≤ l.getD j 0 ∧ l.getD j 0 < 4294967296 := by
          rw [List.getD_eq_getElem?_getD]
          cases e : l[j]? with
          | none => simp
          | some x => exact hi.2.2.2.1 x (List.mem_of_getElem? e)
        have hms := ms_succ now l j
        obtain ⟨x, hx⟩ : ∃ x, x = l.getD j 0 := ⟨_, rfl⟩
        rw [← hx] at hc hxb hms
        have hx1 : IntKind.i64.wrap x = x := by rw [IntWalk.i64_in]; omega
        have hx3 : wrap64 x = x := by unfold wrap64; omega
        have hx2 : wrap64 (now + x) = now + x := by unfold wrap64; omega
        have hjc : ((j : Nat) : Int) < ((n : Nat) : Int) := by omega
        have hj0 : (0 : Int) ≤ ((j : Nat) : Int) := by omega
        have hnm := name_any j (by omega) wr
        have HO := Lib.hid (And.intro ho (And.intro hm (And.intro hb (And.intro hms (And.intro hxb (And.intro hjx hnw))))))
        clear ho hm hb hms hxb hcell hi hi' hnw hx hjn hjx
        go_wp2_with fail
        refine hnm.mono ?_
        rintro e w4 ⟨rfl, b4⟩
        obtain ⟨ho, hm, hb, hms, hxb, hjx, hnw⟩ := HO.out
        have hjl : (ms now l j).length = j := ms_len now l j
        have hA := (ho.below b4).add (Nat.le_trans hb.size b4.size) (fun y e => by have := hm.lt; have := b4.size; omega) (ls_fm (ms_nodup now l j (by omega))) (k := nm j) (t := now + x) (nm_ne j) (nm_wk j) ⟨by omega, by unfold MT; omega⟩ (fm_none (ms_fresh now l j (by omega))) (by omega) (by omega)
        rw [← hms] at hA
        have H4 := Lib.hid (And.intro (hm.kept (b4.block _ hm.lt)) (hb.trans (b4.mono hb.size)))
        clear ho hm hb hms hxb hnw b4 hnm hjl
        unfold ek at *
        go_wp2_with fail
        refine hA.mono ?_
        rintro e w5 ⟨rfl, o5, f5⟩
        have H5 := Lib.hid (And.intro o5 (And.intro (H4.out.1.kept (f5.kept rfl H4.out.1.lt)) (f5.below H4.out.2 H4.out.2.size)))
        clear o5 f5 hA
        go_wp2_with fail
        go_roundw
        case rel => exact ⟨j + 1, by simp, hjx, H5.out.1, H5.out.2.1, H5.out.2.2⟩
        case measure => simp [RowKit.intOf]; omega
      · have hje : n = j := by omega
        subst hje
        obtain ⟨hi, hi', hnw⟩ := HI.out
        have hu : (wr.alloc (.cells #[] 49)).ownsRow wr.heap.size 49 1 (.slice (some ⟨wr.heap.size, 0, none⟩) 0 0) 0 [] := World.ownsRow_made wr #[] 0 (Nat.le_refl _) (Nat.zero_le _) rfl
        have b6 : Below wr.heap.size wr (wr.alloc (.cells #[] 49)) := (Below.refl _ _).alloc (Nat.le_refl _) _
        obtain ⟨v2, X2, run1, own2, bx2⟩ := append_us (wr.alloc (.cells #[] 49)) hu (inU_old hi' (hb.trans (b6.mono hb.size))) b6.size (by omega) 50
        obtain ⟨v3, X3, run2, own3, bx3⟩ := append_two X2 own2 (Nat.le_trans b6.size bx2.size) (by omega) 50 4294967295 1
        obtain ⟨a2, c2, rfl⟩ := own_shape own2
        obtain ⟨a3, c3, rfl⟩ := own_shape own3
        have bX : Below wr.heap.size wr X3 := (b6.trans bx2).trans bx3
        have hll : l'.length = n' := hi'.1
        obtain ⟨L, hL⟩ : ∃ L, L = l' ++ [4294967295, 1] := ⟨_, rfl⟩
        rw [← hL] at own3
        have hLn : L.length = n' + 2 := by rw [hL]; simp; omega
        have hLb : ∀ x ∈ L, 0 ≤ x ∧ x < 4294967296 := fun x hx => by
          rw [hL, List.mem_append] at hx
          rcases hx with hx | hx
          · exact hi'.2.2.2.1 x hx
          · simp at hx; omega
        have hLs : 4294967296 ≤ sm L (n' + 2) := by
          have h0 := (sm_bound hLb n').1
          show 4294967296 ≤ sm L n' + L.getD n' 0 + L.getD (n' + 1) 0
          have e1 : L.getD n' 0 = 4294967295 := by rw [hL, List.getD_eq_getElem?_getD, List.getElem?_append_right (by omega)]; simp [hll]
          have e2 : L.getD (n' + 1) 0 = 1 := by rw [hL, List.getD_eq_getElem?_getD, List.getElem?_append_right (by omega)]; simp [hll]
          omega
        obtain ⟨n3, hn3⟩ : ∃ x, x = n' + 2 := ⟨_, rfl⟩
        rw [← hn3] at run2 own3 hLn hLs
        have hn3b : n3 ≤ 62 := by omega
        obtain ⟨g3, hg3⟩ : ∃ g, a3 = some ⟨g, 0, none⟩ := by
          obtain ⟨g, e, _⟩ := us_cell own3 hLn.symm (j := 0) (by omega)
          exact ⟨g, e⟩
        subst hg3
        obtain ⟨M, hM⟩ : ∃ M, M = ms now l n := ⟨_, rfl⟩
        rw [← hM] at ho
        have hMd : (M.map (·.1)).Nodup := by rw [hM]; exact ms_nodup now l n (by omega)
        have hMb : ∀ p ∈ M, (now ≤ p.2 ∧ p.2 < now + 4294967296) ∧ wk p.1 := fun p hp => by
          rw [hM] at hp
          obtain ⟨i, hi2, rfl⟩ := ms_mem.1 hp
          have hxb : 0 ≤ l.getD i 0 ∧ l.getD i 0 < 4294967296 := by
            rw [List.getD_eq_getElem?_getD]
            cases e : l[i]? with
            | none => simp
            | some x => exact hi.2.2.2.1 x (List.mem_of_getElem? e)
          refine ⟨by simp only; omega, nm_wk i⟩
        have htbX : tb < X3.heap.size := Nat.lt_of_lt_of_le hm.lt bX.size
        have hg3w := (us_block own3 (b := g3) rfl)
        have T0 : Tq w wb tb g3 M L (.slice (some ⟨g3, 0, none⟩) n3 c3) now X3 now 0 (fun _ => none) M :=
          { ow := (ho.more bX (N' := fun x => x = g3) fun x e => by rw [e]; exact hg3w.1)
            mp := hm.kept (bX.block _ hm.lt)
            tt := fun k t => ⟨fun e => (by cases e), fun e => absurd e.1 e.2⟩
            rs := fun p hp => hp
            nd := hMd
            late := fun p hp => by have := hMb p hp; omega
            cn := by simp
            row := by rw [hLn]; exact own_base own3 hb.size
            own := rfl
            bel := hb.trans (bX.mono hb.size)
            tb := H3.out.2.2.2 }
        have HT := Lib.hid (And.intro T0 (And.intro hMd (And.intro hMb (And.intro hM (And.intro hLn (And.intro hLb (And.intro hLs (And.intro hn3b (And.intro hn3 hnw)))))))))
        clear T0 hMd hMb hM hLn hLb hLs hn3b hn3 hnw hi hi' hu b6 own2 bx2 own3 bx3 bX hll hL hjn hjx ho hm hb htbX hg3w H3
        go_wp2_with (at_builtin; first | (refine wpList_plain rfl fun _ hK => wp_append _ _ _ rfl rfl rfl run1 (hK _ _ ?_); clear hK) | (refine wpList_plain rfl fun _ hK => wp_append _ _ _ rfl rfl rfl run2 (hK _ _ ?_); clear hK))
        clear run1 run2
        go_loopw [13, 74] (fun av cv wr => ∃ (j : Nat) (at' : Int) (cnt : Nat) (tj : K → Option Int) (r : List (K × Int)), av = .int .i64 at' ∧ cv = .int .i64 ((j : Nat) : Int) ∧ j ≤ n3 ∧ at' = now + sm L j ∧ Tq w wb tb g3 M L (.slice (some ⟨g3, 0, none⟩) n3 c3) now wr at' cnt tj r ∧ (0 < j → ∀ p ∈ r, at' < p.2)) (fun _ cv _ => n3 - (RowKit.intOf cv).toNat)
        case atStart => exact ⟨0, now, 0, _, M, rfl, rfl, Nat.zero_le _, by simp [sm], HT.out.1, fun e => by omega⟩
        case round =>
          obtain ⟨j, at', cnt, tj, r, hav, hcv, hjn, hat, T, hlate⟩ := hrel
          subst hav hcv
          obtain ⟨_, hMd, hMb, hM, hLn, hLb, hLs, hn3b, hn3, hnw⟩ := HT.out
          by_cases hjx : j < n3
          · have hrow := T.row
            rw [hLn] at hrow
            obtain ⟨g, eg, hc⟩ := us_cell hrow hLn.symm hjx
            cases eg
            have hs2 := sm_bound hLb j
            have hsb : 0 ≤ L.getD j 0 ∧ L.getD j 0 < 4294967296 := by
              rw [List.getD_eq_getElem?_getD]
              cases e : L[j]? with
              | none => simp
              | some x => exact hLb x (List.mem_of_getElem? e)
            have hsm : sm L (j + 1) = sm L j + L.getD j 0 := rfl
            obtain ⟨s, hs⟩ : ∃ s, s = L.getD j 0 := ⟨_, rfl⟩
            rw [← hs] at hc hsb hsm
            have hx1 : IntKind.i64.wrap s = s := by rw [IntWalk.i64_in]; omega
            have hx3 : wrap64 s = s := by unfold wrap64; omega
            have hx2 : wrap64 (at' + s) = at' + s := by unfold wrap64; omega
            have hjc : ((j : Nat) : Int) < ((n3 : Nat) : Int) := by omega
            have hj0 : (0 : Int) ≤ ((j : Nat) : Int) := by omega
            have hMl : M.length ≤ 60 := by rw [hM, ms_len]; omega
            have hj4 : ((j : Nat) : Int) ≤ 1000000 := by omega
            have hTu := T.ow.turn T.bel.size (fun x e => by
              rcases e with rfl | rfl
              · exact T.mp.lt
              · exact (us_block T.row (by rw [T.own])).2.1) (by have := T.cn; omega) (to := at' + s) ⟨by omega, by unfold MT; omega⟩ (by omega)
            have hna : now ≤ at' := by omega
            have HJ := Lib.hid (And.intro T (And.intro hMd (And.intro hMb (And.intro hsm (And.intro hat (And.intro hjx hMl))))))
            clear T hMd hMb hM hLn hLb hLs hn3b hn3 hrow hs2 hsb hsm hat hjn hs hMl hlate
            go_wp2_with fail
            refine hTu.mono ?_
            rintro e Y ⟨v, ls, rfl, p1, s1, r1, nb, o1, f1⟩
            have TI := HJ.out.1.turn p1 r1 nb o1 f1
            obtain ⟨av, kv, hv⟩ := r1.shape
            obtain ⟨k9, hk9⟩ : ∃ k, k = ls.length := ⟨_, rfl⟩
            rw [← hk9] at hv
            subst hv
            have HY := Lib.hid (And.intro TI (And.intro p1 hk9))
            clear TI p1 s1 r1 nb o1 f1 hk9 hTu hc
            obtain ⟨A1, hA1⟩ : ∃ x, x = at' + s := ⟨_, rfl⟩
            rw [← hA1] at HY hx2 ⊢
            have HA := Lib.hid hA1
            clear hA1
            go_wp2_with fail
            go_loopw [93] (fun cv wx => ∃ (i : Nat) (ti : K → Option Int), cv = .int .i64 ((i : Nat) : Int) ∧ i ≤ k9 ∧ Ti w wb tb g3 M L (.slice (some ⟨g3, 0, none⟩) n3 c3) r A1 cnt tj (.slice av k9 kv) ls wx i ti) (fun cv _ => k9 - (RowKit.intOf cv).toNat)
            case atStart => exact ⟨0, tj, rfl, Nat.zero_le _, HY.out.1⟩
            case round =>
              obtain ⟨i, ti, hcv, hik, q⟩ := hrel
              subst hcv
              obtain ⟨T, hMd, hMb, hsm, hat, hjx, hMl⟩ := HJ.out
              obtain ⟨_, hp, hk9⟩ := HY.out
              by_cases hix : i < k9
              · have hil : i < ls.length := by omega
                have hmem := hp.mem_iff.1 (el_mem hil)
                have hmr := (List.mem_filter.1 hmem).1
                have hle : (el ls i).2 ≤ A1 := by have := (List.mem_filter.1 hmem).2; simpa using this
                have hlt := T.late _ hmr
                have hMe := hMb _ (T.rs _ hmr)
                have hfr := q.fresh T hMd hp hil
                obtain ⟨gv, hgv, k1, r1⟩ : ∃ gv, av = some ⟨gv, 0, none⟩ ∧ wr.cell? ⟨gv, i * 2, none⟩ = some (ek (el ls i).1) ∧ wr.cell? ⟨gv, i * 2 + 1, none⟩ = some (er (el ls i).2) := by
                  rcases q.src with ⟨h1, _⟩ | ⟨gv, c, h1, h2⟩
                  · rw [h1] at hil; simp at hil
                  · cases h1
                    exact ⟨gv, rfl, h2 i hil⟩
                subst hgv
                obtain ⟨k, hk⟩ : ∃ k, k = (el ls i).1 := ⟨_, rfl⟩
                obtain ⟨t, ht⟩ : ∃ t, t = (el ls i).2 := ⟨_, rfl⟩
                rw [← hk] at k1 hfr hMe
                rw [← ht] at r1 hle hlt hMe
                obtain ⟨V, hV⟩ : ∃ V, V = wr.alloc (.cells #[.string ⟨k.toArray⟩, .int .i64 t] 42) := ⟨_, rfl⟩
                have hbV : Below wr.heap.size wr V := by rw [hV]; exact (Below.refl _ wr).alloc (Nat.le_refl _) _
                have qV := q.later hbV
                have oV : V.heap[wr.heap.size]? = some (.cells #[.string ⟨k.toArray⟩, .int .i64 t] 42 (0, 0)) := by rw [hV]; exact (MapKept.heap_alloc wr _).1
                have cV0 : V.cell? ⟨wr.heap.size, 0, none⟩ = some (.string ⟨k.toArray⟩) := by rw [cell_of_row _ _ _ _ _ _ oV]; rfl
                have cV1 : V.cell? ⟨wr.heap.size, 1, none⟩ = some (.int .i64 t) := by rw [cell_of_row _ _ _ _ _ _ oV]; rfl
                have hlk := qV.mp.look kindA rfl hMe.2
                rw [hfr] at hlk
                have hcnt : cnt + i < maxLen := by
                  have h1 := T.cn
                  have h2 := hp.length_eq
                  have h3 := List.length_filter_le (fun x : K × Int => decide (x.2 ≤ A1)) r
                  unfold maxLen; omega
                obtain ⟨V3, run3, hM3, hg3'⟩ := qV.mp.put kindA hcnt hMe.2 (wf_tk (t := t) ⟨by omega, by unfold MT; omega⟩)
                rw [hfr] at hM3
                have qn := qV.told hil T.tb (by rw [← hk]; exact hfr) (by rw [← hk, ← ht]; exact hM3) hg3'
                rw [← hk, ← ht] at qn
                have HZ := Lib.hid (And.intro qn hix)
                unfold ek at k1 hlk run3
                unfold er at r1
                have hic : ((i : Nat) : Int) < ((k9 : Nat) : Int) := by omega
                have hi0 : (0 : Int) ≤ ((i : Nat) : Int) := by omega
                have hi4 : ((i : Nat) : Int) ≤ 1000000 := by
                  have h1 := T.cn
                  have h2 := hp.length_eq
                  have h3 := List.length_filter_le (fun x : K × Int => decide (x.2 ≤ A1)) r
                  omega
                have hdt : t = now ∨ at' < t := by omega
                clear T hMd hMb hsm hat hjx hMl hp hk9 hil hmem hmr hfr qV hbV oV hM3 hg3' qn q hik hix hMe hk ht hcnt hlt
                subst hV
                rcases hdt with e | e
                · subst e
                  go_wp2_with fail
                  go_roundw
                  case rel => exact ⟨i + 1, _, by simp, HZ.out.2, HZ.out.1⟩
                  case measure => have := HZ.out.2; simp [RowKit.intOf]; omega
                · go_wp2_with fail
                  go_roundw
                  case rel => exact ⟨i + 1, _, by simp, HZ.out.2, HZ.out.1⟩
                  case measure => have := HZ.out.2; simp [RowKit.intOf]; omega
              · have hie : ls.length = i := by omega
                subst hie
                have Td := q.done T hp
                have hat2 : A1 = now + sm L (j + 1) := by rw [hsm, HA.out, hat]; omega
                have HZ := Lib.hid (And.intro Td (And.intro hat2 hjx))
                clear T hMd hMb hsm hat hjx hMl hp hk9 Td hat2 q hik
                go_wp2_with fail
                go_roundw
                case rel => exact ⟨j + 1, A1, _, _, _, rfl, by simp, HZ.out.2.2, HZ.out.2.1, HZ.out.1, fun _ p hp => by have := (List.mem_filter.1 hp).2; simpa using this⟩
                case measure => have := HZ.out.2.2; simp [RowKit.intOf]; omega
          · have hje : n3 = j := by omega
            subst hje
            have hr0 : r = [] := List.eq_nil_iff_forall_not_mem.2 fun p hp => by
              have h1 := hlate (by omega) p hp
              have h2 := hMb p (T.rs p hp)
              omega
            subst hr0
            have hin : ∀ i, i < n → tj (nm i) = some (now + l.getD i 0) := fun i hi => (T.tt _ _).2 ⟨by rw [hM]; exact ms_mem.2 ⟨i, hi, rfl⟩, by simp⟩
            have hcn : cnt = n := by have := T.cn; rw [hM, ms_len] at this; simpa using this
            subst hcn
            have HT4 := Lib.hid (And.intro T (And.intro hin hnw))
            clear T hMd hMb hM hLn hLb hLs hn3b hn3 hnw hlate hin hjn hjx HT hat
            go_wp2_with fail
            go_loopw [133] (fun cv wx => ∃ i : Nat, cv = .int .i64 ((i : Nat) : Int) ∧ i ≤ cnt ∧ Tq w wb tb g3 M L (.slice (some ⟨g3, 0, none⟩) n3 c3) now wx at' cnt tj []) (fun cv _ => cnt - (RowKit.intOf cv).toNat)
            case atStart => exact ⟨0, rfl, Nat.zero_le _, HT4.out.1⟩
            case round =>
              obtain ⟨i, hcv, hin, T⟩ := hrel
              subst hcv
              by_cases hix : i < cnt
              · obtain ⟨hi, hi', hnw⟩ := HI.out
                obtain ⟨b, o, ha, hcell⟩ : ∃ b o, a = some ⟨b, o, none⟩ ∧ w.cell? ⟨b, o + i, none⟩ = some (.int .u32 (l.getD i 0)) := by
                  rcases hi.2.2.2.2.2 with h | ⟨b, o, e, h⟩
                  · omega
                  · exact ⟨b, o, e, h i hix⟩
                subst ha
                have hc := (T.bel.cell (World.block_lt_of_cell? _ _ hcell)).trans hcell
                have hxb : 0 ≤ l.getD i 0 ∧ l.getD i 0 < 4294967296 := by
                  rw [List.getD_eq_getElem?_getD]
                  cases e : l[i]? with
                  | none => simp
                  | some x => exact hi.2.2.2.1 x (List.mem_of_getElem? e)
                have htj := HT4.out.2.1 i hix
                obtain ⟨x, hx⟩ : ∃ x, x = l.getD i 0 := ⟨_, rfl⟩
                rw [← hx] at hc hxb htj
                have hx1 : IntKind.i64.wrap x = x := by rw [IntWalk.i64_in]; omega
                have hx3 : wrap64 x = x := by unfold wrap64; omega
                have hx2 : wrap64 (now + x) = now + x := by unfold wrap64; omega
                have hic : ((i : Nat) : Int) < ((cnt : Nat) : Int) := by omega
                have hi0 : (0 : Int) ≤ ((i : Nat) : Int) := by omega
                have hi4 : ((i : Nat) : Int) ≤ 1000000 := by omega
                have hnm := name_any i (by omega) wr
                have HO := Lib.hid (And.intro T (And.intro hix htj))
                clear T hxb hcell hi hi' hnw hx hin hix htj
                go_wp2_with fail
                refine hnm.mono ?_
                rintro e w4 ⟨rfl, b4⟩
                have T4 := HO.out.1.later b4
                have hlk := T4.mp.look1 kindA rfl (nm_wk i)
                rw [HO.out.2.2] at hlk
                have H4 := Lib.hid T4
                clear T4 b4 hnm hc
                obtain ⟨kk, hkk⟩ : ∃ kk, kk = nm i := ⟨_, rfl⟩
                rw [← hkk] at hlk ⊢
                clear hkk
                unfold ek at *
                obtain ⟨z, hz⟩ : ∃ z, z = now + x := ⟨_, rfl⟩
                rw [← hz] at hlk hx2
                have hlk2 : (Instr.lookup 53 (.map (some tb)) (.string ⟨kk.toArray⟩) false).run Try.prog w4 = .ok (.int .i64 z) w4 := hlk
                have hz2 : now + x = z := hz.symm
                clear hlk hz
                go_wp2_with fail
                go_roundw
                case rel => exact ⟨i + 1, by simp, HO.out.2.1, H4.out⟩
                case measure => have := HO.out.2.1; simp [RowKit.intOf]; omega
              · have hie : cnt = i := by omega
                subst hie
                have hln := T.ow.len
                have hbl := T.bel
                have hlen := fun ty => T.mp.len kindA (rfl : wr.heap[tb]? = wr.heap[tb]?) ty
                have HBl := Lib.hid hbl
                clear T hin hix hbl
                go_wp2_with fail
                refine hln.mono ?_
                rintro e w4 ⟨rfl, rfl⟩
                go_wp2_with fail
                go_ret
                exact ⟨by simp, HBl.out⟩
end Go.Proofs.Ytcafiehlhdoibaa.Wh
