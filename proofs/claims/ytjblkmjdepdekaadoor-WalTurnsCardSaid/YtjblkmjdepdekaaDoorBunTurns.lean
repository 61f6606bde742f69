
/- WalTurns (P5.1): each Open, and each Rewrite, has the next turn, and records stay in their order: the call returns true for any records and any byte, and the arguments read as before. The table of package crc is tied to the program's text. -/
import Derived.Test.YtjblkmjdepdekaaDoorWBas5
import Derived.WalkKit
import Derived.ProofKit
import Derived.OpenShut
import Derived.ShutString
import Derived.ChangeOld
import Derived.Below
/- logs: the walk of WalTurns -/
namespace Go.Proofs.YtjblkmjdepdekaaDoor.Wl
open Go.RowKit Go.Lib Go.Joins Go.Proofs.YtjblkmjdepdekaaDoor.By Go.Proofs.YtjblkmjdepdekaaDoor.Dk Go.Proofs.YtjblkmjdepdekaaDoor.Oc Go.Proofs.YtjblkmjdepdekaaDoor.Ht Go.Proofs.YtjblkmjdepdekaaDoor.Cr Go.Proofs.YtjblkmjdepdekaaDoor.Fm
attribute [local go_sem] Oper.semAt_some

theorem new_x (n : Nat) (w : World) (hn : 1 ≤ n ∧ n ≤ 4096) : Calls Tryd.prog 9 #[.int .i64 (n : Nat)] w fun e w' => ∃ bd gs gn F, e = .returned (.tuple #[.pointer (some ⟨bd, 0, none⟩), .int .i64 0]) ∧ IsDk w' w.heap.size bd gs n gn n (.slice none 0 0) n F (ov F []) [] false ∧ lat (ov F []) n = 0 ∧ Below w.heap.size w w' := by
  refine (new_any n w hn).mono ?_
  rintro e w1 ⟨bd, gs, gn, rfl, hd1, hb1⟩
  exact ⟨bd, gs, gn, _, rfl, hd1, lat_zero _ _, hb1⟩
theorem rem9 (s : Int) (h : (Lit.int .u8 s).wf = true) : ∃ n : Nat, 1 ≤ n ∧ n ≤ 9 ∧ wrap64 (1 + wrap64 (s.tmod 9)) = (n : Int) := by
  have h0 : 0 ≤ s ∧ s ≤ 255 := by simpa [Lit.wf, IntKind.min, IntKind.max, IntKind.signed, IntKind.bits] using h
  have h1 : s.tmod 9 = s % 9 := Int.tmod_eq_emod_of_nonneg h0.1
  refine ⟨(1 + s % 9).toNat, by omega, by omega, ?_⟩
  rw [h1]; unfold wrap64; omega
set_option maxRecDepth 20000 in
set_option maxHeartbeats 16000000 in
theorem turns_walk (a : Option Addr) (cap : Nat) (L : List Rv) (s : Int) (hs : (Lit.int .u8 s).wf = true) (w : World) (h1 : InRs w a L) (hc1 : (a = none → L = [] ∧ cap = 0) ∧ L.length ≤ cap ∧ cap ≤ 9223372036854775807) (hn : Nibs w) :
    Calls Tryd.prog 7 #[.slice a L.length cap, .int .u8 s] w fun e w' => e = .returned (.bool true) ∧ Below w.heap.size w w' := by
  have HLV := fun W (h : Nibs W) => Lib.hid (lives05_any W h)
  have HN := Lib.hid hn
  have HI := Lib.hid (And.intro h1 hc1)
  obtain ⟨m, hm1, hm9, hmI⟩ := rem9 s hs
  clear h1 hc1 hn
  go_enter Tryd.func7, Tryd.ntmps7
  by_cases g1 : 20 < L.length
  · have e1 : (L.length : Int) > 20 := by omega
    go_wp2_with fail
    refine (HLV _ HN.out).out.mono ?_
    rintro e wa ⟨rfl, hba⟩
    have HBA := Lib.hid hba
    clear hba
    go_wp2_with fail
    refine (HLV _ (HN.out.old HBA.out)).out.mono ?_
    rintro e wb ⟨rfl, hbb⟩
    have HBB := Lib.hid (HBA.out.trans (hbb.mono HBA.out.size))
    clear hbb
    go_wp2_with fail
    go_ret
    exact ⟨rfl, HBB.out⟩
  · have e1 : ¬ (L.length : Int) > 20 := by omega
    go_wp2_with fail
    refine (HLV _ HN.out).out.mono ?_
    rintro e wa ⟨rfl, hba⟩
    have HBa := Lib.hid hba
    clear hba
    go_wp2_with fail
    refine (new_x 200 wa (by decide)).mono ?_
    rintro e w1 ⟨bd, gs, gn, F1, rfl, hd1, hlat1, hb1⟩
    have HD1 := Lib.hid (And.intro hd1 (And.intro hb1.size (HBa.out.trans (hb1.mono HBa.out.size))))
    clear hd1 hb1
    go_wp2_with fail
    refine (format_x (W := []) HD1.out.1 (by decide) (by rw [hlat1]; decide) (by decide) (HN.out.old HD1.out.2.2)).mono ?_
    rintro e w2 ⟨bl, F2, last2, hbl, rfl, hx2, hf2⟩
    rw [hlat1] at hx2
    have hb2 : Below w.heap.size w w2 := Fr.below' HD1.out.2.2 hf2 (fun k hk => Nat.le_trans HBa.out.size (HD1.out.1.foot_ge k hk))
    have hblw : wa.heap.size ≤ bl := Nat.le_trans HD1.out.2.1 hbl
    have HD2 := Lib.hid (And.intro hx2 (And.intro hb2 hblw))
    clear hx2 hb2 hf2 hbl hblw hlat1
    go_wp2_with fail
    go_loopw [35] (fun kv wr => ∃ k : Nat, k ≤ L.length ∧ kv = .int .i64 k ∧ Below w.heap.size w wr ∧ (∀ x ∈ L.take k, x.d.length ≤ 60 ∧ x.k ≠ 255) ∧ ∃ vw W last, W.length ≤ 2100 * k ∧ Lgx wr wa.heap.size bl bd gs 200 gn 200 vw 200 0 1 F2 W [] ((L.take k).map rc) (cat 0 (chR [] [])).length last) (fun kv _ => L.length - (intOf kv).toNat)
    case atStart => exact ⟨0, Nat.zero_le _, rfl, HD2.out.2.1, by simp, _, [], _, by simp, by rw [List.take_zero]; exact HD2.out.1⟩
    case round =>
      obtain ⟨k, hk, rfl, hb, hall, vw, W, last, hW, hx⟩ := hrel
      by_cases hlt : k < L.length
      · have hkc : (k : Int) < (L.length : Int) := by omega
        have hm0 : (0 : Int) ≤ (k : Int) := by omega
        obtain ⟨gg, og, rfl, hrg⟩ := HI.out.1.at hlt
        obtain ⟨x, hxe⟩ : ∃ x, x = L[k] := ⟨_, rfl⟩
        rw [← hxe] at hrg
        obtain ⟨c0, c1, hib⟩ := hrg.old hb
        obtain ⟨W1, hW1⟩ : ∃ W, W = wr.alloc (.cells #[.int .u8 (x.k.toNat : Nat), .slice x.a x.d.length x.c] 34) := ⟨_, rfl⟩
        have hb1 : Below wr.heap.size wr W1 := by rw [hW1]; exact (Below.refl _ _).alloc (Nat.le_refl _) _
        have x1 : W1.heap[wr.heap.size]? = some (.cells #[.int .u8 (x.k.toNat : Nat), .slice x.a x.d.length x.c] 34 (0, 0)) := by rw [hW1]; exact heap_alloc_new wr _
        obtain ⟨⟨q0, q1⟩, _⟩ := two_cells x1
        rw [hW1] at q0 q1
        have htk : (L.take (k + 1)).map rc = (L.take k).map rc ++ [(x.k, x.d)] := by
          rw [List.take_succ_eq_append_getElem hlt, List.map_append, ← hxe]; rfl
        have hal' : ∀ y ∈ L.take (k + 1), (x.d.length ≤ 60 ∧ x.k ≠ 255) → y.d.length ≤ 60 ∧ y.k ≠ 255 := fun y hy hxx => by
          rw [List.take_succ_eq_append_getElem hlt, ← hxe] at hy
          rcases List.mem_append.1 hy with h | h
          · exact hall y h
          · rw [List.mem_singleton.1 h]; exact hxx
        have HX := Lib.hid (And.intro (hx.old hb1) (And.intro (hb.trans (hb1.mono hb.size)) (And.intro (hib.old hb1) (And.intro hW (And.intro htk hal')))))
        have HW1 := Lib.hid hW1
        clear hx hb hib hW htk hal' hall hb1 x1 hW1 hrg hxe
        by_cases hd60 : 60 < x.d.length
        · have hdI : (x.d.length : Int) > 60 := by omega
          go_wp2_with fail
          go_ret
          exact ⟨rfl, by rw [← HW1.out]; exact HX.out.2.1⟩
        · have hdI : ¬ (x.d.length : Int) > 60 := by omega
          by_cases hk255 : x.k = 255
          · have hkI : (x.k.toNat : Int) = 255 := by rw [hk255]; rfl
            go_wp2_with fail
            go_ret
            exact ⟨rfl, by have := HX.out.2.1; rw [HW1.out, hkI] at this; exact this⟩
          · have hkI : ¬ (x.k.toNat : Int) = 255 := fun h => hk255 (UInt8.toNat_inj.1 (show x.k.toNat = 255 by omega))
            go_wp2_with fail
            rw [← HW1.out]
            refine (append_x HX.out.1 x.k x.a x.c x.d HX.out.2.2.1 hk255 (by omega) (by have := HX.out.2.2.2.1; omega) (HN.out.old HX.out.2.1)).mono ?_
            rintro e W3 (⟨_, rfl, hY3⟩ | ⟨_, rfl, vw3, Wl3, last3, hx3, hw3, _, hf3⟩)
            · have HY := Lib.hid (HX.out.2.1.trans (hY3.mono HX.out.2.1.size))
              clear hY3 q0 q1
              go_wp2_with fail
              go_ret
              exact ⟨rfl, HY.out⟩
            · rw [← HX.out.2.2.2.2.1] at hx3
              have HY := Lib.hid (And.intro hx3 (And.intro hw3 (Fr.below' HX.out.2.1 hf3 (fun k hk => Nat.le_trans HBa.out.size (HX.out.1.ge HD2.out.2.2 k hk)))))
              clear hx3 hw3 hf3 q0 q1
              go_wp2_with fail
              go_roundw
              case rel => exact ⟨k + 1, by omega, by go_num, HY.out.2.2, fun y hy => HX.out.2.2.2.2.2 y hy ⟨by omega, hk255⟩, _, _, _, by have := HX.out.2.2.2.1; have := HY.out.2.1; omega, HY.out.1⟩
              case measure => simp [intOf]; omega
      · obtain rfl : k = L.length := by omega
        have hge : ¬ (L.length : Int) < (L.length : Int) := by omega
        rw [List.take_length] at hx hall
        have HQ := Lib.hid (And.intro hx (And.intro hb (And.intro hW hall)))
        clear hx hb hW hall hk hlt
        go_wp2_with fail
        refine (sync_x HQ.out.1 (by have := HQ.out.2.2.1; omega)).mono ?_
        rintro e wz ⟨rfl, hxz, hfz⟩
        obtain ⟨Fz, hFz⟩ : ∃ F, F = ov F2 W := ⟨_, rfl⟩
        rw [← hFz] at hxz
        have HZ := Lib.hid (And.intro hxz (And.intro (Fr.below' HQ.out.2.1 hfz (fun k hk => Nat.le_trans HBa.out.size (HQ.out.1.dk.foot_ge k hk))) HQ.out.2.2.2))
        clear hxz hfz hFz HQ
        go_wp2_with fail
        rw [hmI]
        go_loopw [7, 62] (fun lv iv wr => ∃ i : Nat, i ≤ m ∧ iv = .int .i64 i ∧ Below w.heap.size w wr ∧ ∃ bl hf F base apps last, lv = .pointer (some ⟨bl, 0, none⟩) ∧ wa.heap.size ≤ bl ∧ base ++ apps = L.map rc ∧ Lgx wr wa.heap.size bl bd gs 200 gn 200 (.slice none 0 0) 200 hf (i + 1) F [] base apps (cat 0 (chR base apps)).length last) (fun _ iv _ => m - (intOf iv).toNat)
        case atStart => exact ⟨0, Nat.zero_le _, rfl, HZ.out.2.1, bl, 0, Fz, [], L.map rc, last, rfl, HD2.out.2.2, rfl, HZ.out.1⟩
        case round =>
          obtain ⟨i, him, rfl, hb, bl', hf, F, base, apps, last', rfl, hbl', hbase, hx⟩ := hrel
          have HX := Lib.hid (And.intro hx (And.intro hb (And.intro hbl' hbase)))
          clear hx hb hbl' hbase
          by_cases him2 : i < m
          · have himI : (i : Int) < (m : Int) := by omega
            go_wp2_with fail
            refine (open_x (W := []) HX.out.1.dk HX.out.1.pl HX.out.1.o1 (by omega) (by decide) (HN.out.old HX.out.2.1)).mono ?_
            rintro e w6 ⟨k', hk', hj, rv, bl2, v, F6, last6, hrv, hbl2, rfl, hrs, hx6, hf6⟩
            have hkk : apps.take k' = apps := by
              refine List.take_of_length_le (hj apps.length (Nat.le_refl _) ?_)
              rw [List.take_length]; exact Nat.le_refl _
            rw [hkk] at hrv hx6
            rw [HX.out.2.2.2] at hrv hx6
            obtain ⟨a2, c2, rfl, _⟩ := hrs.shape
            have hrl : rv.length = L.length := by simpa using congrArg List.length hrv
            have hb6 : Below w.heap.size w w6 := Fr.below' HX.out.2.1 hf6 (fun k hk => Nat.le_trans HBa.out.size (HX.out.1.dk.foot_ge k hk))
            have hal := alike_yes a2 c2 rv a cap L w6 hrs.inRs (HI.out.1.old hb6) hrv (by omega)
            have hblq : wa.heap.size ≤ bl2 := by
              have h3 := lt_of_block HX.out.1.dk.blk
              have h4 := HX.out.1.dk.hb
              omega
            have HAL := Lib.hid hal
            have H6 := Lib.hid (And.intro hx6 (And.intro hb6 hblq))
            clear hk' hj hrv hbl2 hrs hx6 hf6 hrl hkk hal hb6 hblq
            go_wp2_with fail
            refine HAL.out.mono ?_
            rintro e w7 ⟨rfl, hb7⟩
            have H7 := Lib.hid (And.intro (H6.out.1.old hb7) (H6.out.2.1.trans (hb7.mono H6.out.2.1.size)))
            clear hb7
            go_wp2_with fail
            refine (turn_any H7.out.1.lg).mono ?_
            rintro e w8 ⟨rfl, rfl⟩
            have hz1 : wrap64 ((i : Int) + 2) = (i : Int) + 2 := by unfold wrap64; omega
            have hz2 : IntKind.u64.wrap ((i : Int) + 2) = ((i + 1 + 1 : Nat) : Int) := by rw [IntKind.wrap_u64]; omega
            go_wp2_with fail
            go_roundw
            case rel => exact ⟨i + 1, by omega, by go_num, H7.out.2, bl2, 1 - hf, F6, L.map rc, [], last6, rfl, H6.out.2.2, List.append_nil _, H7.out.1⟩
            case measure => simp [intOf]; omega
          · obtain rfl : i = m := by omega
            have hge2 : ¬ (i : Int) < (i : Int) := by omega
            have hi63 : i + 1 + 1 < 9223372036854775808 := by omega
            go_wp2_with fail
            refine (turn_any HX.out.1.lg).mono ?_
            rintro e w8 ⟨rfl, rfl⟩
            go_wp2_with fail
            refine (rewrite_x HX.out.1 hi63 a cap L (HI.out.1.old HX.out.2.1) HI.out.2.1 HI.out.2.2 (fun x hx => by have := (HZ.out.2.2 x hx).1; omega) (by omega) (by decide) (HN.out.old HX.out.2.1) (fun x hx => (HZ.out.2.2 x hx).2)).mono ?_
            rintro e w9 (⟨hlt, _⟩ | ⟨rfl, F9, last9, hx9, hf9⟩)
            · have h1 := HX.out.1.pl.cl
              have h2 := cat_told base apps apps.length
              rw [List.take_length, HX.out.2.2.2] at h2
              omega
            have H9 := Lib.hid (And.intro hx9 (Fr.below' HX.out.2.1 hf9 (fun k hk => Nat.le_trans HBa.out.size (HX.out.1.ge HX.out.2.2.1 k hk))))
            clear hx9 hf9
            go_wp2_with fail
            refine (turn_any H9.out.1.lg).mono ?_
            rintro e w8 ⟨rfl, rfl⟩
            have hz2 : IntKind.u64.wrap (((i + 1 : Nat) : Int) + 1) = ((i + 1 + 1 : Nat) : Int) := by rw [IntKind.wrap_u64]; omega
            go_wp2_with fail
            go_ret
            exact ⟨rfl, H9.out.2⟩
end Go.Proofs.YtjblkmjdepdekaaDoor.Wl

/- WalTurns (P5.1): each Open, and each Rewrite, has the next turn, and records stay in their order: the call returns true for any records and any byte, and the arguments read as before. The table of package crc is tied to the program's text. -/
namespace Go.Proofs.YtjblkmjdepdekaaDoor.walTurns
open Go.ChangeShapes Go.WideShapes Go.ChangeAt Go.RowKit
set_option linter.unusedVariables false

theorem own : ownKnob Tryd.prog.godebug = none := by kernel_rfl
theorem laidOut : laidOutB Tryd.prog = true := by kernel_rfl

set_option maxRecDepth 100000 in
theorem lifted (os : Os) (started : os.Started) (H : Type) (enc : TypeId × Value → H) :
    ReturnsInHanded {} Tryd.checked os 7 .any (fun w args => (Rows.walTurnsSpec.pre enc Tryd.prog Tryd.f7 [] false w args ∧ laidMetH Tryd.prog Cr.laidL w) ∧ sizedMet enc Tryd.prog Tryd.f7 (OpenSpec.ofChange Rows.walTurnsSpec) false w args) (Rows.walTurnsSpec.post enc Tryd.prog Tryd.f7 false true false false) := by
  refine returnsInHanded_of_change_and (C := Tryd.checked) (X := fun w _ => laidMetH Tryd.prog Cr.laidL w) (fun _ _ _ hh h => h.of_heap hh) own started (by kernel_rfl) Tryd.func7
    (ChangeSpec.witness_shaped (enc := enc) (C := Tryd.checked) (os := os) (X := fun w _ => laidMetH Tryd.prog Cr.laidL w) false (World.laidAll Tryd.prog os Cr.laidL) #[.slice none 0 0, .int .u8 0] 8 (World.laidAll_os _ _ _) (World.shaped_of_ZipB (by kernel_rfl) (by kernel_rfl)) (by kernel_rfl) (by kernel_rfl) (by kernel_rfl) (Cr.met_laid _ _)) ?_
  intro W base args ds gs before hval0 hW hcnd _ hL _
  have hval : ∀ (j : Nat) t v, Tryd.f7.params[j]? = some t → args[j]? = some v → Value.okWide Tryd.prog W .any base t v := hval0
  have hW' := hW
  obtain ⟨p, q, hA0, hV, rfl, hfz, hnd⟩ := hW
  have hA : DataW.TrodAll enc Tryd.prog W 0 (fun _ => true) true Tryd.f7.params.toList args.toList ds p := hA0
  rw [Tryd.params7] at hA hval
  obtain ⟨v0, vs0, d0, ds0, p0, q0, hargs, rfl, rfl, h0, r0⟩ := trodAll_cons hA
  obtain ⟨v1, vs1, d1, ds1, p1, q1, rfl, rfl, rfl, h1, r1⟩ := trodAll_cons r0
  obtain ⟨rfl, rfl, rfl⟩ := trodAll_nil r1
  obtain rfl : args = #[v0, v1] := by cases args; simp_all
  obtain ⟨rfl, rfl⟩ := trodVars_none hV
  have k0 := h0
  have lt0 : ∀ x ∈ p0, x.block < W.heap.size := by obtain ⟨m, hm⟩ := k0; exact DataW.trod_lt m _ _ _ hm
  obtain ⟨a0, n0, c0, l0, rfl, rfl, hc0, i0⟩ := Par.open_rvs (hval 0 31 v0 rfl rfl) h0
  have k1 := h1
  have lt1 : ∀ x ∈ p1, x.block < W.heap.size := by obtain ⟨m, hm⟩ := k1; exact DataW.trod_lt m _ _ _ hm
  obtain ⟨m1, rfl⟩ := Par.open_u8 (hval 1 5 v1 rfl rfl) h1
  clear hA0 hval0
  have hn := Cr.nibs_of hL
  refine (Wl.turns_walk a0 c0 l0 _ (Par.wf_u8 m1) W i0 hc0 hn).mono fun e W' ⟨he, bel⟩ => ?_
  subst he
  exact ⟨_, rfl, _, _, _, [], _, [], hW', trodAll_mk1 (shut_bool Tryd.underlying4 _), (trodAll_cons_mk (Below.trod laidOut (by kernel_rfl) (of_decide_eq_true (by kernel_rfl)) k0 bel lt0) (trodAll_cons_mk (Below.trod laidOut (by kernel_rfl) (of_decide_eq_true (by kernel_rfl)) k1 bel lt1) trodAll_mk0)), rfl, bel.frame _, fun h => by cases h⟩

theorem over : Rows.walTurnsRow.holds Tryd.pinned (OpenSpec.ofChange Rows.walTurnsSpec) :=
  OpenClaim.holds_of_wide 7 Tryd.f7 rfl rfl rfl rfl rfl rfl rfl ⟨rfl, rfl, rfl, rfl, rfl⟩ rfl rfl rfl rfl rfl (by kernel_rfl) Tryd.func7 (by kernel_rfl)
    (of_decide_eq_true (by kernel_rfl)) (by unfold Func.isWrapper; first | (rw [if_pos (by decide +kernel)]; kernel_rfl) | (rw [if_neg (by decide +kernel)]; exact ⟨rfl, rfl⟩))
    (fun os started H enc _ => lifted os started H enc)

theorem proved : Rows.WalTurnsCardSaid :=
  Claim7.holds_tied_plain_at .later [] [.data] true _ false over (fun _ h => by cases h) (by kernel_rfl) (fun _ h => by cases h) walTurns_row_tie rfl ⟨rfl, rfl⟩ (by kernel_rfl) rfl
    (fun f fn hf hfn => by
      obtain rfl : f = 7 := Option.some.inj ((show Tryd.prog.funcNamed "compline/complinelaw05.WalTurns" = some 7 by kernel_rfl).symm.trans hf) |>.symm
      obtain rfl : fn = Tryd.f7 := (Option.some.inj (Tryd.func7.symm.trans hfn)).symm
      exact ⟨by kernel_rfl, fun j t ht => by
        rw [Tryd.params7] at ht
        have hm : t ∈ [31, 5] := by simpa using Array.mem_of_getElem? ht
        have hall : ([31, 5].all fun u => !Tryd.prog.wantsStandIn u) = true := by kernel_rfl
        exact (show Tryd.prog.wantsStandIn t = false by simpa using List.all_eq_true.1 hall t hm)⟩)
    (by kernel_rfl)
#print axioms proved
end Go.Proofs.YtjblkmjdepdekaaDoor.walTurns
