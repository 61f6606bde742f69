
/- WalTorn (P5.2): a crash in the midst of writing a half that isn't sealed yet leaves the other one: whichever of its sectors are kept, all that was synced is told: the call returns true for any records and any bits, and the arguments read as before. The table of package crc is tied to the program's text. -/
import Derived.Test.YtjblkmjdepdekaaDoorWBas5
import Derived.WalkKit
import Derived.ProofKit
import Derived.OpenShut
import Derived.ShutString
import Derived.ChangeOld
import Derived.Below
/- logs: the walk of WalTurns -/
namespace Go.Proofs.YtjblkmjdepdekaaDoor.Wl
open Go.RowKit Go.Lib Go.Joins Go.Proofs.YtjblkmjdepdekaaDoor.By Go.Proofs.YtjblkmjdepdekaaDoor.Dk Go.Proofs.YtjblkmjdepdekaaDoor.Oc Go.Proofs.YtjblkmjdepdekaaDoor.Ht Go.Proofs.YtjblkmjdepdekaaDoor.Cr Go.Proofs.YtjblkmjdepdekaaDoor.Fm
attribute [local go_sem] Oper.semAt_some

theorem new_x (n : Nat) (w : World) (hn : 1 ≤ n ∧ n ≤ 4096) : Calls Tryd.prog 9 #[.int .i64 (n : Nat)] w fun e w' => ∃ bd gs gn F, e = .returned (.tuple #[.pointer (some ⟨bd, 0, none⟩), .int .i64 0]) ∧ IsDk w' w.heap.size bd gs n gn n (.slice none 0 0) n F (ov F []) [] false ∧ lat (ov F []) n = 0 ∧ Below w.heap.size w w' := by
  refine (new_any n w hn).mono ?_
  rintro e w1 ⟨bd, gs, gn, rfl, hd1, hb1⟩
  exact ⟨bd, gs, gn, _, rfl, hd1, lat_zero _ _, hb1⟩
theorem rem9 (s : Int) (h : (Lit.int .u8 s).wf = true) : ∃ n : Nat, 1 ≤ n ∧ n ≤ 9 ∧ wrap64 (1 + wrap64 (s.tmod 9)) = (n : Int) := by
  have h0 : 0 ≤ s ∧ s ≤ 255 := by simpa [Lit.wf, IntKind.min, IntKind.max, IntKind.signed, IntKind.bits] using h
  have h1 : s.tmod 9 = s % 9 := Int.tmod_eq_emod_of_nonneg h0.1
  refine ⟨(1 + s % 9).toNat, by omega, by omega, ?_⟩
  rw [h1]; unfold wrap64; omega
set_option maxRecDepth 20000 in
set_option maxHeartbeats 16000000 in
theorem turns_walk (a : Option Addr) (cap : Nat) (L : List Rv) (s : Int) (hs : (Lit.int .u8 s).wf = true) (w : World) (h1 : InRs w a L) (hc1 : (a = none → L = [] ∧ cap = 0) ∧ L.length ≤ cap ∧ cap ≤ 9223372036854775807) (hn : Nibs w) :
    Calls Tryd.prog 7 #[.slice a L.length cap, .int .u8 s] w fun e w' => e = .returned (.bool true) ∧ Below w.heap.size w w' := by
  have HLV := fun W (h : Nibs W) => Lib.hid (lives05_any W h)
  have HN := Lib.hid hn
  have HI := Lib.hid (And.intro h1 hc1)
  obtain ⟨m, hm1, hm9, hmI⟩ := rem9 s hs
  clear h1 hc1 hn
  go_enter Tryd.func7, Tryd.ntmps7
  by_cases g1 : 20 < L.length
  · have e1 : (L.length : Int) > 20 := by omega
    go_wp2_with fail
    refine (HLV _ HN.out).out.mono ?_
    rintro e wa ⟨rfl, hba⟩
    have HBA := Lib.hid hba
    clear hba
    go_wp2_with fail
    refine (HLV _ (HN.out.old HBA.out)).out.mono ?_
    rintro e wb ⟨rfl, hbb⟩
    have HBB := Lib.hid (HBA.out.trans (hbb.mono HBA.out.size))
    clear hbb
    go_wp2_with fail
    go_ret
    exact ⟨rfl, HBB.out⟩
  · have e1 : ¬ (L.length : Int) > 20 := by omega
    go_wp2_with fail
    refine (HLV _ HN.out).out.mono ?_
    rintro e wa ⟨rfl, hba⟩
    have HBa := Lib.hid hba
    clear hba
    go_wp2_with fail
    refine (new_x 200 wa (by decide)).mono ?_
    rintro e w1 ⟨bd, gs, gn, F1, rfl, hd1, hlat1, hb1⟩
    have HD1 := Lib.hid (And.intro hd1 (And.intro hb1.size (HBa.out.trans (hb1.mono HBa.out.size))))
    clear hd1 hb1
    go_wp2_with fail
    refine (format_x (W := []) HD1.out.1 (by decide) (by rw [hlat1]; decide) (by decide) (HN.out.old HD1.out.2.2)).mono ?_
    rintro e w2 ⟨bl, F2, last2, hbl, rfl, hx2, hf2⟩
    rw [hlat1] at hx2
    have hb2 : Below w.heap.size w w2 := Fr.below' HD1.out.2.2 hf2 (fun k hk => Nat.le_trans HBa.out.size (HD1.out.1.foot_ge k hk))
    have hblw : wa.heap.size ≤ bl := Nat.le_trans HD1.out.2.1 hbl
    have HD2 := Lib.hid (And.intro hx2 (And.intro hb2 hblw))
    clear hx2 hb2 hf2 hbl hblw hlat1
    go_wp2_with fail
    go_loopw [35] (fun kv wr => ∃ k : Nat, k ≤ L.length ∧ kv = .int .i64 k ∧ Below w.heap.size w wr ∧ (∀ x ∈ L.take k, x.d.length ≤ 60 ∧ x.k ≠ 255) ∧ ∃ vw W last, W.length ≤ 2100 * k ∧ Lgx wr wa.heap.size bl bd gs 200 gn 200 vw 200 0 1 F2 W [] ((L.take k).map rc) (cat 0 (chR [] [])).length last) (fun kv _ => L.length - (intOf kv).toNat)
    case atStart => exact ⟨0, Nat.zero_le _, rfl, HD2.out.2.1, by simp, _, [], _, by simp, by rw [List.take_zero]; exact HD2.out.1⟩
    case round =>
      obtain ⟨k, hk, rfl, hb, hall, vw, W, last, hW, hx⟩ := hrel
      by_cases hlt : k < L.length
      · have hkc : (k : Int) < (L.length : Int) := by omega
        have hm0 : (0 : Int) ≤ (k : Int) := by omega
        obtain ⟨gg, og, rfl, hrg⟩ := HI.out.1.at hlt
        obtain ⟨x, hxe⟩ : ∃ x, x = L[k] := ⟨_, rfl⟩
        rw [← hxe] at hrg
        obtain ⟨c0, c1, hib⟩ := hrg.old hb
        obtain ⟨W1, hW1⟩ : ∃ W, W = wr.alloc (.cells #[.int .u8 (x.k.toNat : Nat), .slice x.a x.d.length x.c] 34) := ⟨_, rfl⟩
        have hb1 : Below wr.heap.size wr W1 := by rw [hW1]; exact (Below.refl _ _).alloc (Nat.le_refl _) _
        have x1 : W1.heap[wr.heap.size]? = some (.cells #[.int .u8 (x.k.toNat : Nat), .slice x.a x.d.length x.c] 34 (0, 0)) := by rw [hW1]; exact heap_alloc_new wr _
        obtain ⟨⟨q0, q1⟩, _⟩ := two_cells x1
        rw [hW1] at q0 q1
        have htk : (L.take (k + 1)).map rc = (L.take k).map rc ++ [(x.k, x.d)] := by
          rw [List.take_succ_eq_append_getElem hlt, List.map_append, ← hxe]; rfl
        have hal' : ∀ y ∈ L.take (k + 1), (x.d.length ≤ 60 ∧ x.k ≠ 255) → y.d.length ≤ 60 ∧ y.k ≠ 255 := fun y hy hxx => by
          rw [List.take_succ_eq_append_getElem hlt, ← hxe] at hy
          rcases List.mem_append.1 hy with h | h
          · exact hall y h
          · rw [List.mem_singleton.1 h]; exact hxx
        have HX := Lib.hid (And.intro (hx.old hb1) (And.intro (hb.trans (hb1.mono hb.size)) (And.intro (hib.old hb1) (And.intro hW (And.intro htk hal')))))
        have HW1 := Lib.hid hW1
        clear hx hb hib hW htk hal' hall hb1 x1 hW1 hrg hxe
        by_cases hd60 : 60 < x.d.length
        · have hdI : (x.d.length : Int) > 60 := by omega
          go_wp2_with fail
          go_ret
          exact ⟨rfl, by rw [← HW1.out]; exact HX.out.2.1⟩
        · have hdI : ¬ (x.d.length : Int) > 60 := by omega
          by_cases hk255 : x.k = 255
          · have hkI : (x.k.toNat : Int) = 255 := by rw [hk255]; rfl
            go_wp2_with fail
            go_ret
            exact ⟨rfl, by have := HX.out.2.1; rw [HW1.out, hkI] at this; exact this⟩
          · have hkI : ¬ (x.k.toNat : Int) = 255 := fun h => hk255 (UInt8.toNat_inj.1 (show x.k.toNat = 255 by omega))
            go_wp2_with fail
            rw [← HW1.out]
            refine (append_x HX.out.1 x.k x.a x.c x.d HX.out.2.2.1 hk255 (by omega) (by have := HX.out.2.2.2.1; omega) (HN.out.old HX.out.2.1)).mono ?_
            rintro e W3 (⟨_, rfl, hY3⟩ | ⟨_, rfl, vw3, Wl3, last3, hx3, hw3, _, hf3⟩)
            · have HY := Lib.hid (HX.out.2.1.trans (hY3.mono HX.out.2.1.size))
              clear hY3 q0 q1
              go_wp2_with fail
              go_ret
              exact ⟨rfl, HY.out⟩
            · rw [← HX.out.2.2.2.2.1] at hx3
              have HY := Lib.hid (And.intro hx3 (And.intro hw3 (Fr.below' HX.out.2.1 hf3 (fun k hk => Nat.le_trans HBa.out.size (HX.out.1.ge HD2.out.2.2 k hk)))))
              clear hx3 hw3 hf3 q0 q1
              go_wp2_with fail
              go_roundw
              case rel => exact ⟨k + 1, by omega, by go_num, HY.out.2.2, fun y hy => HX.out.2.2.2.2.2 y hy ⟨by omega, hk255⟩, _, _, _, by have := HX.out.2.2.2.1; have := HY.out.2.1; omega, HY.out.1⟩
              case measure => simp [intOf]; omega
      · obtain rfl : k = L.length := by omega
        have hge : ¬ (L.length : Int) < (L.length : Int) := by omega
        rw [List.take_length] at hx hall
        have HQ := Lib.hid (And.intro hx (And.intro hb (And.intro hW hall)))
        clear hx hb hW hall hk hlt
        go_wp2_with fail
        refine (sync_x HQ.out.1 (by have := HQ.out.2.2.1; omega)).mono ?_
        rintro e wz ⟨rfl, hxz, hfz⟩
        obtain ⟨Fz, hFz⟩ : ∃ F, F = ov F2 W := ⟨_, rfl⟩
        rw [← hFz] at hxz
        have HZ := Lib.hid (And.intro hxz (And.intro (Fr.below' HQ.out.2.1 hfz (fun k hk => Nat.le_trans HBa.out.size (HQ.out.1.dk.foot_ge k hk))) HQ.out.2.2.2))
        clear hxz hfz hFz HQ
        go_wp2_with fail
        rw [hmI]
        go_loopw [7, 62] (fun lv iv wr => ∃ i : Nat, i ≤ m ∧ iv = .int .i64 i ∧ Below w.heap.size w wr ∧ ∃ bl hf F base apps last, lv = .pointer (some ⟨bl, 0, none⟩) ∧ wa.heap.size ≤ bl ∧ base ++ apps = L.map rc ∧ Lgx wr wa.heap.size bl bd gs 200 gn 200 (.slice none 0 0) 200 hf (i + 1) F [] base apps (cat 0 (chR base apps)).length last) (fun _ iv _ => m - (intOf iv).toNat)
        case atStart => exact ⟨0, Nat.zero_le _, rfl, HZ.out.2.1, bl, 0, Fz, [], L.map rc, last, rfl, HD2.out.2.2, rfl, HZ.out.1⟩
        case round =>
          obtain ⟨i, him, rfl, hb, bl', hf, F, base, apps, last', rfl, hbl', hbase, hx⟩ := hrel
          have HX := Lib.hid (And.intro hx (And.intro hb (And.intro hbl' hbase)))
          clear hx hb hbl' hbase
          by_cases him2 : i < m
          · have himI : (i : Int) < (m : Int) := by omega
            go_wp2_with fail
            refine (open_x (W := []) HX.out.1.dk HX.out.1.pl HX.out.1.o1 (by omega) (by decide) (HN.out.old HX.out.2.1)).mono ?_
            rintro e w6 ⟨k', hk', hj, rv, bl2, v, F6, last6, hrv, hbl2, rfl, hrs, hx6, hf6⟩
            have hkk : apps.take k' = apps := by
              refine List.take_of_length_le (hj apps.length (Nat.le_refl _) ?_)
              rw [List.take_length]; exact Nat.le_refl _
            rw [hkk] at hrv hx6
            rw [HX.out.2.2.2] at hrv hx6
            obtain ⟨a2, c2, rfl, _⟩ := hrs.shape
            have hrl : rv.length = L.length := by simpa using congrArg List.length hrv
            have hb6 : Below w.heap.size w w6 := Fr.below' HX.out.2.1 hf6 (fun k hk => Nat.le_trans HBa.out.size (HX.out.1.dk.foot_ge k hk))
            have hal := alike_yes a2 c2 rv a cap L w6 hrs.inRs (HI.out.1.old hb6) hrv (by omega)
            have hblq : wa.heap.size ≤ bl2 := by
              have h3 := lt_of_block HX.out.1.dk.blk
              have h4 := HX.out.1.dk.hb
              omega
            have HAL := Lib.hid hal
            have H6 := Lib.hid (And.intro hx6 (And.intro hb6 hblq))
            clear hk' hj hrv hbl2 hrs hx6 hf6 hrl hkk hal hb6 hblq
            go_wp2_with fail
            refine HAL.out.mono ?_
            rintro e w7 ⟨rfl, hb7⟩
            have H7 := Lib.hid (And.intro (H6.out.1.old hb7) (H6.out.2.1.trans (hb7.mono H6.out.2.1.size)))
            clear hb7
            go_wp2_with fail
            refine (turn_any H7.out.1.lg).mono ?_
            rintro e w8 ⟨rfl, rfl⟩
            have hz1 : wrap64 ((i : Int) + 2) = (i : Int) + 2 := by unfold wrap64; omega
            have hz2 : IntKind.u64.wrap ((i : Int) + 2) = ((i + 1 + 1 : Nat) : Int) := by rw [IntKind.wrap_u64]; omega
            go_wp2_with fail
            go_roundw
            case rel => exact ⟨i + 1, by omega, by go_num, H7.out.2, bl2, 1 - hf, F6, L.map rc, [], last6, rfl, H6.out.2.2, List.append_nil _, H7.out.1⟩
            case measure => simp [intOf]; omega
          · obtain rfl : i = m := by omega
            have hge2 : ¬ (i : Int) < (i : Int) := by omega
            have hi63 : i + 1 + 1 < 9223372036854775808 := by omega
            go_wp2_with fail
            refine (turn_any HX.out.1.lg).mono ?_
            rintro e w8 ⟨rfl, rfl⟩
            go_wp2_with fail
            refine (rewrite_x HX.out.1 hi63 a cap L (HI.out.1.old HX.out.2.1) HI.out.2.1 HI.out.2.2 (fun x hx => by have := (HZ.out.2.2 x hx).1; omega) (by omega) (by decide) (HN.out.old HX.out.2.1) (fun x hx => (HZ.out.2.2 x hx).2)).mono ?_
            rintro e w9 (⟨hlt, _⟩ | ⟨rfl, F9, last9, hx9, hf9⟩)
            · have h1 := HX.out.1.pl.cl
              have h2 := cat_told base apps apps.length
              rw [List.take_length, HX.out.2.2.2] at h2
              omega
            have H9 := Lib.hid (And.intro hx9 (Fr.below' HX.out.2.1 hf9 (fun k hk => Nat.le_trans HBa.out.size (HX.out.1.ge HX.out.2.2.1 k hk))))
            clear hx9 hf9
            go_wp2_with fail
            refine (turn_any H9.out.1.lg).mono ?_
            rintro e w8 ⟨rfl, rfl⟩
            have hz2 : IntKind.u64.wrap (((i + 1 : Nat) : Int) + 1) = ((i + 1 + 1 : Nat) : Int) := by rw [IntKind.wrap_u64]; omega
            go_wp2_with fail
            go_ret
            exact ⟨rfl, H9.out.2⟩
end Go.Proofs.YtjblkmjdepdekaaDoor.Wl

/- logs: the plain mathematics of a half that is written in parts beside a whole one -/
namespace Go.Proofs.YtjblkmjdepdekaaDoor.Wl
open Go.RowKit Go.Lib Go.Joins Go.Proofs.YtjblkmjdepdekaaDoor.By Go.Proofs.YtjblkmjdepdekaaDoor.Dk Go.Proofs.YtjblkmjdepdekaaDoor.Oc Go.Proofs.YtjblkmjdepdekaaDoor.Cr Go.Proofs.YtjblkmjdepdekaaDoor.Fm

set_option linter.unusedVariables false
theorem half_len {hf n : Nat} {D : List UInt8} (hD : D.length = 64 * n) : (half hf D (n / 2)).length = 64 * (n / 2) := by
  unfold half half1 half2
  split
  · rw [List.length_take]; omega
  · rw [List.length_drop, List.length_take]; omega
theorem half_eq {hf n : Nat} {D X : List UInt8} (h1 : hf ≤ 1) (hD : D.length = 64 * n) (hX : X.length = 64 * n) (h : ∀ i, i < n / 2 → getS X (hf * (n / 2) + i) = getS D (hf * (n / 2) + i)) : half hf X (n / 2) = half hf D (n / 2) :=
  ext_getS (n := n / 2) (half_len hX) (half_len hD) fun j hj => by rw [getS_half h1 hj, getS_half h1 hj]; exact h j hj
/-- a whole half tells all its records -/
theorem One.full {n hf t : Nat} {F : List UInt8} {base apps : List Rc} (h : One n hf t F (cat 0 (chR base apps)) (cat 0 (chR base apps)).length) (hn4 : 4 ≤ n) (ht : U64 t) (ht1 : 1 ≤ t)
    (hl : ∀ x ∈ chR base apps, x.2.length ≤ 1024) (hcl : (cat 0 (chR base apps)).length ≤ 55 * (n / 2)) :
    trn (half hf F (n / 2)) = t ∧ Tells (cnt (half hf F (n / 2)) (n / 2)) (chR base apps) := by
  have h0 : 0 < (cat 0 (chR base apps)).length := by
    have := len_cat 0 (chR base apps)
    unfold chR at this ⊢
    simp only [List.length_append, List.length_cons] at this
    omega
  obtain ⟨htr, c, hc1, hc2⟩ := cnt_part (by omega) ht ht1 h0 (Nat.le_refl _) hcl h.prt
  refine ⟨htr, ?_⟩
  obtain ⟨k, hk1, hk2, hk3, hk4⟩ := tells_cut (c := c) hl
  have hk : k = (chR base apps).length := by
    refine Nat.le_antisymm hk1 (Nat.not_lt.1 fun hlt => ?_)
    have h3 := hk4 hlt
    have h4 := cat_mono (chR base apps) (show k + 1 ≤ (chR base apps).length by omega)
    rw [List.take_length] at h4
    omega
  rw [hk, List.take_length] at hk2
  rw [hc2]; exact hk2
/-- a half of which some sectors are a new chain's, of a turn above all -/
theorem part_half {n hf t : Nat} {D E X : List UInt8} {base : List Rc} (hf1 : hf ≤ 1) (hn4 : 4 ≤ n) (ht : U64 (t + 1)) (hE : One n hf (t + 1) E (cat 0 (chR base [])) (cat 0 (chR base [])).length) (hD : ∀ i, i < n / 2 → trn (getS D (hf * (n / 2) + i)) < t)
    (hl : ∀ x ∈ chR base [], x.2.length ≤ 1024) (hb : ∀ x ∈ base, x.1 ≠ 255) (hcl : (cat 0 (chR base [])).length ≤ 55 * (n / 2))
    (hX : ∀ i, i < n / 2 → getS X (hf * (n / 2) + i) = getS D (hf * (n / 2) + i) ∨ getS X (hf * (n / 2) + i) = getS E (hf * (n / 2) + i)) :
    ∃ R, Tells (cnt (half hf X (n / 2)) (n / 2)) R ∧ (trn (half hf X (n / 2)) < t ∨ (trn (half hf X (n / 2)) = t + 1 ∧ ((uf R).2 = false ∨ uf R = (base, true)))) := by
  have hm : 0 < n / 2 := by omega
  have hp : Prt (half hf X (n / 2)) (n / 2) (t + 1) (cat 0 (chR base [])) 0 := fun i hi => by
    rw [getS_half hf1 hi]
    rcases hX i hi with e | e
    · rw [e]; have := hD i hi; exact .inl ⟨by omega, by omega⟩
    · rw [e]
      have hp := hE.prt i hi
      rw [getS_half hf1 hi] at hp
      rcases hp with ⟨h1, _⟩ | ⟨l, h1, _⟩
      · exact .inl ⟨h1, by omega⟩
      · exact .inr ⟨l, h1, .inl (by omega)⟩
  have htf : trn (half hf X (n / 2)) = trn (getS X (hf * (n / 2) + 0)) := by rw [← trn_first, getS_half hf1 hm]
  by_cases hT : trn (half hf X (n / 2)) = t + 1
  · obtain ⟨c, hc1, _⟩ := cnb_part ht (Nat.zero_le _) hcl hp (n / 2) 0 (Nat.zero_le _) (by omega)
    have hc2 : cnt (half hf X (n / 2)) (n / 2) = (cat 0 (chR base [])).take c := by
      unfold cnt
      rw [hT, if_neg (by omega), hc1]; simp
    obtain ⟨k, hk1, hk2, hk3, hk4⟩ := tells_cut (c := c) hl
    rw [← hc2] at hk2
    refine ⟨_, hk2, .inr ⟨hT, ?_⟩⟩
    have hR : (chR base []).length = base.length + 1 := by unfold chR; simp
    rcases Nat.lt_or_ge k (base.length + 1) with hlt | hge
    · left
      have e : (chR base []).take k = base.take k := by unfold chR; rw [List.take_append_of_le_length (by omega)]
      rw [e]
      unfold uf
      rw [uf_base _ (fun x hx => hb x (List.mem_of_mem_take hx))]
    · right
      rw [List.take_of_length_le (by omega)]
      have := uf_seal base [] hb
      rw [List.append_nil] at this
      exact this
  · obtain ⟨R, hR⟩ := tells_ex (cnt (half hf X (n / 2)) (n / 2))
    refine ⟨R, hR, .inl ?_⟩
    rcases hX 0 hm with e | e
    · rw [htf, e]; exact hD 0 hm
    · exfalso
      have hp := hE.prt 0 hm
      rw [getS_half hf1 hm] at hp
      have h0 : 0 < (cat 0 (chR base [])).length := by
        have := len_cat 0 (chR base [])
        unfold chR at this ⊢
        simp only [List.length_append, List.length_cons] at this
        omega
      rcases hp with ⟨_, h1⟩ | ⟨l, h1, _⟩
      · omega
      · rw [htf, e, h1, trn_secB ht] at hT
        exact hT rfl
/-- beside a whole half some sectors of a new one: what is told is the same -/
theorem torn {n hf t : Nat} {D E X : List UInt8} {base apps : List Rc} (hn4 : 4 ≤ n) (hf1 : hf ≤ 1) (ht : t + 1 < 9223372036854775808) (ht1 : 1 ≤ t) (hXl : X.length = 64 * n)
    (hD : One n hf t D (cat 0 (chR base apps)) (cat 0 (chR base apps)).length) (hE : One n (1 - hf) (t + 1) E (cat 0 (chR (base ++ apps) [])) (cat 0 (chR (base ++ apps) [])).length)
    (hl : ∀ x ∈ chR base apps, x.2.length ≤ 1024) (hb : ∀ x ∈ base, x.1 ≠ 255) (ha : ∀ x ∈ apps, x.1 ≠ 255) (hcl : (cat 0 (chR base apps)).length ≤ 55 * (n / 2))
    (hX : ∀ j, j < n → getS X j = getS D j ∨ ∃ i, i < n / 2 ∧ j = (1 - hf) * (n / 2) + i ∧ getS X j = getS E j) :
    ∃ hf', hf' ≤ 1 ∧ Cur X (n / 2) (hf', true, base ++ apps) ∧ lat X n ≤ t + 1 := by
  have hlt : ∀ hf, hf ≤ 1 → ∀ i, i < n / 2 → hf * (n / 2) + i < n := fun hf h i hi => by
    have : hf = 0 ∨ hf = 1 := by omega
    rcases this with rfl | rfl <;> omega
  have hne : ∀ i, i < n / 2 → ∀ i', i' < n / 2 → hf * (n / 2) + i ≠ (1 - hf) * (n / 2) + i' := fun i hi i' hi' => by
    have : hf = 0 ∨ hf = 1 := by omega
    rcases this with rfl | rfl <;> omega
  have hh : half hf X (n / 2) = half hf D (n / 2) := half_eq hf1 hD.fl hXl fun i hi => by
    rcases hX _ (hlt hf hf1 i hi) with e | ⟨i', h1, h2, _⟩
    · exact e
    · exact absurd h2 (hne i hi i' h1)
  obtain ⟨t1, t2⟩ := hD.full hn4 (U64.of (by omega)) ht1 hl hcl
  rw [← hh] at t1 t2
  have hu1 : uf (chR base apps) = (base ++ apps, true) := uf_seal base apps hb
  have hm2 : ∀ x ∈ chR (base ++ apps) [], x.2.length ≤ 1024 := fun x hx => by
    unfold chR at hx
    simp only [List.mem_append, List.mem_cons, List.not_mem_nil, or_false] at hx
    refine hl x ?_
    unfold chR
    simp only [List.mem_append, List.mem_cons]
    rcases hx with (h | h) | h
    · exact .inl h
    · exact .inr (.inr h)
    · exact .inr (.inl h)
  have hcl2 : (cat 0 (chR (base ++ apps) [])).length ≤ 55 * (n / 2) := by
    have h2 := cat_told base apps apps.length
    rw [List.take_length] at h2
    omega
  obtain ⟨R, hR, hRt⟩ := part_half (D := D) (X := X) (by omega : 1 - hf ≤ 1) hn4 (U64.of ht) hE (fun i hi => (hD.trs _ (hlt (1 - hf) (by omega) i hi)).2 (fun i' hi' e => hne i' hi' i hi e.symm)) hm2
    (fun x hx => by rcases List.mem_append.1 hx with h | h; exact hb x h; exact ha x h) hcl2 (fun i hi => by
      rcases hX _ (hlt (1 - hf) (by omega) i hi) with e | ⟨i', h1, h2, e⟩
      · exact .inl e
      · exact .inr e)
  have hlat : lat X n ≤ t + 1 := lat_le n fun j hj => by
    rcases hX j hj with e | ⟨i, _, _, e⟩
    · rw [e]; have := (hD.trs j hj).1; omega
    · rw [e]; exact (hE.trs j hj).1
  have hcase : hf = 0 ∨ hf = 1 := by omega
  rcases hcase with rfl | rfl
  · have hA : half1 X (n / 2) = half 0 X (n / 2) := rfl
    have hB : half2 X (n / 2) = half 1 X (n / 2) := rfl
    rw [Nat.sub_zero] at hR hRt
    rcases hRt with h | ⟨h, h2 | h2⟩
    · refine ⟨0, by omega, ⟨_, R, by rw [hA]; exact t2, by rw [hB]; exact hR, ?_⟩, hlat⟩
      rw [hA, hB, t1, hu1]
      unfold pick2
      rw [if_neg (by simp; omega)]
    · refine ⟨0, by omega, ⟨_, R, by rw [hA]; exact t2, by rw [hB]; exact hR, ?_⟩, hlat⟩
      rw [hA, hB, t1, hu1]
      unfold pick2
      rw [if_neg (by simp [h2])]
    · refine ⟨1, by omega, ⟨_, R, by rw [hA]; exact t2, by rw [hB]; exact hR, ?_⟩, hlat⟩
      rw [hA, hB, t1, hu1, h, h2]
      unfold pick2
      rw [if_pos (by simp)]
  · have hA : half1 X (n / 2) = half (1 - 1) X (n / 2) := rfl
    have hB : half2 X (n / 2) = half 1 X (n / 2) := rfl
    rcases hRt with h | ⟨h, h2 | h2⟩
    · refine ⟨1, by omega, ⟨R, _, by rw [hA]; exact hR, by rw [hB]; exact t2, ?_⟩, hlat⟩
      rw [hA, hB, t1, hu1]
      unfold pick2
      rw [if_pos (by simp; right; omega)]
    · refine ⟨1, by omega, ⟨R, _, by rw [hA]; exact hR, by rw [hB]; exact t2, ?_⟩, hlat⟩
      rw [hA, hB, t1, hu1]
      unfold pick2
      rw [if_pos (by simp [h2])]
    · refine ⟨0, by omega, ⟨R, _, by rw [hA]; exact hR, by rw [hB]; exact t2, ?_⟩, hlat⟩
      rw [hA, hB, t1, hu1, h, h2]
      unfold pick2
      rw [if_neg (by simp)]
end Go.Proofs.YtjblkmjdepdekaaDoor.Wl

/- logs: the walk of WalTorn -/
namespace Go.Proofs.YtjblkmjdepdekaaDoor.Wl
open Go.RowKit Go.Lib Go.Joins Go.Proofs.YtjblkmjdepdekaaDoor.By Go.Proofs.YtjblkmjdepdekaaDoor.Dk Go.Proofs.YtjblkmjdepdekaaDoor.Oc Go.Proofs.YtjblkmjdepdekaaDoor.Ht Go.Proofs.YtjblkmjdepdekaaDoor.Cr Go.Proofs.YtjblkmjdepdekaaDoor.Fm
attribute [local go_sem] Oper.semAt_some

theorem txt_inj {l m : List UInt8} : ((⟨l.toArray⟩ : ByteArray) = ⟨m.toArray⟩) ↔ l = m := by
  constructor
  · intro h; simpa using congrArg (fun b => b.data.toList) h
  · rintro rfl; rfl
set_option maxRecDepth 20000 in
set_option maxHeartbeats 16000000 in
theorem torn_walk (a : Option Addr) (cap : Nat) (L : List Rv) (a2 : Option Addr) (len2 cap2 : Nat) (kp : Nat) (w : World) (h1 : InRs w a L) (hc1 : (a = none → L = [] ∧ cap = 0) ∧ L.length ≤ cap ∧ cap ≤ 9223372036854775807) (hn : Nibs w) :
    Calls Tryd.prog 4 #[.slice a L.length cap, .slice a2 len2 cap2, .int .u64 (kp : Nat)] w fun e w' => e = .returned (.bool true) ∧ Below w.heap.size w w' := by
  have HLV := fun W (h : Nibs W) => Lib.hid (lives05_any W h)
  have HN := Lib.hid hn
  have HI := Lib.hid (And.intro h1 hc1)
  clear h1 hc1 hn
  go_enter Tryd.func4, Tryd.ntmps4
  by_cases g0 : 20 < L.length ∨ 20 < len2
  · have e1 : (L.length : Int) > 20 ∨ ¬ (L.length : Int) > 20 ∧ (len2 : Int) > 20 := by omega
    rcases e1 with e1 | ⟨e1, e2⟩
    all_goals
      go_wp2_with fail
      refine (HLV _ HN.out).out.mono ?_
      rintro e wa ⟨rfl, hba⟩
      have HBA := Lib.hid hba
      clear hba
      go_wp2_with fail
      refine (HLV _ (HN.out.old HBA.out)).out.mono ?_
      rintro e wb ⟨rfl, hbb⟩
      have HBB := Lib.hid (HBA.out.trans (hbb.mono HBA.out.size))
      clear hbb
      go_wp2_with fail
      go_ret
      exact ⟨rfl, HBB.out⟩
  · have e1 : ¬ (L.length : Int) > 20 := by omega
    have e2 : ¬ (len2 : Int) > 20 := by omega
    go_wp2_with fail
    refine (HLV _ HN.out).out.mono ?_
    rintro e wa ⟨rfl, hba⟩
    have HBa := Lib.hid hba
    clear hba
    go_wp2_with fail
    refine (new_x 200 wa (by decide)).mono ?_
    rintro e w1 ⟨bd, gs, gn, F1, rfl, hd1, hlat1, hb1⟩
    have HD1 := Lib.hid (And.intro hd1 (And.intro hb1.size (HBa.out.trans (hb1.mono HBa.out.size))))
    clear hd1 hb1
    go_wp2_with fail
    refine (format_x (W := []) HD1.out.1 (by decide) (by rw [hlat1]; decide) (by decide) (HN.out.old HD1.out.2.2)).mono ?_
    rintro e w2 ⟨bl, F2, last2, hbl, rfl, hx2, hf2⟩
    rw [hlat1] at hx2
    have hb2 : Below w.heap.size w w2 := Fr.below' HD1.out.2.2 hf2 (fun k hk => Nat.le_trans HBa.out.size (HD1.out.1.foot_ge k hk))
    have hblw : wa.heap.size ≤ bl := Nat.le_trans HD1.out.2.1 hbl
    have HD2 := Lib.hid (And.intro hx2 (And.intro hb2 hblw))
    clear hx2 hb2 hf2 hbl hblw hlat1
    go_wp2_with fail
    go_loopw [51] (fun kv wr => ∃ k : Nat, k ≤ L.length ∧ kv = .int .i64 k ∧ Below w.heap.size w wr ∧ (∀ x ∈ L.take k, x.d.length ≤ 60 ∧ x.k ≠ 255) ∧ ∃ vw W last, W.length ≤ 2100 * k ∧ Lgx wr wa.heap.size bl bd gs 200 gn 200 vw 200 0 1 F2 W [] ((L.take k).map rc) (cat 0 (chR [] [])).length last) (fun kv _ => L.length - (intOf kv).toNat)
    case atStart => exact ⟨0, Nat.zero_le _, rfl, HD2.out.2.1, by simp, _, [], _, by simp, by rw [List.take_zero]; exact HD2.out.1⟩
    case round =>
      obtain ⟨k, hk, rfl, hb, hall, vw, W, last, hW, hx⟩ := hrel
      by_cases hlt : k < L.length
      · have hkc : (k : Int) < (L.length : Int) := by omega
        have hm0 : (0 : Int) ≤ (k : Int) := by omega
        obtain ⟨gg, og, rfl, hrg⟩ := HI.out.1.at hlt
        obtain ⟨x, hxe⟩ : ∃ x, x = L[k] := ⟨_, rfl⟩
        rw [← hxe] at hrg
        obtain ⟨c0, c1, hib⟩ := hrg.old hb
        obtain ⟨W1, hW1⟩ : ∃ W, W = wr.alloc (.cells #[.int .u8 (x.k.toNat : Nat), .slice x.a x.d.length x.c] 34) := ⟨_, rfl⟩
        have hb1 : Below wr.heap.size wr W1 := by rw [hW1]; exact (Below.refl _ _).alloc (Nat.le_refl _) _
        have x1 : W1.heap[wr.heap.size]? = some (.cells #[.int .u8 (x.k.toNat : Nat), .slice x.a x.d.length x.c] 34 (0, 0)) := by rw [hW1]; exact heap_alloc_new wr _
        obtain ⟨⟨q0, q1⟩, _⟩ := two_cells x1
        rw [hW1] at q0 q1
        have htk : (L.take (k + 1)).map rc = (L.take k).map rc ++ [(x.k, x.d)] := by
          rw [List.take_succ_eq_append_getElem hlt, List.map_append, ← hxe]; rfl
        have hal' : ∀ y ∈ L.take (k + 1), (x.d.length ≤ 60 ∧ x.k ≠ 255) → y.d.length ≤ 60 ∧ y.k ≠ 255 := fun y hy hxx => by
          rw [List.take_succ_eq_append_getElem hlt, ← hxe] at hy
          rcases List.mem_append.1 hy with h | h
          · exact hall y h
          · rw [List.mem_singleton.1 h]; exact hxx
        have HX := Lib.hid (And.intro (hx.old hb1) (And.intro (hb.trans (hb1.mono hb.size)) (And.intro (hib.old hb1) (And.intro hW (And.intro htk hal')))))
        have HW1 := Lib.hid hW1
        clear hx hb hib hW htk hal' hall hb1 x1 hW1 hrg hxe
        by_cases hd60 : 60 < x.d.length
        · have hdI : (x.d.length : Int) > 60 := by omega
          go_wp2_with fail
          go_ret
          exact ⟨rfl, by rw [← HW1.out]; exact HX.out.2.1⟩
        · have hdI : ¬ (x.d.length : Int) > 60 := by omega
          by_cases hk255 : x.k = 255
          · have hkI : (x.k.toNat : Int) = 255 := by rw [hk255]; rfl
            go_wp2_with fail
            go_ret
            exact ⟨rfl, by have := HX.out.2.1; rw [HW1.out, hkI] at this; exact this⟩
          · have hkI : ¬ (x.k.toNat : Int) = 255 := fun h => hk255 (UInt8.toNat_inj.1 (show x.k.toNat = 255 by omega))
            go_wp2_with fail
            rw [← HW1.out]
            refine (append_x HX.out.1 x.k x.a x.c x.d HX.out.2.2.1 hk255 (by omega) (by have := HX.out.2.2.2.1; omega) (HN.out.old HX.out.2.1)).mono ?_
            rintro e W3 (⟨_, rfl, hY3⟩ | ⟨_, rfl, vw3, Wl3, last3, hx3, hw3, _, hf3⟩)
            · have HY := Lib.hid (HX.out.2.1.trans (hY3.mono HX.out.2.1.size))
              clear hY3 q0 q1
              go_wp2_with fail
              go_ret
              exact ⟨rfl, HY.out⟩
            · rw [← HX.out.2.2.2.2.1] at hx3
              have HY := Lib.hid (And.intro hx3 (And.intro hw3 (Fr.below' HX.out.2.1 hf3 (fun k hk => Nat.le_trans HBa.out.size (HX.out.1.ge HD2.out.2.2 k hk)))))
              clear hx3 hw3 hf3 q0 q1
              go_wp2_with fail
              go_roundw
              case rel => exact ⟨k + 1, by omega, by go_num, HY.out.2.2, fun y hy => HX.out.2.2.2.2.2 y hy ⟨by omega, hk255⟩, _, _, _, by have := HX.out.2.2.2.1; have := HY.out.2.1; omega, HY.out.1⟩
              case measure => simp [intOf]; omega
      · obtain rfl : k = L.length := by omega
        have hge : ¬ (L.length : Int) < (L.length : Int) := by omega
        rw [List.take_length] at hx hall
        have HQ := Lib.hid (And.intro hx (And.intro hb (And.intro hW hall)))
        clear hx hb hW hall hk hlt
        go_wp2_with fail
        refine (sync_x HQ.out.1 (by have := HQ.out.2.2.1; omega)).mono ?_
        rintro e wz ⟨rfl, hxz, hfz⟩
        obtain ⟨Fz, hFz⟩ : ∃ F, F = ov F2 W := ⟨_, rfl⟩
        rw [← hFz] at hxz
        have HZ := Lib.hid (And.intro hxz (And.intro (Fr.below' HQ.out.2.1 hfz (fun k hk => Nat.le_trans HBa.out.size (HQ.out.1.dk.foot_ge k hk))) HQ.out.2.2.2))
        clear hxz hfz hFz HQ
        go_wp2_with fail
        refine (copy_any HZ.out.1.dk (by decide)).mono ?_
        rintro e wc ⟨bdc, gsc, csc, gnc, cnc, vwc, rfl, hdc, hbc⟩
        have HC := Lib.hid (And.intro hdc (And.intro hbc (HZ.out.2.1.trans (hbc.mono HZ.out.2.1.size))))
        clear hdc hbc
        go_wp2_with fail
        refine (open_x (W := []) HC.out.1 HZ.out.1.pl HZ.out.1.o1 (by decide) (by decide) (HN.out.old HC.out.2.2)).mono ?_
        rintro e wo ⟨k', hk', hj, rv, bl2, v, E, last6, hrv, hbl2, rfl, hrs, hx6, hf6⟩
        have hkk : (L.map rc).take k' = L.map rc := by
          refine List.take_of_length_le (hj (L.map rc).length (Nat.le_refl _) ?_)
          rw [List.take_length]; exact Nat.le_refl _
        rw [hkk, List.nil_append] at hx6
        obtain ⟨a3, c3, rfl, _⟩ := hrs.shape
        have hbo : Below wz.heap.size wz wo := HC.out.2.1.trans (hf6.below HC.out.2.1.size HC.out.1.foot_ge)
        have HO := Lib.hid (And.intro hx6 (And.intro (HZ.out.1.old hbo) (HZ.out.2.1.trans (hbo.mono HZ.out.2.1.size))))
        clear hk' hj hrv hbl2 hrs hx6 hf6 hkk hbo
        go_wp2_with fail
        refine (copy_any HO.out.2.1.dk (by decide)).mono ?_
        rintro e wx ⟨bdx, gsx, csx, gnx, cnx, vwx, rfl, hdx, hbx⟩
        have HX0 := Lib.hid (And.intro hdx hbx)
        clear hdx hbx
        go_wp2_with fail
        refine (len_any (HO.out.2.1.dk.old HX0.out.2)).mono ?_
        rintro e wx' ⟨rfl, rfl⟩
        go_wp2_with fail
        go_loopw [90] (fun kv wr => ∃ i : Nat, i ≤ 100 ∧ kv = .int .i64 i ∧ Below wo.heap.size wo wr ∧ ∃ vw W, IsDk wr wo.heap.size bdx gsx csx gnx cnx vw 200 Fz (ov Fz W) W false ∧ W.length ≤ i ∧ ∀ x ∈ W, ∃ j, j < 100 ∧ x = (100 + j, getS E (100 + j))) (fun kv _ => 100 - (intOf kv).toNat)
        case atStart => exact ⟨0, Nat.zero_le _, rfl, HX0.out.2, vwx, [], HX0.out.1, by simp, by simp⟩
        case round =>
          obtain ⟨i, hi, rfl, hb, vw', W', hdx, hWl, hWm⟩ := hrel
          have HX := Lib.hid (And.intro hdx (And.intro hb (And.intro hWl hWm)))
          clear hb hdx hWl hWm
          by_cases hi2 : i < 100
          · have hiI : (i : Int) < 100 := by omega
            have hz1 : wrap64 (100 + (i : Int)) = ((100 + i : Nat) : Int) := by unfold wrap64; omega
            have hrc := read_ok (HO.out.1.dk.old HX.out.2.1) (100 + i) 1 (by decide) (by omega)
            have HRC := Lib.hid hrc
            clear hrc
            go_wp2_with fail
            refine HRC.out.mono ?_
            rintro e wr1 ⟨a5, c5, rfl, hib5, _, hb5⟩
            rw [getM_one] at hib5
            have HX1 := Lib.hid (And.intro hib5 (And.intro hb5 (HX.out.2.1.trans (hb5.mono HX.out.2.1.size))))
            have hrd := read_ok (HO.out.2.1.dk.old HX1.out.2.2) (100 + i) 1 (by decide) (by omega)
            have HRD := Lib.hid hrd
            clear hib5 hb5 hrd
            go_wp2_with fail
            refine HRD.out.mono ?_
            rintro e wr2 ⟨a6, c6, rfl, hib6, _, hb6⟩
            rw [getM_one] at hib6
            have HX2 := Lib.hid (And.intro (HX1.out.1.old hb6) (And.intro hib6 (And.intro ((HX.out.1.old HX1.out.2.1).old hb6) (HX1.out.2.2.trans (hb6.mono HX1.out.2.2.size)))))
            have s5 := str_of HX2.out.1
            have s6 := str_of HX2.out.2.1
            clear hib6 hb6
            obtain ⟨ri, hri⟩ : ∃ r, r = i % 64 := ⟨_, rfl⟩
            have hri1 : (i : Int) % 64 = (ri : Int) := by omega
            have hri2 : (ri : Int) < 64 := by omega
            have hri3 : (i : Int).tmod 64 = (ri : Int) := by rw [Int.tmod_eq_emod_of_nonneg (by omega)]; exact hri1
            clear hri
            by_cases heq : getS (ov E []) (100 + i) = getS (ov Fz []) (100 + i)
            · rw [heq] at s5
              go_wp2_with fail
              go_roundw
              case rel => exact ⟨i + 1, by omega, by go_num, HX2.out.2.2.2, vw', W', HX2.out.2.2.1, by have := HX.out.2.2.1; omega, HX.out.2.2.2⟩
              case measure => simp [intOf]; omega
            · have hne : ¬ (⟨(getS (ov E []) (100 + i)).toArray⟩ : ByteArray) = ⟨(getS (ov Fz []) (100 + i)).toArray⟩ := fun h => heq (txt_inj.1 h)
              have hlE : (getS (ov E []) (100 + i)).length = 64 := length_getS (n := 200) HO.out.1.o1.fl (by omega)
              have hwr := write_ok HX2.out.2.2.1 (100 + i) (by omega) a5 (64 * 1) c5 (getS (ov E []) (100 + i)) (by decide) HX2.out.1 (by have := HX.out.2.2.1; omega)
              rw [full_64 hlE, show ((100 + i : Nat) : Int) = 100 + (i : Int) by omega, show 64 * 1 = 64 from rfl] at hwr
              have HWR := Lib.hid hwr
              clear hwr heq hlE
              go_wp2_with fail
              · go_roundw
                case rel => exact ⟨i + 1, by omega, by go_num, HX2.out.2.2.2, vw', W', HX2.out.2.2.1, by have := HX.out.2.2.1; omega, HX.out.2.2.2⟩
                case measure => simp [intOf]; omega
              · refine HWR.out.mono ?_
                rintro e wr3 ⟨rfl, ⟨vw3, hd3, _⟩, hf3⟩
                have e4 : ov Fz (W' ++ [(100 + i, getS (ov E []) (100 + i))]) = setS (ov Fz W') (100 + i) (getS (ov E []) (100 + i)) := ov_snoc _ _ _
                rw [← e4] at hd3
                have HX3 := Lib.hid (And.intro hd3 (HX2.out.2.2.2.trans (hf3.below HX2.out.2.2.2.size HX2.out.2.2.1.foot_ge)))
                clear hd3 hf3
                go_wp2_with fail
                go_roundw
                case rel => exact ⟨i + 1, by omega, by go_num, HX3.out.2, vw3, _, HX3.out.1, by have := HX.out.2.2.1; simp; omega, fun x hx => by
                  rcases List.mem_append.1 hx with h | h
                  · exact HX.out.2.2.2 x h
                  · exact ⟨i, hi2, by rw [List.mem_singleton.1 h]; rfl⟩⟩
                case measure => simp [intOf]; omega
              · go_roundw
                case rel => exact ⟨i + 1, by omega, by go_num, HX2.out.2.2.2, vw', W', HX2.out.2.2.1, by have := HX.out.2.2.1; omega, HX.out.2.2.2⟩
                case measure => simp [intOf]; omega
          · obtain rfl : i = 100 := by omega
            go_wp2_with fail
            refine (sync_ok HX.out.1 (by have := HX.out.2.2.1; omega)).mono ?_
            rintro e wy ⟨rfl, hdy, hfy⟩
            rw [sync_ov HX.out.1.lenF HX.out.1.okW] at hdy
            obtain ⟨X, hX⟩ : ∃ X, X = ov Fz W' := ⟨_, rfl⟩
            rw [← hX] at hdy
            have hXl : X.length = 64 * 200 := by rw [hX]; exact ov_len W' Fz HX.out.1.lenF HX.out.1.okW
            have hXs : ∀ j, j < 200 → getS X j = getS Fz j ∨ ∃ i, i < 200 / 2 ∧ j = (1 - 0) * (200 / 2) + i ∧ getS X j = getS E j := fun j _ => by
              rw [hX]
              rcases ov_one W' Fz HX.out.1.lenF HX.out.1.okW j with e | ⟨x, hx, e1, e2⟩
              · exact .inl e
              · obtain ⟨j', h1, rfl⟩ := HX.out.2.2.2 x hx
                exact .inr ⟨j', by omega, by simp only at e1; omega, by rw [e2]; simp only at e1 ⊢; rw [e1]⟩
            obtain ⟨hf', hf1', hcur, hlat⟩ := torn (base := []) (apps := L.map rc) (by decide) (by decide) (by decide) (by decide) hXl HO.out.2.1.o1 HO.out.1.o1 HO.out.2.1.pl.rl (by simp) HO.out.2.1.pl.ak HO.out.2.1.pl.cl hXs
            have HY := Lib.hid (And.intro hdy (And.intro (HX.out.2.1.trans (hfy.below HX.out.2.1.size HX.out.1.foot_ge)) (And.intro hcur hlat)))
            clear hdy hfy hX hXl hXs hcur hlat
            have hbwy := HO.out.2.2.trans (HY.out.2.1.mono HO.out.2.2.size)
            have HBY := Lib.hid hbwy
            clear hbwy
            go_wp2_with fail
            refine (open_ok (F := X) (W := []) HY.out.1 (by decide) HY.out.2.2.1 (fun r hr => HO.out.2.1.pl.rl r (by rw [List.nil_append] at hr; unfold chR; simp [hr])) (by simp; omega) (by have := HY.out.2.2.2; show lat X 200 < _; omega) (by decide) (HN.out.old HBY.out)).mono ?_
            rintro e wq ⟨rv, hrv, ⟨h1, rfl, h2⟩ | ⟨bl3, v, h1, rfl, h2, h3, h4, h7⟩⟩
            · exfalso
              rw [(catR_chR rv).1, hrv] at h1
              have h3 := HO.out.2.1.pl.cl
              have h4 := cat_told [] (L.map rc) (L.map rc).length
              rw [List.take_length] at h4
              omega
            obtain ⟨a4, c4, rfl, _⟩ := h2.shape
            have hrl : rv.length = L.length := by simpa using congrArg List.length hrv
            have hbq : Below w.heap.size w wq := Fr.below' HBY.out h7 (fun k hk => Nat.le_trans HO.out.2.2.size (HY.out.1.foot_ge k hk))
            have hboq : Below wo.heap.size wo wq := Fr.below' HY.out.2.1 h7 (fun k hk => HY.out.1.foot_ge k hk)
            have hal := alike_yes a4 c4 rv a cap L wq h2.inRs (HI.out.1.old hbq) (by rw [hrv, List.nil_append]) (by omega)
            have HAL := Lib.hid hal
            have HQ2 := Lib.hid (And.intro hbq hboq)
            clear hrv h1 h2 h3 h4 h7 hal hbq hboq hrl
            go_wp2_with fail
            refine HAL.out.mono ?_
            rintro e w7 ⟨rfl, hb7⟩
            have HB7 := Lib.hid (And.intro (HQ2.out.1.trans (hb7.mono HQ2.out.1.size)) (HQ2.out.2.trans (hb7.mono HQ2.out.2.size)))
            clear hb7
            go_wp2_with fail
            refine (turn_any (HO.out.1.old HB7.out.2).lg).mono ?_
            rintro e w8 ⟨rfl, rfl⟩
            go_wp2_with fail
            refine (turn_any (HO.out.2.1.old HB7.out.2).lg).mono ?_
            rintro e w8 ⟨rfl, rfl⟩
            go_wp2_with fail
            go_ret
            exact ⟨rfl, HB7.out.1⟩
end Go.Proofs.YtjblkmjdepdekaaDoor.Wl

/- WalTorn (P5.2): a crash in the midst of writing a half that isn't sealed yet leaves the other one: whichever of its sectors are kept, all that was synced is told: the call returns true for any records and any bits, and the arguments read as before. The table of package crc is tied to the program's text. -/
namespace Go.Proofs.YtjblkmjdepdekaaDoor.walTorn
open Go.ChangeShapes Go.WideShapes Go.ChangeAt Go.RowKit
set_option linter.unusedVariables false

theorem own : ownKnob Tryd.prog.godebug = none := by kernel_rfl
theorem laidOut : laidOutB Tryd.prog = true := by kernel_rfl

set_option maxRecDepth 100000 in
theorem lifted (os : Os) (started : os.Started) (H : Type) (enc : TypeId × Value → H) :
    ReturnsInHanded {} Tryd.checked os 4 .any (fun w args => (Rows.walTornSpec.pre enc Tryd.prog Tryd.f4 [] false w args ∧ laidMetH Tryd.prog Cr.laidL w) ∧ sizedMet enc Tryd.prog Tryd.f4 (OpenSpec.ofChange Rows.walTornSpec) false w args) (Rows.walTornSpec.post enc Tryd.prog Tryd.f4 false true false false) := by
  refine returnsInHanded_of_change_and (C := Tryd.checked) (X := fun w _ => laidMetH Tryd.prog Cr.laidL w) (fun _ _ _ hh h => h.of_heap hh) own started (by kernel_rfl) Tryd.func4
    (ChangeSpec.witness_shaped (enc := enc) (C := Tryd.checked) (os := os) (X := fun w _ => laidMetH Tryd.prog Cr.laidL w) false (World.laidAll Tryd.prog os Cr.laidL) #[.slice none 0 0, .slice none 0 0, .int .u64 0] 8 (World.laidAll_os _ _ _) (World.shaped_of_ZipB (by kernel_rfl) (by kernel_rfl)) (by kernel_rfl) (by kernel_rfl) (by kernel_rfl) (Cr.met_laid _ _)) ?_
  intro W base args ds gs before hval0 hW hcnd _ hL _
  have hval : ∀ (j : Nat) t v, Tryd.f4.params[j]? = some t → args[j]? = some v → Value.okWide Tryd.prog W .any base t v := hval0
  have hW' := hW
  obtain ⟨p, q, hA0, hV, rfl, hfz, hnd⟩ := hW
  have hA : DataW.TrodAll enc Tryd.prog W 0 (fun _ => true) true Tryd.f4.params.toList args.toList ds p := hA0
  rw [Tryd.params4] at hA hval
  obtain ⟨v0, vs0, d0, ds0, p0, q0, hargs, rfl, rfl, h0, r0⟩ := trodAll_cons hA
  obtain ⟨v1, vs1, d1, ds1, p1, q1, rfl, rfl, rfl, h1, r1⟩ := trodAll_cons r0
  obtain ⟨v2, vs2, d2, ds2, p2, q2, rfl, rfl, rfl, h2, r2⟩ := trodAll_cons r1
  obtain ⟨rfl, rfl, rfl⟩ := trodAll_nil r2
  obtain rfl : args = #[v0, v1, v2] := by cases args; simp_all
  obtain ⟨rfl, rfl⟩ := trodVars_none hV
  have k0 := h0
  have lt0 : ∀ x ∈ p0, x.block < W.heap.size := by obtain ⟨m, hm⟩ := k0; exact DataW.trod_lt m _ _ _ hm
  obtain ⟨a0, n0, c0, l0, rfl, rfl, hc0, i0⟩ := Par.open_rvs (hval 0 31 v0 rfl rfl) h0
  have k1 := h1
  have lt1 : ∀ x ∈ p1, x.block < W.heap.size := by obtain ⟨m, hm⟩ := k1; exact DataW.trod_lt m _ _ _ hm
  obtain ⟨a1, n1, c1, l1, rfl, rfl, hc1, i1⟩ := Par.open_rvs (hval 1 31 v1 rfl rfl) h1
  have k2 := h2
  have lt2 : ∀ x ∈ p2, x.block < W.heap.size := by obtain ⟨m, hm⟩ := k2; exact DataW.trod_lt m _ _ _ hm
  obtain ⟨m2, rfl, e2⟩ := Par.open_u64 (hval 2 35 v2 rfl rfl) h2
  clear hA0 hval0
  have hn := Cr.nibs_of hL
  refine (Wl.torn_walk a0 c0 l0 a1 _ c1 m2 W i0 hc0 hn).mono fun e W' ⟨he, bel⟩ => ?_
  subst he
  exact ⟨_, rfl, _, _, _, [], _, [], hW', trodAll_mk1 (shut_bool Tryd.underlying4 _), (trodAll_cons_mk (Below.trod laidOut (by kernel_rfl) (of_decide_eq_true (by kernel_rfl)) k0 bel lt0) (trodAll_cons_mk (Below.trod laidOut (by kernel_rfl) (of_decide_eq_true (by kernel_rfl)) k1 bel lt1) (trodAll_cons_mk (Below.trod laidOut (by kernel_rfl) (of_decide_eq_true (by kernel_rfl)) k2 bel lt2) trodAll_mk0))), rfl, bel.frame _, fun h => by cases h⟩

theorem over : Rows.walTornRow.holds Tryd.pinned (OpenSpec.ofChange Rows.walTornSpec) :=
  OpenClaim.holds_of_wide 4 Tryd.f4 rfl rfl rfl rfl rfl rfl rfl ⟨rfl, rfl, rfl, rfl, rfl⟩ rfl rfl rfl rfl rfl (by kernel_rfl) Tryd.func4 (by kernel_rfl)
    (of_decide_eq_true (by kernel_rfl)) (by unfold Func.isWrapper; first | (rw [if_pos (by decide +kernel)]; kernel_rfl) | (rw [if_neg (by decide +kernel)]; exact ⟨rfl, rfl⟩))
    (fun os started H enc _ => lifted os started H enc)

theorem proved : Rows.WalTornCardSaid :=
  Claim7.holds_tied_plain_at .later [] [.data] true _ false over (fun _ h => by cases h) (by kernel_rfl) (fun _ h => by cases h) walTorn_row_tie rfl ⟨rfl, rfl⟩ (by kernel_rfl) rfl
    (fun f fn hf hfn => by
      obtain rfl : f = 4 := Option.some.inj ((show Tryd.prog.funcNamed "compline/complinelaw05.WalTorn" = some 4 by kernel_rfl).symm.trans hf) |>.symm
      obtain rfl : fn = Tryd.f4 := (Option.some.inj (Tryd.func4.symm.trans hfn)).symm
      exact ⟨by kernel_rfl, fun j t ht => by
        rw [Tryd.params4] at ht
        have hm : t ∈ [31, 35] := by simpa using Array.mem_of_getElem? ht
        have hall : ([31, 35].all fun u => !Tryd.prog.wantsStandIn u) = true := by kernel_rfl
        exact (show Tryd.prog.wantsStandIn t = false by simpa using List.all_eq_true.1 hall t hm)⟩)
    (by kernel_rfl)
#print axioms proved
end Go.Proofs.YtjblkmjdepdekaaDoor.walTorn
