
/- WalKeeps (P5.2): behind whatever is appended, synced, rewritten, with whatever crashes, whatever of the writings they keep, Open tells all that was synced, and of what was appended behind a beginning: the call returns true for any acts, and the argument reads as before. The table of package crc is tied to the program's text. -/
import Derived.Test.YtjblkmjdepdekaaDoorWBas5
import Derived.Deep.Upon
import Derived.Test.YtjblkmjdepdekaaDoorRows
import Derived.ProofKit
import Derived.Deep.Slices
import Derived.Deep.Fields
import Derived.WalkKit
import Derived.OpenShut
import Derived.ShutString
import Derived.ChangeOld
import Derived.Below
/- logs: the walk of WalTurns -/
namespace Go.Proofs.YtjblkmjdepdekaaDoor.Wl
open Go.RowKit Go.Lib Go.Joins Go.Proofs.YtjblkmjdepdekaaDoor.By Go.Proofs.YtjblkmjdepdekaaDoor.Dk Go.Proofs.YtjblkmjdepdekaaDoor.Oc Go.Proofs.YtjblkmjdepdekaaDoor.Ht Go.Proofs.YtjblkmjdepdekaaDoor.Cr Go.Proofs.YtjblkmjdepdekaaDoor.Fm
attribute [local go_sem] Oper.semAt_some

theorem new_x (n : Nat) (w : World) (hn : 1 ≤ n ∧ n ≤ 4096) : Calls Tryd.prog 9 #[.int .i64 (n : Nat)] w fun e w' => ∃ bd gs gn F, e = .returned (.tuple #[.pointer (some ⟨bd, 0, none⟩), .int .i64 0]) ∧ IsDk w' w.heap.size bd gs n gn n (.slice none 0 0) n F (ov F []) [] false ∧ lat (ov F []) n = 0 ∧ Below w.heap.size w w' := by
  refine (new_any n w hn).mono ?_
  rintro e w1 ⟨bd, gs, gn, rfl, hd1, hb1⟩
  exact ⟨bd, gs, gn, _, rfl, hd1, lat_zero _ _, hb1⟩
theorem rem9 (s : Int) (h : (Lit.int .u8 s).wf = true) : ∃ n : Nat, 1 ≤ n ∧ n ≤ 9 ∧ wrap64 (1 + wrap64 (s.tmod 9)) = (n : Int) := by
  have h0 : 0 ≤ s ∧ s ≤ 255 := by simpa [Lit.wf, IntKind.min, IntKind.max, IntKind.signed, IntKind.bits] using h
  have h1 : s.tmod 9 = s % 9 := Int.tmod_eq_emod_of_nonneg h0.1
  refine ⟨(1 + s % 9).toNat, by omega, by omega, ?_⟩
  rw [h1]; unfold wrap64; omega
set_option maxRecDepth 20000 in
set_option maxHeartbeats 16000000 in
theorem turns_walk (a : Option Addr) (cap : Nat) (L : List Rv) (s : Int) (hs : (Lit.int .u8 s).wf = true) (w : World) (h1 : InRs w a L) (hc1 : (a = none → L = [] ∧ cap = 0) ∧ L.length ≤ cap ∧ cap ≤ 9223372036854775807) (hn : Nibs w) :
    Calls Tryd.prog 7 #[.slice a L.length cap, .int .u8 s] w fun e w' => e = .returned (.bool true) ∧ Below w.heap.size w w' := by
  have HLV := fun W (h : Nibs W) => Lib.hid (lives05_any W h)
  have HN := Lib.hid hn
  have HI := Lib.hid (And.intro h1 hc1)
  obtain ⟨m, hm1, hm9, hmI⟩ := rem9 s hs
  clear h1 hc1 hn
  go_enter Tryd.func7, Tryd.ntmps7
  by_cases g1 : 20 < L.length
  · have e1 : (L.length : Int) > 20 := by omega
    go_wp2_with fail
    refine (HLV _ HN.out).out.mono ?_
    rintro e wa ⟨rfl, hba⟩
    have HBA := Lib.hid hba
    clear hba
    go_wp2_with fail
    refine (HLV _ (HN.out.old HBA.out)).out.mono ?_
    rintro e wb ⟨rfl, hbb⟩
    have HBB := Lib.hid (HBA.out.trans (hbb.mono HBA.out.size))
    clear hbb
    go_wp2_with fail
    go_ret
    exact ⟨rfl, HBB.out⟩
  · have e1 : ¬ (L.length : Int) > 20 := by omega
    go_wp2_with fail
    refine (HLV _ HN.out).out.mono ?_
    rintro e wa ⟨rfl, hba⟩
    have HBa := Lib.hid hba
    clear hba
    go_wp2_with fail
    refine (new_x 200 wa (by decide)).mono ?_
    rintro e w1 ⟨bd, gs, gn, F1, rfl, hd1, hlat1, hb1⟩
    have HD1 := Lib.hid (And.intro hd1 (And.intro hb1.size (HBa.out.trans (hb1.mono HBa.out.size))))
    clear hd1 hb1
    go_wp2_with fail
    refine (format_x (W := []) HD1.out.1 (by decide) (by rw [hlat1]; decide) (by decide) (HN.out.old HD1.out.2.2)).mono ?_
    rintro e w2 ⟨bl, F2, last2, hbl, rfl, hx2, hf2⟩
    rw [hlat1] at hx2
    have hb2 : Below w.heap.size w w2 := Fr.below' HD1.out.2.2 hf2 (fun k hk => Nat.le_trans HBa.out.size (HD1.out.1.foot_ge k hk))
    have hblw : wa.heap.size ≤ bl := Nat.le_trans HD1.out.2.1 hbl
    have HD2 := Lib.hid (And.intro hx2 (And.intro hb2 hblw))
    clear hx2 hb2 hf2 hbl hblw hlat1
    go_wp2_with fail
    go_loopw [35] (fun kv wr => ∃ k : Nat, k ≤ L.length ∧ kv = .int .i64 k ∧ Below w.heap.size w wr ∧ (∀ x ∈ L.take k, x.d.length ≤ 60 ∧ x.k ≠ 255) ∧ ∃ vw W last, W.length ≤ 2100 * k ∧ Lgx wr wa.heap.size bl bd gs 200 gn 200 vw 200 0 1 F2 W [] ((L.take k).map rc) (cat 0 (chR [] [])).length last) (fun kv _ => L.length - (intOf kv).toNat)
    case atStart => exact ⟨0, Nat.zero_le _, rfl, HD2.out.2.1, by simp, _, [], _, by simp, by rw [List.take_zero]; exact HD2.out.1⟩
    case round =>
      obtain ⟨k, hk, rfl, hb, hall, vw, W, last, hW, hx⟩ := hrel
      by_cases hlt : k < L.length
      · have hkc : (k : Int) < (L.length : Int) := by omega
        have hm0 : (0 : Int) ≤ (k : Int) := by omega
        obtain ⟨gg, og, rfl, hrg⟩ := HI.out.1.at hlt
        obtain ⟨x, hxe⟩ : ∃ x, x = L[k] := ⟨_, rfl⟩
        rw [← hxe] at hrg
        obtain ⟨c0, c1, hib⟩ := hrg.old hb
        obtain ⟨W1, hW1⟩ : ∃ W, W = wr.alloc (.cells #[.int .u8 (x.k.toNat : Nat), .slice x.a x.d.length x.c] 34) := ⟨_, rfl⟩
        have hb1 : Below wr.heap.size wr W1 := by rw [hW1]; exact (Below.refl _ _).alloc (Nat.le_refl _) _
        have x1 : W1.heap[wr.heap.size]? = some (.cells #[.int .u8 (x.k.toNat : Nat), .slice x.a x.d.length x.c] 34 (0, 0)) := by rw [hW1]; exact heap_alloc_new wr _
        obtain ⟨⟨q0, q1⟩, _⟩ := two_cells x1
        rw [hW1] at q0 q1
        have htk : (L.take (k + 1)).map rc = (L.take k).map rc ++ [(x.k, x.d)] := by
          rw [List.take_succ_eq_append_getElem hlt, List.map_append, ← hxe]; rfl
        have hal' : ∀ y ∈ L.take (k + 1), (x.d.length ≤ 60 ∧ x.k ≠ 255) → y.d.length ≤ 60 ∧ y.k ≠ 255 := fun y hy hxx => by
          rw [List.take_succ_eq_append_getElem hlt, ← hxe] at hy
          rcases List.mem_append.1 hy with h | h
          · exact hall y h
          · rw [List.mem_singleton.1 h]; exact hxx
        have HX := Lib.hid (And.intro (hx.old hb1) (And.intro (hb.trans (hb1.mono hb.size)) (And.intro (hib.old hb1) (And.intro hW (And.intro htk hal')))))
        have HW1 := Lib.hid hW1
        clear hx hb hib hW htk hal' hall hb1 x1 hW1 hrg hxe
        by_cases hd60 : 60 < x.d.length
        · have hdI : (x.d.length : Int) > 60 := by omega
          go_wp2_with fail
          go_ret
          exact ⟨rfl, by rw [← HW1.out]; exact HX.out.2.1⟩
        · have hdI : ¬ (x.d.length : Int) > 60 := by omega
          by_cases hk255 : x.k = 255
          · have hkI : (x.k.toNat : Int) = 255 := by rw [hk255]; rfl
            go_wp2_with fail
            go_ret
            exact ⟨rfl, by have := HX.out.2.1; rw [HW1.out, hkI] at this; exact this⟩
          · have hkI : ¬ (x.k.toNat : Int) = 255 := fun h => hk255 (UInt8.toNat_inj.1 (show x.k.toNat = 255 by omega))
            go_wp2_with fail
            rw [← HW1.out]
            refine (append_x HX.out.1 x.k x.a x.c x.d HX.out.2.2.1 hk255 (by omega) (by have := HX.out.2.2.2.1; omega) (HN.out.old HX.out.2.1)).mono ?_
            rintro e W3 (⟨_, rfl, hY3⟩ | ⟨_, rfl, vw3, Wl3, last3, hx3, hw3, _, hf3⟩)
            · have HY := Lib.hid (HX.out.2.1.trans (hY3.mono HX.out.2.1.size))
              clear hY3 q0 q1
              go_wp2_with fail
              go_ret
              exact ⟨rfl, HY.out⟩
            · rw [← HX.out.2.2.2.2.1] at hx3
              have HY := Lib.hid (And.intro hx3 (And.intro hw3 (Fr.below' HX.out.2.1 hf3 (fun k hk => Nat.le_trans HBa.out.size (HX.out.1.ge HD2.out.2.2 k hk)))))
              clear hx3 hw3 hf3 q0 q1
              go_wp2_with fail
              go_roundw
              case rel => exact ⟨k + 1, by omega, by go_num, HY.out.2.2, fun y hy => HX.out.2.2.2.2.2 y hy ⟨by omega, hk255⟩, _, _, _, by have := HX.out.2.2.2.1; have := HY.out.2.1; omega, HY.out.1⟩
              case measure => simp [intOf]; omega
      · obtain rfl : k = L.length := by omega
        have hge : ¬ (L.length : Int) < (L.length : Int) := by omega
        rw [List.take_length] at hx hall
        have HQ := Lib.hid (And.intro hx (And.intro hb (And.intro hW hall)))
        clear hx hb hW hall hk hlt
        go_wp2_with fail
        refine (sync_x HQ.out.1 (by have := HQ.out.2.2.1; omega)).mono ?_
        rintro e wz ⟨rfl, hxz, hfz⟩
        obtain ⟨Fz, hFz⟩ : ∃ F, F = ov F2 W := ⟨_, rfl⟩
        rw [← hFz] at hxz
        have HZ := Lib.hid (And.intro hxz (And.intro (Fr.below' HQ.out.2.1 hfz (fun k hk => Nat.le_trans HBa.out.size (HQ.out.1.dk.foot_ge k hk))) HQ.out.2.2.2))
        clear hxz hfz hFz HQ
        go_wp2_with fail
        rw [hmI]
        go_loopw [7, 62] (fun lv iv wr => ∃ i : Nat, i ≤ m ∧ iv = .int .i64 i ∧ Below w.heap.size w wr ∧ ∃ bl hf F base apps last, lv = .pointer (some ⟨bl, 0, none⟩) ∧ wa.heap.size ≤ bl ∧ base ++ apps = L.map rc ∧ Lgx wr wa.heap.size bl bd gs 200 gn 200 (.slice none 0 0) 200 hf (i + 1) F [] base apps (cat 0 (chR base apps)).length last) (fun _ iv _ => m - (intOf iv).toNat)
        case atStart => exact ⟨0, Nat.zero_le _, rfl, HZ.out.2.1, bl, 0, Fz, [], L.map rc, last, rfl, HD2.out.2.2, rfl, HZ.out.1⟩
        case round =>
          obtain ⟨i, him, rfl, hb, bl', hf, F, base, apps, last', rfl, hbl', hbase, hx⟩ := hrel
          have HX := Lib.hid (And.intro hx (And.intro hb (And.intro hbl' hbase)))
          clear hx hb hbl' hbase
          by_cases him2 : i < m
          · have himI : (i : Int) < (m : Int) := by omega
            go_wp2_with fail
            refine (open_x (W := []) HX.out.1.dk HX.out.1.pl HX.out.1.o1 (by omega) (by decide) (HN.out.old HX.out.2.1)).mono ?_
            rintro e w6 ⟨k', hk', hj, rv, bl2, v, F6, last6, hrv, hbl2, rfl, hrs, hx6, hf6⟩
            have hkk : apps.take k' = apps := by
              refine List.take_of_length_le (hj apps.length (Nat.le_refl _) ?_)
              rw [List.take_length]; exact Nat.le_refl _
            rw [hkk] at hrv hx6
            rw [HX.out.2.2.2] at hrv hx6
            obtain ⟨a2, c2, rfl, _⟩ := hrs.shape
            have hrl : rv.length = L.length := by simpa using congrArg List.length hrv
            have hb6 : Below w.heap.size w w6 := Fr.below' HX.out.2.1 hf6 (fun k hk => Nat.le_trans HBa.out.size (HX.out.1.dk.foot_ge k hk))
            have hal := alike_yes a2 c2 rv a cap L w6 hrs.inRs (HI.out.1.old hb6) hrv (by omega)
            have hblq : wa.heap.size ≤ bl2 := by
              have h3 := lt_of_block HX.out.1.dk.blk
              have h4 := HX.out.1.dk.hb
              omega
            have HAL := Lib.hid hal
            have H6 := Lib.hid (And.intro hx6 (And.intro hb6 hblq))
            clear hk' hj hrv hbl2 hrs hx6 hf6 hrl hkk hal hb6 hblq
            go_wp2_with fail
            refine HAL.out.mono ?_
            rintro e w7 ⟨rfl, hb7⟩
            have H7 := Lib.hid (And.intro (H6.out.1.old hb7) (H6.out.2.1.trans (hb7.mono H6.out.2.1.size)))
            clear hb7
            go_wp2_with fail
            refine (turn_any H7.out.1.lg).mono ?_
            rintro e w8 ⟨rfl, rfl⟩
            have hz1 : wrap64 ((i : Int) + 2) = (i : Int) + 2 := by unfold wrap64; omega
            have hz2 : IntKind.u64.wrap ((i : Int) + 2) = ((i + 1 + 1 : Nat) : Int) := by rw [IntKind.wrap_u64]; omega
            go_wp2_with fail
            go_roundw
            case rel => exact ⟨i + 1, by omega, by go_num, H7.out.2, bl2, 1 - hf, F6, L.map rc, [], last6, rfl, H6.out.2.2, List.append_nil _, H7.out.1⟩
            case measure => simp [intOf]; omega
          · obtain rfl : i = m := by omega
            have hge2 : ¬ (i : Int) < (i : Int) := by omega
            have hi63 : i + 1 + 1 < 9223372036854775808 := by omega
            go_wp2_with fail
            refine (turn_any HX.out.1.lg).mono ?_
            rintro e w8 ⟨rfl, rfl⟩
            go_wp2_with fail
            refine (rewrite_x HX.out.1 hi63 a cap L (HI.out.1.old HX.out.2.1) HI.out.2.1 HI.out.2.2 (fun x hx => by have := (HZ.out.2.2 x hx).1; omega) (by omega) (by decide) (HN.out.old HX.out.2.1) (fun x hx => (HZ.out.2.2 x hx).2)).mono ?_
            rintro e w9 (⟨hlt, _⟩ | ⟨rfl, F9, last9, hx9, hf9⟩)
            · have h1 := HX.out.1.pl.cl
              have h2 := cat_told base apps apps.length
              rw [List.take_length, HX.out.2.2.2] at h2
              omega
            have H9 := Lib.hid (And.intro hx9 (Fr.below' HX.out.2.1 hf9 (fun k hk => Nat.le_trans HBa.out.size (HX.out.1.ge HX.out.2.2.1 k hk))))
            clear hx9 hf9
            go_wp2_with fail
            refine (turn_any H9.out.1.lg).mono ?_
            rintro e w8 ⟨rfl, rfl⟩
            have hz2 : IntKind.u64.wrap (((i + 1 : Nat) : Int) + 1) = ((i + 1 + 1 : Nat) : Int) := by rw [IntKind.wrap_u64]; omega
            go_wp2_with fail
            go_ret
            exact ⟨rfl, H9.out.2⟩
end Go.Proofs.YtjblkmjdepdekaaDoor.Wl

/- records that a law keeps by itself: slices of them that are grown, joined and cut, beside a log and a disk -/
namespace Go.Proofs.YtjblkmjdepdekaaDoor.Wl
open Go.RowKit Go.Lib Go.Joins Go.Proofs.YtjblkmjdepdekaaDoor.By Go.Proofs.YtjblkmjdepdekaaDoor.Dk Go.Proofs.YtjblkmjdepdekaaDoor.Oc Go.Proofs.YtjblkmjdepdekaaDoor.Ht Go.Proofs.YtjblkmjdepdekaaDoor.Cr Go.Proofs.YtjblkmjdepdekaaDoor.Fm
set_option linter.unusedVariables false
set_option maxRecDepth 20000

/-- blocks that neither a log nor a disk writes: those that came in, and rows of bytes and of records -/
def Safe (w0 w : World) (k : Nat) : Prop := k < w0.heap.size ∨ ∃ cur t, (t = 5 ∨ t = 34) ∧ w.heap[k]? = some (.cells cur t (0, 0))
structure Kp (w0 : World) (q : Nat → Prop) (w w' : World) : Prop where
  size : w.heap.size ≤ w'.heap.size
  blk : ∀ k, k < w.heap.size → Safe w0 w k → ¬ q k → w'.heap[k]? = w.heap[k]?
theorem Kp.below {w0 w w' : World} {q : Nat → Prop} (h : Below w.heap.size w w') : Kp w0 q w w' := ⟨h.size, fun k hk _ _ => h.block k hk⟩
theorem Kp.dk {w0 w w' : World} {q : Nat → Prop} {B bd gs cs gn cn n : Nat} {vw : Value} {F G : List UInt8} {W : List Wr} {dn : Bool} (hd : IsDk w B bd gs cs gn cn vw n F G W dn) (hB : w0.heap.size ≤ B) (hf : Fr (Foot bd gs gn vw) w w') : Kp w0 q w w' :=
  ⟨hf.size, fun k hk hs _ => hf.block k hk (by
    rcases hs with h | ⟨cur, t, ht, h⟩
    · intro hfo; have := hd.foot_ge k hfo; omega
    · rcases ht with rfl | rfl
      · exact hd.not_foot h (by decide) (by decide) (by decide)
      · exact hd.not_foot h (by decide) (by decide) (by decide))⟩
theorem Kp.lg {w0 w w' : World} {q : Nat → Prop} {B bl bd gs cs gn cn : Nat} {vw : Value} {n hf t : Nat} {F : List UInt8} {W : List Wr} {base apps : List Rc} {lo : Nat} {last : List UInt8} (hx : Lgx w B bl bd gs cs gn cn vw n hf t F W base apps lo last) (hB : w0.heap.size ≤ B) (hbl : B ≤ bl) (hf' : Fr (fun k => Foot bd gs gn vw k ∨ k = bl) w w') : Kp w0 q w w' :=
  ⟨hf'.size, fun k hk hs _ => hf'.block k hk (by
    rintro (hfo | rfl)
    · rcases hs with h | ⟨cur, t, ht, h⟩
      · have := hx.dk.foot_ge k hfo; omega
      · rcases ht with rfl | rfl
        · exact hx.dk.not_foot h (by decide) (by decide) (by decide) hfo
        · exact hx.dk.not_foot h (by decide) (by decide) (by decide) hfo
    · rcases hs with h | ⟨cur, t, ht, h⟩
      · omega
      · rw [hx.lg.blk] at h
        simp at h
        rcases ht with rfl | rfl
        · exact absurd h.2 (by decide)
        · exact absurd h.2 (by decide))⟩
theorem Kp.grown {w0 w w' : World} {r : Option Nat} (hg : w.grownBy w' r) : Kp w0 (fun k => some k = r) w w' := ⟨hg.size, fun k hk _ hq => hg.block k hk hq⟩
/-- a record's data: it can be read, and no log, no disk and no list of records writes it -/
structure Dt (w0 w : World) (x : Rv) : Prop where
  b : IsB w x.a x.d.length x.c x.d
  s : ∀ p, x.a = some p → 0 < x.d.length → p.block < w.heap.size ∧ (p.block < w0.heap.size ∨ ∃ cur, w.heap[p.block]? = some (.cells cur 5 (0, 0)))
def Rowq (w0 w : World) (q : Nat → Prop) : Prop := ∀ k, q k → w0.heap.size ≤ k ∧ ∃ cur, w.heap[k]? = some (.cells cur 34 (0, 0))
theorem rowq_none {w0 w : World} : Rowq w0 w (fun _ => False) := fun _ h => h.elim
theorem add_block (p : Addr) (j : Nat) : (p.add j).block = p.block := by unfold Addr.add; split <;> rfl
theorem Dt.keep {w0 w w' : World} {q : Nat → Prop} {x : Rv} (h : Dt w0 w x) (hk : Kp w0 q w w') (hq : Rowq w0 w q) : Dt w0 w' x := by
  have hb : ∀ p, x.a = some p → 0 < x.d.length → w'.heap[p.block]? = w.heap[p.block]? := fun p hp h0 => by
    obtain ⟨h1, h2⟩ := h.s p hp h0
    refine hk.blk _ h1 ?_ ?_
    · rcases h2 with h2 | ⟨cur, h2⟩
      · exact .inl h2
      · exact .inr ⟨cur, _, .inl rfl, h2⟩
    · intro hqp
      obtain ⟨h3, cur', h4⟩ := hq _ hqp
      rcases h2 with h2 | ⟨cur, h2⟩
      · omega
      · rw [h2] at h4; simp at h4
  refine ⟨?_, fun p hp h0 => ?_⟩
  · obtain ⟨h1, h2 | ⟨p, hp, h3, h4, h5⟩⟩ := h.b
    · exact ⟨h1, .inl h2⟩
    · refine ⟨h1, .inr ⟨p, hp, h3, h4, fun j u hu => ?_⟩⟩
      have h0 : 0 < x.d.length := by
        have := (List.getElem?_eq_some_iff.1 hu).1
        simp [Go.Lib.byteCells] at this; omega
      exact (World.cell?_of_block (by rw [add_block]; exact hb p hp h0)).trans (h5 j u hu)
  · obtain ⟨h1, h2⟩ := h.s p hp h0
    refine ⟨Nat.lt_of_lt_of_le h1 hk.size, ?_⟩
    rw [hb p hp h0]; exact h2
theorem Dt.came {w0 w : World} {x : Rv} (h : IsB w0 x.a x.d.length x.c x.d) (hb : Below w0.heap.size w0 w) : Dt w0 w x := by
  refine ⟨h.old hb, fun p hp h0 => ?_⟩
  obtain ⟨y, hy, hc⟩ := h.at h0
  rw [hp] at hy
  obtain rfl := Option.some.inj hy
  have := World.block_lt_of_cell? w0 _ hc
  rw [add_block] at this
  exact ⟨Nat.lt_of_lt_of_le this hb.size, .inl this⟩
theorem Dt.own {w0 w : World} {B : Nat} {x : Rv} (h : w.ownsRow B 5 1 (.slice x.a x.d.length x.c) x.d.length (Go.Lib.byteCells x.d)) : Dt w0 w x := by
  refine ⟨isB_of_own' h, fun p hp h0 => ?_⟩
  rcases h.2 with ⟨_, h1⟩ | ⟨g, cap, cur, hv, _, hg, _⟩
  · omega
  · simp only [Value.slice.injEq] at hv
    rw [hp] at hv
    obtain rfl := Option.some.inj hv.1
    exact ⟨lt_of_block hg, .inr ⟨cur, hg⟩⟩
/-- records that can be read, whatever a log and a disk do -/
structure Rds (w0 w : World) (L : List Rv) (a : Option Addr) (c : Nat) : Prop where
  n : a = none → L = [] ∧ c = 0
  c : L.length ≤ c ∧ c ≤ 9223372036854775807
  r : InRs w a L
  g : ∀ g o, a = some ⟨g, o, none⟩ → 0 < L.length → g < w.heap.size ∧ ∃ cur, w.heap[g]? = some (.cells cur 34 (0, 0))
  d : ∀ x ∈ L, Dt w0 w x
theorem Rds.keep {w0 w w' : World} {q : Nat → Prop} {L : List Rv} {a : Option Addr} {c : Nat} (h : Rds w0 w L a c) (hk : Kp w0 q w w') (hq : Rowq w0 w q) (hav : ∀ g o, a = some ⟨g, o, none⟩ → 0 < L.length → ¬ q g) : Rds w0 w' L a c := by
  have hb : ∀ g o, a = some ⟨g, o, none⟩ → 0 < L.length → w'.heap[g]? = w.heap[g]? := fun g o ha h0 => by
    obtain ⟨h1, cur, h2⟩ := h.g g o ha h0
    exact hk.blk g h1 (.inr ⟨cur, _, .inr rfl, h2⟩) (hav g o ha h0)
  refine ⟨h.n, h.c, ?_, fun g o ha h0 => ?_, fun x hx => (h.d x hx).keep hk hq⟩
  · rcases h.r with h1 | ⟨g, o, e, h1⟩
    · exact .inl h1
    · refine .inr ⟨g, o, e, fun i hi => ?_⟩
      obtain ⟨c0, c1, c2⟩ := h1 i hi
      have e1 := hb g o e (by omega)
      exact ⟨(World.cell?_of_block e1).trans c0, (World.cell?_of_block e1).trans c1, ((h.d _ (List.getElem_mem hi)).keep hk hq).b⟩
  · obtain ⟨h1, cur, h2⟩ := h.g g o ha h0
    exact ⟨Nat.lt_of_lt_of_le h1 hk.size, cur, (hb g o ha h0).trans h2⟩
theorem Rds.nil (w0 w : World) : Rds w0 w [] none 0 := ⟨fun _ => ⟨rfl, rfl⟩, ⟨Nat.le_refl _, by decide⟩, .inl rfl, (fun _ _ h => by cases h), (fun x hx => by cases hx)⟩
/-- a row of one's own -/
theorem Rds.own {w0 w : World} {B : Nat} {v : Value} {L : List Rv} (h : w.ownsRow B 34 2 v L.length (rcvs L)) (hd : ∀ x ∈ L, Dt w0 w x) : ∃ a c, v = .slice a L.length c ∧ Rds w0 w L a c ∧ ∀ g o, a = some ⟨g, o, none⟩ → B ≤ g := by
  rcases h.2 with ⟨h1, h0⟩ | ⟨g, cap, cur, hv, hB, hg, hlc, hcm, _⟩
  · have hL : L = [] := List.length_eq_zero_iff.1 h0
    subst hL
    exact ⟨none, 0, h1, Rds.nil w0 w, fun _ _ h => by cases h⟩
  · refine ⟨some ⟨g, 0, none⟩, cap, hv, ⟨(fun h => by cases h), ⟨hlc, by unfold maxLen at hcm; omega⟩, ?_, fun g' o e h0 => ?_, hd⟩, fun g' o e => ?_⟩
    · rcases Nat.eq_zero_or_pos L.length with h0 | h0
      · exact .inl (List.length_eq_zero_iff.1 h0)
      · obtain ⟨a, c, e, hr⟩ := inRs_of_own h (fun x hx => (hd x hx).b) h0
        rw [hv] at e
        simp only [Value.slice.injEq, true_and] at e
        rw [e.1]; exact hr
    · simp only [Option.some.injEq, Addr.mk.injEq] at e
      obtain ⟨rfl, _⟩ := e
      exact ⟨lt_of_block hg, cur, hg⟩
    · simp only [Option.some.injEq, Addr.mk.injEq] at e
      obtain ⟨rfl, _⟩ := e
      exact hB
/-- .. that came out of Open -/
theorem Rds.of_isRs {w0 w : World} {B : Nat} {v : Value} {L : List Rv} (h : IsRs B w v L) : ∃ a c, v = .slice a L.length c ∧ Rds w0 w L a c ∧ ∀ g o, a = some ⟨g, o, none⟩ → B ≤ g :=
  Rds.own h.own fun x hx => Dt.own (h.data x hx)
theorem rcvs_one (x : Rv) : rcvs [x] = rcv x := by simp [rcvs]
theorem rcv_one (x : Rv) : ∀ u ∈ rcv x, u.oneCell' = true := by
  intro u hu; simp [rcv] at hu; rcases hu with rfl | rfl <;> rfl
theorem rcvs_cell : ∀ (L : List Rv), ∀ u ∈ rcvs L, u.oneCell' = true := by
  intro L u hu
  unfold rcvs at hu
  obtain ⟨x, _, hx⟩ := List.mem_flatMap.1 hu
  exact rcv_one x u hx
/-- behind some records some more, in a row of their own -/
theorem app_both {w0 w : World} {S T : List Rv} {a1 a2 : Option Addr} {c1 c2 : Nat} (hs : Rds w0 w S a1 c1) (ht : Rds w0 w T a2 c2) (hl : S.length + T.length ≤ 200000) (ty : TypeId) :
    ∃ a c W', (Builtin.append_ #[31, 31] ty #[.slice a1 S.length S.length, .slice a2 T.length c2]).run Tryd.prog w = .ok (.slice a (S.length + T.length) c) W' ∧ Below w.heap.size w W' ∧ Rds w0 W' (S ++ T) a c := by
  obtain ⟨i0, hi, hz0, hz1, hz2⟩ := info_parts info34
  rcases Nat.eq_zero_or_pos T.length with h0 | h0
  · have hT : T = [] := List.length_eq_zero_iff.1 h0
    subst hT
    have hsrc : Src Tryd.prog i0.size 31 (.slice a2 0 c2) 0 [] w := by
      cases a2 with
      | none => exact Src.ofNil w Tryd.underlying31 c2
      | some p => exact Src.ofSlice w Tryd.underlying31 p 0 c2 [] (by simp) (fun j u hu => by simp at hu) (fun u hu => by cases hu)
    have hr := run_append_nothing (P := Tryd.prog) w 31 31 ty 34 i0 Tryd.underlying31 hi a1 S.length S.length (Nat.le_refl _) _ hsrc
    refine ⟨a1, S.length, w, by simpa using hr, Below.refl _ _, ?_⟩
    rw [List.append_nil]
    exact ⟨fun h => ⟨(hs.n h).1, by rw [(hs.n h).1]; rfl⟩, ⟨Nat.le_refl _, by omega⟩, hs.r, hs.g, hs.d⟩
  · obtain ⟨y, rfl⟩ : ∃ y, a2 = some y := by
      cases a2 with
      | none => rw [(ht.n rfl).1] at h0; exact absurd h0 (Nat.lt_irrefl 0)
      | some y => exact ⟨y, rfl⟩
    have key : ∃ v W', (Builtin.append_ #[31, 31] ty #[.slice a1 S.length S.length, .slice (some y) T.length c2]).run Tryd.prog w = .ok v W' ∧ W'.ownsRow w.heap.size 34 2 v (S.length + T.length) (rcvs S ++ rcvs T) ∧ Below w.heap.size w W' := by
      cases a1 with
      | none =>
        obtain rfl := (hs.n rfl).1
        obtain ⟨v2, w2, hr2, o2, hg, _⟩ := Ao.run_append_own_new (P := Tryd.prog) w w.heap.size 31 ty 34 i0 _ 2 32 Tryd.underlying31 hi hz0 hz1 hz2 rfl (by decide) _ 0 [] (World.ownsRow_nil w w.heap.size 34 2) y T.length c2 (rcvs T) (rcvs_len T) ht.r.hold (rcvs_cell T) (by unfold maxLen; omega) (by omega) (Nat.le_refl _)
        exact ⟨v2, w2, hr2, by simpa [rcvs] using o2, (Below.refl _ w).grown hg (Nat.le_refl _) (fun j hj => by cases hj)⟩
      | some ad =>
        obtain ⟨cp, W', hr, ho', hb'⟩ := grow_row (P := Tryd.prog) w 31 ty 34 i0 _ 2 32 Tryd.underlying31 hi hz0 hz1 hz2 rfl ad S.length (rcvs S) (rcvs_len S) hs.r.hold y T.length c2 (rcvs T) (rcvs_len T) ht.r.hold h0 (by omega) (by unfold maxLen; omega)
        exact ⟨_, W', hr, ho', hb'⟩
    obtain ⟨v, W', hr, ho, hb⟩ := key
    rw [← rcvs_app] at ho
    have ho2 : W'.ownsRow w.heap.size 34 2 v (S ++ T).length (rcvs (S ++ T)) := by rw [List.length_append]; exact ho
    obtain ⟨a, c, e, hR, _⟩ := Rds.own (w0 := w0) ho2 (fun x hx => by
      rcases List.mem_append.1 hx with h | h
      · exact (hs.d x h).keep (Kp.below (q := fun _ => False) hb) rowq_none
      · exact (ht.d x h).keep (Kp.below (q := fun _ => False) hb) rowq_none)
    rw [List.length_append] at e
    exact ⟨a, c, W', by rw [hr, e], hb, hR⟩
/-- a record more in a row of one's own -/
theorem app_one {w0 w : World} {B : Nat} {v : Value} {L : List Rv} (h : w.ownsRow B 34 2 v L.length (rcvs L)) (hB : B ≤ w.heap.size) (x : Rv) (y : Addr) (c : Nat) (hy : ∀ j u, (rcv x)[j]? = some u → w.cell? (y.add j) = some u) (hl : L.length ≤ 200000) (ty : TypeId) :
    ∃ v' W', (Builtin.append_ #[31, 31] ty #[v, .slice (some y) 1 c]).run Tryd.prog w = .ok v' W' ∧ W'.ownsRow B 34 2 v' (L ++ [x]).length (rcvs (L ++ [x])) ∧ w.grownBy W' v.ownBlock ∧ (v'.ownBlock = v.ownBlock ∨ ∃ g, v'.ownBlock = some g ∧ w.heap.size ≤ g) := by
  obtain ⟨i0, hi, hz0, hz1, hz2⟩ := info_parts info34
  obtain ⟨v2, w2, hr2, o2, hg, hn⟩ := Ao.run_append_own_new (P := Tryd.prog) w B 31 ty 34 i0 _ 2 32 Tryd.underlying31 hi hz0 hz1 hz2 rfl (by decide) v L.length (rcvs L) h y 1 c (rcv x) (by simp [rcv]) hy (rcv_one x) (by unfold maxLen; omega) (by omega) hB
  exact ⟨v2, w2, hr2, by rw [rcvs_app, rcvs_one, List.length_append]; exact o2, hg, hn⟩
/-- all but the first so many -/
theorem slice_from (a : Option Addr) (n c lo : Nat) (h : lo ≤ n) (hc : n ≤ c) (W : World) : (Instr.sliceAt 31 (.slice a n c) (some (.int .i64 (lo : Nat))) none none).run Tryd.prog W = .ok (.slice (if c = lo then a else a.map (·.add (lo * 2))) (n - lo) (c - lo)) W := by
  have h1 : (0 : Int) ≤ (lo : Int) := by omega
  have h2 : (lo : Int) ≤ (n : Int) := by omega
  go_simp
theorem Rds.drop {w0 w : World} {L : List Rv} {a : Option Addr} {c : Nat} (h : Rds w0 w L a c) (lo : Nat) (hl : lo ≤ L.length) : Rds w0 w (L.drop lo) (if c = lo then a else a.map (·.add (lo * 2))) (c - lo) := by
  have hc := h.c
  have hln : (L.drop lo).length = L.length - lo := List.length_drop
  refine ⟨fun e => ?_, ⟨by omega, by omega⟩, ?_, fun g o e h0 => ?_, fun x hx => h.d x (List.mem_of_mem_drop hx)⟩
  · have ha : a = none := by
      by_cases hcl : c = lo
      · rw [if_pos hcl] at e; exact e
      · rw [if_neg hcl] at e; simpa using e
    obtain ⟨rfl, rfl⟩ := h.n ha
    simp
  · rcases h.r with h1 | ⟨g, o, rfl, h1⟩
    · exact .inl (by rw [h1]; simp)
    · by_cases hle : L.length ≤ lo
      · exact .inl (List.drop_eq_nil_iff.2 hle)
      · rw [if_neg (by omega)]
        refine .inr ⟨g, o + lo * 2, by simp [add_lit], fun i hi => ?_⟩
        have hi2 : lo + i < L.length := by omega
        have := h1 (lo + i) hi2
        rw [List.getElem_drop]
        unfold RecIn at this ⊢
        rw [show o + lo * 2 + i * 2 = o + (lo + i) * 2 by omega]
        exact this
  · have hne : ¬ c = lo := by omega
    rw [if_neg hne] at e
    cases a with
    | none => simp at e
    | some p =>
      obtain ⟨b, of, sp⟩ := p
      simp only [Option.map_some, Option.some.injEq] at e
      have hb : b = g := by have := congrArg Addr.block e; rwa [add_block] at this
      subst hb
      rcases h.r with h1 | ⟨g', o', e', h1⟩
      · rw [h1] at h0; simp at h0
      · exact h.g b o' (by rw [e']; simp at e'; rw [e'.1]) (by omega)
end Go.Proofs.YtjblkmjdepdekaaDoor.Wl

/- logs: what WalKeeps' walk wants -/
namespace Go.Proofs.YtjblkmjdepdekaaDoor.Wl
open Go.RowKit Go.Lib Go.Joins Go.Proofs.YtjblkmjdepdekaaDoor.By Go.Proofs.YtjblkmjdepdekaaDoor.Dk Go.Proofs.YtjblkmjdepdekaaDoor.Oc Go.Proofs.YtjblkmjdepdekaaDoor.Ht Go.Proofs.YtjblkmjdepdekaaDoor.Cr Go.Proofs.YtjblkmjdepdekaaDoor.Fm
set_option linter.unusedVariables false
attribute [local go_sem] Oper.semAt_some

theorem sync_keep {n : Nat} {F : List UInt8} {W V : List Wr} (hF : F.length = 64 * n) (hw : OkW n W) (hv : ∀ x ∈ V, x ∈ W) : syncF (ov F V) (ov F W) W = ov F V := by
  have hV : OkW n V := fun x hx => hw x (hv x hx)
  have hl := ov_len V F hF hV
  have hlW := ov_len W F hF hw
  refine ext_getS (sync_len hl W _ hlW hw) hl fun j hj => ?_
  have h := sync_get hl W (ov F W) hlW hw j
  by_cases hr : ∃ x ∈ W, x.1 = j
  · exact h.1 hr
  · have hn : ∀ x ∈ W, x.1 ≠ j := fun y hy e => hr ⟨y, hy, e⟩
    rw [h.2 hn, ov_get W F hF hw j hn, ov_get V F hF hV j (fun x hx => hn x (hv x hx))]
theorem cut_any {w0 w : World} {Al : List Rv} {a : Option Addr} {c : Nat} (h : Rds w0 w Al a c) (lo : Nat) (hlo : lo ≤ Al.length) : ∃ a3 c3, (∀ W, (Instr.sliceAt 31 (.slice a Al.length c) (some (.int .i64 (lo : Nat))) none none).run Tryd.prog W = .ok (.slice a3 (Al.drop lo).length c3) W) ∧ Rds w0 w (Al.drop lo) a3 c3 :=
  ⟨_, _, fun W => by rw [List.length_drop]; exact slice_from a Al.length c lo hlo h.c.1 W, h.drop lo hlo⟩
theorem eight (a : Int) : ∃ n : Nat, n < 8 ∧ wrap64 ((IntKind.u64.wrap a).tmod 8) = (n : Int) := by
  have h0 : 0 ≤ IntKind.u64.wrap a ∧ IntKind.u64.wrap a < 18446744073709551616 := by rw [IntKind.wrap_u64]; omega
  have h1 : (IntKind.u64.wrap a).tmod 8 = IntKind.u64.wrap a % 8 := Int.tmod_eq_emod_of_nonneg h0.1
  refine ⟨(IntKind.u64.wrap a % 8).toNat, by omega, ?_⟩
  rw [h1]; unfold wrap64; omega
theorem Kp.trans {w0 a b c : World} (h : Kp w0 (fun _ => False) a b) (k : Kp w0 (fun _ => False) b c) : Kp w0 (fun _ => False) a c :=
  ⟨Nat.le_trans h.size k.size, fun i hi hs hq => by
    have e := h.blk i hi hs hq
    refine (k.blk i (Nat.lt_of_lt_of_le hi h.size) ?_ hq).trans e
    rcases hs with h1 | ⟨cur, t, ht, h1⟩
    · exact .inl h1
    · exact .inr ⟨cur, t, ht, e.trans h1⟩⟩
theorem wpList_app_one {w0 w : World} {ops : Array Oper} {rest : List Oper} {o : Oper} {act : Act} {Q : Exit → Act → World → Prop} (hgd : o.guard = none) (s x : Operand) (ho : o.op = .call { callee := .builtin .append, args := #[s, x], argTypes := #[31, 31] })
    {B : Nat} {v : Value} {L : List Rv} (hs : act.eval s = v) (h : w.ownsRow B 34 2 v L.length (rcvs L)) (hB : B ≤ w.heap.size) (r : Rv) (y : Addr) (c : Nat) (hx : act.eval x = .slice (some y) 1 c) (hy : ∀ j u, (rcv r)[j]? = some u → w.cell? (y.add j) = some u) (hl : L.length ≤ 200000)
    (hk : ∀ v' W', W'.ownsRow B 34 2 v' (L ++ [r]).length (rcvs (L ++ [r])) → w.grownBy W' v.ownBlock → (v'.ownBlock = v.ownBlock ∨ ∃ g, v'.ownBlock = some g ∧ w.heap.size ≤ g) → wpList Tryd.prog ops Q rest (act.put o.dst v') W') : wpList Tryd.prog ops Q (o :: rest) act w := by
  obtain ⟨v', W', hr, h1, h2, h3⟩ := app_one (w0 := w) h hB r y c hy hl o.type
  refine wpList_plain hgd fun K hK => ?_
  unfold Oper.wp execOp
  simp only [ho, resolve, invoke, builtin, Sem.run_bind, Sem.run_pure, Result.andThen_ok, List.map_toArray, List.map_cons, List.map_nil, hs, hx, hr]
  exact hK _ _ (hk v' W' h1 h2 h3)
theorem wpList_app_both {w0 w : World} {ops : Array Oper} {rest : List Oper} {o : Oper} {act : Act} {Q : Exit → Act → World → Prop} (hgd : o.guard = none) (s x : Operand) (ho : o.op = .call { callee := .builtin .append, args := #[s, x], argTypes := #[31, 31] })
    {S T : List Rv} {a1 a2 : Option Addr} {c1 c2 : Nat} (hs : act.eval s = .slice a1 S.length S.length) (hx : act.eval x = .slice a2 T.length c2) (h1 : Rds w0 w S a1 c1) (h2 : Rds w0 w T a2 c2) (hl : S.length + T.length ≤ 200000)
    (hk : ∀ a c W', Below w.heap.size w W' → Rds w0 W' (S ++ T) a c → wpList Tryd.prog ops Q rest (act.put o.dst (.slice a (S.length + T.length) c)) W') : wpList Tryd.prog ops Q (o :: rest) act w := by
  obtain ⟨a, c, W', hr, h3, h4⟩ := app_both h1 h2 hl o.type
  refine wpList_plain hgd fun K hK => ?_
  unfold Oper.wp execOp
  simp only [ho, resolve, invoke, builtin, Sem.run_bind, Sem.run_pure, Result.andThen_ok, List.map_toArray, List.map_cons, List.map_nil, hs, hx, hr]
  exact hK _ _ (hk a c W' h3 h4)
/-- whether a bit of 64 says so -/
def keepB5 (m i : Nat) : Bool := bits .and .u64 ((m : Int) / 2 ^ (i % 64)) 1 == 1
set_option maxHeartbeats 1000000 in
theorem keep5_fn (m i q : Nat) (hi : i ≤ 1000000) (w : World) (hc : w.cell? ⟨q, 0, none⟩ = some (.int .u64 (m : Nat))) :
    Calls Tryd.prog 37 #[.int .i64 (i : Nat), .pointer (some ⟨q, 0, none⟩)] w fun e w' => e = .returned (.bool (keepB5 m i)) ∧ w' = w := by
  obtain ⟨r, hr⟩ : ∃ r, r = i % 64 := ⟨_, rfl⟩
  have h1 : (i : Int) % 64 = (r : Int) := by omega
  have hr64 : (r : Int) < 64 := by omega
  have HRR := Lib.hid hr
  clear hr
  go_enter Tryd.func37, Tryd.ntmps37
  go_wp2_with fail
  have hk : keepB5 m i = (bits .and .u64 ((m : Int) / 2 ^ r) 1 == 1) := by unfold keepB5; rw [← HRR.out]
  rw [hk]
  go_ret
  exact ⟨rfl, rfl⟩
theorem asks_keep5 (m q : Nat) : Asks (.func (.func 37) #[] #[.pointer (some ⟨q, 0, none⟩)]) (keepB5 m) (fun w => w.cell? ⟨q, 0, none⟩ = some (.int .u64 (m : Nat))) :=
  asks_fn ⟨⟨_, _, rfl, enters_of Tryd.func37 (by kernel_rfl) rfl, fun _ => by kernel_rfl, fun i w hi hp => keep5_fn m i q hi w hp⟩⟩
theorem keeps_any (m : Nat) (w : World) : Calls Tryd.prog 16 #[.int .u64 (m : Nat)] w fun e w' => e = .returned (.func (.func 37) #[] #[.pointer (some ⟨w.heap.size, 0, none⟩)]) ∧ w' = w.alloc (.cells #[.int .u64 (m : Nat)] 35) := by
  go_enter Tryd.func16, Tryd.ntmps16
  go_wp2_with fail
  go_ret
  exact ⟨rfl, rfl⟩
/-- an act that came in -/
structure Act5 where
  k : Int
  n : Int
  x : Rv
  keep : Nat
def Act5At (w : World) (b o i : Nat) (y : Act5) : Prop :=
  (w.cell? ⟨b, o + i * 5, none⟩ = some (.int .i64 y.k) ∧ w.cell? ⟨b, o + i * 5 + 1, none⟩ = some (.int .i64 y.n) ∧ w.cell? ⟨b, o + i * 5 + 2, none⟩ = some (.int .u8 (y.x.k.toNat : Nat)) ∧
    w.cell? ⟨b, o + i * 5 + 3, none⟩ = some (.slice y.x.a y.x.d.length y.x.c) ∧ w.cell? ⟨b, o + i * 5 + 4, none⟩ = some (.int .u64 (y.keep : Nat))) ∧ IsB w y.x.a y.x.d.length y.x.c y.x.d
def IsActs5 (w : World) (a : Option Addr) (L : List Act5) : Prop := L = [] ∨ ∃ b o, a = some ⟨b, o, none⟩ ∧ ∀ i (h : i < L.length), Act5At w b o i L[i]
theorem Act5At.old {w w' : World} {b o i : Nat} {x : Act5} (h : Act5At w b o i x) (hb : Below w.heap.size w w') : Act5At w' b o i x := by
  obtain ⟨⟨h0, h1, h2, h3, h4⟩, h5⟩ := h
  have hlt := World.block_lt_of_cell? w _ h0
  exact ⟨⟨(hb.cell (p := ⟨b, o + i * 5, none⟩) hlt).trans h0, (hb.cell (p := ⟨b, o + i * 5 + 1, none⟩) hlt).trans h1, (hb.cell (p := ⟨b, o + i * 5 + 2, none⟩) hlt).trans h2, (hb.cell (p := ⟨b, o + i * 5 + 3, none⟩) hlt).trans h3, (hb.cell (p := ⟨b, o + i * 5 + 4, none⟩) hlt).trans h4⟩, h5.old hb⟩
theorem IsActs5.at {w : World} {a : Option Addr} {L : List Act5} (h : IsActs5 w a L) {i : Nat} (hi : i < L.length) : ∃ g o, a = some ⟨g, o, none⟩ ∧ Act5At w g o i L[i] := by
  rcases h with h | ⟨g, o, e, h⟩
  · subst h; exact absurd hi (Nat.not_lt_zero _)
  · exact ⟨g, o, e, h i hi⟩
theorem five_cells {w : World} {b : Nat} {v0 v1 v2 v3 v4 : Value} {t : TypeId} (h : w.heap[b]? = some (.cells #[v0, v1, v2, v3, v4] t (0, 0))) :
    w.cell? ⟨b, 0, none⟩ = some v0 ∧ w.cell? ⟨b, 1, none⟩ = some v1 ∧ w.cell? ⟨b, 2, none⟩ = some v2 ∧ w.cell? ⟨b, 3, none⟩ = some v3 ∧ w.cell? ⟨b, 4, none⟩ = some v4 := by
  refine ⟨?_, ?_, ?_, ?_, ?_⟩ <;> simp [World.cell?, h]
/-- where the law stands behind i acts -/
structure Ks (w0 wa wr : World) (bd gs gn i bl : Nat) (vw : Value) (hf t : Nat) (F : List UInt8) (W : List Wr) (base apps : List Rc) (lo : Nat) (last : List UInt8) (ks : Nat) (Sy Be : List Rv) (as' : Option Addr) (cs : Nat) (bv : Value) : Prop where
  hbl : wa.heap.size ≤ bl
  ht : t ≤ i + 1
  hW : W.length ≤ 2100 * i
  x : Lgx wr wa.heap.size bl bd gs 200 gn 200 vw 200 hf t F W base apps lo last
  k1 : ks ≤ apps.length
  k2 : base ++ apps.take ks = Sy.map rc
  k3 : apps.drop ks = Be.map rc
  k4 : (cat 0 (chR base (apps.take ks))).length ≤ lo
  sy : Rds w0 wr Sy as' cs
  be : wr.ownsRow wa.heap.size 34 2 bv Be.length (rcvs Be)
  da : ∀ x ∈ Be, Dt w0 wr x
  av : ∀ g o, as' = some ⟨g, o, none⟩ → 0 < Sy.length → bv.ownBlock ≠ some g
  l : Sy.length + Be.length ≤ i
section
variable {w0 wa wr : World} {bd gs gn i bl : Nat} {vw : Value} {hf t : Nat} {F : List UInt8} {W : List Wr} {base apps : List Rc} {lo : Nat} {last : List UInt8} {ks : Nat} {Sy Be : List Rv} {as' : Option Addr} {cs : Nat} {bv : Value}
theorem Ks.old (h : Ks w0 wa wr bd gs gn i bl vw hf t F W base apps lo last ks Sy Be as' cs bv) {w' : World} (hb : Below wr.heap.size wr w') {j : Nat} (hj : i ≤ j) : Ks w0 wa w' bd gs gn j bl vw hf t F W base apps lo last ks Sy Be as' cs bv :=
  ⟨h.hbl, by have := h.ht; omega, by have := h.hW; omega, h.x.old hb, h.k1, h.k2, h.k3, h.k4, h.sy.keep (Kp.below (q := fun _ => False) hb) rowq_none (fun _ _ _ _ h => h), own_below h.be hb (Nat.le_refl _), fun x hx => (h.da x hx).keep (Kp.below (q := fun _ => False) hb) rowq_none, h.av, by have := h.l; omega⟩
theorem Ks.all (h : Ks w0 wa wr bd gs gn i bl vw hf t F W base apps lo last ks Sy Be as' cs bv) : base ++ apps = (Sy ++ Be).map rc := by
  rw [List.map_append, ← h.k2, ← h.k3, List.append_assoc, List.take_append_drop]
theorem Ks.told (h : Ks w0 wa wr bd gs gn i bl vw hf t F W base apps lo last ks Sy Be as' cs bv) {k : Nat} (hk : ks ≤ k) : base ++ apps.take k = Sy.map rc ++ (Be.map rc).take (k - ks) := by
  rw [← h.k2, ← h.k3, List.append_assoc]
  congr 1
  rw [← List.drop_take]
  have := List.take_append_drop ks (apps.take k)
  rw [List.take_take, Nat.min_eq_left hk] at this
  exact this.symm
theorem Ks.recs (h : Ks w0 wa wr bd gs gn i bl vw hf t F W base apps lo last ks Sy Be as' cs bv) : ∀ x ∈ Sy ++ Be, x.d.length ≤ 1024 ∧ x.k ≠ 255 := fun x hx => by
  have h1 : rc x ∈ base ++ apps := by rw [h.all]; exact List.mem_map.2 ⟨x, hx, rfl⟩
  rcases List.mem_append.1 h1 with h2 | h2
  · exact ⟨h.x.pl.rl (rc x) (by unfold chR; simp [h2]), h.x.pl.bk (rc x) h2⟩
  · exact ⟨h.x.pl.rl (rc x) (by unfold chR; simp [h2]), h.x.pl.ak (rc x) h2⟩
/-- what no log and no disk writes, all of it -/
theorem Ks.rows (h : Ks w0 wa wr bd gs gn i bl vw hf t F W base apps lo last ks Sy Be as' cs bv) {w' : World} (hk : Kp w0 (fun _ => False) wr w') : Rds w0 w' Sy as' cs ∧ w'.ownsRow wa.heap.size 34 2 bv Be.length (rcvs Be) ∧ ∀ x ∈ Be, Dt w0 w' x :=
  ⟨h.sy.keep hk rowq_none (fun _ _ _ _ h => h), own_other h.be (fun g hg => by
    obtain ⟨cur, hc⟩ := own_type h.be hg
    exact hk.blk g (lt_of_block hc) (.inr ⟨cur, _, .inr rfl, hc⟩) (fun h => h)), fun x hx => (h.da x hx).keep hk rowq_none⟩
theorem Lgx.grown {w w' : World} {B n lo : Nat} {bl bd gs cs gn cn hf t : Nat} {vw : Value} {F : List UInt8} {W : List Wr} {base apps : List Rc} {last : List UInt8} (h : Lgx w B bl bd gs cs gn cn vw n hf t F W base apps lo last) {r : Option Nat} (hg : w.grownBy w' r) (hr : ∀ g, r = some g → ∃ cur, w.heap[g]? = some (.cells cur 34 (0, 0))) : Lgx w' B bl bd gs cs gn cn vw n hf t F W base apps lo last :=
  ⟨h.dk.other fun k hk hfo => hg.block k hk fun e => by
      obtain ⟨cur, hc⟩ := hr k e.symm
      exact h.dk.not_foot hc (by decide) (by decide) (by decide) hfo,
    h.lg.same (hg.block bl (lt_of_block h.lg.blk) fun e => by
      obtain ⟨cur, hc⟩ := hr bl e.symm
      rw [h.lg.blk] at hc
      simp at hc), h.la, h.pl, h.o1, h.wt, h.o2⟩
theorem Ks.pushed (h : Ks w0 wa wr bd gs gn i bl vw hf t F W base apps lo last ks Sy Be as' cs bv) (h0 : w0.heap.size ≤ wa.heap.size) {w2 w3 w4 : World} {vw2 v' : Value} {W2 : List Wr} {last2 : List UInt8} {x : Rv} (hx2 : Lgx w2 wa.heap.size bl bd gs 200 gn 200 vw2 200 hf t F W2 base (apps ++ [rc x]) lo last2)
    (hW : W2.length ≤ W.length + 2100) (hf2 : Fr (fun k => Foot bd gs gn vw k ∨ k = bl) wr w2) (hb3 : Below w2.heap.size w2 w3) (hd : Dt w0 wr x) (ho4 : w4.ownsRow wa.heap.size 34 2 v' (Be ++ [x]).length (rcvs (Be ++ [x]))) (hg4 : w3.grownBy w4 bv.ownBlock) (hn4 : v'.ownBlock = bv.ownBlock ∨ ∃ g, v'.ownBlock = some g ∧ w3.heap.size ≤ g) :
    Ks w0 wa w4 bd gs gn (i + 1) bl vw2 hf t F W2 base (apps ++ [rc x]) lo last2 ks Sy (Be ++ [x]) as' cs v' := by
  have k2 : Kp w0 (fun _ => False) wr w2 := Kp.lg h.x h0 h.hbl hf2
  obtain ⟨r1, r2, r3⟩ := h.rows k2
  have k3 : Kp w0 (fun _ => False) w2 w3 := Kp.below hb3
  have r1' := r1.keep k3 rowq_none (fun _ _ _ _ h => h)
  have r2' := own_below r2 hb3 (Nat.le_refl _)
  have hq : Rowq w0 w3 (fun k => some k = bv.ownBlock) := fun k hk => by
    obtain ⟨cur, hc⟩ := own_type r2' hk.symm
    exact ⟨Nat.le_trans h0 (r2'.lt k hk.symm).1, cur, hc⟩
  have k4 := Kp.grown (w0 := w0) hg4
  refine ⟨h.hbl, by have := h.ht; omega, by have := h.hW; omega, (hx2.old hb3).grown hg4 (fun g hgq => (hq g hgq.symm).2), by have := h.k1; rw [List.length_append]; omega, ?_, ?_, ?_, r1'.keep k4 hq (fun g o ha hp hqq => h.av g o ha hp hqq.symm), ho4, fun y hy => ?_, fun g o ha hp => ?_, by have := h.l; rw [List.length_append, List.length_singleton]; omega⟩
  · rw [List.take_append_of_le_length h.k1]; exact h.k2
  · rw [List.drop_append_of_le_length h.k1, h.k3, List.map_append]; rfl
  · rw [List.take_append_of_le_length h.k1]; exact h.k4
  · rcases List.mem_append.1 hy with hy | hy
    · exact ((r3 y hy).keep k3 rowq_none).keep k4 hq
    · rw [List.mem_singleton.1 hy]
      exact ((hd.keep k2 rowq_none).keep k3 rowq_none).keep k4 hq
  · rcases hn4 with e | ⟨g', e, hge⟩
    · rw [e]; exact h.av g o ha hp
    · rw [e]
      intro e2
      have := (r1'.g g o ha hp).1
      have := Option.some.inj e2
      omega
theorem Ks.synced (h : Ks w0 wa wr bd gs gn i bl vw hf t F W base apps lo last ks Sy Be as' cs bv) {w2 w3 : World} {F2 : List UInt8} {a3 : Option Addr} {c3 : Nat} (hx2 : Lgx w2 wa.heap.size bl bd gs 200 gn 200 (.slice none 0 0) 200 hf t F2 [] base apps (cat 0 (chR base apps)).length last)
    (hb3 : Below w2.heap.size w2 w3) (hr : Rds w0 w3 (Sy ++ Be) a3 c3) : Ks w0 wa w3 bd gs gn (i + 1) bl (.slice none 0 0) hf t F2 [] base apps (cat 0 (chR base apps)).length last apps.length (Sy ++ Be) [] a3 c3 (.slice none 0 0) :=
  ⟨h.hbl, by have := h.ht; omega, by simp, hx2.old hb3, Nat.le_refl _, by rw [List.take_length]; exact h.all, by simp, by rw [List.take_length]; exact Nat.le_refl _, hr, World.ownsRow_nil _ _ _ _, (fun x hx => by cases hx), (fun g o _ _ => by simp [Value.ownBlock]), by have := h.l; rw [List.length_append, List.length_nil]; omega⟩
theorem Ks.fresh {w0 wa w3 : World} {bd gs gn i bl hf t : Nat} {F : List UInt8} {base : List Rc} {last : List UInt8} {Sy : List Rv} {a3 : Option Addr} {c3 : Nat} (hx : Lgx w3 wa.heap.size bl bd gs 200 gn 200 (.slice none 0 0) 200 hf t F [] base [] (cat 0 (chR base [])).length last)
    (hbl : wa.heap.size ≤ bl) (ht : t ≤ i + 1) (hr : Rds w0 w3 Sy a3 c3) (e : base = Sy.map rc) (hl : Sy.length ≤ i) : Ks w0 wa w3 bd gs gn i bl (.slice none 0 0) hf t F [] base [] (cat 0 (chR base [])).length last 0 Sy [] a3 c3 (.slice none 0 0) :=
  ⟨hbl, ht, by simp, hx, Nat.le_refl _, by rw [List.take_nil, List.append_nil]; exact e, by simp, Nat.le_refl _, hr, World.ownsRow_nil _ _ _ _, (fun x hx => by cases hx), (fun g o _ _ => by simp [Value.ownBlock]), by rw [List.length_nil]; omega⟩
end
end Go.Proofs.YtjblkmjdepdekaaDoor.Wl

/- logs: the walk of WalKeeps -/
namespace Go.Proofs.YtjblkmjdepdekaaDoor.Wl
open Go.RowKit Go.Lib Go.Joins Go.Proofs.YtjblkmjdepdekaaDoor.By Go.Proofs.YtjblkmjdepdekaaDoor.Dk Go.Proofs.YtjblkmjdepdekaaDoor.Oc Go.Proofs.YtjblkmjdepdekaaDoor.Ht Go.Proofs.YtjblkmjdepdekaaDoor.Cr Go.Proofs.YtjblkmjdepdekaaDoor.Fm
set_option linter.unusedVariables false
attribute [local go_sem] Oper.semAt_some

set_option maxRecDepth 20000 in
set_option maxHeartbeats 32000000 in
theorem keeps_walk (a : Option Addr) (cap : Nat) (L : List Act5) (w : World) (h1 : IsActs5 w a L) (hc1 : L.length ≤ cap ∧ cap ≤ 9223372036854775807) (hn : Nibs w) :
    Calls Tryd.prog 3 #[.slice a L.length cap] w fun e w' => e = .returned (.bool true) ∧ Below w.heap.size w w' := by
  have HLV := fun W (h : Nibs W) => Lib.hid (lives05_any W h)
  have HN := Lib.hid hn
  have HI := Lib.hid (And.intro h1 hc1)
  clear h1 hc1 hn
  go_enter Tryd.func3, Tryd.ntmps3
  by_cases g0 : 50 < L.length
  · have e1 : (L.length : Int) > 50 := by omega
    go_wp2_with fail
    refine (HLV _ HN.out).out.mono ?_
    rintro e wa ⟨rfl, hba⟩
    have HBA := Lib.hid hba
    clear hba
    go_wp2_with fail
    refine (HLV _ (HN.out.old HBA.out)).out.mono ?_
    rintro e wb ⟨rfl, hbb⟩
    have HBB := Lib.hid (HBA.out.trans (hbb.mono HBA.out.size))
    clear hbb
    go_wp2_with fail
    go_ret
    exact ⟨rfl, HBB.out⟩
  · have e1 : ¬ (L.length : Int) > 50 := by omega
    go_wp2_with fail
    refine (HLV _ HN.out).out.mono ?_
    rintro e wa ⟨rfl, hba⟩
    have HBa := Lib.hid hba
    clear hba
    go_wp2_with fail
    refine (new_x 200 wa (by decide)).mono ?_
    rintro e w1 ⟨bd, gs, gn, F1, rfl, hd1, hlat1, hb1⟩
    have HD1 := Lib.hid (And.intro hd1 (And.intro hb1.size (HBa.out.trans (hb1.mono HBa.out.size))))
    clear hd1 hb1
    go_wp2_with fail
    refine (format_x (W := []) HD1.out.1 (by decide) (by rw [hlat1]; decide) (by decide) (HN.out.old HD1.out.2.2)).mono ?_
    rintro e w2 ⟨bl, F2, last2, hbl, rfl, hx2, hf2⟩
    rw [hlat1] at hx2
    have hb2 : Below w.heap.size w w2 := Fr.below' HD1.out.2.2 hf2 (fun k hk => Nat.le_trans HBa.out.size (HD1.out.1.foot_ge k hk))
    have hblw : wa.heap.size ≤ bl := Nat.le_trans HD1.out.2.1 hbl
    have HD2 := Lib.hid (And.intro hx2 (And.intro hb2 hblw))
    clear hx2 hb2 hf2 hbl hblw hlat1
    go_wp2_with fail
    go_loopw [5, 7, 8, 46] (fun lv sv bv kv wr => ∃ i : Nat, i ≤ L.length ∧ kv = .int .i64 i ∧ Below w.heap.size w wr ∧ ∃ bl vw hf t F W base apps lo last ks Sy Be as' cs, lv = .pointer (some ⟨bl, 0, none⟩) ∧ sv = .slice as' (Sy.length) cs ∧ Ks w wa wr bd gs gn i bl vw hf t F W base apps lo last ks Sy Be as' cs bv) (fun _ _ _ kv _ => L.length - (intOf kv).toNat)
    case atStart => exact ⟨0, Nat.zero_le _, rfl, HD2.out.2.1, bl, _, 0, 1, F2, [], [], [], _, last2, 0, [], [], none, 0, rfl, rfl, HD2.out.2.2, by omega, by simp, HD2.out.1, Nat.le_refl _, rfl, rfl, Nat.le_refl _, Rds.nil _ _, World.ownsRow_nil _ _ _ _, (fun x hx => by cases hx), (fun _ _ h => by cases h), by simp⟩
    case round =>
      obtain ⟨i, hi, rfl, hb, bl', vw, hf, t, F, W, base, apps, lo, last, ks, Sy, Be, as', cs, rfl, rfl, hK⟩ := hrel
      have HB := Lib.hid hb
      by_cases hlt : i < L.length
      · have hkc : (i : Int) < (L.length : Int) := by omega
        have hm0 : (0 : Int) ≤ (i : Int) := by omega
        obtain ⟨gg, og, rfl, hact⟩ := HI.out.1.at hlt
        obtain ⟨y, hy⟩ : ∃ y, y = L[i] := ⟨_, rfl⟩
        rw [← hy] at hact
        have hDt0 : Dt w wr y.x := Dt.came hact.2 hb
        obtain ⟨⟨c0, c1, c2, c3, c4⟩, hib⟩ := hact.old hb
        obtain ⟨W1, hW1⟩ : ∃ W, W = wr.alloc (.cells #[.int .i64 y.k, .int .i64 y.n, .int .u8 (y.x.k.toNat : Nat), .slice y.x.a y.x.d.length y.x.c, .int .u64 (y.keep : Nat)] 37) := ⟨_, rfl⟩
        have hb1 : Below wr.heap.size wr W1 := by rw [hW1]; exact (Below.refl _ _).alloc (Nat.le_refl _) _
        have x1 : W1.heap[wr.heap.size]? = some (.cells #[.int .i64 y.k, .int .i64 y.n, .int .u8 (y.x.k.toNat : Nat), .slice y.x.a y.x.d.length y.x.c, .int .u64 (y.keep : Nat)] 37 (0, 0)) := by rw [hW1]; exact heap_alloc_new wr _
        have hfc := five_cells x1
        obtain ⟨q0, q1, q2, q3, q4⟩ := hfc
        obtain ⟨ab, cb, rfl, hBr, hBB⟩ := Rds.own (w0 := w) (hK.old hb1 (Nat.le_refl i)).be (hK.old hb1 (Nat.le_refl i)).da
        have HK := Lib.hid (And.intro (hK.old hb1 (Nat.le_refl i)) (And.intro (hb.trans (hb1.mono hb.size)) (And.intro (hib.old hb1) (And.intro (hDt0.keep (Kp.below (q := fun _ => False) hb1) rowq_none) (And.intro hBr hBB)))))
        have HW1 := Lib.hid hW1
        have HX1 := Lib.hid x1
        rw [hW1] at q0 q1 q2 q3 q4
        clear hK hb hy hib hact hb1 x1 hW1 hBr hBB hDt0
        by_cases hd60 : 60 < y.x.d.length
        · have hdI : (y.x.d.length : Int) > 60 := by omega
          go_wp2_with fail
          go_ret
          exact ⟨rfl, by have := HK.out.2.1; rw [HW1.out] at this; exact this⟩
        · have hdI : ¬ (y.x.d.length : Int) > 60 := by omega
          by_cases hk012 : y.k = 0 ∨ y.k = 1 ∨ y.k = 2
          · rcases hk012 with hk | hk | hk
            all_goals
              as_aux_lemma =>
                have hkp : y.x.k = 255 ∨ ¬ y.x.k = 255 := Classical.em _
                go_wp2_with fail
                have hwk := HW1.out
                rw [hk] at hwk
                rw [← hwk]
                clear hwk
                rcases hkp with hk255 | hk255
                · have e255 : ((y.x.k.toNat : Nat) : Int) = 255 := by rw [hk255]; rfl
                  have has : Calls Tryd.prog 11 #[.pointer (some ⟨bl', 0, none⟩), .agg #[.int .u8 ((y.x.k.toNat : Nat) : Int), .slice y.x.a y.x.d.length y.x.c]] W1 fun e w' => e = .returned (.int .i64 1) ∧ Below W1.heap.size W1 w' := by rw [e255]; exact append_seal bl' y.x.a y.x.d.length y.x.c W1
                  refine has.mono ?_
                  rintro e W2 ⟨rfl, hb2⟩
                  obtain ⟨r0, r1, r2, r3, r4⟩ := five_cells (heap_old hb2 HX1.out)
                  have HS := Lib.hid (And.intro (HK.out.1.old hb2 (Nat.le_succ i)) (HK.out.2.1.trans (hb2.mono HK.out.2.1.size)))
                  clear has hb2 q0 q1 q2 q3 q4
                  go_wp2_with fail
                  go_roundw
                  case rel => exact ⟨i + 1, by omega, by go_num, HS.out.2, bl', vw, hf, t, F, W, base, apps, lo, last, ks, Sy, Be, as', cs, rfl, rfl, HS.out.1⟩
                  case measure => simp [intOf]; omega
                · have hkI : ¬ ((y.x.k.toNat : Nat) : Int) = 255 := fun h => hk255 (UInt8.toNat_inj.1 (show y.x.k.toNat = 255 by omega))
                  refine (append_x HK.out.1.x y.x.k y.x.a y.x.c y.x.d HK.out.2.2.1 hk255 (by omega) (by have := HK.out.1.hW; omega) (HN.out.old HK.out.2.1)).mono ?_
                  rintro e W2 (⟨_, rfl, hb2⟩ | ⟨_, rfl, vw2, Wl2, last2', hx2, hw2, _, hf2⟩)
                  · obtain ⟨r0, r1, r2, r3, r4⟩ := five_cells (heap_old hb2 HX1.out)
                    have HS := Lib.hid (And.intro (HK.out.1.old hb2 (Nat.le_succ i)) (HK.out.2.1.trans (hb2.mono HK.out.2.1.size)))
                    clear hb2 q0 q1 q2 q3 q4
                    go_wp2_with fail
                    go_roundw
                    case rel => exact ⟨i + 1, by omega, by go_num, HS.out.2, bl', vw, hf, t, F, W, base, apps, lo, last, ks, Sy, Be, as', cs, rfl, rfl, HS.out.1⟩
                    case measure => simp [intOf]; omega
                  · have hq2 : W2.heap[wr.heap.size]? = some (.cells #[.int .i64 y.k, .int .i64 y.n, .int .u8 (y.x.k.toNat : Nat), .slice y.x.a y.x.d.length y.x.c, .int .u64 (y.keep : Nat)] 37 (0, 0)) := (hf2.block _ (lt_of_block HX1.out) (by
                      rintro (h | h)
                      · exact HK.out.1.x.dk.not_foot HX1.out (by decide) (by decide) (by decide) h
                      · have h3 := HK.out.1.x.lg.blk
                        rw [← h, HX1.out] at h3
                        simp at h3)).trans HX1.out
                    obtain ⟨r0, r1, r2, r3, r4⟩ := five_cells hq2
                    obtain ⟨W3, hW3⟩ : ∃ X, X = W2.alloc (.cells #[.int .u8 (y.x.k.toNat : Nat), .slice y.x.a y.x.d.length y.x.c] 34) := ⟨_, rfl⟩
                    have hb3 : Below W2.heap.size W2 W3 := by rw [hW3]; exact (Below.refl _ _).alloc (Nat.le_refl _) _
                    have hy3 : ∀ j u, (rcv y.x)[j]? = some u → W3.cell? ((⟨W2.heap.size, 0, none⟩ : Addr).add j) = some u := fun j u hu => by
                      have e := cell_of_block (heap_alloc_new W2 (.cells #[.int .u8 (y.x.k.toNat : Nat), .slice y.x.a y.x.d.length y.x.c] 34)) (i := j)
                      rw [hW3, add_lit, Nat.zero_add, e]
                      simpa [rcv] using hu
                    have HS := Lib.hid (And.intro hx2 (And.intro hw2 (And.intro hf2 (And.intro hb3 hy3))))
                    have hrow := own_below (HK.out.1.rows (Kp.lg HK.out.1.x HBa.out.size HK.out.1.hbl hf2)).2.1 hb3 (Nat.le_refl _)
                    have HR := Lib.hid hrow
                    have hw2' : Below w.heap.size w W2 := Fr.below' HK.out.2.1 hf2 (fun k hk => Nat.le_trans HBa.out.size (HK.out.1.x.ge HK.out.1.hbl k hk))
                    have HW2 := Lib.hid hw2'
                    have HW3 := Lib.hid hW3
                    clear hx2 hw2 hf2 hb3 hy3 hq2 hrow hw2' q0 q1 q2 q3 q4
                    clear hW3
                    go_wp2_with (at_builtin; rw [← HW3.out]; refine wpList_app_one (w0 := w) rfl _ _ rfl rfl HR.out (by have h1 := HK.out.1.x.dk.hb; have h2 := lt_of_block HK.out.1.x.dk.blk; have h3 := HS.out.2.2.1.size; have h4 := HS.out.2.2.2.1.size; omega) y.x ⟨W2.heap.size, 0, none⟩ 1 rfl HS.out.2.2.2.2 (by have := HK.out.1.l; omega) ?_; intro v' W4 ho4 hg4 hn4)
                    have hP := HK.out.1.pushed HBa.out.size (x := y.x) HS.out.1 HS.out.2.1 HS.out.2.2.1 HS.out.2.2.2.1 HK.out.2.2.2.1 ho4 hg4 hn4
                    have hb4 : Below w.heap.size w W4 := (HW2.out.trans (HS.out.2.2.2.1.mono HW2.out.size)).grown hg4 (Nat.le_trans HW2.out.size HS.out.2.2.2.1.size) (fun k hk => Nat.le_trans HBa.out.size (HR.out.lt k hk).1)
                    have HP := Lib.hid (And.intro hP hb4)
                    clear hP hb4 ho4 hg4 hn4
                    go_roundw
                    case rel => exact ⟨i + 1, by omega, by go_num, HP.out.2, bl', vw2, hf, t, F, Wl2, base, _, lo, last2', ks, Sy, _, as', cs, rfl, rfl, HP.out.1⟩
                    case measure => simp [intOf]; omega
          · have hk0 : ¬ y.k = 0 := fun h => hk012 (.inl h)
            have hk1 : ¬ y.k = 1 := fun h => hk012 (.inr (.inl h))
            have hk2 : ¬ y.k = 2 := fun h => hk012 (.inr (.inr h))
            by_cases hk3 : y.k = 3
            · as_aux_lemma =>
                go_wp2_with fail
                have hwk := HW1.out
                rw [hk3] at hwk
                rw [← hwk]
                clear hwk
                refine (sync_x HK.out.1.x (by have := HK.out.1.hW; omega)).mono ?_
                rintro e W2 ⟨rfl, hx2, hf2⟩
                have hk2 : Kp w (fun _ => False) W1 W2 := Kp.dk HK.out.1.x.dk HBa.out.size hf2
                obtain ⟨r1, r2, r3⟩ := HK.out.1.rows hk2
                have hBr2 := HK.out.2.2.2.2.1.keep hk2 rowq_none (fun _ _ _ _ h => h)
                have hw2 : Below w.heap.size w W2 := Fr.below' HK.out.2.1 hf2 (fun k hk => Nat.le_trans HBa.out.size (HK.out.1.x.dk.foot_ge k hk))
                have HS := Lib.hid (And.intro hx2 (And.intro r1 (And.intro hBr2 hw2)))
                have hsk := slice_keep as' Sy.length cs HK.out.1.sy.c.1
                clear hx2 hf2 hk2 r1 r2 r3 hBr2 hw2 q0 q1 q2 q3 q4
                go_wp2_with (at_builtin; refine wpList_app_both (w0 := w) rfl _ _ rfl rfl rfl HS.out.2.1 HS.out.2.2.1 (by have := HK.out.1.l; omega) ?_; intro a3 c3 W3 hb3 hr3)
                have HP := Lib.hid (And.intro (HK.out.1.synced HS.out.1 hb3 hr3) (HS.out.2.2.2.trans (hb3.mono HS.out.2.2.2.size)))
                clear hb3 hr3
                have hle : Sy.length + Be.length = (Sy ++ Be).length := by simp
                rw [hle]
                go_wp2_with fail
                go_roundw
                case rel => exact ⟨i + 1, by omega, by go_num, HP.out.2, bl', _, hf, t, _, _, base, apps, _, last, _, _, _, a3, c3, rfl, rfl, HP.out.1⟩
                case measure => simp [intOf]; omega
            · by_cases hk4 : y.k = 4
              · obtain ⟨m8, hm8, hm8I⟩ := eight y.n
                obtain ⟨Al, hAl⟩ : ∃ X, X = Sy ++ Be := ⟨_, rfl⟩
                have hAll : Al.length ≤ 50 := by rw [hAl, List.length_append]; have := HK.out.1.l; omega
                have hAle : Sy.length + Be.length = Al.length := by rw [hAl, List.length_append]
                rcases Nat.lt_or_ge m8 Al.length with h8 | h8
                · as_aux_lemma =>
                    obtain ⟨lo2, hlo2⟩ : ∃ m, m = Al.length - m8 := ⟨_, rfl⟩
                    obtain ⟨L2, hL2⟩ : ∃ X, X = Al.drop lo2 := ⟨_, rfl⟩
                    have h8I : (m8 : Int) < (Al.length : Int) := by omega
                    have hsub : wrap64 ((Al.length : Int) - (m8 : Int)) = (lo2 : Int) := by unfold wrap64; omega
                    have hsub2 : IntKind.i64.wrap ((Al.length : Int) - (m8 : Int)) = (lo2 : Int) := by rw [IntKind.wrap_i64]; omega
                    have hL2l : L2.length ≤ Al.length := by rw [hL2, List.length_drop]; omega
                    have hloc : lo2 ≤ Al.length := by omega
                    have hmem : ∀ x ∈ L2, x ∈ Sy ++ Be := fun x hx => by rw [hL2] at hx; rw [← hAl]; exact List.mem_of_mem_drop hx
                    have HA := Lib.hid (And.intro hAl (And.intro hL2 (And.intro hAle (And.intro hL2l (And.intro hloc (And.intro hmem hAll))))))
                    have hsk := slice_keep as' Sy.length cs HK.out.1.sy.c.1
                    have hwk := HW1.out
                    rw [hk4] at hwk
                    have HWK := Lib.hid hwk
                    clear hwk hAl hlo2 hL2 hAle hL2l hloc hmem hAll q0 q2 q3 q4 hm8 q1 h8
                    go_wp2_with (at_builtin; rw [← HWK.out]; refine wpList_app_both (w0 := w) rfl _ _ rfl rfl rfl HK.out.1.sy HK.out.2.2.2.2.1 (by have := HK.out.1.l; omega) ?_; intro a2 c2 W2 hb2 hr2; rw [HA.out.2.2.1]; rw [← HA.out.1] at hr2; obtain ⟨r0, r1, r2, r3, r4⟩ := five_cells (heap_old hb2 HX1.out); obtain ⟨a3, c3', hsf, hr3⟩ := cut_any hr2 lo2 HA.out.2.2.2.2.1; rw [← HA.out.2.1] at hsf hr3; have HR2 := Lib.hid (And.intro hb2 hr3); clear hb2 hr2 hr3)
                    refine (turn_any (HK.out.1.x.old HR2.out.1).lg).mono ?_
                    rintro e W2' ⟨rfl, rfl⟩
                    have hbw2 := HK.out.2.1.trans (HR2.out.1.mono HK.out.2.1.size)
                    have HBW2 := Lib.hid hbw2
                    clear hbw2
                    go_wp2_with fail
                    refine (rewrite_x (HK.out.1.x.old HR2.out.1) (by have := HK.out.1.ht; omega) a3 c3' L2 HR2.out.2.r HR2.out.2.n HR2.out.2.c (fun x hx => (HK.out.1.recs x (HA.out.2.2.2.2.2.1 x hx)).1) (by have := HA.out.2.2.2.1; have := HA.out.2.2.2.2.2.2; omega) (by have := HK.out.1.hW; omega) (HN.out.old HBW2.out) (fun x hx => (HK.out.1.recs x (HA.out.2.2.2.2.2.1 x hx)).2)).mono ?_
                    rintro e W4 (⟨_, rfl, hb4⟩ | ⟨rfl, F4, last4, hx4, hf4⟩)
                    · have HS := Lib.hid (And.intro (HK.out.1.old (HR2.out.1.trans (hb4.mono HR2.out.1.size)) (Nat.le_succ i)) (HBW2.out.trans (hb4.mono HBW2.out.size)))
                      clear hb4 hsf r0 r1 r2 r3 r4
                      go_wp2_with fail
                      go_roundw
                      case rel => exact ⟨i + 1, by omega, by go_num, HS.out.2, bl', vw, hf, t, F, W, base, apps, lo, last, ks, Sy, Be, as', cs, rfl, rfl, HS.out.1⟩
                      case measure => simp [intOf]; omega
                    · have hk4' : Kp w (fun _ => False) W2 W4 := Kp.lg (HK.out.1.x.old HR2.out.1) HBa.out.size HK.out.1.hbl hf4
                      obtain ⟨W5, hW5⟩ : ∃ X, X = W4.alloc (.cells #[] 34) := ⟨_, rfl⟩
                      have hb5 : Below W4.heap.size W4 W5 := by rw [hW5]; exact (Below.refl _ _).alloc (Nat.le_refl _) _
                      have hr5 : Rds w W5 L2 a3 c3' := (HR2.out.2.keep hk4' rowq_none (fun _ _ _ _ h => h)).keep (Kp.below (q := fun _ => False) hb5) rowq_none (fun _ _ _ _ h => h)
                      have hn5 : Rds w W5 [] (some ⟨W4.heap.size, 0, none⟩) 0 := ⟨(fun h => by cases h), ⟨Nat.le_refl _, by decide⟩, .inl rfl, (fun _ _ _ h => by cases h), (fun x hx => by cases hx)⟩
                      have hw4 : Below w.heap.size w W4 := Fr.below' HBW2.out hf4 (fun k hk => Nat.le_trans HBa.out.size (HK.out.1.x.ge HK.out.1.hbl k hk))
                      have HS := Lib.hid (And.intro hx4 (And.intro hb5 (And.intro hr5 (And.intro hn5 hw4))))
                      have HW5 := Lib.hid hW5
                      clear hx4 hf4 hk4' hb5 hr5 hn5 hw4 hW5 hsf r0 r1 r2 r3 r4
                      have hz2 : IntKind.u64.wrap ((t : Int) + 1) = ((t + 1 : Nat) : Int) := by have := HK.out.1.ht; rw [IntKind.wrap_u64]; omega
                      go_wp2_with (at_builtin; rw [← HW5.out]; refine wpList_app_both (w0 := w) (S := []) (T := L2) rfl _ _ rfl rfl rfl HS.out.2.2.2.1 HS.out.2.2.1 (by have := HA.out.2.2.2.1; have := HA.out.2.2.2.2.2.2; simp only [List.length_nil]; omega) ?_; intro a6 c6 W6 hb6 hr6; have HR6 := Lib.hid (And.intro hb6 hr6); clear hb6 hr6)
                      refine (turn_any ((HS.out.1.old HS.out.2.1).old HR6.out.1).lg).mono ?_
                      rintro e W6' ⟨rfl, rfl⟩
                      have hP := Ks.fresh (i := i + 1) ((HS.out.1.old HS.out.2.1).old HR6.out.1) HK.out.1.hbl (by have := HK.out.1.ht; omega) (Sy := L2) HR6.out.2 rfl (by have := HA.out.2.2.2.1; have := HA.out.2.2.1; have := HK.out.1.l; omega)
                      have HP := Lib.hid (And.intro hP (HS.out.2.2.2.2.trans ((HS.out.2.1.mono HS.out.2.2.2.2.size).trans (HR6.out.1.mono (Nat.le_trans HS.out.2.2.2.2.size HS.out.2.1.size)))))
                      clear hP
                      go_wp2_with fail
                      go_roundw
                      case rel => exact ⟨i + 1, by omega, by go_num, HP.out.2, bl', _, _, _, _, _, _, _, _, last4, _, L2, _, a6, c6, rfl, rfl, HP.out.1⟩
                      case measure => simp [intOf]; omega
                · as_aux_lemma =>
                    obtain ⟨lo2, hlo2⟩ : ∃ m, m = 0 := ⟨_, rfl⟩
                    obtain ⟨L2, hL2⟩ : ∃ X, X = Al.drop lo2 := ⟨_, rfl⟩
                    have h8I : ¬ (m8 : Int) < (Al.length : Int) := by omega
                    have hL2l : L2.length ≤ Al.length := by rw [hL2, List.length_drop]; omega
                    have hloc : lo2 ≤ Al.length := by omega
                    have hmem : ∀ x ∈ L2, x ∈ Sy ++ Be := fun x hx => by rw [hL2] at hx; rw [← hAl]; exact List.mem_of_mem_drop hx
                    have HA := Lib.hid (And.intro hAl (And.intro hL2 (And.intro hAle (And.intro hL2l (And.intro hloc (And.intro hmem hAll))))))
                    have hsk := slice_keep as' Sy.length cs HK.out.1.sy.c.1
                    have hwk := HW1.out
                    rw [hk4] at hwk
                    have HWK := Lib.hid hwk
                    have HL0 := Lib.hid hlo2
                    clear hwk hAl hlo2 hL2 hAle hL2l hloc hmem hAll q0 q2 q3 q4 hm8 q1 h8
                    go_wp2_with (at_builtin; rw [← HWK.out]; refine wpList_app_both (w0 := w) rfl _ _ rfl rfl rfl HK.out.1.sy HK.out.2.2.2.2.1 (by have := HK.out.1.l; omega) ?_; intro a2 c2 W2 hb2 hr2; rw [HA.out.2.2.1]; rw [← HA.out.1] at hr2; obtain ⟨r0, r1, r2, r3, r4⟩ := five_cells (heap_old hb2 HX1.out); obtain ⟨a3, c3', hsf, hr3⟩ := cut_any hr2 lo2 HA.out.2.2.2.2.1; rw [← HA.out.2.1] at hsf hr3; rw [HL0.out] at hsf; have hsf : ∀ W, (Instr.sliceAt 31 (.slice a2 Al.length c2) (some (.int .i64 0)) none none).run Tryd.prog W = .ok (.slice a3 L2.length c3') W := hsf; have HR2 := Lib.hid (And.intro hb2 hr3); clear hb2 hr2 hr3)
                    refine (turn_any (HK.out.1.x.old HR2.out.1).lg).mono ?_
                    rintro e W2' ⟨rfl, rfl⟩
                    have hbw2 := HK.out.2.1.trans (HR2.out.1.mono HK.out.2.1.size)
                    have HBW2 := Lib.hid hbw2
                    clear hbw2
                    go_wp2_with fail
                    refine (rewrite_x (HK.out.1.x.old HR2.out.1) (by have := HK.out.1.ht; omega) a3 c3' L2 HR2.out.2.r HR2.out.2.n HR2.out.2.c (fun x hx => (HK.out.1.recs x (HA.out.2.2.2.2.2.1 x hx)).1) (by have := HA.out.2.2.2.1; have := HA.out.2.2.2.2.2.2; omega) (by have := HK.out.1.hW; omega) (HN.out.old HBW2.out) (fun x hx => (HK.out.1.recs x (HA.out.2.2.2.2.2.1 x hx)).2)).mono ?_
                    rintro e W4 (⟨_, rfl, hb4⟩ | ⟨rfl, F4, last4, hx4, hf4⟩)
                    · have HS := Lib.hid (And.intro (HK.out.1.old (HR2.out.1.trans (hb4.mono HR2.out.1.size)) (Nat.le_succ i)) (HBW2.out.trans (hb4.mono HBW2.out.size)))
                      clear hb4 hsf r0 r1 r2 r3 r4
                      go_wp2_with fail
                      go_roundw
                      case rel => exact ⟨i + 1, by omega, by go_num, HS.out.2, bl', vw, hf, t, F, W, base, apps, lo, last, ks, Sy, Be, as', cs, rfl, rfl, HS.out.1⟩
                      case measure => simp [intOf]; omega
                    · have hk4' : Kp w (fun _ => False) W2 W4 := Kp.lg (HK.out.1.x.old HR2.out.1) HBa.out.size HK.out.1.hbl hf4
                      obtain ⟨W5, hW5⟩ : ∃ X, X = W4.alloc (.cells #[] 34) := ⟨_, rfl⟩
                      have hb5 : Below W4.heap.size W4 W5 := by rw [hW5]; exact (Below.refl _ _).alloc (Nat.le_refl _) _
                      have hr5 : Rds w W5 L2 a3 c3' := (HR2.out.2.keep hk4' rowq_none (fun _ _ _ _ h => h)).keep (Kp.below (q := fun _ => False) hb5) rowq_none (fun _ _ _ _ h => h)
                      have hn5 : Rds w W5 [] (some ⟨W4.heap.size, 0, none⟩) 0 := ⟨(fun h => by cases h), ⟨Nat.le_refl _, by decide⟩, .inl rfl, (fun _ _ _ h => by cases h), (fun x hx => by cases hx)⟩
                      have hw4 : Below w.heap.size w W4 := Fr.below' HBW2.out hf4 (fun k hk => Nat.le_trans HBa.out.size (HK.out.1.x.ge HK.out.1.hbl k hk))
                      have HS := Lib.hid (And.intro hx4 (And.intro hb5 (And.intro hr5 (And.intro hn5 hw4))))
                      have HW5 := Lib.hid hW5
                      clear hx4 hf4 hk4' hb5 hr5 hn5 hw4 hW5 hsf r0 r1 r2 r3 r4
                      have hz2 : IntKind.u64.wrap ((t : Int) + 1) = ((t + 1 : Nat) : Int) := by have := HK.out.1.ht; rw [IntKind.wrap_u64]; omega
                      go_wp2_with (at_builtin; rw [← HW5.out]; refine wpList_app_both (w0 := w) (S := []) (T := L2) rfl _ _ rfl rfl rfl HS.out.2.2.2.1 HS.out.2.2.1 (by have := HA.out.2.2.2.1; have := HA.out.2.2.2.2.2.2; simp only [List.length_nil]; omega) ?_; intro a6 c6 W6 hb6 hr6; have HR6 := Lib.hid (And.intro hb6 hr6); clear hb6 hr6)
                      refine (turn_any ((HS.out.1.old HS.out.2.1).old HR6.out.1).lg).mono ?_
                      rintro e W6' ⟨rfl, rfl⟩
                      have hP := Ks.fresh (i := i + 1) ((HS.out.1.old HS.out.2.1).old HR6.out.1) HK.out.1.hbl (by have := HK.out.1.ht; omega) (Sy := L2) HR6.out.2 rfl (by have := HA.out.2.2.2.1; have := HA.out.2.2.1; have := HK.out.1.l; omega)
                      have HP := Lib.hid (And.intro hP (HS.out.2.2.2.2.trans ((HS.out.2.1.mono HS.out.2.2.2.2.size).trans (HR6.out.1.mono (Nat.le_trans HS.out.2.2.2.2.size HS.out.2.1.size)))))
                      clear hP
                      go_wp2_with fail
                      go_roundw
                      case rel => exact ⟨i + 1, by omega, by go_num, HP.out.2, bl', _, _, _, _, _, _, _, _, last4, _, L2, _, a6, c6, rfl, rfl, HP.out.1⟩
                      case measure => simp [intOf]; omega
              · go_wp2_with fail
                rw [← HW1.out]
                refine (keeps_any y.keep W1).mono ?_
                rintro e W2 ⟨rfl, hW2⟩
                have hb2 : Below W1.heap.size W1 W2 := by rw [hW2]; exact (Below.refl _ _).alloc (Nat.le_refl _) _
                have hbox : W2.cell? ⟨W1.heap.size, 0, none⟩ = some (.int .u64 (y.keep : Nat)) := by
                  rw [hW2, cell_of_block (heap_alloc_new W1 (.cells #[.int .u64 (y.keep : Nat)] 35))]; rfl
                have H2 := Lib.hid (And.intro (HK.out.1.old hb2 (Nat.le_refl i)) (And.intro (HK.out.2.1.trans (hb2.mono HK.out.2.1.size)) (And.intro (heap_old hb2 HX1.out) hbox)))
                clear hW2 hb2 hbox q0 q1 q2 q3 q4
                go_wp2_with fail
                refine (crash_any H2.out.1.x.dk (asks_keep5 y.keep W1.heap.size) (fun w' hb => (hb.cell (World.block_lt_of_cell? W2 _ H2.out.2.2.2)).trans H2.out.2.2.2) (by have := H2.out.1.hW; omega)).mono ?_
                rintro e W3 ⟨rfl, hd3, hf3⟩
                obtain ⟨V, hV1, hV2⟩ := cF_some (keepB5 y.keep) W F W.length (Nat.le_refl _)
                rw [hV2, sync_keep H2.out.1.x.o1.fl H2.out.1.x.dk.okW hV1] at hd3
                have hoY := H2.out.1.x.o1.keep (V := V) H2.out.1.x.pl.hf1 H2.out.1.x.u64 (fun x hx => H2.out.1.x.wt x (hV1 x hx))
                obtain ⟨Y, hY⟩ : ∃ Y, Y = ov F V := ⟨_, rfl⟩
                rw [← hY] at hd3 hoY
                have hk3' : Kp w (fun _ => False) W2 W3 := Kp.dk H2.out.1.x.dk HBa.out.size hf3
                have hq3 := (hf3.block _ (lt_of_block H2.out.2.2.1) (H2.out.1.x.dk.not_foot H2.out.2.2.1 (by decide) (by decide) (by decide))).trans H2.out.2.2.1
                have H3 := Lib.hid (And.intro hd3 (And.intro hoY (And.intro hk3' (And.intro hq3 (Fr.below' H2.out.2.1 hf3 (fun k hk => Nat.le_trans HBa.out.size (H2.out.1.x.dk.foot_ge k hk)))))))
                clear hd3 hf3 hV1 hV2 hoY hY hk3' hq3
                go_wp2_with fail
                refine (up_any H3.out.1).mono ?_
                rintro e W4 ⟨rfl, hd4, hf4, _⟩
                have hk4' : Kp w (fun _ => False) W2 W4 := H3.out.2.2.1.trans (Kp.dk H3.out.1 HBa.out.size hf4)
                have hq4 := (hf4.block _ (lt_of_block H3.out.2.2.2.1) (H3.out.1.not_foot H3.out.2.2.2.1 (by decide) (by decide) (by decide))).trans H3.out.2.2.2.1
                obtain ⟨s1, s2, s3⟩ := H2.out.1.rows hk4'
                obtain ⟨ab2, cb2, hve, hRb, _⟩ := Rds.own (w0 := w) s2 s3
                simp only [Value.slice.injEq, true_and] at hve
                obtain ⟨rfl, rfl⟩ := hve
                have H4 := Lib.hid (And.intro (show IsDk W4 wa.heap.size bd gs 200 gn 200 (.slice none 0 0) 200 Y (ov Y []) [] false from hd4) (And.intro s1 (And.intro hRb (Fr.below' H3.out.2.2.2.2 hf4 (fun k hk => Nat.le_trans HBa.out.size (H3.out.1.foot_ge k hk))))))
                obtain ⟨r0, r1, r2, r3, r4⟩ := five_cells hq4
                clear hd4 hf4 hk4' hq4 s1 s2 s3 hRb
                by_cases hk5 : y.k = 5
                · as_aux_lemma =>
                    have hk5c : ¬ ((y.k : Int) ≠ 5) := by omega
                    go_wp2_with fail
                    refine (open_x (W := []) H4.out.1 HK.out.1.x.pl H3.out.2.1 (by have := HK.out.1.ht; omega) (by decide) (HN.out.old H4.out.2.2.2)).mono ?_
                    rintro e W8 ⟨k', hk', hj, rv, bl2, v, F8, last8, hrv, hbl2, rfl, hrs, hx8, hf8⟩
                    have hks := hj ks HK.out.1.k1 HK.out.1.k4
                    obtain ⟨a9, c9, rfl, hR9, _⟩ := Rds.of_isRs (w0 := w) hrs
                    have hk8 : Kp w (fun _ => False) _ W8 := Kp.dk H4.out.1 HBa.out.size hf8
                    have hs8 := H4.out.2.1.keep hk8 rowq_none (fun _ _ _ _ h => h)
                    have ht8 := H4.out.2.2.1.keep hk8 rowq_none (fun _ _ _ _ h => h)
                    have hrv2 := hrv
                    rw [HK.out.1.told hks] at hrv2
                    have hl5 := HK.out.1.l
                    have hkl : k' - ks ≤ Be.length := by
                      have h1 := congrArg List.length HK.out.1.k3
                      rw [List.length_drop, List.length_map] at h1
                      omega
                    have hrl : rv.length ≤ i := by
                      have h1 := congrArg List.length hrv2
                      rw [List.length_map, List.length_append, List.length_map, List.length_take, List.length_map] at h1
                      omega
                    have hbeg := begins_yes a9 c9 rv as' cs Sy ab cb Be W8 hR9.r hs8.r ht8.r (k' - ks) hkl hrv2 (by omega) (by omega) (by omega)
                    have hbw8 : Below w.heap.size w W8 := Fr.below' H4.out.2.2.2 hf8 (fun k hk => Nat.le_trans HBa.out.size (H4.out.1.foot_ge k hk))
                    have hblq : wa.heap.size ≤ bl2 := by
                      have h3 := lt_of_block H4.out.1.blk
                      have h4 := H4.out.1.hb
                      omega
                    have H8 := Lib.hid (And.intro hx8 (And.intro hbeg (And.intro hR9 (And.intro hbw8 (And.intro hblq (And.intro hrl hrv))))))
                    clear hk' hj hrv hbl2 hrs hx8 hf8 hks hR9 hk8 hs8 ht8 hrv2 hl5 hkl hrl hbeg hbw8 hblq
                    go_wp2_with fail
                    refine H8.out.2.1.mono ?_
                    rintro e W9 ⟨rfl, hb9⟩
                    have H9 := Lib.hid (And.intro (H8.out.1.old hb9) (And.intro (H8.out.2.2.1.keep (Kp.below (q := fun _ => False) hb9) rowq_none (fun _ _ _ _ h => h)) (H8.out.2.2.2.1.trans (hb9.mono H8.out.2.2.2.1.size))))
                    clear hb9
                    go_wp2_with fail
                    refine (copy_any H9.out.1.dk (by decide)).mono ?_
                    rintro e W10 ⟨bdc, gsc, csc, gnc, cnc, vwc, rfl, hdc, hbc⟩
                    have H10 := Lib.hid (And.intro hdc (And.intro hbc (H9.out.2.2.trans (hbc.mono H9.out.2.2.size))))
                    clear hdc hbc
                    go_wp2_with fail
                    refine (open_x (W := []) H10.out.1 H9.out.1.pl H9.out.1.o1 (by have := HK.out.1.ht; omega) (by decide) (HN.out.old H10.out.2.2)).mono ?_
                    rintro e W11 ⟨k11, hk11, _, rv11, bl11, v11, F11, last11, hrv11, _, rfl, hrs11, _, hf11⟩
                    obtain ⟨a11, c11, rfl, hR11, _⟩ := Rds.of_isRs (w0 := w) hrs11
                    have hb11 : Below W9.heap.size W9 W11 := H10.out.2.1.trans (hf11.below H10.out.2.1.size H10.out.1.foot_ge)
                    have hR9' := H9.out.2.1.keep (Kp.below (q := fun _ => False) hb11) rowq_none (fun _ _ _ _ h => h)
                    have he11 : rv11.map rc = rv.map rc := by rw [hrv11, H8.out.2.2.2.2.2.2, List.take_nil, List.append_nil]
                    have hrl11 : rv11.length = rv.length := by simpa using congrArg List.length he11
                    have hal := alike_yes a11 c11 rv11 a9 c9 rv W11 hR11.r hR9'.r he11 (by have := H8.out.2.2.2.2.2.1; omega)
                    have H11 := Lib.hid (And.intro hal (And.intro hb11 (And.intro hR9' (H9.out.2.2.trans (hb11.mono H9.out.2.2.size)))))
                    clear hk11 hrv11 hrs11 hf11 hR11 hb11 hR9' he11 hrl11 hal
                    go_wp2_with fail
                    refine H11.out.1.mono ?_
                    rintro e W12 ⟨rfl, hb12⟩
                    have hP := Ks.fresh (i := i + 1) ((H9.out.1.old H11.out.2.1).old hb12) H8.out.2.2.2.2.1 (by have := HK.out.1.ht; omega) (Sy := rv) (H11.out.2.2.1.keep (Kp.below (q := fun _ => False) hb12) rowq_none (fun _ _ _ _ h => h)) H8.out.2.2.2.2.2.2.symm (by have := H8.out.2.2.2.2.2.1; omega)
                    have HP := Lib.hid (And.intro hP (H11.out.2.2.2.trans (hb12.mono H11.out.2.2.2.size)))
                    clear hP hb12
                    go_wp2_with fail
                    go_roundw
                    case rel => exact ⟨i + 1, by omega, by go_num, HP.out.2, bl2, _, _, _, _, _, _, _, _, last8, _, rv, _, a9, c9, rfl, rfl, HP.out.1⟩
                    case measure => simp [intOf]; omega
                · as_aux_lemma =>
                    have hk5c : (y.k : Int) ≠ 5 := hk5
                    go_wp2_with fail
                    refine (copy_any H4.out.1 (by decide)).mono ?_
                    rintro e W5 ⟨bdd, gsd, csd, gnd, cnd, vwd, rfl, hdd, hbd⟩
                    have H5c := Lib.hid (And.intro hdd (And.intro hbd (H4.out.2.2.2.trans (hbd.mono H4.out.2.2.2.size))))
                    clear hdd hbd
                    go_wp2_with fail
                    refine (open_x (W := []) H5c.out.1 HK.out.1.x.pl H3.out.2.1 (by have := HK.out.1.ht; omega) (by decide) (HN.out.old H5c.out.2.2)).mono ?_
                    rintro e W6 ⟨k6, hk6, hj6, rv6, bl6, v6, F6, last6, hrv6, _, rfl, hrs6, _, hf6⟩
                    have hks6 := hj6 ks HK.out.1.k1 HK.out.1.k4
                    obtain ⟨a6, c6, rfl, hR6, _⟩ := Rds.of_isRs (w0 := w) hrs6
                    have hb6 : Below W4.heap.size W4 W6 := H5c.out.2.1.trans (hf6.below H5c.out.2.1.size H5c.out.1.foot_ge)
                    rw [HK.out.1.told hks6] at hrv6
                    have hs6 := H4.out.2.1.keep (Kp.below (q := fun _ => False) hb6) rowq_none (fun _ _ _ _ h => h)
                    have ht6 := H4.out.2.2.1.keep (Kp.below (q := fun _ => False) hb6) rowq_none (fun _ _ _ _ h => h)
                    have hl6 := HK.out.1.l
                    have hkl6 : k6 - ks ≤ Be.length := by
                      have h1 := congrArg List.length HK.out.1.k3
                      rw [List.length_drop, List.length_map] at h1
                      omega
                    have hrl6 : rv6.length ≤ i := by
                      have h1 := congrArg List.length hrv6
                      rw [List.length_map, List.length_append, List.length_map, List.length_take, List.length_map] at h1
                      omega
                    have hbeg6 := begins_yes a6 c6 rv6 as' cs Sy ab cb Be W6 hR6.r hs6.r ht6.r (k6 - ks) hkl6 hrv6 (by omega) (by omega) (by omega)
                    have H6 := Lib.hid (And.intro hbeg6 (And.intro hb6 (And.intro hs6 (And.intro ht6 (H4.out.2.2.2.trans (hb6.mono H4.out.2.2.2.size))))))
                    clear hk6 hj6 hrv6 hrs6 hf6 hks6 hR6 hb6 hs6 ht6 hl6 hkl6 hrl6 hbeg6 r0 r1 r2 r3 r4
                    go_wp2_with fail
                    refine H6.out.1.mono ?_
                    rintro e W7 ⟨rfl, hb7⟩
                    have hb47 := H6.out.2.1.trans (hb7.mono H6.out.2.1.size)
                    have H7 := Lib.hid (And.intro (H4.out.1.old hb47) (And.intro (H6.out.2.2.1.keep (Kp.below (q := fun _ => False) hb7) rowq_none (fun _ _ _ _ h => h)) (And.intro (H6.out.2.2.2.1.keep (Kp.below (q := fun _ => False) hb7) rowq_none (fun _ _ _ _ h => h)) (H4.out.2.2.2.trans (hb47.mono H4.out.2.2.2.size)))))
                    clear hb7 hb47
                    go_wp2_with fail
                    refine (open_x (W := []) H7.out.1 HK.out.1.x.pl H3.out.2.1 (by have := HK.out.1.ht; omega) (by decide) (HN.out.old H7.out.2.2.2)).mono ?_
                    rintro e W8 ⟨k', hk', hj, rv, bl2, v, F8, last8, hrv, hbl2, rfl, hrs, hx8, hf8⟩
                    have hks := hj ks HK.out.1.k1 HK.out.1.k4
                    obtain ⟨a9, c9, rfl, hR9, _⟩ := Rds.of_isRs (w0 := w) hrs
                    have hk8 : Kp w (fun _ => False) _ W8 := Kp.dk H7.out.1 HBa.out.size hf8
                    have hs8 := H7.out.2.1.keep hk8 rowq_none (fun _ _ _ _ h => h)
                    have ht8 := H7.out.2.2.1.keep hk8 rowq_none (fun _ _ _ _ h => h)
                    have hrv2 := hrv
                    rw [HK.out.1.told hks] at hrv2
                    have hl5 := HK.out.1.l
                    have hkl : k' - ks ≤ Be.length := by
                      have h1 := congrArg List.length HK.out.1.k3
                      rw [List.length_drop, List.length_map] at h1
                      omega
                    have hrl : rv.length ≤ i := by
                      have h1 := congrArg List.length hrv2
                      rw [List.length_map, List.length_append, List.length_map, List.length_take, List.length_map] at h1
                      omega
                    have hbeg := begins_yes a9 c9 rv as' cs Sy ab cb Be W8 hR9.r hs8.r ht8.r (k' - ks) hkl hrv2 (by omega) (by omega) (by omega)
                    have hbw8 : Below w.heap.size w W8 := Fr.below' H7.out.2.2.2 hf8 (fun k hk => Nat.le_trans HBa.out.size (H7.out.1.foot_ge k hk))
                    have hblq : wa.heap.size ≤ bl2 := by
                      have h3 := lt_of_block H7.out.1.blk
                      have h4 := H7.out.1.hb
                      omega
                    have H8 := Lib.hid (And.intro hx8 (And.intro hbeg (And.intro hR9 (And.intro hbw8 (And.intro hblq (And.intro hrl hrv))))))
                    clear hk' hj hrv hbl2 hrs hx8 hf8 hks hR9 hk8 hs8 ht8 hrv2 hl5 hkl hrl hbeg hbw8 hblq
                    go_wp2_with fail
                    refine H8.out.2.1.mono ?_
                    rintro e W9 ⟨rfl, hb9⟩
                    have H9 := Lib.hid (And.intro (H8.out.1.old hb9) (And.intro (H8.out.2.2.1.keep (Kp.below (q := fun _ => False) hb9) rowq_none (fun _ _ _ _ h => h)) (H8.out.2.2.2.1.trans (hb9.mono H8.out.2.2.2.1.size))))
                    clear hb9
                    go_wp2_with fail
                    refine (copy_any H9.out.1.dk (by decide)).mono ?_
                    rintro e W10 ⟨bdc, gsc, csc, gnc, cnc, vwc, rfl, hdc, hbc⟩
                    have H10 := Lib.hid (And.intro hdc (And.intro hbc (H9.out.2.2.trans (hbc.mono H9.out.2.2.size))))
                    clear hdc hbc
                    go_wp2_with fail
                    refine (open_x (W := []) H10.out.1 H9.out.1.pl H9.out.1.o1 (by have := HK.out.1.ht; omega) (by decide) (HN.out.old H10.out.2.2)).mono ?_
                    rintro e W11 ⟨k11, hk11, _, rv11, bl11, v11, F11, last11, hrv11, _, rfl, hrs11, _, hf11⟩
                    obtain ⟨a11, c11, rfl, hR11, _⟩ := Rds.of_isRs (w0 := w) hrs11
                    have hb11 : Below W9.heap.size W9 W11 := H10.out.2.1.trans (hf11.below H10.out.2.1.size H10.out.1.foot_ge)
                    have hR9' := H9.out.2.1.keep (Kp.below (q := fun _ => False) hb11) rowq_none (fun _ _ _ _ h => h)
                    have he11 : rv11.map rc = rv.map rc := by rw [hrv11, H8.out.2.2.2.2.2.2, List.take_nil, List.append_nil]
                    have hrl11 : rv11.length = rv.length := by simpa using congrArg List.length he11
                    have hal := alike_yes a11 c11 rv11 a9 c9 rv W11 hR11.r hR9'.r he11 (by have := H8.out.2.2.2.2.2.1; omega)
                    have H11 := Lib.hid (And.intro hal (And.intro hb11 (And.intro hR9' (H9.out.2.2.trans (hb11.mono H9.out.2.2.size)))))
                    clear hk11 hrv11 hrs11 hf11 hR11 hb11 hR9' he11 hrl11 hal
                    go_wp2_with fail
                    refine H11.out.1.mono ?_
                    rintro e W12 ⟨rfl, hb12⟩
                    have hP := Ks.fresh (i := i + 1) ((H9.out.1.old H11.out.2.1).old hb12) H8.out.2.2.2.2.1 (by have := HK.out.1.ht; omega) (Sy := rv) (H11.out.2.2.1.keep (Kp.below (q := fun _ => False) hb12) rowq_none (fun _ _ _ _ h => h)) H8.out.2.2.2.2.2.2.symm (by have := H8.out.2.2.2.2.2.1; omega)
                    have HP := Lib.hid (And.intro hP (H11.out.2.2.2.trans (hb12.mono H11.out.2.2.2.size)))
                    clear hP hb12
                    go_wp2_with fail
                    go_roundw
                    case rel => exact ⟨i + 1, by omega, by go_num, HP.out.2, bl2, _, _, _, _, _, _, _, _, last8, _, rv, _, a9, c9, rfl, rfl, HP.out.1⟩
                    case measure => simp [intOf]; omega
      · obtain rfl : i = L.length := by omega
        have hge : ¬ (L.length : Int) < (L.length : Int) := by omega
        go_wp2_with fail
        go_ret
        exact ⟨rfl, HB.out⟩
end Go.Proofs.YtjblkmjdepdekaaDoor.Wl

/- a slice of elements of many cells that came in (of no program) -/
namespace Go.Proofs.YtjblkmjdepdekaaDoor.Oe
open Go.ChangeShapes Go.WideShapes Go.Deep
section
variable {H : Type} {enc : TypeId × Value → H} {P : Program} {w : World} {base : Nat} {spare : Nat → Bool} {held : Bool}
theorem add_none (b o j : Nat) : (⟨b, o, none⟩ : Addr).add j = ⟨b, o + j, none⟩ := by unfold Addr.add; split <;> simp_all
theorem slice_elems {t e : TypeId} {fuel : Nat} {a : Option Addr} {len cap : Nat} {x : DataW H × List MemPlace} (ht : P.underlying t = some (.slice e)) (hpos : 0 < P.cellsOf e) (h : DataW.trod enc P w base spare held fuel t [.slice a len cap] = some x) :
    len ≤ cap ∧ cap ≤ maxLen ∧ (len = 0 ∨ ∃ b o, a = some ⟨b, o, none⟩ ∧ ∀ i, i < len → ∃ (cs : List Value) (n : Nat) (y : DataW H × List MemPlace), cs.length = P.cellsOf e ∧
      (∀ j (hj : j < cs.length), w.cell? ⟨b, o + (i * P.cellsOf e + j), none⟩ = some cs[j]) ∧ DataW.trod enc P w base spare held n e cs = some y) := by
  rcases open_slice ht h with ⟨h0, _⟩ | ⟨ad, l', c', m, n, D, Pl, hcs, _, hl, hc, hm, _, hi⟩
  · simp only [List.cons.injEq, Value.slice.injEq, and_true] at h0
    obtain ⟨rfl, rfl, rfl⟩ := h0
    exact ⟨Nat.le_refl _, Nat.zero_le _, .inl rfl⟩
  · simp only [List.cons.injEq, Value.slice.injEq, and_true] at hcs
    obtain ⟨rfl, rfl, rfl⟩ := hcs
    refine ⟨hl, hc, ?_⟩
    have hlm : len ≤ m := by rw [hm]; split <;> omega
    have elem : ∀ i, i < len → ∃ (cs : List Value) (k : Nat) (y : DataW H × List MemPlace), cs.length = P.cellsOf e ∧ (∀ j (hj : j < cs.length), w.cell? (ad.add (i * P.cellsOf e + j)) = some cs[j]) ∧ DataW.trod enc P w base spare held k e cs = some y := by
      intro i hi'
      obtain ⟨cs', h1, h2⟩ := hi i (by omega)
      obtain ⟨hlen, hcl, hat⟩ := World.cells?_some h1
      refine ⟨cs', _, _, by omega, fun j hj => ?_, h2⟩
      rw [← add_add, hat j (by omega), List.getElem?_eq_getElem hj]
    by_cases h0 : len = 0
    · exact .inl h0
    · right
      obtain ⟨cs0, k, y, h1, hv, _⟩ := elem 0 (by omega)
      have hv0 := hv 0 (by omega)
      obtain ⟨b, o, spot⟩ := ad
      have hsp : spot = none := by simpa [Addr.add] using World.cell?_spot hv0
      subst hsp
      refine ⟨b, o, rfl, fun i hi' => ?_⟩
      obtain ⟨cs, k, y, h1, h2, h3⟩ := elem i hi'
      refine ⟨cs, k, y, h1, fun j hj => ?_, h3⟩
      have := h2 j hj
      rwa [add_none] at this
end
end Go.Proofs.YtjblkmjdepdekaaDoor.Oe

/- acts that came in, opened -/
namespace Go.Proofs.YtjblkmjdepdekaaDoor.Par
open Go.ChangeShapes Go.WideShapes Go.ChangeAt Go.RowKit Go.Proofs.YtjblkmjdepdekaaDoor.By
set_option maxRecDepth 20000
instance : Inhabited Wl.Act5 := ⟨⟨0, 0, ⟨0, none, 0, []⟩, 0⟩⟩
section
variable {H : Type} {enc : TypeId × Value → H} {W : World}
theorem int_cell {base fuel : Nat} {cs : List Value} {x : DataW H × List MemPlace} (h : DataW.trod enc Tryd.prog W base (fun _ => true) true fuel 3 cs = some x) : ∃ m : Int, cs = [.int .i64 m] := by
  obtain ⟨n, e, _, _⟩ := DataW.trod_int Tryd.underlying3 h
  exact ⟨n, e⟩
theorem rec_cells {base fuel : Nat} {cs : List Value} {x : DataW H × List MemPlace} (h : DataW.trod enc Tryd.prog W base (fun _ => true) true fuel 34 cs = some x) : ∃ r : Wl.Rv, cs = [.int .u8 (r.k.toNat : Nat), .slice r.a r.d.length r.c] ∧ IsB W r.a r.d.length r.c r.d := by
  obtain ⟨y0, y1, n, _, hl, h0, h1⟩ := trod_struct2 Tryd.underlying34 h
  have hc : Tryd.prog.cellsOf 34 = 2 := by kernel_rfl
  rw [hc] at hl
  match cs, hl with
  | [v0, v1], _ =>
    obtain ⟨m, e0⟩ := u8_cell (show DataW.trod enc Tryd.prog W base (fun _ => true) true n 5 [v0] = some y0 from h0)
    obtain ⟨a', len', cap', l, e1, hib⟩ := bytes_cell (show DataW.trod enc Tryd.prog W base (fun _ => true) true n 32 [v1] = some y1 from h1)
    simp only [List.cons.injEq, and_true] at e0 e1
    subst e0 e1
    obtain rfl : l.length = len' := hib.1
    exact ⟨⟨m, a', cap', l⟩, rfl, hib⟩
theorem act_cells {base fuel : Nat} {cs : List Value} {x : DataW H × List MemPlace} (h : DataW.trod enc Tryd.prog W base (fun _ => true) true fuel 37 cs = some x) :
    ∃ y : Wl.Act5, cs = [.int .i64 y.k, .int .i64 y.n, .int .u8 (y.x.k.toNat : Nat), .slice y.x.a y.x.d.length y.x.c, .int .u64 (y.keep : Nat)] ∧ IsB W y.x.a y.x.d.length y.x.c y.x.d := by
  obtain ⟨xs, n, _, _, hl, hxl, hf⟩ := DataW.trod_struct Tryd.underlying37 h
  have hc : Tryd.prog.cellsOf 37 = 5 := by kernel_rfl
  rw [hc] at hl
  match cs, hl with
  | [v0, v1, v2, v3, v4], _ =>
    have f0 := hf 0 _ rfl
    have f1 := hf 1 _ rfl
    have f2 := hf 2 _ rfl
    have f3 := hf 3 _ rfl
    obtain ⟨x0, g0⟩ : ∃ x0, xs[0]? = some x0 := ⟨_, List.getElem?_eq_getElem (by simp at hxl; omega)⟩
    obtain ⟨x1, g1⟩ : ∃ x0, xs[1]? = some x0 := ⟨_, List.getElem?_eq_getElem (by simp at hxl; omega)⟩
    obtain ⟨x2, g2⟩ : ∃ x0, xs[2]? = some x0 := ⟨_, List.getElem?_eq_getElem (by simp at hxl; omega)⟩
    obtain ⟨x3, g3⟩ : ∃ x0, xs[3]? = some x0 := ⟨_, List.getElem?_eq_getElem (by simp at hxl; omega)⟩
    rw [g0] at f0
    rw [g1] at f1
    rw [g2] at f2
    rw [g3] at f3
    obtain ⟨m0, e0⟩ := int_cell (show DataW.trod enc Tryd.prog W base (fun _ => true) true n 3 [v0] = some x0 from f0)
    obtain ⟨m1, e1⟩ := int_cell (show DataW.trod enc Tryd.prog W base (fun _ => true) true n 3 [v1] = some x1 from f1)
    obtain ⟨r, e2, hib⟩ := rec_cells (show DataW.trod enc Tryd.prog W base (fun _ => true) true n 34 [v2, v3] = some x2 from f2)
    obtain ⟨m4, e4, _⟩ := u64_cell (show DataW.trod enc Tryd.prog W base (fun _ => true) true n 35 [v4] = some x3 from f3)
    simp only [List.cons.injEq, and_true] at e0 e1 e2 e4
    obtain ⟨rfl, rfl⟩ := e2
    subst e0 e1 e4
    exact ⟨⟨m0, m1, r, m4⟩, rfl, hib⟩
theorem open_acts5 {r : Reach} {b0 base : Nat} {v : Value} {d : DataW H} {p : List MemPlace} (hv : Value.okWide Tryd.prog W r b0 22 v) (h : DataW.Trod enc Tryd.prog W base (fun _ => true) true 22 v d p) :
    ∃ a len cap, ∃ L : List Wl.Act5, v = .slice a len cap ∧ L.length = len ∧ (len ≤ cap ∧ cap ≤ 9223372036854775807) ∧ Wl.IsActs5 W a L := by
  obtain ⟨a, len, cap, rfl⟩ := okWide_slice Tryd.underlying22 hv
  obtain ⟨fuel, hf⟩ := h
  simp only [Value.cells] at hf
  have hc : Tryd.prog.cellsOf 37 = 5 := by kernel_rfl
  obtain ⟨hl, hm, h⟩ := Oe.slice_elems Tryd.underlying22 (by rw [hc]; decide) hf
  have hm' : cap ≤ 9223372036854775807 := by unfold maxLen at hm; omega
  rcases h with h0 | ⟨b, o, rfl, h⟩
  · exact ⟨a, len, cap, [], rfl, h0.symm, ⟨hl, hm'⟩, .inl rfl⟩
  · have key : ∀ i, i < len → ∃ x : Wl.Act5, Wl.Act5At W b o i x := by
      intro i hi
      obtain ⟨cs, n, y, h1, h2, h3⟩ := h i hi
      obtain ⟨z, rfl, hib⟩ := act_cells h3
      rw [hc] at h2
      exact ⟨z, ⟨h2 0 (by simp), h2 1 (by simp), h2 2 (by simp), h2 3 (by simp), h2 4 (by simp)⟩, hib⟩
    obtain ⟨f, hf2⟩ := Go.Deep.choose_lt key
    refine ⟨_, len, cap, (List.range len).map f, rfl, by simp, ⟨hl, hm'⟩, .inr ⟨b, o, rfl, ?_⟩⟩
    intro i hi
    simp only [List.length_map, List.length_range] at hi
    simp only [List.getElem_map, List.getElem_range]
    exact hf2 i hi
end
end Go.Proofs.YtjblkmjdepdekaaDoor.Par

/- WalKeeps (P5.2): behind whatever is appended, synced, rewritten, with whatever crashes, whatever of the writings they keep, Open tells all that was synced, and of what was appended behind a beginning: the call returns true for any acts, and the argument reads as before. The table of package crc is tied to the program's text. -/
namespace Go.Proofs.YtjblkmjdepdekaaDoor.walKeeps
open Go.ChangeShapes Go.WideShapes Go.ChangeAt Go.RowKit
set_option linter.unusedVariables false

theorem own : ownKnob Tryd.prog.godebug = none := by kernel_rfl
theorem laidOut : laidOutB Tryd.prog = true := by kernel_rfl

set_option maxRecDepth 100000 in
theorem lifted (os : Os) (started : os.Started) (H : Type) (enc : TypeId × Value → H) :
    ReturnsInHanded {} Tryd.checked os 3 .any (fun w args => (Rows.walKeepsSpec.pre enc Tryd.prog Tryd.f3 [] false w args ∧ laidMetH Tryd.prog Cr.laidL w) ∧ sizedMet enc Tryd.prog Tryd.f3 (OpenSpec.ofChange Rows.walKeepsSpec) false w args) (Rows.walKeepsSpec.post enc Tryd.prog Tryd.f3 false true false false) := by
  refine returnsInHanded_of_change_and (C := Tryd.checked) (X := fun w _ => laidMetH Tryd.prog Cr.laidL w) (fun _ _ _ hh h => h.of_heap hh) own started (by kernel_rfl) Tryd.func3
    (ChangeSpec.witness_shaped (enc := enc) (C := Tryd.checked) (os := os) (X := fun w _ => laidMetH Tryd.prog Cr.laidL w) false (World.laidAll Tryd.prog os Cr.laidL) #[.slice none 0 0] 8 (World.laidAll_os _ _ _) (World.shaped_of_ZipB (by kernel_rfl) (by kernel_rfl)) (by kernel_rfl) (by kernel_rfl) (by kernel_rfl) (Cr.met_laid _ _)) ?_
  intro W base args ds gs before hval0 hW hcnd _ hL _
  have hval : ∀ (j : Nat) t v, Tryd.f3.params[j]? = some t → args[j]? = some v → Value.okWide Tryd.prog W .any base t v := hval0
  have hW' := hW
  obtain ⟨p, q, hA0, hV, rfl, hfz, hnd⟩ := hW
  have hA : DataW.TrodAll enc Tryd.prog W 0 (fun _ => true) true Tryd.f3.params.toList args.toList ds p := hA0
  rw [Tryd.params3] at hA hval
  obtain ⟨v0, vs0, d0, ds0, p0, q0, hargs, rfl, rfl, h0, r0⟩ := trodAll_cons hA
  obtain ⟨rfl, rfl, rfl⟩ := trodAll_nil r0
  obtain rfl : args = #[v0] := by cases args; simp_all
  obtain ⟨rfl, rfl⟩ := trodVars_none hV
  have k0 := h0
  have lt0 : ∀ x ∈ p0, x.block < W.heap.size := by obtain ⟨m, hm⟩ := k0; exact DataW.trod_lt m _ _ _ hm
  obtain ⟨a0, n0, c0, l0, rfl, rfl, hc0, i0⟩ := Par.open_acts5 (hval 0 22 v0 rfl rfl) h0
  clear hA0 hval0
  have hn := Cr.nibs_of hL
  refine (Wl.keeps_walk a0 c0 l0 W i0 hc0 hn).mono fun e W' ⟨he, bel⟩ => ?_
  subst he
  exact ⟨_, rfl, _, _, _, [], _, [], hW', trodAll_mk1 (shut_bool Tryd.underlying4 _), (trodAll_cons_mk (Below.trod laidOut (by kernel_rfl) (of_decide_eq_true (by kernel_rfl)) k0 bel lt0) trodAll_mk0), rfl, bel.frame _, fun h => by cases h⟩

theorem over : Rows.walKeepsRow.holds Tryd.pinned (OpenSpec.ofChange Rows.walKeepsSpec) :=
  OpenClaim.holds_of_wide 3 Tryd.f3 rfl rfl rfl rfl rfl rfl rfl ⟨rfl, rfl, rfl, rfl, rfl⟩ rfl rfl rfl rfl rfl (by kernel_rfl) Tryd.func3 (by kernel_rfl)
    (of_decide_eq_true (by kernel_rfl)) (by unfold Func.isWrapper; first | (rw [if_pos (by decide +kernel)]; kernel_rfl) | (rw [if_neg (by decide +kernel)]; exact ⟨rfl, rfl⟩))
    (fun os started H enc _ => lifted os started H enc)

theorem proved : Rows.WalKeepsCardSaid :=
  Claim7.holds_tied_plain_at .later [] [.data] true _ false over (fun _ h => by cases h) (by kernel_rfl) (fun _ h => by cases h) walKeeps_row_tie rfl ⟨rfl, rfl⟩ (by kernel_rfl) rfl
    (fun f fn hf hfn => by
      obtain rfl : f = 3 := Option.some.inj ((show Tryd.prog.funcNamed "compline/complinelaw05.WalKeeps" = some 3 by kernel_rfl).symm.trans hf) |>.symm
      obtain rfl : fn = Tryd.f3 := (Option.some.inj (Tryd.func3.symm.trans hfn)).symm
      exact ⟨by kernel_rfl, fun j t ht => by
        rw [Tryd.params3] at ht
        have hm : t ∈ [22] := by simpa using Array.mem_of_getElem? ht
        have hall : ([22].all fun u => !Tryd.prog.wantsStandIn u) = true := by kernel_rfl
        exact (show Tryd.prog.wantsStandIn t = false by simpa using List.all_eq_true.1 hall t hm)⟩)
    (by kernel_rfl)
#print axioms proved
end Go.Proofs.YtjblkmjdepdekaaDoor.walKeeps
