/- disks: the walk of DiskAll -/
import Derived.Test.YtoafohckodfjeaaDkA
namespace Go.Proofs.Ytoafohckodfjeaa.Dk
open Go.RowKit Go.Lib Go.Proofs.Ytoafohckodfjeaa.By Go.Proofs.Ytoafohckodfjeaa.Ht

theorem foot_any {bd gs gn k : Nat} {v : Value} (h : Foot bd gs gn v k) {vw : Value} (hv : v = vw ∨ v = .slice none 0 0 := by first | exact .inl rfl | exact .inr rfl) : Foot bd gs gn vw k := by
  rcases hv with rfl | rfl
  · exact h
  · rcases h with h | h | h | h
    · exact .inl h
    · exact .inr (.inl h)
    · exact .inr (.inr (.inl h))
    · simp [Value.ownBlock] at h
/-- 'string(b)' -/
theorem str_of {w : World} {a : Option Addr} {len cap : Nat} {l : List UInt8} (h : IsB w a len cap l) : (convert 30 9 (.slice a len cap)).run Try.prog w = .ok (.string ⟨l.toArray⟩) w := by
  obtain ⟨rfl, ⟨rfl, h0, rfl⟩ | ⟨x, rfl, _, _, hcs⟩⟩ := h
  · obtain rfl : l = [] := List.length_eq_zero_iff.1 h0
    exact run_convert_nil_bytes w 30 9 5 0 Try.underlying30 Try.underlying5 Try.underlying9
  · exact run_convert_bytes_back w 30 9 5 x cap l Try.underlying30 Try.underlying5 Try.underlying9 (fun j hj => hcs j _ (by simp [byteCells, hj]))
theorem isB_len {w : World} {B m cp : Nat} {a : Option Addr} {l : List UInt8} (h : w.ownsRow B 5 1 (.slice a m cp) m (byteCells l)) (hl : l.length = m) : IsB w a m cp l := by
  subst hl
  obtain ⟨x, y, hv, hi⟩ := isB_own h
  simp only [Value.slice.injEq, true_and] at hv
  obtain ⟨rfl, rfl⟩ := hv
  exact hi
theorem sync_self {n : Nat} {G : List UInt8} {W : List Wr} (hG : G.length = 64 * n) (hw : OkW n W) : syncF G G W = G :=
  ext_getS (sync_len hG W G hG hw) hG fun j _ => by
    have h := sync_get hG W G hG hw j
    by_cases hr : ∃ x ∈ W, x.1 = j
    · exact h.1 hr
    · exact h.2 (fun y hy e => hr ⟨y, hy, e⟩)
/-- a disk of eight sectors on which was written, at most so often -/
def St (w : World) (B bd gs gn : Nat) (F : List UInt8) (k : Nat) (wr : World) : Prop := ∃ vw W, IsDk wr B bd gs 8 gn 8 vw 8 F (ov F W) W false ∧ W.length ≤ k ∧ Below w.heap.size w wr
theorem getM_whole {F : List UInt8} (h : F.length = 64 * 8) : getM F 0 8 = F := by unfold getM; rw [Nat.mul_zero, List.drop_zero, List.take_of_length_le (by omega)]
set_option linter.unusedSimpArgs false in
set_option maxRecDepth 20000 in
set_option maxHeartbeats 16000000 in
theorem all_walk (a : Option Addr) (cap : Nat) (L : List Act4) (a2 : Option Addr) (cap2 : Nat) (M : List Act4) (w : World) (h1 : IsActs w a L) (h2 : IsActs w a2 M) (hc1 : L.length ≤ cap ∧ cap ≤ 9223372036854775807) (hc2 : M.length ≤ cap2 ∧ cap2 ≤ 9223372036854775807) :
    Calls Try.prog 5 #[.slice a L.length cap, .slice a2 M.length cap2] w fun e w' => e = .returned (.bool true) ∧ Below w.heap.size w w' := by
  have HLV := fun W => Lib.hid (lives_any W)
  have HI := Lib.hid (And.intro h1 h2)
  clear h1 h2
  go_enter Try.func5, Try.ntmps5
  by_cases g1 : 60 < L.length
  · have e1 : decide ((L.length : Int) > 60) = true := by simp; omega
    clear g1
    go_wp2_with fail
    refine (HLV _).out.mono ?_
    rintro e wa ⟨rfl, hba⟩
    go_wp2_with fail
    refine (HLV _).out.mono ?_
    rintro e wb ⟨rfl, hbb⟩
    go_wp2_with fail
    go_ret
    exact ⟨rfl, hba.trans (hbb.mono hba.size)⟩
  · by_cases g2 : 60 < M.length
    · have e1 : decide ((L.length : Int) > 60) = false := by simp; omega
      have e2 : decide ((M.length : Int) > 60) = true := by simp; omega
      clear g1 g2
      go_wp2_with fail
      refine (HLV _).out.mono ?_
      rintro e wa ⟨rfl, hba⟩
      go_wp2_with fail
      refine (HLV _).out.mono ?_
      rintro e wb ⟨rfl, hbb⟩
      go_wp2_with fail
      go_ret
      exact ⟨rfl, hba.trans (hbb.mono hba.size)⟩
    · have e1 : decide ((L.length : Int) > 60) = false := by simp; omega
      have e2 : decide ((M.length : Int) > 60) = false := by simp; omega
      have hL60 : L.length ≤ 60 := by omega
      have hM60 : M.length ≤ 60 := by omega
      have HG := Lib.hid (And.intro hL60 hM60)
      clear g1 g2 hL60 hM60
      go_wp2_with (go_at_call 6; (with_reducible refine (HLV _).out.mono ?_); rintro e wa ⟨rfl, hba⟩)
      refine (new_any 8 wa (by decide)).mono ?_
      rintro e w1 ⟨bd, gs, gn, rfl, hd1, hb1⟩
      have HD1 := Lib.hid (And.intro hd1 (And.intro (hba.trans (hb1.mono hba.size)) hba.size))
      clear hba hd1 hb1
      go_wp2_with fail
      go_loopw [43] (fun kv wr => ∃ k : Nat, k ≤ L.length ∧ kv = .int .i64 k ∧ St w wa.heap.size bd gs gn (List.replicate (64 * 8) 0) k wr) (fun kv _ => L.length - (intOf kv).toNat)
      case atStart => exact ⟨0, Nat.zero_le _, rfl, ⟨_, [], HD1.out.1, Nat.le_refl _, HD1.out.2.1⟩⟩
      case round =>
        obtain ⟨k, hk, rfl, ⟨vw, W, hdk, hWk, hbw⟩⟩ := hrel
        by_cases hlt : k < L.length
        · obtain ⟨x, hx⟩ : ∃ x, x = L[k] := ⟨_, rfl⟩
          obtain ⟨b, o, rfl, hact⟩ : ∃ b o, a = some ⟨b, o, none⟩ ∧ ActAt wr b o k x := by
            rcases HI.out.1 with h0 | ⟨b, o, e, h⟩
            · rw [h0] at hlt; simp at hlt
            · exact ⟨b, o, e, by rw [hx]; exact (h k hlt).old hbw⟩
          obtain ⟨⟨c0, c1, c2, c3, c4⟩, hib, hat⟩ := hact
          have hal : Below wr.heap.size wr (wr.alloc (.cells #[.int .i64 x.k, .int .i64 x.at', .int .i64 x.n, .slice x.a x.l.length x.cap, .int .u64 (x.keep : Nat)] 32)) := (Below.refl _ _).alloc (Nat.le_refl _) _
          have hdk2 := hdk.old hal
          have hib2 := hib.old hal
          have hlm := hib.le
          unfold maxLen at hlm
          have HK := Lib.hid (And.intro hdk2 (And.intro hib2 (And.intro hWk (And.intro (hbw.trans (hal.mono hbw.size)) hat))))
          have hkc : (k : Int) < (L.length : Int) := by omega
          clear hdk hib hWk hbw hal hdk2 hib2 hat hx
          by_cases hl : x.l.length ≤ 64
          · have hlI : (x.l.length : Int) ≤ 64 := by omega
            go_wp2_with fail
            refine (write_any HK.out.1 x.at' HK.out.2.2.2.2 x.a x.l.length x.cap x.l hl HK.out.2.1 (by have := HK.out.2.2.1; have := HG.out.1; omega)).mono ?_
            rintro e w' ⟨e0, vw', W', rfl, hd', hor, _, hf'⟩
            have hW' : W'.length ≤ k + 1 := by
              have := HK.out.2.2.1
              rcases hor with ⟨_, rfl⟩ | ⟨_, _, _, _, rfl⟩
              · omega
              · simp; omega
            have HR := Lib.hid (And.intro hd' (And.intro hW' (HK.out.2.2.2.1.trans ((HK.out.1.below hf').mono HD1.out.2.2))))
            clear hd' hor hf' hW'
            go_wp2_with fail
            go_roundw
            case rel => exact ⟨k + 1, by omega, by go_num, ⟨vw', W', HR.out.1, HR.out.2.1, HR.out.2.2⟩⟩
            case measure => simp [intOf]; omega
          · have hlI : ¬ (x.l.length : Int) ≤ 64 := by omega
            go_wp2_with fail
            go_roundw
            case rel => exact ⟨k + 1, by omega, by go_num, ⟨vw, W, HK.out.1, by have := HK.out.2.2.1; omega, HK.out.2.2.2.1⟩⟩
            case measure => simp [intOf]; omega
        · obtain rfl : k = L.length := by omega
          have hW60 : W.length ≤ 1000000 := by have := HG.out.1; omega
          have HQ := Lib.hid (And.intro hdk (And.intro hW60 hbw))
          clear hdk hWk hbw hW60 hlt
          go_wp2_with fail
          refine (sync_ok HQ.out.1 HQ.out.2.1).mono ?_
          rintro e w2 ⟨rfl, hd2, hf2⟩
          rw [sync_ov HQ.out.1.lenF HQ.out.1.okW] at hd2
          obtain ⟨S1, hS1⟩ : ∃ S, S = ov (List.replicate (64 * 8) 0) W := ⟨_, rfl⟩
          rw [← hS1] at hd2
          have HD2 := Lib.hid (And.intro hd2 (HQ.out.2.2.trans ((HQ.out.1.below hf2).mono HD1.out.2.2)))
          clear hd2 hf2 hS1
          go_wp2_with fail
          refine (read_ok HD2.out.1 0 8 (by decide) (by decide)).mono ?_
          rintro e w3 ⟨ao, cp, rfl, _, ho3, hb3⟩
          have hg0 : getM S1 0 8 = S1 := getM_whole HD2.out.1.lenF
          rw [hg0] at ho3
          have HS2 := Lib.hid (And.intro (show IsDk w3 wa.heap.size bd gs 8 gn 8 (.slice none 0 0) 8 S1 (ov S1 []) [] false from HD2.out.1.old hb3) (And.intro (HD2.out.2.trans (hb3.mono HD2.out.2.size)) (show w3.ownsRow w.heap.size 5 1 (.slice ao 512 cp) 512 (byteCells S1) from Joins.ownsRow_le ho3 HD2.out.2.size)))
          clear ho3 hb3 hg0
          go_wp2_with fail
          go_loopw [67] (fun kv wr => ∃ k : Nat, k ≤ M.length ∧ kv = .int .i64 k ∧ St w wa.heap.size bd gs gn S1 k wr ∧ wr.ownsRow w.heap.size 5 1 (.slice ao 512 cp) 512 (byteCells S1)) (fun kv _ => M.length - (intOf kv).toNat)
          case atStart => exact ⟨0, Nat.zero_le _, rfl, ⟨_, [], HS2.out.1, Nat.le_refl _, HS2.out.2.1⟩, HS2.out.2.2⟩
          case round =>
            obtain ⟨k, hk, rfl, ⟨vw, W, hdk, hWk, hbw⟩, ho⟩ := hrel
            by_cases hlt : k < M.length
            · obtain ⟨x, hx⟩ : ∃ x, x = M[k] := ⟨_, rfl⟩
              obtain ⟨b, o, rfl, hact⟩ : ∃ b o, a2 = some ⟨b, o, none⟩ ∧ ActAt wr b o k x := by
                rcases HI.out.2 with h0 | ⟨b, o, e, h⟩
                · rw [h0] at hlt; simp at hlt
                · exact ⟨b, o, e, by rw [hx]; exact (h k hlt).old hbw⟩
              obtain ⟨⟨c0, c1, c2, c3, c4⟩, hib, hat⟩ := hact
              have hal : Below wr.heap.size wr (wr.alloc (.cells #[.int .i64 x.k, .int .i64 x.at', .int .i64 x.n, .slice x.a x.l.length x.cap, .int .u64 (x.keep : Nat)] 32)) := (Below.refl _ _).alloc (Nat.le_refl _) _
              have hdk2 := hdk.old hal
              have hib2 := hib.old hal
              have hlm := hib.le
              unfold maxLen at hlm
              have HK := Lib.hid (And.intro hdk2 (And.intro hib2 (And.intro hWk (And.intro (hbw.trans (hal.mono hbw.size)) hat))))
              have HO := Lib.hid (own_below ho hal (Nat.le_refl _))
              have hkc : (k : Int) < (M.length : Int) := by omega
              clear hdk hib hWk hbw hal hdk2 hib2 hat hx ho
              by_cases hl : x.l.length ≤ 64
              · have hlI : (x.l.length : Int) ≤ 64 := by omega
                go_wp2_with fail
                refine (write_any HK.out.1 x.at' HK.out.2.2.2.2 x.a x.l.length x.cap x.l hl HK.out.2.1 (by have := HK.out.2.2.1; have := HG.out.2; omega)).mono ?_
                rintro e w' ⟨e0, vw', W', rfl, hd', hor, _, hf'⟩
                have hW' : W'.length ≤ k + 1 := by
                  have := HK.out.2.2.1
                  rcases hor with ⟨_, rfl⟩ | ⟨_, _, _, _, rfl⟩
                  · omega
                  · simp; omega
                have HR := Lib.hid (And.intro hd' (And.intro hW' (HK.out.2.2.2.1.trans ((HK.out.1.below hf').mono HD1.out.2.2))))
                have HO2 := Lib.hid (HK.out.1.bytes hf' HO.out)
                clear hd' hor hf' hW'
                go_wp2_with fail
                go_roundw
                case rel => exact ⟨k + 1, by omega, by go_num, ⟨vw', W', HR.out.1, HR.out.2.1, HR.out.2.2⟩, HO2.out⟩
                case measure => simp [intOf]; omega
              · have hlI : ¬ (x.l.length : Int) ≤ 64 := by omega
                go_wp2_with fail
                go_roundw
                case rel => exact ⟨k + 1, by omega, by go_num, ⟨vw, W, HK.out.1, by have := HK.out.2.2.1; omega, HK.out.2.2.2.1⟩, HO.out⟩
                case measure => simp [intOf]; omega
            · obtain rfl : k = M.length := by omega
              have hW60 : W.length ≤ 1000000 := by have := HG.out.2; omega
              have HQ := Lib.hid (And.intro hdk (And.intro hW60 (And.intro hbw ho)))
              clear hdk hWk hbw hW60 hlt ho
              go_wp2_with fail
              refine (read_ok HQ.out.1 0 8 (by decide) (by decide)).mono ?_
              rintro e r1 ⟨an, cn1, rfl, _, ho3, hb3⟩
              have hg0 : getM (ov S1 W) 0 8 = ov S1 W := getM_whole HQ.out.1.lenG
              rw [hg0] at ho3
              have hd1 := HQ.out.1.old hb3
              have hoo := own_below HQ.out.2.2.2 hb3 (Nat.le_refl _)
              have hww := HQ.out.2.2.1.trans (hb3.mono HQ.out.2.2.1.size)
              have H1 := Lib.hid (And.intro hd1 (And.intro (Joins.ownsRow_le ho3 HQ.out.2.2.1.size) (And.intro hoo hww)))
              clear ho3 hb3 hg0 hd1 hoo hww
              go_wp2_with fail
              refine (copy_any H1.out.1 HQ.out.2.1).mono ?_
              rintro e r2 ⟨bx, gx, cx, nx, ex, vx, rfl, hdx, hbx⟩
              have H2 := Lib.hid (And.intro (H1.out.1.old hbx) (And.intro hdx (And.intro hdx.foot_lt hbx)))
              clear hdx hbx
              go_wp2_with fail
              refine (copy_any H2.out.1 HQ.out.2.1).mono ?_
              rintro e r3 ⟨by', gy, cy, ny, ey, vy, rfl, hdy, hby⟩
              have H3 := Lib.hid (And.intro (H2.out.1.old hby) (And.intro hdy (And.intro hdy.foot_lt hby)))
              clear hdy hby
              go_wp2_with fail
              refine (copy_any H3.out.1 HQ.out.2.1).mono ?_
              rintro e r4 ⟨bz, gz, cz, nz, ez, vz, rfl, hdz, hbz⟩
              have hb42 : Below r2.heap.size r2 r4 := H3.out.2.2.2.trans (hbz.mono H3.out.2.2.2.size)
              have hb41 : Below r1.heap.size r1 r4 := H2.out.2.2.2.trans (hb42.mono H2.out.2.2.2.size)
              have H4 := Lib.hid (And.intro (H2.out.2.1.old hb42) (And.intro (H3.out.2.1.old hbz) (And.intro hdz (And.intro (own_below H1.out.2.2.1 hb41 (Nat.le_refl _)) (And.intro (own_below H1.out.2.1 hb41 (Nat.le_refl _)) (H1.out.2.2.2.trans (hb41.mono H1.out.2.2.2.size)))))))
              have LX := Lib.hid H2.out.2.2.1
              have LY := Lib.hid H3.out.2.2.1
              have hzy : r2.heap.size ≤ r3.heap.size := H3.out.2.2.2.size
              have HZY := Lib.hid hzy
              clear hdz hbz hb42 hb41 hzy
              go_wp2_with fail
              refine (crash_any H4.out.1 asks_all (fun _ _ => trivial) HQ.out.2.1).mono ?_
              rintro e r5 ⟨rfl, hn, hf⟩
              have H5 := Lib.hid (And.intro hn (And.intro (H4.out.2.1.fr hf (fun k hk h1 => by have a := H4.out.2.1.foot_ge k hk; have b := LX.out k (foot_any h1 (vw := vx)); have c := HZY.out; omega)) (And.intro (H4.out.2.2.1.fr hf (fun k hk h1 => by have a := H4.out.2.2.1.foot_ge k hk; have b := LX.out k (foot_any h1 (vw := vx)); have c := HZY.out; omega)) (And.intro (H4.out.1.bytes hf H4.out.2.2.2.1) (And.intro (H4.out.1.bytes hf H4.out.2.2.2.2.1) (H4.out.2.2.2.2.2.trans ((H4.out.1.below hf).mono (by have q1 := H1.out.2.2.2.size; have q2 := H2.out.2.2.2.size; have q3 := HZY.out; omega))))))))
              clear hn hf
              go_wp2_with fail
              refine (up_any H5.out.1).mono ?_
              rintro e r6 ⟨rfl, hn, hf, _⟩
              have H6 := Lib.hid (And.intro hn (And.intro (H5.out.2.1.fr hf (fun k hk h1 => by have a := H5.out.2.1.foot_ge k hk; have b := LX.out k (foot_any h1 (vw := vx)); have c := HZY.out; omega)) (And.intro (H5.out.2.2.1.fr hf (fun k hk h1 => by have a := H5.out.2.2.1.foot_ge k hk; have b := LX.out k (foot_any h1 (vw := vx)); have c := HZY.out; omega)) (And.intro (H5.out.1.bytes hf H5.out.2.2.2.1) (And.intro (H5.out.1.bytes hf H5.out.2.2.2.2.1) (H5.out.2.2.2.2.2.trans ((H5.out.1.below hf).mono (by have q1 := H1.out.2.2.2.size; have q2 := H2.out.2.2.2.size; have q3 := HZY.out; omega))))))))
              clear hn hf
              go_wp2_with fail
              refine (crash_any H6.out.2.1 asks_nil (fun _ _ => trivial) HQ.out.2.1).mono ?_
              rintro e r7 ⟨rfl, hn, hf⟩
              have H7 := Lib.hid (And.intro (H6.out.1.fr hf (fun k hk h1 => by have a := H6.out.2.1.foot_ge k h1; have b := LX.out k (foot_any hk (vw := vx)); have c := HZY.out; omega)) (And.intro hn (And.intro (H6.out.2.2.1.fr hf (fun k hk h1 => by have a := H6.out.2.2.1.foot_ge k hk; have b := LY.out k (foot_any h1 (vw := vy)); have c := HZY.out; omega)) (And.intro (H6.out.2.1.bytes hf H6.out.2.2.2.1) (And.intro (H6.out.2.1.bytes hf H6.out.2.2.2.2.1) (H6.out.2.2.2.2.2.trans ((H6.out.2.1.below hf).mono (by have q1 := H1.out.2.2.2.size; have q2 := H2.out.2.2.2.size; have q3 := HZY.out; omega))))))))
              clear hn hf
              go_wp2_with fail
              refine (up_any H7.out.2.1).mono ?_
              rintro e r8 ⟨rfl, hn, hf, _⟩
              have H8 := Lib.hid (And.intro (H7.out.1.fr hf (fun k hk h1 => by have a := H7.out.2.1.foot_ge k h1; have b := LX.out k (foot_any hk (vw := vx)); have c := HZY.out; omega)) (And.intro hn (And.intro (H7.out.2.2.1.fr hf (fun k hk h1 => by have a := H7.out.2.2.1.foot_ge k hk; have b := LY.out k (foot_any h1 (vw := vy)); have c := HZY.out; omega)) (And.intro (H7.out.2.1.bytes hf H7.out.2.2.2.1) (And.intro (H7.out.2.1.bytes hf H7.out.2.2.2.2.1) (H7.out.2.2.2.2.2.trans ((H7.out.2.1.below hf).mono (by have q1 := H1.out.2.2.2.size; have q2 := H2.out.2.2.2.size; have q3 := HZY.out; omega))))))))
              clear hn hf
              go_wp2_with fail
              refine (sync_ok H8.out.2.2.1 HQ.out.2.1).mono ?_
              rintro e r9 ⟨rfl, hn, hf⟩
              have H9 := Lib.hid (And.intro (H8.out.1.fr hf (fun k hk h1 => by have a := H8.out.2.2.1.foot_ge k h1; have b := LX.out k (foot_any hk (vw := vx)); have c := HZY.out; omega)) (And.intro (H8.out.2.1.fr hf (fun k hk h1 => by have a := H8.out.2.2.1.foot_ge k h1; have b := LY.out k (foot_any hk (vw := vy)); have c := HZY.out; omega)) (And.intro hn (And.intro (H8.out.2.2.1.bytes hf H8.out.2.2.2.1) (And.intro (H8.out.2.2.1.bytes hf H8.out.2.2.2.2.1) (H8.out.2.2.2.2.2.trans ((H8.out.2.2.1.below hf).mono (by have q1 := H1.out.2.2.2.size; have q2 := H2.out.2.2.2.size; have q3 := HZY.out; omega))))))))
              clear hn hf
              go_wp2_with fail
              refine (crash_any H9.out.2.2.1 asks_nil (fun _ _ => trivial) (by simp)).mono ?_
              rintro e r10 ⟨rfl, hn, hf⟩
              have H10 := Lib.hid (And.intro (H9.out.1.fr hf (fun k hk h1 => by have a := H9.out.2.2.1.foot_ge k h1; have b := LX.out k (foot_any hk (vw := vx)); have c := HZY.out; omega)) (And.intro (H9.out.2.1.fr hf (fun k hk h1 => by have a := H9.out.2.2.1.foot_ge k h1; have b := LY.out k (foot_any hk (vw := vy)); have c := HZY.out; omega)) (And.intro hn (And.intro (H9.out.2.2.1.bytes hf H9.out.2.2.2.1) (And.intro (H9.out.2.2.1.bytes hf H9.out.2.2.2.2.1) (H9.out.2.2.2.2.2.trans ((H9.out.2.2.1.below hf).mono (by have q1 := H1.out.2.2.2.size; have q2 := H2.out.2.2.2.size; have q3 := HZY.out; omega))))))))
              clear hn hf
              go_wp2_with fail
              refine (up_any H10.out.2.2.1).mono ?_
              rintro e r11 ⟨rfl, hn, hf, _⟩
              have H11 := Lib.hid (And.intro (H10.out.1.fr hf (fun k hk h1 => by have a := H10.out.2.2.1.foot_ge k h1; have b := LX.out k (foot_any hk (vw := vx)); have c := HZY.out; omega)) (And.intro (H10.out.2.1.fr hf (fun k hk h1 => by have a := H10.out.2.2.1.foot_ge k h1; have b := LY.out k (foot_any hk (vw := vy)); have c := HZY.out; omega)) (And.intro hn (And.intro (H10.out.2.2.1.bytes hf H10.out.2.2.2.1) (And.intro (H10.out.2.2.1.bytes hf H10.out.2.2.2.2.1) (H10.out.2.2.2.2.2.trans ((H10.out.2.2.1.below hf).mono (by have q1 := H1.out.2.2.2.size; have q2 := H2.out.2.2.2.size; have q3 := HZY.out; omega))))))))
              clear hn hf
              go_wp2_with fail
              have hT1 : syncF (cF (fun _ => true) W S1 W.length) (ov S1 W) W = ov S1 W := by
                rw [cF_all W S1 _ (Nat.le_refl _), List.take_length]; exact sync_self HQ.out.1.lenG HQ.out.1.okW
              have hT2 : syncF (cF (fun _ => false) W S1 W.length) (ov S1 W) W = S1 := by rw [cF_none]; exact sync_back HQ.out.1.lenF HQ.out.1.okW
              have hgx := getM_whole H11.out.1.lenG
              have hgy := getM_whole H11.out.2.1.lenG
              have hgz := getM_whole H11.out.2.2.1.lenG
              have HTT := Lib.hid (And.intro (hgx.trans hT1) (And.intro (hgy.trans hT2) hgz))
              clear hT1 hT2 hgx hgy hgz
              refine (read_ok H11.out.1 0 8 (by decide) (by decide)).mono ?_
              rintro e s1 ⟨a1, p1, rfl, hi1, o1, k1⟩
              rw [HTT.out.1] at hi1
              have HR1 := Lib.hid (And.intro hi1 k1)
              clear hi1 o1 k1
              go_wp2_with fail
              refine (read_ok (H11.out.2.1.old HR1.out.2) 0 8 (by decide) (by decide)).mono ?_
              rintro e s2 ⟨a2', p2, rfl, hi2, o2, k2⟩
              rw [HTT.out.2.1] at hi2
              have HR2 := Lib.hid (And.intro hi2 (And.intro k2 (HR1.out.2.trans (k2.mono HR1.out.2.size))))
              clear hi2 o2 k2
              go_wp2_with fail
              refine (read_ok (H11.out.2.2.1.old HR2.out.2.2) 0 8 (by decide) (by decide)).mono ?_
              rintro e s3 ⟨a3, p3, rfl, hi3, o3, k3⟩
              rw [HTT.out.2.2] at hi3
              have hi3' : IsB s3 a3 (64 * 8) p3 (ov S1 W) := hi3
              have k13 : Below r11.heap.size r11 s3 := HR2.out.2.2.trans (k3.mono HR2.out.2.2.size)
              have ia := (HR1.out.1.old HR2.out.2.1).old k3
              have ib := HR2.out.1.old k3
              have io : IsB s3 ao 512 cp S1 := isB_len (own_below H11.out.2.2.2.1 k13 (Nat.le_refl _)) HD2.out.1.lenG
              have ino : IsB s3 an (64 * 8) cn1 (ov S1 W) := isB_len (own_below H11.out.2.2.2.2.1 k13 (Nat.le_refl _)) HQ.out.1.lenG
              have hbf : Below w.heap.size w s3 := H11.out.2.2.2.2.2.trans (k13.mono H11.out.2.2.2.2.2.size)
              obtain ⟨tT, htT⟩ : ∃ t, t = (⟨(ov S1 W).toArray⟩ : ByteArray) := ⟨_, rfl⟩
              obtain ⟨tS, htS⟩ : ∃ t, t = (⟨S1.toArray⟩ : ByteArray) := ⟨_, rfl⟩
              have v1 := str_of ia
              have v2 := str_of ib
              have v3 := str_of hi3'
              have v4 := str_of io
              have v5 := str_of ino
              rw [← htT] at v1 v3 v5
              rw [← htS] at v2 v4
              have HF := Lib.hid hbf
              clear hi3 hi3' k13 ia ib io ino hbf htT htS o3 k3
              go_wp2_with fail
              go_ret
              exact ⟨rfl, HF.out⟩
theorem all_card (a : Option Addr) (len cap : Nat) (L : List Act4) (a2 : Option Addr) (len2 cap2 : Nat) (M : List Act4) (w : World) (h1 : L.length = len ∧ len ≤ cap ∧ cap ≤ 9223372036854775807 ∧ IsActs w a L) (h2 : M.length = len2 ∧ len2 ≤ cap2 ∧ cap2 ≤ 9223372036854775807 ∧ IsActs w a2 M) :
    Calls Try.prog 5 #[.slice a len cap, .slice a2 len2 cap2] w fun e w' => e = .returned (.bool true) ∧ Below w.heap.size w w' := by
  obtain ⟨rfl, p1, p2, p3⟩ := h1
  obtain ⟨rfl, q1, q2, q3⟩ := h2
  exact all_walk a cap L a2 cap2 M w p3 q3 ⟨p1, p2⟩ ⟨q1, q2⟩
end Go.Proofs.Ytoafohckodfjeaa.Dk
