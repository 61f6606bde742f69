/- the walk of OctetWrites -/
import Derived.Test.YtfbohbcokggmpaaItems
namespace Go.Proofs.Ytfbohbcokggmpaa.Oc
open Go.RowKit Go.Lib

/-- the block of a copied item -/
theorem item_cells {w : World} {b : Nat} {v0 v1 v2 : Value} {t : TypeId} (h : w.heap[b]? = some (.cells #[v0, v1, v2] t (0, 0))) :
    w.cell? ⟨b, 0, none⟩ = some v0 ∧ w.cell? ⟨b, 1, none⟩ = some v1 ∧ w.cell? ⟨b, 2, none⟩ = some v2 := by simp [World.cell?, h]
theorem lt_of_cell {w : World} {b o : Nat} {v : Value} (h : w.cell? ⟨b, o, none⟩ = some v) : b < w.heap.size := World.block_lt_of_cell? w _ h
theorem Rd.lt {w : World} {rb : Nat} {l : List UInt8} {e : Int} (h : Rd w rb l e) : rb < w.heap.size := by
  obtain ⟨_, _, h1, _⟩ := h; exact lt_of_block h1
theorem item_kept {B pb : Nat} {w w' : World} (hf : Fr B pb w w') {b : Nat} {C : Array Value} {t : TypeId} (h : w.heap[b]? = some (.cells C t (0, 0))) (ht : t ≠ 5) (hb : b ≠ pb) : w'.heap[b]? = some (.cells C t (0, 0)) :=
  (hf.more b (lt_of_block h) hb (fun cur e => by rw [h] at e; simp at e; exact ht e.2)).trans h

set_option maxRecDepth 100000 in
set_option maxHeartbeats 4000000 in
theorem writes_walk (a : Option Addr) (len cap : Nat) (l : List (Nat × Nat × ByteArray)) (w : World) (hl : l.length = len) (hm : len ≤ maxLen) (hi : IsIt w a l) :
    Calls Try.prog 3 #[.slice a len cap] w fun e w' => e = .returned (.bool true) ∧ Below w.heap.size w w' := by
  unfold maxLen at hm
  by_cases hbig : 40 < len
  · go_enter Try.func3, Try.ntmps3
    go_wp2_with (first | (go_at_call 6; refine (lives_any _).mono ?_; rintro e wl ⟨rfl, hbl⟩))
    go_ret
    exact ⟨rfl, Below.trans (by assumption) ((by assumption : Below _ _ _).mono (by have := (by assumption : Below w.heap.size w _).size; exact this))⟩
  · go_enter Try.func3, Try.ntmps3
    go_wp2_with (first | (go_at_call 6; refine (lives_any _).mono ?_; rintro e wl ⟨rfl, hbl⟩))
    have hs := hbl.size
    have hw0 : Wr (wl.heap.size + 1) (wl.alloc (.cells #[.slice none 0 0] 27)) wl.heap.size [] := wr_new wl _
    have hb0 : Below w.heap.size w (wl.alloc (.cells #[.slice none 0 0] 27)) := hbl.alloc hs _
    have H0 := Lib.hid (And.intro hw0 (And.intro hb0 hi))
    clear hw0 hb0 hi hbl
    go_loopw [4, 23] (fun want i wr => ∃ (k : Nat) (A : List UInt8), k ≤ len ∧ i = .int .i64 k ∧ A = outB (l.take k) ∧ want = .string ⟨A.toArray⟩ ∧ Wr (wl.heap.size + 1) wr wl.heap.size A ∧ Below w.heap.size w wr ∧ wl.heap.size + 1 ≤ wr.heap.size ∧ (∀ x ∈ l.take k, WfI x ∧ x.2.2.size ≤ 200)) (fun _ i _ => len - (intOf i).toNat)
    case atStart => exact ⟨0, _, by omega, rfl, rfl, rfl, H0.out.1, H0.out.2.1, by simp, by simp⟩
    case round =>
      obtain ⟨k, A, hk, rfl, hA, rfl, hw, hb, hsz, hall⟩ := hrel
      have hbs := hb.size
      have hAl : A.length ≤ 8400 := by
        have h1 := outB_len _ hall
        rw [← hA] at h1
        have h2 : (l.take k).length ≤ k := List.length_take_le _ _
        omega
      by_cases hlt : k < len
      · obtain ⟨x, hx⟩ : ∃ x, l[k]'(by omega) = x := ⟨_, rfl⟩
        obtain ⟨K, X, S⟩ := x
        have hit := H0.out.2.2.old hb
        obtain ⟨hwf, rfl | ⟨bb, oo, rfl, hcs⟩⟩ := hit
        · simp at hl; omega
        have hc := hcs k (by omega)
        have hwk := hwf _ (List.getElem_mem (show k < l.length by omega))
        rw [hx] at hc hwk
        simp only at hc
        obtain ⟨c0, c1, c2⟩ := hc
        obtain ⟨hK, hX, hS⟩ := id hwk
        simp only at hK hX hS
        have HX := Lib.hid hX
        have hnew : S.size ≤ 200 → ∀ y ∈ l.take (k + 1), WfI y ∧ y.2.2.size ≤ 200 := fun hS2 y hy => by
          rw [List.take_succ_eq_append_getElem (by omega), List.mem_append] at hy
          rcases hy with hy | hy
          · exact hall y hy
          · simp only [List.mem_singleton] at hy; rw [hy, hx]; exact ⟨hwk, hS2⟩
        have hout : outB (l.take (k + 1)) = A ++ encI (K, X, S) := by rw [outB_take (by omega), hA, hx]
        have HA := Lib.hid (And.intro hnew hout)
        have hw1 : Wr (wl.heap.size + 1) (wr.alloc (.cells #[.int .u8 K, .int .u64 X, .string S] 30)) wl.heap.size A := hw.below ((Below.refl wr.heap.size wr).alloc (Nat.le_refl _) _) (by omega) (fun _ h => h)
        have hx1 : (wr.alloc (.cells #[.int .u8 K, .int .u64 X, .string S] 30)).heap[wr.heap.size]? = some (.cells #[.int .u8 K, .int .u64 X, .string S] 30 (0, 0)) := heap_alloc_new wr _
        have hb1 : Below w.heap.size w (wr.alloc (.cells #[.int .u8 K, .int .u64 X, .string S] 30)) := hb.alloc hbs _
        have hs1 : (wr.alloc (.cells #[.int .u8 K, .int .u64 X, .string S] 30)).heap.size = wr.heap.size + 1 := by simp
        have HW := Lib.hid (And.intro hw1 (And.intro hx1 (And.intro hb1 hs1)))
        unfold maxLen at hS
        clear hwf hcs hx hX hw hb hall hnew hout hA hwk hw1 hx1 hb1 hs1 H0
        by_cases hlong : 200 < S.size
        · go_wp2_with fail
          go_ret
          exact ⟨rfl, HW.out.2.2.1⟩
        · have hS2 : S.size ≤ 200 := by omega
          clear hlong hS
          by_cases hK0 : K % 4 = 0
          · have hE : encI (K, X, S) = uvarint X := by simp [encI, hK0]
            have hT : ((K : Int) % 4 == 0) = true := by simp; omega
            have HE := Lib.hid hE
            clear hE hK0
            go_wp2_with fail
            obtain ⟨W1, hW1⟩ : ∃ W1, W1 = wr.alloc (.cells #[.int .u8 K, .int .u64 X, .string S] 30) := ⟨_, rfl⟩
            rw [← hW1] at HW ⊢
            clear hW1
            obtain ⟨hw1, hx1, hb1, hs1⟩ := HW.out
            refine (num_any (wl.heap.size + 1) wl.heap.size X A W1 HX.out (by omega) (by omega) hw1 (by omega)).mono ?_
            rintro e W2 ⟨rfl, hw2, hf2⟩
            have hx2 := item_kept hf2 hx1 (by decide) (by omega)
            obtain ⟨d0, d1, d2⟩ := item_cells hx2
            have hb2 := hb1.trans (hf2.below (N := w.heap.size) (by omega) (by omega))
            have hs2 := hf2.size
            have H2 := Lib.hid (And.intro hw2 hb2)
            have hr := ref_num' X W2 HX.out
            have hu := uvarint_length64 HX.out
            have HR := Lib.hid hr
            clear hw1 hx1 hb1 hw2 hf2 hx2 hb2 hr
            go_wp2_with fail
            refine HR.out.mono ?_
            rintro e W3 ⟨rfl, hb3⟩
            have hs3 := hb3.size
            have H3 := Lib.hid (And.intro (H2.out.1.below hb3 (by omega) (fun _ h => h)) (H2.out.2.trans (hb3.mono (by omega))))
            have e1 := bytes_app A (uvarint X)
            have e2 := bytes_size A
            have e3 := bytes_size (uvarint X)
            clear hb3 HR H2
            go_wp2_with fail
            go_roundw
            case rel => exact ⟨k + 1, _, by omega, by go_num, rfl, by rw [HA.out.2, HE.out], by rw [HA.out.2, HE.out]; exact H3.out.1, H3.out.2, by omega, HA.out.1 hS2⟩
            case measure => simp [intOf]; omega
          · have hT0 : ((K : Int) % 4 == 0) = false := by simp; omega
            by_cases hK1 : K % 4 = 1
            · have hE : encI (K, X, S) = uvarint (zigzag (wrap64 X)) := by simp [encI, hK1]
              have hT : ((K : Int) % 4 == 1) = true := by simp; omega
              have hwf := wrap64_wf (X : Int)
              have HF := Lib.hid hwf
              have HE := Lib.hid hE
              clear hE hK0 hK1 hwf
              go_wp2_with fail
              obtain ⟨W1, hW1⟩ : ∃ W1, W1 = wr.alloc (.cells #[.int .u8 K, .int .u64 X, .string S] 30) := ⟨_, rfl⟩
              rw [← hW1] at HW ⊢
              clear hW1
              obtain ⟨hw1, hx1, hb1, hs1⟩ := HW.out
              refine (int_any (wl.heap.size + 1) wl.heap.size (wrap64 X) A W1 HF.out (by omega) (by omega) hw1 (by omega)).mono ?_
              rintro e W2 ⟨rfl, hw2, hf2⟩
              have hx2 := item_kept hf2 hx1 (by decide) (by omega)
              obtain ⟨d0, d1, d2⟩ := item_cells hx2
              have hb2 := hb1.trans (hf2.below (N := w.heap.size) (by omega) (by omega))
              have hs2 := hf2.size
              have H2 := Lib.hid (And.intro hw2 hb2)
              have hr := ref_int (wrap64 X) W2 HF.out
              have hu := uvarint_length64 (zig_u64 HF.out)
              have HR := Lib.hid hr
              clear hw1 hx1 hb1 hw2 hf2 hx2 hb2 hr
              go_wp2_with fail
              refine HR.out.mono ?_
              rintro e W3 ⟨rfl, hb3⟩
              have hs3 := hb3.size
              have H3 := Lib.hid (And.intro (H2.out.1.below hb3 (by omega) (fun _ h => h)) (H2.out.2.trans (hb3.mono (by omega))))
              have e1 := bytes_app A (uvarint (zigzag (wrap64 X)))
              have e2 := bytes_size A
              have e3 := bytes_size (uvarint (zigzag (wrap64 X)))
              clear hb3 HR H2
              go_wp2_with fail
              go_roundw
              case rel => exact ⟨k + 1, _, by omega, by go_num, rfl, by rw [HA.out.2, HE.out], by rw [HA.out.2, HE.out]; exact H3.out.1, H3.out.2, by omega, HA.out.1 hS2⟩
              case measure => simp [intOf]; omega
            · have hT1 : ((K : Int) % 4 == 1) = false := by simp; omega
              by_cases hK2 : K % 4 = 2
              · have hT : ((K : Int) % 4 == 2) = true := by simp; omega
                by_cases hP : X % 2 = 1
                · have hE : encI (K, X, S) = [1] := by simp [encI, hK2, hP]
                  have hA1 : bits .and .u64 (X : Int) 1 = 1 := by rw [u64_and1 _ (by omega) (by have := HX.out; unfold U64 at this; omega)]; omega
                  have HE := Lib.hid hE
                  clear hE hK0 hK1 hK2 hP
                  go_wp2_with fail
                  obtain ⟨W1, hW1⟩ : ∃ W1, W1 = wr.alloc (.cells #[.int .u8 K, .int .u64 X, .string S] 30) := ⟨_, rfl⟩
                  rw [← hW1] at HW ⊢
                  clear hW1
                  obtain ⟨hw1, hx1, hb1, hs1⟩ := HW.out
                  refine (wflag_any (wl.heap.size + 1) wl.heap.size true A W1 (by omega) (by omega) hw1 (by omega)).mono ?_
                  rintro e W2 ⟨rfl, hw2, hf2⟩
                  have hx2 := item_kept hf2 hx1 (by decide) (by omega)
                  obtain ⟨d0, d1, d2⟩ := item_cells hx2
                  have hb2 := hb1.trans (hf2.below (N := w.heap.size) (by omega) (by omega))
                  have hs2 := hf2.size
                  have H2 := Lib.hid (And.intro hw2 hb2)
                  have hr : Calls Try.prog 8 #[.int .u64 1] W2 fun e w' => e = .returned (.string ⟨([1] : List UInt8).toArray⟩) ∧ Below W2.heap.size W2 w' := by
                    have := ref_num' 1 W2 (by unfold U64; decide)
                    rwa [uvarint_small (by decide)] at this
                  have HR := Lib.hid hr
                  clear hw1 hx1 hb1 hw2 hf2 hx2 hb2 hr
                  go_wp2_with fail
                  refine HR.out.mono ?_
                  rintro e W3 ⟨rfl, hb3⟩
                  have hs3 := hb3.size
                  have H3 := Lib.hid (And.intro (H2.out.1.below hb3 (by omega) (fun _ h => h)) (H2.out.2.trans (hb3.mono (by omega))))
                  have e1 := bytes_app A ([1])
                  have e2 := bytes_size A
                  have e3 := bytes_size ([1])
                  clear hb3 HR H2
                  go_wp2_with fail
                  go_roundw
                  case rel => exact ⟨k + 1, _, by omega, by go_num, rfl, by rw [HA.out.2, HE.out], by rw [HA.out.2, HE.out]; exact H3.out.1, H3.out.2, by omega, HA.out.1 hS2⟩
                  case measure => simp [intOf]; omega
                · have hE : encI (K, X, S) = [0] := by simp [encI, hK2, hP]
                  have hA1 : bits .and .u64 (X : Int) 1 = 0 := by rw [u64_and1 _ (by omega) (by have := HX.out; unfold U64 at this; omega)]; omega
                  have HE := Lib.hid hE
                  clear hE hK0 hK1 hK2 hP
                  go_wp2_with fail
                  obtain ⟨W1, hW1⟩ : ∃ W1, W1 = wr.alloc (.cells #[.int .u8 K, .int .u64 X, .string S] 30) := ⟨_, rfl⟩
                  rw [← hW1] at HW ⊢
                  clear hW1
                  obtain ⟨hw1, hx1, hb1, hs1⟩ := HW.out
                  refine (wflag_any (wl.heap.size + 1) wl.heap.size false A W1 (by omega) (by omega) hw1 (by omega)).mono ?_
                  rintro e W2 ⟨rfl, hw2, hf2⟩
                  have hx2 := item_kept hf2 hx1 (by decide) (by omega)
                  obtain ⟨d0, d1, d2⟩ := item_cells hx2
                  have hb2 := hb1.trans (hf2.below (N := w.heap.size) (by omega) (by omega))
                  have hs2 := hf2.size
                  have H2 := Lib.hid (And.intro hw2 hb2)
                  have hr : Calls Try.prog 8 #[.int .u64 0] W2 fun e w' => e = .returned (.string ⟨([0] : List UInt8).toArray⟩) ∧ Below W2.heap.size W2 w' := by
                    have := ref_num' 0 W2 (by unfold U64; decide)
                    rwa [uvarint_small (by decide)] at this
                  have HR := Lib.hid hr
                  clear hw1 hx1 hb1 hw2 hf2 hx2 hb2 hr
                  go_wp2_with fail
                  refine HR.out.mono ?_
                  rintro e W3 ⟨rfl, hb3⟩
                  have hs3 := hb3.size
                  have H3 := Lib.hid (And.intro (H2.out.1.below hb3 (by omega) (fun _ h => h)) (H2.out.2.trans (hb3.mono (by omega))))
                  have e1 := bytes_app A ([0])
                  have e2 := bytes_size A
                  have e3 := bytes_size ([0])
                  clear hb3 HR H2
                  go_wp2_with fail
                  go_roundw
                  case rel => exact ⟨k + 1, _, by omega, by go_num, rfl, by rw [HA.out.2, HE.out], by rw [HA.out.2, HE.out]; exact H3.out.1, H3.out.2, by omega, HA.out.1 hS2⟩
                  case measure => simp [intOf]; omega
              · have hT2 : ((K : Int) % 4 == 2) = false := by simp; omega
                have hE : encI (K, X, S) = textB S := by simp [encI, hK0, hK1, hK2]
                have hlenT : (textB S).length ≤ 210 := by
                  have := encI_len (x := (3, 0, S)) ⟨show (3 : Nat) < 256 by decide, show (0 : Nat) < 18446744073709551616 by decide, by unfold maxLen; simp; omega⟩ hS2
                  simpa [encI] using this
                have HE := Lib.hid hE
                clear hE hK0 hK1 hK2
                go_wp2_with fail
                obtain ⟨W1, hW1⟩ : ∃ W1, W1 = wr.alloc (.cells #[.int .u8 K, .int .u64 X, .string S] 30) := ⟨_, rfl⟩
                rw [← hW1] at HW ⊢
                clear hW1
                obtain ⟨hw1, hx1, hb1, hs1⟩ := HW.out
                refine (wtext_any (wl.heap.size + 1) wl.heap.size S A W1 (by omega) (by omega) hw1 (by omega) (by omega)).mono ?_
                rintro e W2 ⟨rfl, hw2, hf2⟩
                have hx2 := item_kept hf2 hx1 (by decide) (by omega)
                obtain ⟨d0, d1, d2⟩ := item_cells hx2
                have hb2 := hb1.trans (hf2.below (N := w.heap.size) (by omega) (by omega))
                have hs2 := hf2.size
                have H2 := Lib.hid (And.intro hw2 hb2)
                have hr := ref_text S W2 (by omega)
                have HR := Lib.hid hr
                clear hw1 hx1 hb1 hw2 hf2 hx2 hb2 hr
                go_wp2_with fail
                refine HR.out.mono ?_
                rintro e W3 ⟨rfl, hb3⟩
                have hs3 := hb3.size
                have H3 := Lib.hid (And.intro (H2.out.1.below hb3 (by omega) (fun _ h => h)) (H2.out.2.trans (hb3.mono (by omega))))
                have e1 := bytes_app A (textB S)
                have e2 := bytes_size A
                have e3 := bytes_size (textB S)
                clear hb3 HR H2
                go_wp2_with fail
                go_roundw
                case rel => exact ⟨k + 1, _, by omega, by go_num, rfl, by rw [HA.out.2, HE.out], by rw [HA.out.2, HE.out]; exact H3.out.1, H3.out.2, by omega, HA.out.1 hS2⟩
                case measure => simp [intOf]; omega
      · obtain rfl : k = len := by omega
        have hAl2 : A = outB l := by rw [hA, List.take_of_length_le (by omega)]
        have hall2 : ∀ x ∈ l, WfI x ∧ x.2.2.size ≤ 200 := by rwa [List.take_of_length_le (by omega)] at hall
        have HL := Lib.hid (And.intro hAl2 hall2)
        have HB := Lib.hid (And.intro hw hb)
        clear hA hall hAl2 hall2 hw hb
        go_wp2_with fail
        refine (bytes_any _ _ A _ HB.out.1 (by omega)).mono ?_
        rintro e W1 ⟨v1, rfl, ho1, hb1⟩
        obtain ⟨a1, c1, rfl, hib⟩ := isB_own ho1
        have hcv := str_of hib
        have hs1 := hb1.size
        have H1 := Lib.hid (And.intro (HB.out.1.below hb1 (by omega) (fun _ h => h)) (HB.out.2.trans (hb1.mono hbs)))
        clear ho1 hib hb1 HB
        go_wp2_with fail
        refine (bytes_any _ _ A _ H1.out.1 (by omega)).mono ?_
        rintro e W2 ⟨v2, rfl, ho2, hb2⟩
        obtain ⟨a2, c2, rfl, hib2⟩ := isB_own ho2
        have hs2 := hb2.size
        have hb2' := H1.out.2.trans (hb2.mono (by omega))
        clear ho2 hb2 H1 hcv
        go_wp2_with fail
        refine (read_any a2 A.length c2 A W2 hib2 (by omega)).mono ?_
        rintro e W3 ⟨rb, rfl, hrb, hR, hb3⟩
        have hs3 := hb3.size
        have hb3' := hb2'.trans (hb3.mono (by omega))
        have hrw : w.heap.size ≤ rb := by omega
        have H3 := Lib.hid (And.intro hR hb3')
        clear hib2 hb2' hR hb3 hb3'
        go_wp2_with fail
        obtain ⟨wo, rfl⟩ : ∃ wo : World, wo = wr := ⟨_, rfl⟩
        go_loopw [92] (fun i wr => ∃ j : Nat, j ≤ k ∧ i = .int .i64 j ∧ Rd wr rb (outB (l.drop j)) 0 ∧ Below w.heap.size w wr ∧ rb < wr.heap.size) (fun i _ => k - (intOf i).toNat)
        case atStart => exact ⟨0, by omega, rfl, by rw [List.drop_zero, ← HL.out.1]; exact H3.out.1, H3.out.2, H3.out.1.lt⟩
        case round =>
          obtain ⟨j, hj, rfl, hR, hb, hrs⟩ := hrel
          have hbs := hb.size
          by_cases hlt2 : j < k
          · obtain ⟨x, hx⟩ : ∃ x, l[j]'(by omega) = x := ⟨_, rfl⟩
            obtain ⟨K, X, S⟩ := x
            have hit := H0.out.2.2.old hb
            obtain ⟨hwf, rfl | ⟨bb, oo, rfl, hcs⟩⟩ := hit
            · simp at hl; omega
            have hc := hcs j (by omega)
            have hwk := hwf _ (List.getElem_mem (show j < l.length by omega))
            have hS2 := (HL.out.2 _ (List.getElem_mem (show j < l.length by omega))).2
            rw [hx] at hc hwk hS2
            simp only at hc hS2
            obtain ⟨c0, c1, c2⟩ := hc
            obtain ⟨hK, hX, hS⟩ := id hwk
            simp only at hK hX
            have HX := Lib.hid hX
            have hR0 : Rd wr rb (encI (K, X, S) ++ outB (l.drop (j + 1))) 0 := by rw [outB_drop (by omega), hx] at hR; exact hR
            have hR1 : Rd (wr.alloc (.cells #[.int .u8 K, .int .u64 X, .string S] 30)) rb (encI (K, X, S) ++ outB (l.drop (j + 1))) 0 := hR0.below ((Below.refl _ _).alloc (Nat.le_refl _) _)
            have hb1 : Below w.heap.size w (wr.alloc (.cells #[.int .u8 K, .int .u64 X, .string S] 30)) := hb.alloc hbs _
            have HW := Lib.hid (And.intro hR1 hb1)
            have hne : wr.heap.size ≠ rb := by omega
            obtain ⟨T, hT⟩ : ∃ T, T = outB (l.drop (j + 1)) := ⟨_, rfl⟩
            rw [← hT] at HW
            have HT := Lib.hid hT
            clear hT hwf hcs hx hX hwk hS hR hR0 hR1 hb hb1 H0 H3 HL hne
            have hne : ¬ wr.heap.size = rb := by omega
            by_cases hK0 : K % 4 = 0
            · have hE : encI (K, X, S) = uvarint X := by simp [encI, hK0]
              rw [hE] at HW
              have hT : ((K : Int) % 4 == 0) = true := by simp; omega
              clear hE hK0
              go_wp2_with fail
              obtain ⟨U, hU⟩ : ∃ U, U = wr.alloc (.cells #[.int .u8 K, .int .u64 X, .string S] 30) := ⟨_, rfl⟩
              have hx1 : U.heap[wr.heap.size]? = some (.cells #[.int .u8 K, .int .u64 X, .string S] 30 (0, 0)) := by rw [hU]; exact heap_alloc_new wr _
              rw [← hU] at HW ⊢
              clear hU
              obtain ⟨hR1, hb1⟩ := HW.out
              obtain ⟨d0, d1, d2⟩ := item_cells hx1
              clear hx1
              go_region_with (first | (go_at_call 16; refine (num_uv rb X T _ HX.out ?_).mono ?_; exact hR1; rintro e w' ⟨rfl, hR2, hA2⟩; have hk : ∀ p : Addr, p.block ≠ rb → w'.cell? p = _ := fun p hp => hA2.cell hp))
              all_goals
                have hb2 : Below w.heap.size w w' := hb1.drew.trans (hA2.below hrw)
                have hs2 : wr.heap.size < w'.heap.size := by have := hA2.size; have := lt_of_cell d0; simp at *; omega
                have H2 := Lib.hid (And.intro hR2 hb2)
                clear hR1 hb1 hR2 hA2 hk hb2 HW
                go_wp2_with (go_at_call 20; refine (err_any rb _ 0 _ H2.out.1).mono ?_; rintro e w'' ⟨rfl, rfl⟩)
                go_roundw
                case rel => exact ⟨j + 1, by omega, by go_num, by rw [← HT.out]; exact H2.out.1, H2.out.2, by omega⟩
                case measure => simp [intOf]; omega
            · have hT0 : ((K : Int) % 4 == 0) = false := by simp; omega
              by_cases hK1 : K % 4 = 1
              · have hE : encI (K, X, S) = uvarint (zigzag (wrap64 X)) := by simp [encI, hK1]
                rw [hE] at HW
                have hT : ((K : Int) % 4 == 1) = true := by simp; omega
                have HF := Lib.hid (wrap64_wf (X : Int))
                clear hE hK0 hK1
                go_wp2_with fail
                obtain ⟨U, hU⟩ : ∃ U, U = wr.alloc (.cells #[.int .u8 K, .int .u64 X, .string S] 30) := ⟨_, rfl⟩
                have hx1 : U.heap[wr.heap.size]? = some (.cells #[.int .u8 K, .int .u64 X, .string S] 30 (0, 0)) := by rw [hU]; exact heap_alloc_new wr _
                rw [← hU] at HW ⊢
                clear hU
                obtain ⟨hR1, hb1⟩ := HW.out
                obtain ⟨d0, d1, d2⟩ := item_cells hx1
                clear hx1
                go_region_with (first | (go_at_call 17; refine (int_uv rb (wrap64 X) T _ HF.out ?_).mono ?_; exact hR1; rintro e w' ⟨rfl, hR2, hA2⟩; have hk : ∀ p : Addr, p.block ≠ rb → w'.cell? p = _ := fun p hp => hA2.cell hp))
                all_goals
                  have hb2 : Below w.heap.size w w' := hb1.drew.trans (hA2.below hrw)
                  have hs2 : wr.heap.size < w'.heap.size := by have := hA2.size; have := lt_of_cell d0; simp at *; omega
                  have H2 := Lib.hid (And.intro hR2 hb2)
                  clear hR1 hb1 hR2 hA2 hk hb2 HW
                  go_wp2_with (go_at_call 20; refine (err_any rb _ 0 _ H2.out.1).mono ?_; rintro e w'' ⟨rfl, rfl⟩)
                  go_roundw
                  case rel => exact ⟨j + 1, by omega, by go_num, by rw [← HT.out]; exact H2.out.1, H2.out.2, by omega⟩
                  case measure => simp [intOf]; omega
              · have hT1 : ((K : Int) % 4 == 1) = false := by simp; omega
                by_cases hK2 : K % 4 = 2
                · have hT : ((K : Int) % 4 == 2) = true := by simp; omega
                  by_cases hP : X % 2 = 1
                  · have hE : encI (K, X, S) = [1] := by simp [encI, hK2, hP]
                    rw [hE] at HW
                    have hA1 : bits .and .u64 (X : Int) 1 = 1 := by rw [u64_and1 _ (by omega) (by have := HX.out; unfold U64 at this; omega)]; omega
                    clear hE hK0 hK1 hK2 hP
                    go_wp2_with fail
                    obtain ⟨U, hU⟩ : ∃ U, U = wr.alloc (.cells #[.int .u8 K, .int .u64 X, .string S] 30) := ⟨_, rfl⟩
                    have hx1 : U.heap[wr.heap.size]? = some (.cells #[.int .u8 K, .int .u64 X, .string S] 30 (0, 0)) := by rw [hU]; exact heap_alloc_new wr _
                    rw [← hU] at HW ⊢
                    clear hU
                    obtain ⟨hR1, hb1⟩ := HW.out
                    obtain ⟨d0, d1, d2⟩ := item_cells hx1
                    clear hx1
                    go_region_with (first | (go_at_call 18; refine (flag_ok rb 1 T _ ?_ (by decide)).mono ?_; exact hR1; rintro e w' ⟨rfl, hR2, hA2⟩; have hk : ∀ p : Addr, p.block ≠ rb → w'.cell? p = _ := fun p hp => hA2.cell hp))
                    all_goals
                      have hb2 : Below w.heap.size w w' := hb1.drew.trans (hA2.below hrw)
                      have hs2 : wr.heap.size < w'.heap.size := by have := hA2.size; have := lt_of_cell d0; simp at *; omega
                      have H2 := Lib.hid (And.intro hR2 hb2)
                      clear hR1 hb1 hR2 hA2 hk hb2 HW
                      go_wp2_with (go_at_call 20; refine (err_any rb _ 0 _ H2.out.1).mono ?_; rintro e w'' ⟨rfl, rfl⟩)
                      go_roundw
                      case rel => exact ⟨j + 1, by omega, by go_num, by rw [← HT.out]; exact H2.out.1, H2.out.2, by omega⟩
                      case measure => simp [intOf]; omega
                  · have hE : encI (K, X, S) = [0] := by simp [encI, hK2, hP]
                    rw [hE] at HW
                    have hA1 : bits .and .u64 (X : Int) 1 = 0 := by rw [u64_and1 _ (by omega) (by have := HX.out; unfold U64 at this; omega)]; omega
                    clear hE hK0 hK1 hK2 hP
                    go_wp2_with fail
                    obtain ⟨U, hU⟩ : ∃ U, U = wr.alloc (.cells #[.int .u8 K, .int .u64 X, .string S] 30) := ⟨_, rfl⟩
                    have hx1 : U.heap[wr.heap.size]? = some (.cells #[.int .u8 K, .int .u64 X, .string S] 30 (0, 0)) := by rw [hU]; exact heap_alloc_new wr _
                    rw [← hU] at HW ⊢
                    clear hU
                    obtain ⟨hR1, hb1⟩ := HW.out
                    obtain ⟨d0, d1, d2⟩ := item_cells hx1
                    clear hx1
                    go_region_with (first | (go_at_call 18; refine (flag_ok rb 0 T _ ?_ (by decide)).mono ?_; exact hR1; rintro e w' ⟨rfl, hR2, hA2⟩; have hk : ∀ p : Addr, p.block ≠ rb → w'.cell? p = _ := fun p hp => hA2.cell hp))
                    all_goals
                      have hb2 : Below w.heap.size w w' := hb1.drew.trans (hA2.below hrw)
                      have hs2 : wr.heap.size < w'.heap.size := by have := hA2.size; have := lt_of_cell d0; simp at *; omega
                      have H2 := Lib.hid (And.intro hR2 hb2)
                      clear hR1 hb1 hR2 hA2 hk hb2 HW
                      go_wp2_with (go_at_call 20; refine (err_any rb _ 0 _ H2.out.1).mono ?_; rintro e w'' ⟨rfl, rfl⟩)
                      go_roundw
                      case rel => exact ⟨j + 1, by omega, by go_num, by rw [← HT.out]; exact H2.out.1, H2.out.2, by omega⟩
                      case measure => simp [intOf]; omega
                · have hT2 : ((K : Int) % 4 == 2) = false := by simp; omega
                  have hE : encI (K, X, S) = textB S := by simp [encI, hK0, hK1, hK2]
                  rw [hE] at HW
                  clear hE hK0 hK1 hK2
                  go_wp2_with fail
                  obtain ⟨U, hU⟩ : ∃ U, U = wr.alloc (.cells #[.int .u8 K, .int .u64 X, .string S] 30) := ⟨_, rfl⟩
                  have hx1 : U.heap[wr.heap.size]? = some (.cells #[.int .u8 K, .int .u64 X, .string S] 30 (0, 0)) := by rw [hU]; exact heap_alloc_new wr _
                  rw [← hU] at HW ⊢
                  clear hU
                  obtain ⟨hR1, hb1⟩ := HW.out
                  obtain ⟨d0, d1, d2⟩ := item_cells hx1
                  clear hx1
                  go_region_with (first | (go_at_call 19; refine (text_uv rb 200 S T _ hS2 (by decide) ?_).mono ?_; exact hR1; rintro e w' ⟨rfl, hR2, hA2⟩; have hk : ∀ p : Addr, p.block ≠ rb → w'.cell? p = _ := fun p hp => hA2.cell hp))
                  all_goals
                    have hb2 : Below w.heap.size w w' := hb1.drew.trans (hA2.below hrw)
                    have hs2 : wr.heap.size < w'.heap.size := by have := hA2.size; have := lt_of_cell d0; simp at *; omega
                    have H2 := Lib.hid (And.intro hR2 hb2)
                    clear hR1 hb1 hR2 hA2 hk hb2 HW
                    go_wp2_with (go_at_call 20; refine (err_any rb _ 0 _ H2.out.1).mono ?_; rintro e w'' ⟨rfl, rfl⟩)
                    go_roundw
                    case rel => exact ⟨j + 1, by omega, by go_num, by rw [← HT.out]; exact H2.out.1, H2.out.2, by omega⟩
                    case measure => simp [intOf]; omega
          · obtain rfl : j = k := by omega
            have hnil : outB (l.drop j) = [] := by rw [List.drop_eq_nil_iff.2 (by omega)]; rfl
            rw [hnil] at hR
            have HE := Lib.hid (end_any rb [] 0 _ hR)
            have hv : endE [] 0 = 0 := rfl
            rw [hv] at HE
            have HF := Lib.hid (left_any rb [] 0 _ hR)
            have HB := Lib.hid hb
            clear hR hb hnil hv
            go_wp2_with (first | (go_at_call 21; refine HE.out.mono ?_; rintro e w' ⟨rfl, rfl⟩) | (go_at_call 22; refine HF.out.mono ?_; rintro e w' ⟨rfl, rfl⟩))
            go_ret
            exact ⟨rfl, HB.out⟩
end Go.Proofs.Ytfbohbcokggmpaa.Oc
