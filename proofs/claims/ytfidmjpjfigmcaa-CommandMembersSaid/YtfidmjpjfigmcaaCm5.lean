
/- members as bytes, and back -/
import Derived.Test.YtfidmjpjfigmcaaCm4
import Derived.Test.YtfidmjpjfigmcaaSp3
namespace Go.Proofs.Ytfidmjpjfigmcaa.Cm
open Go.RowKit Go.Lib Wn Rf By
set_option linter.unusedVariables false
set_option maxRecDepth 20000
theorem ref_app (x y : List UInt8) : (⟨x.toArray⟩ : ByteArray) ++ ⟨y.toArray⟩ = ⟨(x ++ y).toArray⟩ := bytes_app x y
set_option maxHeartbeats 2000000 in
theorem refMembers_any (a : Option Addr) (n c : Nat) (xs : List Int) (w : World) (hd : Da iv w a n xs) (hx : areM xs = true) :
    Calls Try.prog 13 #[.slice a n c] w fun e w' => e = .returned (.string ⟨(memB xs).toArray⟩) ∧ Below w.heap.size w w' := by
  have hl := hd.1
  have hall := areM_all hx
  obtain ⟨h7, h1⟩ := areM_len hx
  have hu : U64 n := by unfold U64; omega
  have hwn : IntKind.u64.wrap (n : Int) = n := by rw [IntKind.wrap_u64]; omega
  have hB : memB xs = uvarint n ++ xs.flatMap ie := by unfold memB; rw [hl]
  rw [hB]
  have HD := Lib.hid hd
  have H0 := Lib.hid (ref_num' n w hu)
  have hul := uvarint_length64 hu
  clear hd hB hu hx
  go_enter Try.func13, Try.ntmps13
  go_wp2_with fail
  refine H0.out.mono ?_
  rintro e w1 ⟨rfl, hb1⟩
  have B1 := Lib.hid hb1
  clear hb1 H0
  go_wp2_with fail
  go_loopw [3, 12] (fun s3 s12 wr => ∃ (k : Nat) (A : List UInt8), s3 = .string ⟨A.toArray⟩ ∧ s12 = .int .i64 k ∧ k ≤ n ∧ A = uvarint n ++ (xs.take k).flatMap ie ∧ A.length ≤ 10 + k ∧ Below w.heap.size w wr) (fun _ s12 _ => n - (RowKit.intOf s12).toNat)
  case atStart => exact ⟨0, _, rfl, rfl, Nat.zero_le _, by simp, by omega, B1.out⟩
  case round =>
    obtain ⟨k, A, rfl, rfl, hk, hA, hAl, hb⟩ := hrel
    by_cases hlt : k < n
    · have hkl : k < xs.length := by omega
      rcases (HD.out.old hb).2.2 with h0 | ⟨b, o, rfl, hcell⟩
      · omega
      have hc := hcell k hkl
      obtain ⟨x, hx⟩ : ∃ x, x = xs[k] := ⟨_, rfl⟩
      rw [← hx] at hc
      simp only [iv] at hc
      have hxr := hall x (by rw [hx]; exact List.getElem_mem _)
      obtain ⟨m, hm⟩ : ∃ m : Nat, m = x.toNat := ⟨_, rfl⟩
      have hwx : IntKind.u64.wrap x = (m : Int) := by rw [IntKind.wrap_u64]; omega
      have hum : U64 m := by unfold U64; omega
      have HN := Lib.hid (ref_num' m wr hum)
      have hie : ie x = uvarint m := by unfold ie; rw [hm]
      have hml : (uvarint m).length = 1 := by rw [uvarint_small (by omega)]; rfl
      obtain ⟨M, hM⟩ : ∃ M, M = uvarint m := ⟨_, rfl⟩
      rw [← hM] at hie hml HN
      have hsum := ref_app A M
      have hsz : (⟨A.toArray⟩ : ByteArray).size + (⟨M.toArray⟩ : ByteArray).size ≤ 9223372036854775807 := by rw [bytes_size, bytes_size]; omega
      have HK := Lib.hid (And.intro hA (And.intro hAl (And.intro hb (And.intro hx (And.intro hie hml)))))
      clear hA hAl hb hx hie hml hcell hxr hm hum hM
      go_wp2_with fail
      refine HN.out.mono ?_
      rintro e w2 ⟨rfl, hb2⟩
      have B2 := Lib.hid hb2
      clear hb2 HN
      go_wp2_with fail
      go_roundw
      case rel =>
        refine ⟨k + 1, A ++ M, rfl, rfl, hlt, ?_, ?_, HK.out.2.2.1.trans (B2.out.mono HK.out.2.2.1.size)⟩
        · rw [flat_succ ie hkl, ← HK.out.2.2.2.1, HK.out.2.2.2.2.1, ← List.append_assoc, ← HK.out.1]
        · rw [List.length_append, HK.out.2.2.2.2.2]; have := HK.out.2.1; omega
      case measure => simp only [RowKit.intOf]; omega
    · have hkn : k = n := by omega
      subst hkn
      rw [List.take_of_length_le (by omega)] at hA
      have HK := Lib.hid (And.intro hA hb)
      clear hA hb hAl
      go_wp2_with fail
      go_ret
      exact ⟨congrArg (fun z : List UInt8 => Ending.returned (.string ⟨z.toArray⟩)) HK.out.1, HK.out.2⟩
/-- a row of one's own may be read -/
theorem da_own {E : Type} {val : E → Value} {t : TypeId} {w : World} {B : Nat} {v : Value} {n : Nat} {xs : List E} (h : w.ownsRow B t 1 v n (xs.map val)) (hl : xs.length = n) : ∃ a c, v = .slice a n c ∧ Da val w a n xs := by
  rcases h.2 with ⟨rfl, h0⟩ | ⟨g, cap, cur, rfl, h2, h3, h4, h5, h6, h7⟩
  · exact ⟨none, 0, by rw [h0], ⟨hl, ⟨fun _ => h0, .inl h0⟩⟩⟩
  · refine ⟨some ⟨g, 0, none⟩, cap, rfl, ⟨hl, ⟨fun e => (by cases e), Or.inr ⟨g, 0, rfl, fun i hi => ?_⟩⟩⟩⟩
    have := h.cells rfl i (val xs[i]) (by simp [hi])
    rwa [Sp.addl] at this
theorem flat_inj {E : Type} {enc : E → List UInt8} (inj : ∀ x y s t, enc x ++ s = enc y ++ t → x = y ∧ s = t) : ∀ (xs ys : List E) (s t : List UInt8), xs.length = ys.length → xs.flatMap enc ++ s = ys.flatMap enc ++ t → xs = ys ∧ s = t
  | [], [], s, t, _, h => ⟨rfl, by simpa using h⟩
  | x :: xs, [], s, t, hl, h => by simp at hl
  | [], y :: ys, s, t, hl, h => by simp at hl
  | x :: xs, y :: ys, s, t, hl, h => by
    simp only [List.flatMap_cons, List.append_assoc] at h
    obtain ⟨rfl, h2⟩ := inj _ _ _ _ h
    obtain ⟨rfl, h3⟩ := flat_inj inj xs ys s t (by simpa using hl) h2
    exact ⟨rfl, h3⟩
def small (x : Nat) : Int := ((min x 8 : Nat) : Int)
theorem small_vals (xs : List Nat) : xs.map valI = (xs.map small).map iv := by rw [List.map_map]; rfl
theorem small_flat : ∀ (xs : List Nat), (∀ z ∈ xs.map small, 0 < z ∧ z ≤ 7) → xs.flatMap uvarint = (xs.map small).flatMap ie
  | [], _ => rfl
  | x :: xs, h => by
    have h1 := h (small x) (by simp)
    have h2 := small_flat xs (fun z hz => h z (by simp only [List.map_cons, List.mem_cons]; exact .inr hz))
    have e : ie (small x) = uvarint x := by
      unfold ie small at *
      rw [Int.toNat_natCast, Nat.min_eq_left (by omega)]
    simp only [List.flatMap_cons, List.map_cons, e, h2]
theorem nat_flat (ys : List Int) : (ys.map Int.toNat).flatMap uvarint = ys.flatMap ie := by
  rw [List.flatMap_map]; rfl
theorem small_nat : ∀ (ys : List Int), (∀ y ∈ ys, 0 < y ∧ y ≤ 7) → (ys.map Int.toNat).map small = ys
  | [], _ => rfl
  | y :: ys, h => by
    have h1 := h y (by simp)
    rw [List.map_cons, List.map_cons, small_nat ys (fun z hz => h z (by simp [hz]))]
    congr 1
    unfold small
    omega
theorem Members_no (a : Option Addr) (n c : Nat) (xs : List Int) (w : World) (hd : Da iv w a n xs) (hn : n ≤ 1000000000) (hx : areM xs = false) :
    Calls Try.prog 14 #[.slice a n c] w fun e w' => e = .returned (.tuple #[.slice none 0 0, .int .i64 1]) ∧ w' = w := by
  have H := Lib.hid (areMembers_any a n c xs w hd hn)
  rw [hx] at H
  clear hd hx
  go_enter Try.func14, Try.ntmps14
  go_wp2_with fail
  refine H.out.mono ?_
  rintro e w' ⟨rfl, rfl⟩
  go_wp2_with fail
  go_ret2
  exact ⟨rfl, rfl⟩
set_option maxHeartbeats 2000000 in
theorem Members_yes (a : Option Addr) (n c : Nat) (xs : List Int) (w : World) (hd : Da iv w a n xs) (hx : areM xs = true) :
    Calls Try.prog 14 #[.slice a n c] w fun e w' => ∃ a' c', e = .returned (.tuple #[.slice a' (memB xs).length c', .int .i64 0]) ∧ IsB w' a' (memB xs).length c' (memB xs) ∧ Below w.heap.size w w' := by
  have hall := areM_all hx
  obtain ⟨h7, h1⟩ := areM_len hx
  have hl := hd.1
  have H := Lib.hid (areMembers_any a n c xs w hd (by omega))
  rw [hx] at H
  obtain ⟨V, hV⟩ : ∃ V, V = w.alloc (.cells #[.slice none 0 0] 67) := ⟨_, rfl⟩
  have hb : Below w.heap.size w V := by rw [hV]; exact (Below.refl _ _).alloc (Nat.le_refl _) _
  have hs : V.heap.size = w.heap.size + 1 := by rw [hV]; simp
  have hw : Wr (w.heap.size + 1) V w.heap.size [] := by rw [hV]; exact wr_new w _
  have ha : ∀ b o, a = some ⟨b, o, none⟩ → b < w.heap.size + 1 := by
    intro b o e
    rcases hd.2.2 with h0 | ⟨b', o', h2, h3⟩
    · omega
    · rw [e] at h2
      have h4 := World.block_lt_of_cell? w _ (h3 0 (by omega))
      simp only [Option.some.injEq, Addr.mk.injEq] at h2
      simp only at h4
      omega
  have hfl := flat_small hall
  have HP := Lib.hid (put_i (w.heap.size + 1) w.heap.size a n c xs [] V (hd.old hb) (fun _ => ha) (fun x hx => by have := hall x hx; exact ⟨by omega, by omega⟩) (by omega) (by omega) hw (by rw [hfl]; simp; omega) (by omega))
  have hB : memB xs = [] ++ (uvarint n ++ xs.flatMap ie) := by unfold memB; rw [hl]; rfl
  rw [← hB] at HP
  have hBl : (memB xs).length ≤ 20 := by
    rw [hB]
    have := uvarint_length64 (show n < 18446744073709551616 by omega)
    simp only [List.nil_append, List.length_append, hfl]
    omega
  obtain ⟨M, hM⟩ : ∃ M, M = memB xs := ⟨_, rfl⟩
  rw [← hM] at HP hBl ⊢
  clear hM hB
  have HB := Lib.hid (And.intro hb hs)
  clear hb hs hw ha hfl hd hall h7 h1 hx
  go_enter Try.func14, Try.ntmps14
  go_wp2_with fail
  refine H.out.mono ?_
  rintro e w' ⟨rfl, rfl⟩
  clear H
  go_wp2_with fail
  rw [← hV]
  have HV := Lib.hid hV
  clear hV
  refine HP.out.mono ?_
  rintro e w1 ⟨rfl, hw1, hf1⟩
  have HY := Lib.hid (bytes_any _ _ M w1 hw1 (by omega))
  have hb1 := Lib.hid (HB.out.1.trans (hf1.below (Nat.le_succ _) (Nat.le_refl _)))
  clear hw1 hf1 HP
  go_wp2_with fail
  refine HY.out.mono ?_
  rintro e w2 ⟨v', rfl, hown, hb2⟩
  obtain ⟨a', c', rfl, hib⟩ := isB_own hown
  have H2 := Lib.hid (And.intro hib hb2)
  clear hown hib hb2 HY
  go_wp2_with fail
  go_ret2
  exact ⟨a', c', rfl, H2.out.1, hb1.out.trans (H2.out.2.mono hb1.out.size)⟩
/-- what MembersOf answers -/
def OfGot (l : List UInt8) (w : World) (e : Ending) (w' : World) : Prop :=
  ∃ (v : Value) (xs : List Int) (er : Int), e = .returned (.tuple #[v, .int .i64 er]) ∧ (er ≠ 0 → v = .slice none 0 0) ∧ (er = 0 → ∃ a c, v = .slice a xs.length c ∧ Da iv w' a xs.length xs ∧ areM xs = true ∧ l = memB xs) ∧
    (∀ ys, areM ys = true → l = memB ys → er = 0) ∧ Below w.heap.size w w'
set_option maxHeartbeats 2000000 in
theorem MembersOf_any (a : Option Addr) (n c : Nat) (l : List UInt8) (w : World) (hl : IsB w a n c l) (hn : l.length ≤ 1000000000) :
    Calls Try.prog 11 #[.slice a n c] w (OfGot l w) := by
  have HR := Lib.hid (read_any a n c l w hl (by omega))
  clear hl
  go_enter Try.func11, Try.ntmps11
  go_wp2_with fail
  refine HR.out.mono ?_
  rintro e w1 ⟨rb, rfl, hrb, hr1, hb1⟩
  have HG := Lib.hid (get_i rb 7 l 0 w1 hr1 (by decide))
  have B1 := Lib.hid (And.intro hrb (And.intro hb1 hr1.lt))
  clear hrb hr1 hb1 HR
  go_wp2_with fail
  refine HG.out.mono ?_
  rintro e w2 ⟨v, xs, l', er, rfl, hrow, hx7, hr2, hA, hok, hbad, hfw⟩
  obtain ⟨a2, c2, rfl, hda⟩ := da_own (xs := xs) hrow rfl
  have hzs : Da iv w2 a2 xs.length (xs.map small) := by
    refine ⟨by simp, hda.2.1, ?_⟩
    rcases hda.2.2 with h0 | ⟨b, o, h2, h3⟩
    · exact .inl h0
    · exact .inr ⟨b, o, h2, fun i hi => by rw [h3 i (by simpa using hi)]; simp [valI, small, iv]⟩
  have HE := Lib.hid (end_any rb l' er w2 hr2)
  have hbel : Below w.heap.size w w2 := B1.out.2.1.trans (hA.below B1.out.1 B1.out.2.1.size)
  -- what the document asks is met
  have hfin : ∀ ys, areM ys = true → l = memB ys → er = 0 ∧ l' = [] ∧ xs.map small = ys := by
    intro ys hy hl
    have hy7 := areM_len hy
    have hya := areM_all hy
    have e1 : l = uvarint (ys.map Int.toNat).length ++ ((ys.map Int.toNat).flatMap uvarint ++ []) := by
      rw [hl, nat_flat, List.length_map, List.append_nil]; rfl
    have h0 : er = 0 := hfw (ys.map Int.toNat) [] rfl (by simpa using hy7.1) (fun y hy' => by
      obtain ⟨z, hz, rfl⟩ := List.mem_map.1 hy'
      have := hya z hz
      show z.toNat < 18446744073709551616
      omega) e1
    have e2 := (hok h0).2
    rw [e1] at e2
    obtain ⟨e3, e4⟩ := uvr_inj _ _ _ _ e2
    obtain ⟨e5, e6⟩ := flat_inj uvr_inj _ _ _ _ e3 e4
    exact ⟨h0, e6.symm, by rw [← e5]; exact small_nat ys hya⟩
  have hgood : er = 0 → l' = [] → areM (xs.map small) = true → l = memB (xs.map small) := by
    intro h0 h1 h2
    rw [(hok h0).2, h1, List.append_nil, small_flat xs (areM_all h2)]
    unfold memB
    rw [List.length_map]
  have HM := Lib.hid (areMembers_any a2 xs.length c2 (xs.map small) w2 hzs (by omega))
  have H2 := Lib.hid (And.intro hfin (And.intro hgood (And.intro hzs hbel)))
  obtain ⟨zs, hz⟩ : ∃ zs, zs = xs.map small := ⟨_, rfl⟩
  have hzl : zs.length = xs.length := by rw [hz]; simp
  rw [← hz] at HM H2
  clear hrow hda hr2 hA hok hbad hfw hzs hbel hfin hgood hz HG
  go_wp2_with fail
  refine HE.out.mono ?_
  rintro e w3 ⟨rfl, rfl⟩
  clear HE
  obtain ⟨E, hE⟩ : ∃ E, E = endE l' er := ⟨_, rfl⟩
  rw [← hE]
  by_cases h0 : er = 0
  · by_cases h1 : l' = []
    · have hE0 : E = 0 := by rw [hE, h0, h1]; rfl
      subst hE0
      have HH := Lib.hid (H2.out.2.1 h0 h1)
      clear hE
      go_wp2_with fail
      refine HM.out.mono ?_
      rintro e w4 ⟨rfl, rfl⟩
      by_cases hz : areM zs = true
      · rw [hz]
        have HZ := Lib.hid (And.intro (H2.out.2.2.1) (And.intro hz (HH.out hz)))
        clear hz HM
        go_wp2_with fail
        go_ret2
        exact ⟨_, zs, 0, rfl, fun h => absurd rfl h, fun _ => ⟨a2, c2, congrArg (fun k : Nat => Value.slice a2 k c2) hzl.symm, by rw [hzl]; exact HZ.out.1, HZ.out.2.1, HZ.out.2.2⟩, fun _ _ _ => rfl, H2.out.2.2.2⟩
      · rw [Bool.not_eq_true] at hz
        rw [hz]
        have HZ := Lib.hid hz
        clear hz HM
        go_wp2_with fail
        go_ret2
        exact ⟨_, [], 2, rfl, fun _ => rfl, fun h => by simp at h, (fun ys hy hl => by
          obtain ⟨_, _, q⟩ := H2.out.1 ys hy hl
          rw [q] at HZ
          have := HZ.out
          rw [hy] at this
          cases this), H2.out.2.2.2⟩
    · have hE0 : E = 15 := by rw [hE, h0]; unfold endE; rw [if_neg (by simp), if_neg h1]
      subst hE0
      have HH := Lib.hid h1
      clear hE h1 HM
      go_wp2_with fail
      go_ret2
      exact ⟨_, [], 15, rfl, fun _ => rfl, fun h => by simp at h, fun ys hy hl => absurd (H2.out.1 ys hy hl).2.1 HH.out, H2.out.2.2.2⟩
  · have hE0 : E = er := by rw [hE]; unfold endE; rw [if_pos h0]
    subst hE0
    have hne : (E != 0) = true := by simpa using h0
    have HH := Lib.hid h0
    clear hE HM
    go_wp2_with fail
    go_ret2
    exact ⟨_, [], E, rfl, fun _ => rfl, fun h => absurd h h0, fun ys hy hl => absurd (H2.out.1 ys hy hl).1 h0, H2.out.2.2.2⟩
set_option maxHeartbeats 1000000 in
theorem lives18_any (w : World) : Calls Try.prog 6 #[] w fun e w' => e = .returned (.bool true) ∧ Below w.heap.size w w' := by
  obtain ⟨V, hV⟩ : ∃ V, V = w.alloc (.cells #[.int .i64 1, .int .i64 2] 3) := ⟨_, rfl⟩
  have hb : Below w.heap.size w V := by rw [hV]; exact (Below.refl _ _).alloc (Nat.le_refl _) _
  have hx0 : V.heap[w.heap.size]? = some (.cells #[.int .i64 1, .int .i64 2] 3 (0, 0)) := by rw [hV]; exact heap_alloc_new w _
  have hd : Da iv V (some ⟨w.heap.size, 0, none⟩) 2 [1, 2] := by
    refine ⟨rfl, (fun h => by cases h), .inr ⟨w.heap.size, 0, rfl, fun i hi => ?_⟩⟩
    simp only [World.cell?, hx0]
    match i, hi with
    | 0, _ => rfl
    | 1, _ => rfl
  have hM : memB [1, 2] = [2, 1, 2] := by
    have e : ∀ n : Nat, n < 128 → uvarint n = [n.toUInt8] := fun n h => uvarint_small h
    unfold memB
    show uvarint 2 ++ (uvarint 1 ++ (uvarint 2 ++ [])) = _
    rw [e 1 (by decide), e 2 (by decide)]
    rfl
  have H := Lib.hid (Members_yes (some ⟨w.heap.size, 0, none⟩) 2 2 [1, 2] V hd (by decide))
  rw [hM] at H
  have HB := Lib.hid hb
  clear hb hx0 hd hM
  go_enter Try.func6, Try.ntmps6
  go_wp2_with fail
  rw [← hV]
  have HV := Lib.hid hV
  clear hV
  refine H.out.mono ?_
  rintro e w' ⟨a', c', rfl, hib, hb2⟩
  have hcv : (convert 22 9 (.slice a' 3 c')).run Try.prog w' = .ok (.string ⟨#[2, 1, 2]⟩) w' := str_of hib
  have H2 := Lib.hid (HB.out.trans (hb2.mono HB.out.size))
  clear hib hb2 H
  go_wp2_with fail
  go_ret
  exact ⟨rfl, H2.out⟩
end Go.Proofs.Ytfidmjpjfigmcaa.Cm
