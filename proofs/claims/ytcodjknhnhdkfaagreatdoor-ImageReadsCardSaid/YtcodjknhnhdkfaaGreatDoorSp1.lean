
/- specs: names -/
import Derived.Test.YtcodjknhnhdkfaaGreatDoorRows
import Derived.WalkKit
import Derived.ProofKit
import Derived.WalkSpells
import Derived.IntWalk
import Derived.Below
import Derived.Lib.Hide
import Derived.Lib.OthersKept
import Derived.Laws.RangeAny
namespace Go.Proofs.YtcodjknhnhdkfaaGreatDoor.Sp
open Go.RowKit Go.Lib
set_option linter.unusedVariables false
/-- a letter -/
def fiB (n : Nat) : Bool := decide (97 ≤ n) && decide (n ≤ 122)
/-- what may stand behind -/
def laB (n : Nat) : Bool := fiB n || (decide (48 ≤ n) && decide (n ≤ 57)) || decide (n = 45) || decide (n = 46)
def laL (l : List UInt8) : Bool := l.all fun c => laB c.toNat
def nmB : List UInt8 → Bool
  | [] => false
  | c :: r => decide (r.length < 24) && fiB c.toNat && laL r
theorem fi_la {n : Nat} (h : fiB n = true) : laB n = true := by unfold laB; rw [h]; rfl
theorem laB_hi {n : Nat} (h : 128 ≤ n) : laB n = false := by
  unfold laB fiB
  have h1 : ¬ n ≤ 122 := by omega
  have h2 : ¬ n ≤ 57 := by omega
  have h3 : ¬ n = 45 := by omega
  have h4 : ¬ n = 46 := by omega
  simp [h1, h2, h3, h4]
set_option maxRecDepth 20000
theorem isFirst_any (n : Nat) (w : World) : Calls Tryz.prog 82 #[.int .i32 n] w fun e w' => e = .returned (.bool (fiB n)) ∧ w' = w := by
  have e : fiB n = (if (97 : Int) ≤ n then decide ((n : Int) ≤ 122) else false) := by
    unfold fiB
    by_cases h : 97 ≤ n
    · rw [if_pos (by omega), decide_eq_true h, Bool.true_and]; exact decide_eq_decide.2 (by omega)
    · rw [if_neg (by omega), decide_eq_false h]; rfl
  rw [e]
  go_enter Tryz.func82, Tryz.ntmps82
  by_cases h : (97 : Int) ≤ n
  · rw [if_pos h]
    go_wp2
    go_ret
    exact ⟨rfl, rfl⟩
  · rw [if_neg h]
    go_wp2
    go_ret
    exact ⟨rfl, rfl⟩
theorem isLater_any (n : Nat) (w : World) : Calls Tryz.prog 81 #[.int .i32 n] w fun e w' => e = .returned (.bool (laB n)) ∧ w' = w := by
  have HF := Lib.hid (isFirst_any n w)
  by_cases h1 : fiB n = true
  · have e : laB n = true := fi_la h1
    rw [e]
    rw [h1] at HF
    go_enter Tryz.func81, Tryz.ntmps81
    go_wp2_with fail
    refine HF.out.mono ?_
    rintro e w' ⟨rfl, rfl⟩
    go_wp2
    go_ret
    exact ⟨rfl, rfl⟩
  · have h1 : fiB n = false := by simpa using h1
    have e : laB n = ((decide (48 ≤ n) && decide (n ≤ 57)) || decide (n = 45) || decide (n = 46)) := by unfold laB; rw [h1]; simp
    rw [e]
    rw [h1] at HF
    clear h1 e
    by_cases h2 : 48 ≤ n
    · have i2 : (48 : Int) ≤ n := by omega
      by_cases h3 : n ≤ 57
      · have i3 : (n : Int) ≤ 57 := by omega
        rw [decide_eq_true h2, decide_eq_true h3]
        go_enter Tryz.func81, Tryz.ntmps81
        go_wp2_with fail
        refine HF.out.mono ?_
        rintro e w' ⟨rfl, rfl⟩
        go_wp2
        go_ret
        exact ⟨rfl, rfl⟩
      · have i3 : decide ((n : Int) ≤ 57) = false := decide_eq_false (by omega)
        have i4 : ((n : Int) == 45) = false := beq_eq_false_iff_ne.2 (by omega)
        have i5 : ((n : Int) == 46) = false := beq_eq_false_iff_ne.2 (by omega)
        rw [decide_eq_true h2, decide_eq_false h3, decide_eq_false (show ¬ n = 45 by omega), decide_eq_false (show ¬ n = 46 by omega)]
        go_enter Tryz.func81, Tryz.ntmps81
        go_wp2_with fail
        refine HF.out.mono ?_
        rintro e w' ⟨rfl, rfl⟩
        go_wp2
        go_ret
        exact ⟨rfl, rfl⟩
    · have i2 : ¬ (48 : Int) ≤ n := by omega
      rw [decide_eq_false h2, Bool.false_and]
      by_cases h4 : n = 45
      · subst h4
        go_enter Tryz.func81, Tryz.ntmps81
        go_wp2_with fail
        refine HF.out.mono ?_
        rintro e w' ⟨rfl, rfl⟩
        go_wp2
        go_ret
        exact ⟨rfl, rfl⟩
      · have i4 : ((n : Int) == 45) = false := beq_eq_false_iff_ne.2 (by omega)
        rw [decide_eq_false h4]
        by_cases h5 : n = 46
        · subst h5
          go_enter Tryz.func81, Tryz.ntmps81
          go_wp2_with fail
          refine HF.out.mono ?_
          rintro e w' ⟨rfl, rfl⟩
          go_wp2
          go_ret
          exact ⟨rfl, rfl⟩
        · have i5 : ((n : Int) == 46) = false := beq_eq_false_iff_ne.2 (by omega)
          rw [decide_eq_false h5]
          go_enter Tryz.func81, Tryz.ntmps81
          go_wp2_with fail
          refine HF.out.mono ?_
          rintro e w' ⟨rfl, rfl⟩
          go_wp2
          go_ret
          exact ⟨rfl, rfl⟩
theorem final_any (n : Int) (w : World) : Calls Tryz.prog 71 #[.int .i64 n] w fun e w' => e = .returned (.bool (decide (n = 4) || decide (n = 5) || decide (n = 6))) ∧ w' = w := by
  by_cases h1 : n = 4
  · subst h1
    go_enter Tryz.func71, Tryz.ntmps71
    go_wp2
    go_ret
    exact ⟨rfl, rfl⟩
  · by_cases h2 : n = 5
    · subst h2
      go_enter Tryz.func71, Tryz.ntmps71
      go_wp2
      go_ret
      exact ⟨rfl, rfl⟩
    · by_cases h3 : n = 6
      · subst h3
        go_enter Tryz.func71, Tryz.ntmps71
        go_wp2
        go_ret
        exact ⟨rfl, rfl⟩
      · have i1 : (n == 4) = false := beq_eq_false_iff_ne.2 h1
        have i2 : (n == 5) = false := beq_eq_false_iff_ne.2 h2
        have i3 : (n == 6) = false := beq_eq_false_iff_ne.2 h3
        rw [decide_eq_false h1, decide_eq_false h2, decide_eq_false h3]
        go_enter Tryz.func71, Tryz.ntmps71
        go_wp2
        go_ret
        exact ⟨rfl, rfl⟩
theorem all_take_succ {l : List UInt8} {k : Nat} (h : k < l.length) : laL (l.take (k + 1)) = (laL (l.take k) && laB l[k].toNat) := by
  unfold laL; rw [List.take_succ_eq_append_getElem h, List.all_append]; simp
theorem laL_at {l : List UInt8} (h : laL l = true) {k : Nat} (hk : k < l.length) : laB l[k].toNat = true := List.all_eq_true.1 h _ (List.getElem_mem hk)
theorem nm_at {l : List UInt8} (h : nmB l = true) {k : Nat} (hk : k < l.length) : laB l[k].toNat = true ∧ (k = 0 → fiB l[k].toNat = true) := by
  match l, k, hk with
  | c :: r, 0, _ =>
    simp only [nmB, Bool.and_eq_true] at h
    exact ⟨fi_la h.1.2, fun _ => h.1.2⟩
  | c :: r, k + 1, hk =>
    simp only [nmB, Bool.and_eq_true] at h
    exact ⟨laL_at h.2 (by simpa using hk), fun e => by omega⟩
theorem nm_no {l : List UInt8} {k : Nat} (hk : k < l.length) (h : laB l[k].toNat = false ∨ k = 0 ∧ fiB l[k].toNat = false) : nmB l = false := by
  cases hn : nmB l with
  | false => rfl
  | true =>
    have := nm_at hn hk
    rcases h with h | ⟨h0, h⟩
    · rw [h] at this; exact absurd this.1 (by simp)
    · rw [this.2 h0] at h; exact absurd h (by simp)
theorem nm_long {l : List UInt8} (h : 24 < l.length) : nmB l = false := by
  match l with
  | c :: r => have : ¬ r.length < 24 := by simp only [List.length_cons] at h; omega
              simp [nmB, this]
theorem nm_yes {l : List UInt8} (h0 : 0 < l.length) (h1 : l.length ≤ 24) (h2 : laL l = true) (h3 : fiB l[0].toNat = true) : nmB l = true := by
  match l with
  | c :: r =>
    have h1' : r.length < 24 := by simp only [List.length_cons] at h1; omega
    have h2' : laL r = true := by unfold laL at *; simp only [List.all_cons, Bool.and_eq_true] at h2; exact h2.2
    have h3' : fiB c.toNat = true := by simpa using h3
    simp [nmB, h1', h2', h3']
theorem byte_at (s : ByteArray) {k : Nat} (h : k < s.size) : s[k]'h = s.data.toList[k]'(by simpa using h) := by simp [ByteArray.getElem_eq_getElem_data]
set_option maxHeartbeats 2000000 in
theorem name_any (s : ByteArray) (hs : s.size ≤ 4611686018427387904) (w : World) : Calls Tryz.prog 66 #[.string s] w fun e w' => e = .returned (.bool (nmB s.data.toList)) ∧ Below w.heap.size w w' := by
  have hl : s.data.toList.length = s.size := Array.length_toList
  by_cases h0 : s.size = 0
  · have e : s = ⟨#[]⟩ := by
      have : s.data.size = 0 := h0
      exact ByteArray.ext (Array.eq_empty_of_size_eq_zero this)
    subst e
    go_enter Tryz.func66, Tryz.ntmps66
    go_wp2
    go_ret
    exact ⟨rfl, Below.refl _ _⟩
  have hne : s.toList.isEmpty = false := by
    rw [ByteArray.toList_eq]
    cases hd : s.data.toList with
    | nil => rw [hd] at hl; exact absurd hl.symm h0
    | cons _ _ => rfl
  by_cases h1 : 24 < s.size
  · rw [nm_long (by omega)]
    go_enter Tryz.func66, Tryz.ntmps66
    go_wp2
    go_ret
    exact ⟨rfl, Below.refl _ _⟩
  go_enter Tryz.func66, Tryz.ntmps66
  go_wp2
  go_loopw [14] (fun _ wr => ∃ pos : Nat, wr.heap[w.heap.size]? = some (.stringIter s pos) ∧ Below w.heap.size w wr ∧ pos ≤ s.size ∧ laL (s.data.toList.take pos) = true ∧ (0 < pos → fiB (s.data.toList[0]'(by omega)).toNat = true)) (fun _ wr => s.size - wr.iterPos w.heap.size)
  case atStart => exact ⟨0, World.iter_heap w s 0, (Below.refl _ w).alloc (Nat.le_refl _) _, Nat.zero_le _, rfl, fun h => absurd h (Nat.lt_irrefl _)⟩
  case round =>
    obtain ⟨pos, hit, hbw, hpl, hla, hfi⟩ := hrel
    have hit0 := Lib.hid hit
    by_cases hp : pos < s.size
    · have hp' : pos < s.data.toList.length := by omega
      have hno := fun h => nm_no (l := s.data.toList) hp' h
      have hsz := all_take_succ hp'
      have hf0 : pos = 0 → (s.data.toList[pos]) = s.data.toList[0]'(by omega) := fun e => by subst e; rfl
      have hdec : ∃ r k : Nat, Utf8.decode s pos = (r, k) ∧ 1 ≤ k ∧ ((r = (s.data.toList[pos]).toNat ∧ k = 1) ∨ (128 ≤ (s.data.toList[pos]).toNat ∧ 128 ≤ r)) := by
        by_cases hc : (s.data.toList[pos]).toNat < 128
        · exact ⟨_, _, decode_ascii s pos hp (by rw [byte_at]; exact hc), Nat.le_refl _, .inl ⟨by rw [byte_at], rfl⟩⟩
        · have := decode_high s pos hp (by rw [byte_at]; omega)
          exact ⟨_, _, rfl, this.2, .inr ⟨by omega, this.1⟩⟩
      obtain ⟨r, k, hd, hk1, hr⟩ := hdec
      have hnx : ∀ ty, (Instr.next (.pointer (some ⟨w.heap.size, 0, none⟩)) true ty).run Tryz.prog wr = .ok (.tuple #[.bool true, .int .i64 pos, .int .i32 r]) (wr.iterAt w.heap.size s (pos + k)) := fun ty => by
        rw [Lib.run_next_any_at wr w.heap.size s pos ty hit hp, hd]
      have hit2 := Lib.iterAt_heap wr w.heap.size s pos (pos + k) hit
      have hbw2 := Lib.below_iterAt hbw (Nat.le_refl _) s (pos + k)
      generalize hV : wr.iterAt w.heap.size s (pos + k) = V at hnx hit2 hbw2
      have HL := Lib.hid (isLater_any r V)
      have HF := Lib.hid (isFirst_any r V)
      have hbad : laB r = false ∨ (pos = 0 ∧ fiB r = false) → nmB s.data.toList = false := by
        rcases hr with ⟨e, _⟩ | ⟨e1, e2⟩
        · intro h; exact hno (by rw [← e]; exact h)
        · intro _; exact hno (.inl (laB_hi e1))
      have hgood : laB r = true → (pos = 0 → fiB r = true) → k = 1 ∧ laL (s.data.toList.take (pos + 1)) = true ∧ fiB (s.data.toList[0]'(by omega)).toNat = true := by
        intro h1 h2
        rcases hr with ⟨e, ek⟩ | ⟨_, e2⟩
        · refine ⟨ek, by rw [hsz, hla, ← e, h1]; rfl, ?_⟩
          by_cases h0 : pos = 0
          · rw [← hf0 h0, ← e]; exact h2 h0
          · exact hfi (by omega)
        · rw [laB_hi e2] at h1; cases h1
      have HB := Lib.hid (And.intro hbad (And.intro hgood (And.intro hit2 (And.intro hbw2 (And.intro hla hfi)))))
      clear hbad hgood hit2 hbw2 hla hfi hno hsz hf0 hd hr hV hbw hit
      cases hb : laB r with
      | false =>
        rw [hb] at HL
        have HB2 := Lib.hid (And.intro (HB.out.1 (.inl hb)) HB.out.2.2.2.1)
        clear hb HB HF
        go_wp2_with fail
        refine HL.out.mono ?_
        rintro e w' ⟨rfl, rfl⟩
        go_wp2_with fail
        go_ret
        exact ⟨by rw [HB2.out.1]; rfl, HB2.out.2⟩
      | true =>
        rw [hb] at HL
        by_cases h0 : pos = 0
        · cases hf : fiB r with
          | false =>
            rw [hf] at HF
            have HB2 := Lib.hid (And.intro (HB.out.1 (.inr ⟨h0, hf⟩)) HB.out.2.2.2.1)
            have i0 : ((pos : Int) == 0) = true := by rw [h0]; rfl
            clear hb HB hf h0
            go_wp2_with fail
            refine HL.out.mono ?_
            rintro e w' ⟨rfl, rfl⟩
            go_wp2_with fail
            refine HF.out.mono ?_
            rintro e w' ⟨rfl, rfl⟩
            go_wp2_with fail
            go_ret
            exact ⟨by rw [HB2.out.1]; rfl, HB2.out.2⟩
          | true =>
            rw [hf] at HF
            obtain ⟨rfl, g1, g2⟩ := HB.out.2.1 hb (fun _ => hf)
            have HB2 := Lib.hid (And.intro g1 (And.intro g2 (And.intro HB.out.2.2.1 HB.out.2.2.2.1)))
            have i0 : ((pos : Int) == 0) = true := by rw [h0]; rfl
            clear hb HB hf h0 g1 g2
            go_wp2_with fail
            refine HL.out.mono ?_
            rintro e w' ⟨rfl, rfl⟩
            go_wp2_with fail
            refine HF.out.mono ?_
            rintro e w' ⟨rfl, rfl⟩
            go_wp2_with fail
            go_roundw
            case rel => exact ⟨pos + 1, HB2.out.2.2.1, HB2.out.2.2.2, hp, HB2.out.1, fun _ => HB2.out.2.1⟩
            case measure => simp only [World.iterPos, HB2.out.2.2.1, hit0.out]; omega
        · obtain ⟨rfl, g1, g2⟩ := HB.out.2.1 hb (fun e => absurd e h0)
          have HB2 := Lib.hid (And.intro g1 (And.intro g2 (And.intro HB.out.2.2.1 HB.out.2.2.2.1)))
          have i0 : ((pos : Int) == 0) = false := beq_eq_false_iff_ne.2 (by omega)
          clear hb HB h0 g1 g2
          go_wp2_with fail
          refine HL.out.mono ?_
          rintro e w' ⟨rfl, rfl⟩
          go_wp2_with fail
          go_roundw
          case rel => exact ⟨pos + 1, HB2.out.2.2.1, HB2.out.2.2.2, hp, HB2.out.1, fun _ => HB2.out.2.1⟩
          case measure => simp only [World.iterPos, HB2.out.2.2.1, hit0.out]; omega
    · have hnx : ∀ ty, (Instr.next (.pointer (some ⟨w.heap.size, 0, none⟩)) true ty).run Tryz.prog wr = _ := fun ty => Lib.run_next_end_at wr w.heap.size s pos ty hit hp
      have e : nmB s.data.toList = true := nm_yes (by omega) (by omega) (by rw [List.take_of_length_le (by omega)] at hla; exact hla) (hfi (by omega))
      have H := Lib.hid (And.intro e hbw)
      clear hla hfi e hit hbw
      go_wp2_with fail
      go_ret
      exact ⟨by rw [H.out.1]; rfl, H.out.2⟩
end Go.Proofs.YtcodjknhnhdkfaaGreatDoor.Sp
