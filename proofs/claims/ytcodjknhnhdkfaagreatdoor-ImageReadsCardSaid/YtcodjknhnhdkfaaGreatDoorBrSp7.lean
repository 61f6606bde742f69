/- specs: which may be: their numbers, their names, their order -/
import Derived.Test.YtcodjknhnhdkfaaGreatDoorBr01
import Derived.Test.YtcodjknhnhdkfaaGreatDoorSp1
import Derived.BigQuiet
import Derived.Sort.Walk0
import Derived.Lib.Strings
namespace Go.Proofs.YtcodjknhnhdkfaaGreatDoor.Sp
open Go.RowKit Go.Lib Go.Sort Rf By
set_option linter.unusedVariables false
set_option linter.unusedSimpArgs false
set_option maxRecDepth 20000

theorem bdN {B : Nat} {a w : World} (h : Below B a w) (n : Nat) : Below B a (w.drewN n) := ⟨h.os, h.tape, h.output, h.size, h.block⟩
/-- a span -/
def spanB (n : Int) : Bool := decide (0 ≤ n) && decide (n ≤ 1048576)
theorem isSpan14_any (n : Int) (w : World) : Calls Tryz.prog 83 #[.int .i64 n] w fun e w' => e = .returned (.bool (spanB n)) ∧ w' = w := by
  unfold spanB
  by_cases h1 : 0 ≤ n
  · by_cases h2 : n ≤ 1048576
    · rw [show (decide (0 ≤ n) && decide (n ≤ 1048576)) = true by simp [h1, h2]]
      go_enter Tryz.func83, Tryz.ntmps83
      go_wp2
      go_ret
      exact ⟨rfl, rfl⟩
    · rw [show (decide (0 ≤ n) && decide (n ≤ 1048576)) = false by simp [h2]]
      go_enter Tryz.func83, Tryz.ntmps83
      go_wp2
      go_ret
      exact ⟨rfl, rfl⟩
  · rw [show (decide (0 ≤ n) && decide (n ≤ 1048576)) = false by simp [h1]]
    go_enter Tryz.func83, Tryz.ntmps83
    go_wp2
    go_ret
    exact ⟨rfl, rfl⟩
/-- all are names -/
def nmsB (l : List ByteArray) : Bool := l.all fun s => nmB s.data.toList
theorem nms_no {l : List ByteArray} {k : Nat} (hk : k < l.length) (h : nmB l[k].data.toList = false) : nmsB l = false := by
  cases e : nmsB l with
  | false => rfl
  | true =>
    have := List.all_eq_true.1 e _ (List.getElem_mem hk)
    rw [h] at this; cases this
theorem nms_yes {l : List ByteArray} (h : ∀ j (hj : j < l.length), nmB l[j].data.toList = true) : nmsB l = true :=
  List.all_eq_true.2 fun x hx => by obtain ⟨i, hi, rfl⟩ := List.getElem_of_mem hx; exact h i hi
set_option maxHeartbeats 4000000 in
theorem areNames_any {a : Option Addr} {n c : Nat} {ds : List ByteArray} {w : World} (hd : Dp w a n ds) (hm : n ≤ 1000000000) (hs : ∀ d ∈ ds, d.size ≤ 4611686018427387904) :
    Calls Tryz.prog 67 #[.slice a n c] w fun e w' => e = .returned (.bool (nmsB ds)) ∧ Below w.heap.size w w' := by
  have HB := Lib.hid (And.intro hd (And.intro hs hd.1))
  clear hd hs
  go_enter Tryz.func67, Tryz.ntmps67
  go_wp2_with fail
  go_loopw [7] (fun s7 wr => ∃ k : Nat, s7 = .int .i64 k ∧ k ≤ n ∧ Below w.heap.size w wr ∧ ∀ j (h : j < ds.length), j < k → nmB ds[j].data.toList = true) (fun s7 _ => n - (RowKit.intOf s7).toNat)
  case atStart => exact ⟨0, rfl, Nat.zero_le _, Below.refl _ _, fun j _ h => absurd h (Nat.not_lt_zero j)⟩
  case round =>
    obtain ⟨k, rfl, hk, hbw, hall⟩ := hrel
    by_cases hlt : k < n
    · have hkl : k < ds.length := by rw [HB.out.2.2]; exact hlt
      have hdw := HB.out.1.old hbw
      rcases hdw.2.2 with h0 | ⟨b, o, rfl, hat⟩
      · omega
      have hc := hat k hkl
      have HA := Lib.hid (And.intro hall hbw)
      have hn := name_any ds[k] (HB.out.2.1 _ (List.getElem_mem hkl)) wr
      obtain ⟨r, hr⟩ : ∃ r, nmB ds[k].data.toList = r := ⟨_, rfl⟩
      rw [hr] at hn
      have HN := Lib.hid (And.intro hn hr)
      clear hall hat hdw hbw hn hr
      obtain ⟨d, hd⟩ : ∃ d, d = ds[k] := ⟨_, rfl⟩
      rw [← hd] at hc HN
      have HD := Lib.hid hd
      clear hd
      cases r with
      | false =>
        go_wp2_with fail
        refine HN.out.1.mono ?_
        rintro e w' ⟨rfl, hb⟩
        have HW := Lib.hid (HA.out.2.trans (hb.mono HA.out.2.size))
        clear hb
        go_wp2_with fail
        go_ret
        exact ⟨by rw [nms_no hkl (by rw [← HD.out]; exact HN.out.2)]; rfl, HW.out⟩
      | true =>
        go_wp2_with fail
        refine HN.out.1.mono ?_
        rintro e w' ⟨rfl, hb⟩
        have HW := Lib.hid (HA.out.2.trans (hb.mono HA.out.2.size))
        clear hb
        go_wp2_with fail
        go_roundw
        case rel => exact ⟨k + 1, rfl, hlt, HW.out, fun j hj h => by
          rcases Nat.lt_or_ge j k with h' | h'
          · exact HA.out.1 j hj h'
          · obtain rfl : j = k := by omega
            rw [← HD.out]; exact HN.out.2⟩
        case measure => simp only [RowKit.intOf]; omega
    · have e : nmsB ds = true := nms_yes fun j hj => hall j hj (by rw [HB.out.2.2] at hj; omega)
      have HE := Lib.hid (And.intro e hbw)
      clear hall e hbw
      go_wp2_with fail
      go_ret
      exact ⟨by rw [HE.out.1]; rfl, HE.out.2⟩
/-- each above the one ahead -/
def Rises (l : List ByteArray) : Prop := ∀ i (h : i + 1 < l.length), l[i].data.toList < l[i + 1].data.toList
open Classical in
noncomputable def riseB (l : List ByteArray) : Bool := decide (Rises l)
open Classical in
theorem rise_no {l : List ByteArray} {k : Nat} (hk : k + 1 < l.length) (h : ¬ l[k].data.toList < l[k + 1].data.toList) : riseB l = false := by unfold riseB; exact decide_eq_false fun hr => h (hr k hk)
open Classical in
theorem rise_yes {l : List ByteArray} (h : ∀ j (hj : j + 1 < l.length), l[j].data.toList < l[j + 1].data.toList) : riseB l = true := by unfold riseB; exact decide_eq_true h
/-- at most, by bytes -/
theorem le_bytes (x y : ByteArray) : (Op.bytesLess x.toList y.toList || x.toList == y.toList) = !decide (y.data.toList < x.data.toList) := by
  rw [bytesLess_eq, Lib.toList_data, Lib.toList_data]
  by_cases h : y.data.toList < x.data.toList
  · rw [decide_eq_true h]
    have h1 : ¬ x.data.toList < y.data.toList := fun h2 => List.lt_irrefl _ (List.lt_trans h h2)
    have h2 : ¬ x.data.toList = y.data.toList := fun e => by rw [e] at h; exact List.lt_irrefl _ h
    rw [decide_eq_false h1, Bool.false_or]
    simpa using h2
  · rw [decide_eq_false h]
    by_cases h1 : x.data.toList < y.data.toList
    · rw [decide_eq_true h1]; rfl
    · have : x.data.toList = y.data.toList := List.le_antisymm (List.not_lt.1 h) (List.not_lt.1 h1)
      rw [decide_eq_false h1, this]; simp
set_option maxHeartbeats 4000000 in
theorem rise_any {a : Option Addr} {n c : Nat} {ds : List ByteArray} {w : World} (hd : Dp w a n ds) (hm : n ≤ 1000000000) :
    Calls Tryz.prog 69 #[.slice a n c] w fun e w' => e = .returned (.bool (riseB ds)) ∧ Below w.heap.size w w' := by
  have HB := Lib.hid (And.intro hd hd.1)
  have hle := le_bytes
  clear hd
  go_enter Tryz.func69, Tryz.ntmps69
  go_wp2_with fail
  go_loopw [3] (fun s3 wr => ∃ m : Nat, s3 = .int .i64 (m : Nat) ∧ 1 ≤ m ∧ (m = 1 ∨ m ≤ n) ∧ Below w.heap.size w wr ∧ ∀ j (h : j + 1 < ds.length), j + 1 < m → ds[j].data.toList < ds[j + 1].data.toList) (fun s3 _ => n - (RowKit.intOf s3).toNat)
  case atStart => exact ⟨1, rfl, Nat.le_refl _, .inl rfl, Below.refl _ _, fun j _ h => absurd h (by omega)⟩
  case round =>
    obtain ⟨m, rfl, hm1, hmn, hbw, hall⟩ := hrel
    obtain ⟨j, hj⟩ : ∃ j, m = j + 1 := ⟨m - 1, by omega⟩
    by_cases hlt : m < n
    · have hkl : m < ds.length := by rw [HB.out.2]; exact hlt
      have hjn : j < n := by omega
      have hjl : j < ds.length := by omega
      have hdw := HB.out.1.old hbw
      rcases hdw.2.2 with h0 | ⟨b, o, rfl, hat⟩
      · omega
      have hc0 := hat j hjl
      have hc1 := hat m hkl
      have HA := Lib.hid (And.intro hall (And.intro hbw (And.intro hmn (And.intro hj hm1))))
      have hltI : (m : Int) < (n : Nat) := by omega
      have hw1 : IntKind.i64.wrap ((m : Int) - 1) = (j : Nat) := by rw [show (m : Int) - 1 = (j : Nat) by omega]; exact IntWalk.i64_in _ (by omega)
      have hll := hle ds[m] ds[j]
      obtain ⟨r, hr⟩ : ∃ r, decide (ds[j].data.toList < ds[m].data.toList) = r := ⟨_, rfl⟩
      rw [hr] at hll
      obtain ⟨x, hx⟩ : ∃ x, x = ds[j] := ⟨_, rfl⟩
      obtain ⟨y, hy⟩ : ∃ x, x = ds[m] := ⟨_, rfl⟩
      rw [← hx] at hc0 hll; rw [← hy] at hc1 hll
      have HR := Lib.hid (show (r = false → riseB ds = false) ∧ (r = true → ∀ i (h : i + 1 < ds.length), i + 1 < m + 1 → ds[i].data.toList < ds[i + 1].data.toList) from by
        subst hj
        refine ⟨fun e => rise_no hkl (by rw [e] at hr; exact of_decide_eq_false hr), fun e i hi h => ?_⟩
        by_cases hij : i = j
        · subst hij; rw [e] at hr; exact of_decide_eq_true hr
        · exact HA.out.1 i hi (by omega))
      clear hall hat hdw hbw hle hr hx hy hj hm1 hmn
      cases r with
      | false =>
        have HE := Lib.hid (HR.out.1 rfl)
        clear HR
        have hcmp : ∀ W, (binOp .leq 9 (.string y) (.string x)).run Tryz.prog W = .ok (.bool true) W := fun W => by have h9 := hll; simp only [Bool.not_false, Bool.not_true] at h9; simp only [binOp, Op.stringOp, h9]; rfl
        clear hll
        go_wp2_with fail
        go_quiet (fail)
        go_wp2_with fail
        go_ret
        exact ⟨by rw [HE.out]; rfl, bdN HA.out.2.1 _⟩
      | true =>
        have HE := Lib.hid (HR.out.2 rfl)
        clear HR
        have hcmp : ∀ W, (binOp .leq 9 (.string y) (.string x)).run Tryz.prog W = .ok (.bool false) W := fun W => by have h9 := hll; simp only [Bool.not_false, Bool.not_true] at h9; simp only [binOp, Op.stringOp, h9]; rfl
        clear hll
        go_wp2_with fail
        go_quiet (fail)
        go_wp2_with fail
        go_roundw
        case rel => exact ⟨m + 1, by simp, by omega, .inr hlt, bdN HA.out.2.1 _, HE.out⟩
        case measure => simp [RowKit.intOf]; omega
    · have e : riseB ds = true := rise_yes fun i hi => hall i hi (by have := HB.out.2; omega)
      have HE := Lib.hid (And.intro e hbw)
      have hltI : ¬ (m : Int) < (n : Nat) := by omega
      clear hall e hbw hle hmn hj
      go_wp2_with fail
      go_ret
      exact ⟨by rw [HE.out.1]; rfl, HE.out.2⟩
/-- each number by itself -/
def inbB (x : Spc) : Bool := decide (0 ≤ x.pr) && decide (x.pr < 4) && spanB x.dl && spanB x.bs && spanB x.cp && decide (1 ≤ x.ls) && spanB x.ls && decide (1 ≤ x.at') && decide (x.at' ≤ 16) && decide (0 ≤ x.ct) && decide (x.ct ≤ 16)
set_option maxHeartbeats 4000000 in
theorem inBounds_any (x : Spc) (w : World) : Calls Tryz.prog 68 #[.agg x.cells] w fun e w' => e = .returned (.bool (inbB x)) ∧ Below w.heap.size w w' := by
  obtain ⟨nm, tn, pr, dl, a, n, c, ds, bs, cp, at', ls, cr, ct⟩ := x
  unfold Spc.cells inbB
  simp only
  obtain ⟨V, hV⟩ : ∃ V, V = w.alloc (.cells #[.string nm, .string tn, .int .i64 pr, .int .i64 dl, .slice a n c, .int .i64 bs, .int .i64 cp, .int .i64 at', .int .i64 ls, .string cr, .int .i64 ct] 40) := ⟨_, rfl⟩
  have hb1 : Below w.heap.size w V := by rw [hV]; exact (Below.refl _ w).alloc (Nat.le_refl _) _
  have hx0 : V.heap[w.heap.size]? = some (.cells #[.string nm, .string tn, .int .i64 pr, .int .i64 dl, .slice a n c, .int .i64 bs, .int .i64 cp, .int .i64 at', .int .i64 ls, .string cr, .int .i64 ct] 40 (0, 0)) := by rw [hV]; exact (MapKept.heap_alloc w _).1
  obtain ⟨⟨l0, l1, l2, l3, l4, l5, l6, l7, l8, l9, l10⟩, _⟩ := eleven hx0
  have q1 := fun W => isSpan14_any dl W
  have q2 := fun W => isSpan14_any bs W
  have q3 := fun W => isSpan14_any cp W
  have q4 := fun W => isSpan14_any ls W
  generalize spanB dl = B1 at q1 ⊢
  generalize spanB bs = B2 at q2 ⊢
  generalize spanB cp = B3 at q3 ⊢
  generalize spanB ls = B4 at q4 ⊢
  obtain ⟨R, hR⟩ : ∃ R, R = (decide (0 ≤ pr) && decide (pr < 4) && B1 && B2 && B3 && decide (1 ≤ ls) && B4 && decide (1 ≤ at') && decide (at' ≤ 16) && decide (0 ≤ ct) && decide (ct ≤ 16)) := ⟨_, rfl⟩
  rw [← hR]
  have HR := Lib.hid hR
  have HB := Lib.hid (And.intro hb1 hV)
  have HQ := Lib.hid (And.intro q1 (And.intro q2 (And.intro q3 q4)))
  clear hR hb1 hV hx0 q1 q2 q3 q4
  go_enter Tryz.func68, Tryz.ntmps68
  have hfin : ∀ r : Bool, r = R → Ending.returned (.bool r) = Ending.returned (.bool R) := fun r h => by rw [h]
  by_cases p1 : 0 ≤ pr
  · by_cases p2 : pr < 4
    · go_wp2_with fail
      rw [← HB.out.2]
      go_wp2_with fail
      refine (HQ.out.1 _).mono ?_
      rintro e w' ⟨rfl, rfl⟩
      cases B1
      · go_wp2_with fail
        go_ret
        exact ⟨hfin _ (by rw [HR.out]; simp [*] <;> omega), HB.out.1⟩
      go_wp2_with fail
      refine (HQ.out.2.1 _).mono ?_
      rintro e w' ⟨rfl, rfl⟩
      cases B2
      · go_wp2_with fail
        go_ret
        exact ⟨hfin _ (by rw [HR.out]; simp [*] <;> omega), HB.out.1⟩
      go_wp2_with fail
      refine (HQ.out.2.2.1 _).mono ?_
      rintro e w' ⟨rfl, rfl⟩
      cases B3
      · go_wp2_with fail
        go_ret
        exact ⟨hfin _ (by rw [HR.out]; simp [*] <;> omega), HB.out.1⟩
      by_cases p3 : 1 ≤ ls
      · go_wp2_with fail
        refine (HQ.out.2.2.2 _).mono ?_
        rintro e w' ⟨rfl, rfl⟩
        cases B4
        · go_wp2_with fail
          go_ret
          exact ⟨hfin _ (by rw [HR.out]; simp [*] <;> omega), HB.out.1⟩
        by_cases p4 : 1 ≤ at'
        · by_cases p5 : at' ≤ 16
          · by_cases p6 : 0 ≤ ct
            · by_cases p7 : ct ≤ 16
              · go_wp2_with fail
                go_ret
                exact ⟨hfin _ (by rw [HR.out]; simp [*] <;> omega), HB.out.1⟩
              · go_wp2_with fail
                go_ret
                exact ⟨hfin _ (by rw [HR.out]; simp [*] <;> omega), HB.out.1⟩
            · go_wp2_with fail
              go_ret
              exact ⟨hfin _ (by rw [HR.out]; simp [*] <;> omega), HB.out.1⟩
          · go_wp2_with fail
            go_ret
            exact ⟨hfin _ (by rw [HR.out]; simp [*] <;> omega), HB.out.1⟩
        · go_wp2_with fail
          go_ret
          exact ⟨hfin _ (by rw [HR.out]; simp [*] <;> omega), HB.out.1⟩
      · go_wp2_with fail
        go_ret
        exact ⟨hfin _ (by rw [HR.out]; simp [*] <;> omega), HB.out.1⟩
    · go_wp2_with fail
      rw [← HB.out.2]
      go_ret
      exact ⟨hfin _ (by rw [HR.out]; simp [*] <;> omega), HB.out.1⟩
  · go_wp2_with fail
    rw [← HB.out.2]
    go_ret
    exact ⟨hfin _ (by rw [HR.out]; simp [*] <;> omega), HB.out.1⟩
end Go.Proofs.YtcodjknhnhdkfaaGreatDoor.Sp
