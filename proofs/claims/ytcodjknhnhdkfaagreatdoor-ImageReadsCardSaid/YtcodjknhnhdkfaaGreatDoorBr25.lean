/- expressions: numbers, parts (contracts of the program's small functions) -/
import Derived.Test.YtcodjknhnhdkfaaGreatDoorCnM
import Derived.Test.YtcodjknhnhdkfaaGreatDoorBr24
import Derived.Test.YtcodjknhnhdkfaaGreatDoorLib
import Derived.Laws.BitsAllLaws
namespace Go.Proofs.YtcodjknhnhdkfaaGreatDoor.Cn
open Go.RowKit Go.Lib
set_option linter.unusedVariables false

abbrev S (l : L) : Value := .string ⟨l.toArray⟩
theorem byte_at (l : L) (i : Nat) (h : i < (⟨l.toArray⟩ : ByteArray).size) : (⟨l.toArray⟩ : ByteArray)[i] = l[i]'(by simpa [ByteArray.size] using h) := rfl
theorem size_S (l : L) : (⟨l.toArray⟩ : ByteArray).size = l.length := by simp [ByteArray.size]
def val (l : L) : Nat := l.foldl (fun n b => 10 * n + (b.toNat - 48)) 0
theorem val_snoc (l : L) (b : UInt8) : val (l ++ [b]) = 10 * val l + (b.toNat - 48) := by simp [val, List.foldl_append]
theorem dgT_val {s : L} (h : s.length = 1 ∨ s.length = 2) (ha : s.all isD = true) : dgT s = (val s, true) := by
  match s, h with
  | [a], _ => simp at ha; simp [dgT, ha, val]
  | [a, b], _ => simp at ha; simp [dgT, ha, val]
theorem dgT_bad {s : L} {k : Nat} {b : UInt8} (hk : s[k]? = some b) (hb : isD b = false) : dgT s = (0, false) := by
  match s, k with
  | [], _ => simp at hk
  | [a], 0 => simp at hk; subst hk; simp [dgT, hb]
  | [a], k + 1 => simp at hk
  | [a, c], 0 => simp at hk; subst hk; simp [dgT, hb]
  | [a, c], 1 => simp at hk; subst hk; simp [dgT, hb]
  | [a, c], k + 2 => simp at hk
  | a :: c :: d :: r, _ => rfl
theorem dgT_len {s : L} (h1 : s.length ≠ 1) (h2 : s.length ≠ 2) : dgT s = (0, false) := by
  match s with
  | [] => rfl
  | [a] => simp at h1
  | [a, b] => simp at h2
  | a :: c :: d :: r => rfl
theorem val_le {l : L} (h : l.length ≤ 2) (ha : l.all isD = true) : val l ≤ 99 := by
  match l, h with
  | [], _ => decide
  | [a], _ => simp [isD] at ha; simp [val]; omega
  | [a, b], _ => simp [isD] at ha; simp [val]; omega
theorem isD_iff (b : UInt8) : isD b = true ↔ 48 ≤ b.toNat ∧ b.toNat ≤ 57 := by unfold isD; simp
set_option maxHeartbeats 1000000 in
theorem digits_two (s : L) (N : Nat) (hN : s.length = N) (h : N = 1 ∨ N = 2) (w : World) :
    Calls Tryz.prog 147 #[S s] w fun e w' => e = .returned (.tuple #[.int .i64 ((dgT s).1 : Nat), .bool (dgT s).2]) ∧ w' = w := by
  have hz : (⟨s.toArray⟩ : ByteArray).size = N := by rw [size_S, hN]
  have HS := Lib.hid hN
  clear hN
  rcases h with rfl | rfl
  all_goals
    go_enter Tryz.func147, Tryz.ntmps147
    go_wp2_with fail
    go_loopw [4, 16] (fun n i wr => ∃ k : Nat, n = .int .i64 (val (s.take k) : Nat) ∧ i = .int .i64 (k : Nat) ∧ k ≤ s.length ∧ (s.take k).all isD = true ∧ wr = w) (fun _ i _ => 2 - (RowKit.intOf i).toNat)
    case atStart => exact ⟨0, rfl, rfl, Nat.zero_le _, rfl, rfl⟩
    case round =>
      obtain ⟨k, rfl, rfl, hk, ha, rfl⟩ := hrel
      have hv := val_le (l := s.take k) (by rw [List.length_take, HS.out]; omega) ha
      by_cases hlt : k < s.length
      · rw [HS.out] at hk
        have hkb : (0 : Int) ≤ (k : Nat) ∧ ((k : Nat) : Int) < ((⟨s.toArray⟩ : ByteArray).size : Nat) := by rw [size_S]; omega
        obtain ⟨b, hb⟩ : ∃ b, s[k] = b := ⟨_, rfl⟩
        have hbb : (⟨s.toArray⟩ : ByteArray)[k]'(by rw [size_S]; exact hlt) = b := hb
        have hlt2 := hlt
        rw [HS.out] at hlt2
        have hb8 := b.toNat_lt
        have hget : s[k]? = some b := by rw [List.getElem?_eq_getElem hlt, hb]
        have HG := Lib.hid (And.intro hget (And.intro ha (And.intro hb hlt)))
        clear hget ha hb
        obtain ⟨V, hV⟩ : ∃ V, V = val (s.take k) := ⟨_, rfl⟩
        rw [← hV] at hv
        have HV := Lib.hid hV
        rw [← hV]
        clear hV
        by_cases hd : isD b = true
        · obtain ⟨d1, d2⟩ := (isD_iff b).1 hd
          have HD := Lib.hid hd
          clear hd
          go_wp2_with fail
          refine ⟨⟨k + 1, ?_, by simp, by rw [HS.out]; omega, ?_, trivial⟩, by simp [RowKit.intOf]; omega⟩
          · rw [List.take_add_one, HG.out.1]
            simp only [Option.toList]
            rw [val_snoc, ← HV.out]
            exact congrArg (Value.int .i64) (by omega)
          · rw [List.take_add_one, HG.out.1]
            simp only [Option.toList, List.all_append, HG.out.2.1, Bool.true_and]
            simp [HD.out]
        · have hd' : b.toNat < 48 ∨ 57 < b.toNat := by rw [isD_iff] at hd; omega
          have HD := Lib.hid (Bool.eq_false_iff.2 hd)
          have hres := dgT_bad HG.out.1 HD.out
          clear hd
          go_wp2_with fail
          all_goals
            go_ret2
            (try rw [hres])
            exact ⟨rfl, rfl⟩
      · have hkN : k = s.length := by omega
        have hkN2 := hkN
        rw [HS.out] at hkN2
        rw [hkN, List.take_length] at ha
        have hres := dgT_val (s := s) (by rw [HS.out]; omega) ha
        rw [hkN, List.take_length] at hv
        have e1 : val (s.take k) = val s := by rw [hkN, List.take_length]
        rw [e1]
        clear e1 hk hkN hlt
        subst hkN2
        go_wp2_with fail
        go_ret2
        rw [hres]
        exact ⟨rfl, rfl⟩
theorem digits_any (s : L) (w : World) :
    Calls Tryz.prog 147 #[S s] w fun e w' => e = .returned (.tuple #[.int .i64 ((dgT s).1 : Nat), .bool (dgT s).2]) ∧ w' = w := by
  by_cases h : s.length = 1 ∨ s.length = 2
  · exact digits_two s s.length rfl h w
  · have hz := size_S s
    have h1 : ((s.length : Int) != 1) = true := by simp; omega
    have h2 : ((s.length : Int) != 2) = true := by simp; omega
    have hres := dgT_len (s := s) (by omega) (by omega)
    go_enter Tryz.func147, Tryz.ntmps147
    go_wp2_with fail
    go_ret2
    rw [hres]
    exact ⟨rfl, rfl⟩

/-- a field's value; its cells -/
abbrev fdv (f : Fd) : Value := .agg #[.int .i64 (f.lo : Nat), .int .i64 (f.hi : Nat), S f.nm]
abbrev ptv (p : Pt) : Value := .agg #[.int .i64 (p.1 : Nat), .int .i64 (p.2.1 : Nat), .int .i64 (p.2.2 : Nat)]
theorem nmI_len {s : L} : ∀ {n : L}, s.length ≠ 3 → nmI s n = none
  | [], _ => rfl
  | [a], _ => rfl
  | [a, b], _ => rfl
  | a :: b :: c :: r, h => by
    unfold nmI
    rw [if_neg (fun e => by rw [← e] at h; simp at h), nmI_len h]; rfl
theorem nmI_step {s n : L} {k : Nat} (h : 3 * k + 3 ≤ n.length) :
    nmI s (n.drop (3 * k)) = if (n.drop (3 * k)).take 3 = s then some 0 else (nmI s (n.drop (3 * (k + 1)))).map (· + 1) := by
  obtain ⟨a, b, c, r, e⟩ : ∃ a b c r, n.drop (3 * k) = a :: b :: c :: r := by
    have hl : 3 ≤ (n.drop (3 * k)).length := by rw [List.length_drop]; omega
    match n.drop (3 * k), hl with
    | a :: b :: c :: r, _ => exact ⟨a, b, c, r, rfl⟩
  have e2 : n.drop (3 * (k + 1)) = r := by
    rw [show 3 * (k + 1) = 3 * k + 3 by omega, ← List.drop_drop, e]; rfl
  rw [e, e2]
  rfl
/-- a field whose names are of three letters each -/
structure FOk (f : Fd) : Prop where
  lo : f.lo ≤ 1
  lh : f.lo ≤ f.hi
  hi : f.hi ≤ 59
  nm : f.nm.length ≤ 36
  md : f.nm.length % 3 = 0
theorem fds_ok : ∀ i, FOk (fds i)
  | 0 => ⟨by decide, by decide, by decide, by decide, by decide⟩
  | 1 => ⟨by decide, by decide, by decide, by decide, by decide⟩
  | 2 => ⟨by decide, by decide, by decide, by decide, by decide⟩
  | 3 => ⟨by decide, by decide, by decide, by decide, by decide⟩
  | n + 4 => by show FOk ⟨0, 7, _⟩; exact ⟨by decide, by decide, by decide, by decide, by decide⟩
theorem sub_S (l : L) (a b : Nat) : (⟨l.toArray⟩ : ByteArray).extract a b = ⟨((l.drop a).take (b - a)).toArray⟩ := ByteArray.extract_mk l a b
theorem numT_some {f : Fd} {s : L} {k : Nat} (h : nmI s f.nm = some k) : numT f s = (f.lo + k, true) := by unfold numT; rw [h]
theorem numT_none {f : Fd} {s : L} (h : nmI s f.nm = none) : numT f s = dgT s := by unfold numT; rw [h]
/-- what the names from the k-th one on say -/
def numK (f : Fd) (s : L) (k : Nat) : Nat × Bool := match nmI s (f.nm.drop (3 * k)) with
  | some j => (f.lo + (k + j), true)
  | none => dgT s
theorem numK_zero (f : Fd) (s : L) : numK f s 0 = numT f s := by unfold numK numT; simp; rfl
theorem numK_hit {f : Fd} {s : L} {k : Nat} (h : 3 * k + 3 ≤ f.nm.length) (e : (f.nm.drop (3 * k)).take 3 = s) : numK f s k = (f.lo + k, true) := by
  unfold numK; rw [nmI_step h, if_pos e]; rfl
theorem numK_next {f : Fd} {s : L} {k : Nat} (h : 3 * k + 3 ≤ f.nm.length) (e : (f.nm.drop (3 * k)).take 3 ≠ s) : numK f s k = numK f s (k + 1) := by
  unfold numK; rw [nmI_step h, if_neg e]
  cases nmI s (f.nm.drop (3 * (k + 1))) with
  | none => rfl
  | some j => show (f.lo + (k + (j + 1)), true) = _; rw [show k + (j + 1) = k + 1 + j by omega]
theorem numK_end {f : Fd} {s : L} {k : Nat} (h : f.nm.length ≤ 3 * k) : numK f s k = dgT s := by
  unfold numK; rw [List.drop_eq_nil_iff.2 h]; rfl
set_option maxRecDepth 20000 in
set_option maxHeartbeats 1000000 in
theorem number_any (f : Fd) (hf : FOk f) (s : L) (w : World) :
    Calls Tryz.prog 144 #[fdv f, S s] w fun e w' => e = .returned (.tuple #[.int .i64 ((numT f s).1 : Nat), .bool (numT f s).2]) ∧ Below w.heap.size w w' := by
  have hz := size_S s
  have hzn := size_S f.nm
  by_cases h3 : s.length = 3
  · have h3' : (s.length : Int) = 3 := by omega
    have hlo := hf.lo
    have hnm := hf.nm
    have hmd := hf.md
    go_enter Tryz.func144, Tryz.ntmps144
    go_wp2_with fail
    obtain ⟨W1, hW1⟩ : ∃ W, W = w.alloc (.cells #[.int .i64 (f.lo : Nat), .int .i64 (f.hi : Nat), S f.nm] 164) := ⟨_, rfl⟩
    have hblk : W1.heap[w.heap.size]? = some (.cells #[.int .i64 (f.lo : Nat), .int .i64 (f.hi : Nat), S f.nm] 164 (0, 0)) := by rw [hW1]; exact heap_alloc_new w _
    have hbel : Below w.heap.size w W1 := by rw [hW1]; exact (Below.refl _ _).alloc (Nat.le_refl _) _
    have c0 : W1.cell? ⟨w.heap.size, 0, none⟩ = some (.int .i64 (f.lo : Nat)) := by simp [World.cell?, hblk]
    have c2 : W1.cell? ⟨w.heap.size, 2, none⟩ = some (S f.nm) := by simp [World.cell?, hblk]
    rw [← hW1]
    have HB := Lib.hid (And.intro hbel (And.intro hlo hmd))
    clear hblk hbel hW1 hlo hmd
    go_loopw [6] (fun i wr => ∃ k : Nat, i = .int .i64 ((3 * k : Nat) : Int) ∧ 3 * k ≤ f.nm.length ∧ numK f s k = numT f s ∧ wr = W1) (fun i _ => 40 - (RowKit.intOf i).toNat)
    case atStart => exact ⟨0, rfl, Nat.zero_le _, numK_zero f s, rfl⟩
    case round =>
      obtain ⟨k, rfl, hk, hs, rfl⟩ := hrel
      have HK := Lib.hid hs
      clear hs
      by_cases hlt : 3 * k < f.nm.length
      · have hk3 : 3 * k + 3 ≤ f.nm.length := by have := HB.out.2.2; omega
        have hsl := sub_S f.nm (3 * k) (3 * k + 3)
        rw [show 3 * k + 3 - 3 * k = 3 by omega] at hsl
        have ha : ((3 * k : Nat) : Int).toNat = 3 * k := by omega
        have hb : ((3 * k : Nat) : Int) + 3 = ((3 * k + 3 : Nat) : Int) := by omega
        by_cases e : (f.nm.drop (3 * k)).take 3 = s
        · have HN := Lib.hid (numK_hit hk3 e)
          have hlo := HB.out.2.1
          go_wp2_with fail
          go_ret2
          rw [← HK.out, HN.out]
          exact ⟨by rw [show ((f.lo : Nat) : Int) + ((k : Nat) : Int) = ((f.lo + k : Nat) : Int) by omega]; rfl, HB.out.1⟩
        · have HN := Lib.hid (numK_next hk3 e)
          have he2 : ((f.nm.drop (3 * k)).take 3 == s) = false := by simpa using e
          go_wp2_with fail
          exact ⟨⟨k + 1, congrArg (Value.int .i64) (by omega), by omega, by rw [← HN.out]; exact HK.out, trivial⟩, by simp [RowKit.intOf]; omega⟩
      · have hend := numK_end (s := s) (f := f) (k := k) (by omega)
        go_wp2_with (go_at_call 147; refine (digits_any s _).mono ?_; rintro e w' ⟨rfl, rfl⟩)
        go_ret2
        rw [← HK.out, hend]
        exact ⟨rfl, HB.out.1⟩
  · have h3' : ¬ (s.length : Int) = 3 := by omega
    have hnone := numT_none (nmI_len (s := s) (n := f.nm) h3)
    go_enter Tryz.func144, Tryz.ntmps144
    go_wp2_with (go_at_call 147; refine (digits_any s _).mono ?_; rintro e w' ⟨rfl, rfl⟩)
    go_ret2
    rw [hnone]
    exact ⟨rfl, (Below.refl _ _).alloc (Nat.le_refl _) _⟩

theorem all_any (f : Fd) (w : World) : Calls Tryz.prog 156 #[fdv f] w fun e w' => e = .returned (ptv (f.lo, f.hi, 1)) ∧ Below w.heap.size w w' := by
  go_enter Tryz.func156, Tryz.ntmps156
  go_wp2_with fail
  refine bodyPost_ret (v := ptv (f.lo, f.hi, 1)) ?_ rfl ⟨rfl, ?_⟩
  · rw [Ca.results_c1 rfl]
    go_simp
  · (repeat' (first | exact Below.refl _ _ | refine Below.setCell ?_ (by simp <;> omega) _ | refine Below.alloc ?_ (by simp <;> omega) _))

/-- the variable of the library that a search reads holds some number -/
def Mx (w : World) : Prop := ∃ m, w.cell? ⟨1, 0, none⟩ = some (.int .i64 m)
theorem Mx.old {w w' : World} (h : Mx w) (hb : Below w.heap.size w w') : Mx w' := by
  obtain ⟨m, hm⟩ := h
  exact ⟨m, (hb.cell (World.block_lt_of_cell? _ _ hm)).trans hm⟩
theorem cut_any (s : L) (c : UInt8) (w : World) (hs : s.length ≤ 1000) (hm : Mx w) :
    Calls Tryz.prog 145 #[S s, .string ⟨#[c]⟩] w fun e w' => e = .returned (.tuple #[S (ct c s).1, S (ct c s).2.1, .bool (ct c s).2.2]) ∧ ∃ n, w' = w.drewN n := by
  obtain ⟨m, hm⟩ := hm
  have := Tryz.strings_Cut ⟨s.toArray⟩ ⟨#[c]⟩ m w (by rw [size_S]; omega) hm
  rw [← cut_ct]
  exact this
theorem ct_len (c : UInt8) (s : L) : (ct c s).1.length ≤ s.length ∧ (ct c s).2.1.length ≤ s.length := by
  unfold ct
  cases fi c s with
  | none => simp
  | some i => simp [List.length_take, List.length_drop]; omega
theorem two_new (w : World) (C0 : Array Value) (t0 : TypeId) (C1 : Array Value) (t1 : TypeId) :
    Below w.heap.size w ((w.alloc (.cells C0 t0)).alloc (.cells C1 t1)) ∧ ((w.alloc (.cells C0 t0)).alloc (.cells C1 t1)).heap[w.heap.size]? = some (.cells C0 t0 (0, 0)) ∧
    ((w.alloc (.cells C0 t0)).alloc (.cells C1 t1)).heap[w.heap.size + 1]? = some (.cells C1 t1 (0, 0)) ∧ ((w.alloc (.cells C0 t0)).alloc (.cells C1 t1)).heap.size = w.heap.size + 2 := by
  refine ⟨((Below.refl _ _).alloc (Nat.le_refl _) _).alloc (by simp) _, (Below.heap_alloc _ _ _ (by simp)).trans (heap_alloc_new w _), ?_, by simp⟩
  have := heap_alloc_new (w.alloc (.cells C0 t0)) (.cells C1 t1)
  rwa [World.size_alloc] at this
theorem old_blk {w w' : World} {k : Nat} {o : Obj} (h : Below w.heap.size w w') (e : w.heap[k]? = some o) : w'.heap[k]? = some o := (h.block k (Array.getElem?_eq_some_iff.1 e).1).trans e
theorem three {w : World} {b : Nat} {v0 v1 v2 : Value} {t : TypeId} (h : w.heap[b]? = some (.cells #[v0, v1, v2] t (0, 0))) :
    (w.cell? ⟨b, 0, none⟩ = some v0 ∧ w.cell? ⟨b, 1, none⟩ = some v1 ∧ w.cell? ⟨b, 2, none⟩ = some v2) ∧ w.frozen? ⟨b, 0, none⟩ = false ∧ w.frozen? ⟨b, 1, none⟩ = false ∧ w.frozen? ⟨b, 2, none⟩ = false := by
  refine ⟨⟨?_, ?_, ?_⟩, ?_, ?_, ?_⟩ <;> simp [World.cell?, World.frozen?, h]
theorem span_star (f : Fd) : spanT f [42] = ((f.lo, f.hi, 1), true) := by unfold spanT; rw [if_pos rfl]
theorem span_else {f : Fd} {s : L} (h : s ≠ [42]) : spanT f s = (((numT f (ct 45 s).1).1, (numT f (ct 45 s).2.1).1, 1), (numT f (ct 45 s).1).2 && (numT f (ct 45 s).2.1).2) := by unfold spanT; rw [if_neg h]
set_option maxRecDepth 20000 in
set_option maxHeartbeats 1000000 in
theorem span_any (f : Fd) (hf : FOk f) (s : L) (w : World) (hs : s.length ≤ 1000) (hm : Mx w) :
    Calls Tryz.prog 146 #[fdv f, S s] w fun e w' => e = .returned (.tuple #[ptv (spanT f s).1, .bool (spanT f s).2]) ∧ Below w.heap.size w w' := by
  obtain ⟨V, hV⟩ : ∃ V, V = (w.alloc (.cells #[.int .i64 (f.lo : Nat), .int .i64 (f.hi : Nat), S f.nm] 164)).alloc (.cells #[.int .i64 0, .int .i64 0, .int .i64 0] 199) := ⟨_, rfl⟩
  obtain ⟨b1, b2, b3, b4⟩ := two_new w #[.int .i64 (f.lo : Nat), .int .i64 (f.hi : Nat), S f.nm] 164 #[.int .i64 0, .int .i64 0, .int .i64 0] 199
  rw [← hV] at b1 b2 b3 b4
  have HV := Lib.hid (And.intro b1 (And.intro b2 (And.intro b3 (And.intro b4 (hm.old b1)))))
  have HW := Lib.hid hV
  clear b1 b2 b3 b4 hm hV
  by_cases e : s = [42]
  · subst e
    rw [span_star]
    go_enter Tryz.func146, Tryz.ntmps146
    go_wp2_with fail
    rw [← HW.out]
    refine (all_any f V).mono ?_
    rintro e w1 ⟨rfl, hb⟩
    obtain ⟨⟨r0, r1, r2⟩, z0, z1, z2⟩ := three (old_blk hb HV.out.2.2.1)
    have HB := Lib.hid hb
    clear hb
    go_wp2_with fail
    refine bodyPost_ret (v := .tuple #[ptv (f.lo, f.hi, 1), .bool true]) ?_ rfl ⟨rfl, ?_⟩
    · rw [Ca.results_c2 rfl]
      go_simp
    · exact (((HV.out.1.trans (HB.out.mono HV.out.1.size)).setCell (by simp) _).setCell (by simp) _).setCell (by simp) _
  · have he : (s == [42]) = false := by simpa using e
    rw [span_else e]
    have hc := cut_any s 45 V hs HV.out.2.2.2.2
    generalize ct 45 s = q at *
    obtain ⟨A, B, C⟩ := q
    have hA := number_any f hf A
    have hB := number_any f hf B
    simp only at hc ⊢
    generalize numT f A = na at *
    generalize numT f B = nb at *
    obtain ⟨na, oka⟩ := na
    obtain ⟨nb, okb⟩ := nb
    have HC := Lib.hid (And.intro hc (And.intro hA hB))
    clear hc hA hB
    go_enter Tryz.func146, Tryz.ntmps146
    go_wp2_with fail
    rw [← HW.out]
    refine HC.out.1.mono ?_
    rintro e w0 ⟨rfl, n, rfl⟩
    obtain ⟨⟨c0, c1, c2⟩, _⟩ := three (w := V.drewN n) HV.out.2.1
    go_wp2_with fail
    refine (HC.out.2.1 _).mono ?_
    rintro e w1 ⟨rfl, hb1⟩
    have hb1' : Below V.heap.size V w1 := (below_drewN (Below.refl V.heap.size V) n).trans hb1
    obtain ⟨⟨d0, d1, d2⟩, _⟩ := three (old_blk hb1' HV.out.2.1)
    have H1 := Lib.hid hb1'
    clear hb1 hb1' c0 c1 c2
    go_wp2_with fail
    refine (HC.out.2.2 _).mono ?_
    rintro e w2 ⟨rfl, hb2⟩
    have hb2' := H1.out.trans (hb2.mono H1.out.size)
    obtain ⟨⟨r0, r1, r2⟩, z0, z1, z2⟩ := three (old_blk hb2' HV.out.2.2.1)
    have H2 := Lib.hid hb2'
    clear hb2 hb2' d0 d1 d2
    cases oka
    all_goals
      go_wp2_with fail
      refine bodyPost_ret (v := .tuple #[ptv (na, nb, 1), _]) ?_ rfl ⟨rfl, ?_⟩
      · rw [Ca.results_c2 rfl]
        go_simp
      · exact (((HV.out.1.trans (H2.out.mono HV.out.1.size)).setCell (by simp) _).setCell (by simp) _).setCell (by simp) _
end Go.Proofs.YtcodjknhnhdkfaaGreatDoor.Cn
namespace Go.Proofs.YtcodjknhnhdkfaaGreatDoor.Cn
open Go.RowKit Go.Lib
set_option linter.unusedVariables false

theorem below_set3 {B b : Nat} {a w : World} (h : Below B a w) (hb : B ≤ b) (x y z : Value) : Below B a (((w.setCell ⟨b, 0, none⟩ x).setCell ⟨b, 1, none⟩ y).setCell ⟨b, 2, none⟩ z) :=
  ((h.setCell (p := ⟨b, 0, none⟩) hb _).setCell (p := ⟨b, 1, none⟩) hb _).setCell (p := ⟨b, 2, none⟩) hb _
theorem read_num {f : Fd} {s : L} {n : Nat} (h : numT f s = (n, true)) : readT f s = ((n, n, 1), true) := by unfold readT; rw [h]; rfl
theorem read_no {f : Fd} {s A B : L} {C : Bool} {n : Nat} {p : Pt} {ok : Bool} (h : numT f s = (n, false)) (hc : ct 47 s = (A, B, C)) (hp : spanT f A = (p, ok)) :
    readT f s = if ok && C then ((p.1, p.2.1, (dgT B).1), (dgT B).2) else (p, ok) := by
  unfold readT; rw [h, hc]; simp only [hp]; rfl
set_option maxRecDepth 20000 in
set_option maxHeartbeats 2000000 in
theorem read_any (f : Fd) (hf : FOk f) (s : L) (w : World) (hs : s.length ≤ 1000) (hm : Mx w) :
    Calls Tryz.prog 124 #[fdv f, S s] w fun e w' => e = .returned (.tuple #[ptv (readT f s).1, .bool (readT f s).2]) ∧ Below w.heap.size w w' := by
  obtain ⟨V, hV⟩ : ∃ V, V = (w.alloc (.cells #[.int .i64 (f.lo : Nat), .int .i64 (f.hi : Nat), S f.nm] 164)).alloc (.cells #[.int .i64 0, .int .i64 0, .int .i64 0] 199) := ⟨_, rfl⟩
  obtain ⟨b1, b2, b3, b4⟩ := two_new w #[.int .i64 (f.lo : Nat), .int .i64 (f.hi : Nat), S f.nm] 164 #[.int .i64 0, .int .i64 0, .int .i64 0] 199
  rw [← hV] at b1 b2 b3 b4
  have HV := Lib.hid (And.intro b1 (And.intro b2 (And.intro b3 (And.intro b4 (hm.old b1)))))
  have HW := Lib.hid hV
  clear b1 b2 b3 b4 hm hV
  have hN := number_any f hf s
  generalize hn : numT f s = nn at hN
  obtain ⟨n, okn⟩ := nn
  have HN := Lib.hid hN
  clear hN
  cases okn
  · have hc := fun W => cut_any s 47 W hs
    obtain ⟨l1, l2⟩ := ct_len 47 s
    generalize hct : ct 47 s = q at hc l1 l2
    obtain ⟨A, B, C⟩ := q
    simp only at l1 l2
    have hsp := fun W => span_any f hf A W (by omega)
    generalize hspt : spanT f A = q at hsp
    obtain ⟨⟨p0, p1, p2⟩, okp⟩ := q
    have hdg := fun W => digits_any B W
    rw [read_no hn hct hspt]
    generalize dgT B = q at hdg ⊢
    obtain ⟨d, okd⟩ := q
    have HC := Lib.hid (And.intro hc (And.intro hsp hdg))
    clear hc hsp hdg hn hct hspt l1 l2
    go_enter Tryz.func124, Tryz.ntmps124
    go_wp2_with fail
    rw [← HW.out]
    refine (HN.out V).mono ?_
    rintro e w1 ⟨rfl, hb1⟩
    have H1 := Lib.hid hb1
    clear hb1
    go_wp2_with fail
    refine (HC.out.1 w1 (HV.out.2.2.2.2.old H1.out)).mono ?_
    rintro e w0 ⟨rfl, m, rfl⟩
    obtain ⟨⟨c0, c1, c2⟩, _⟩ := three (w := w1.drewN m) (old_blk (below_drewN H1.out m) HV.out.2.1)
    go_wp2_with fail
    refine (HC.out.2.1 _ ((HV.out.2.2.2.2.old H1.out).old (below_drewN (Below.refl _ _) m))).mono ?_
    rintro e w2 ⟨rfl, hb2⟩
    have hb2' : Below V.heap.size V w2 := H1.out.trans (((below_drewN (Below.refl w1.heap.size w1) m).trans hb2).mono H1.out.size)
    obtain ⟨⟨r0, r1, r2⟩, z0, z1, z2⟩ := three (old_blk hb2' HV.out.2.2.1)
    have hlt : w.heap.size + 1 < w2.heap.size := by have := hb2'.size; have := HV.out.2.2.2.1; omega
    have H2 := Lib.hid (HV.out.1.trans (hb2'.mono HV.out.1.size))
    clear hb2 hb2' c0 c1 c2
    cases okp
    · go_wp2_with fail
      refine bodyPost_ret (v := .tuple #[ptv (p0, p1, p2), .bool false]) ?_ rfl ⟨rfl, ?_⟩
      · rw [Ca.results_c2 rfl]
        go_simp
      · exact (below_set3 H2.out (Nat.le_succ _) _ _ _).alloc (by simp; have := H2.out.size; omega) _
    · cases C
      · go_wp2_with fail
        refine bodyPost_ret (v := .tuple #[ptv (p0, p1, p2), .bool true]) ?_ rfl ⟨rfl, ?_⟩
        · rw [Ca.results_c2 rfl]
          go_simp
        · exact (below_set3 H2.out (Nat.le_succ _) _ _ _).alloc (by simp; have := H2.out.size; omega) _
      · go_wp2_with (go_at_call 147; refine (HC.out.2.2 _).mono ?_; rintro e w' ⟨rfl, rfl⟩)
        refine bodyPost_ret (v := .tuple #[ptv (p0, p1, d), .bool okd]) ?_ rfl ⟨rfl, ?_⟩
        · rw [Ca.results_c2 rfl]
          go_simp
        · exact (below_set3 H2.out (Nat.le_succ _) _ _ _).alloc (by simp; have := H2.out.size; omega) _
  · rw [read_num hn]
    go_enter Tryz.func124, Tryz.ntmps124
    go_wp2_with fail
    rw [← HW.out]
    refine (HN.out V).mono ?_
    rintro e w1 ⟨rfl, hb1⟩
    obtain ⟨⟨r0, r1, r2⟩, z0, z1, z2⟩ := three (old_blk hb1 HV.out.2.2.1)
    have H1 := Lib.hid hb1
    clear hb1
    go_wp2_with fail
    refine bodyPost_ret (v := .tuple #[ptv (n, n, 1), .bool true]) ?_ rfl ⟨rfl, ?_⟩
    · rw [Ca.results_c2 rfl]
      go_simp
    · exact (((HV.out.1.trans (H1.out.mono HV.out.1.size)).setCell (by simp) _).setCell (by simp) _).setCell (by simp) _

set_option maxRecDepth 20000 in
set_option maxHeartbeats 2000000 in
theorem may_any (f : Fd) (p : Pt) (w : World) :
    Calls Tryz.prog 125 #[fdv f, ptv p] w fun e w' => e = .returned (.bool (mayB f p)) ∧ Below w.heap.size w w' := by
  obtain ⟨p0, p1, p2⟩ := p
  obtain ⟨B, hB⟩ : ∃ B, B = mayB f (p0, p1, p2) := ⟨_, rfl⟩
  rw [← hB]
  go_enter Tryz.func125, Tryz.ntmps125
  have HB := Lib.hid hB
  clear hB
  go_wp2_with fail
  all_goals
    go_ret
    refine ⟨congrArg Ending.returned (congrArg Value.bool ?_), ((Below.refl _ _).alloc (Nat.le_refl _) _).alloc (by simp) _⟩
    rw [HB.out, Bool.eq_iff_iff]
    simp [mayB]
    omega
theorem nat_mk {n : Nat} (h : n < 18446744073709551616) : n = mk (fun x => n.testBit x) := mk_eq h fun x _ => rfl
theorem mk_or (p q : Nat → Bool) : mk p ||| mk q = mk (fun x => p x || q x) := by
  refine mk_eq (Nat.or_lt_two_pow (n := 64) (mk_lt p) (mk_lt q)) fun x hx => ?_
  rw [Nat.testBit_or, mk_bit, mk_bit]; simp [hx]
theorem two_mk {K : Nat} (h : K < 64) : 2 ^ K = mk (fun x => decide (x = K)) := by
  refine mk_eq (Nat.pow_lt_pow_right (by decide) h) fun x hx => ?_
  rw [Nat.testBit_two_pow]
  exact decide_eq_decide.2 eq_comm
theorem mk_none {p : Nat → Bool} (h : ∀ x, p x = false) : mk p = 0 := (mk_eq (by decide) fun x _ => by rw [h x]; exact Nat.zero_testBit x).symm
theorem inP_step {p0 p1 p2 k K : Nat} (hK : p0 + k * p2 = K) (hle : K ≤ p1) (h64 : p1 < 64) (h2 : 1 ≤ p2) :
    mk (fun x => inP (p0, p1, p2) x && decide (x < K)) ||| 2 ^ K = mk (fun x => inP (p0, p1, p2) x && decide (x < p0 + (k + 1) * p2)) := by
  rw [two_mk (by omega), mk_or]
  refine mk_congr fun x hx => ?_
  have hsucc : p0 + (k + 1) * p2 = K + p2 := by rw [Nat.add_mul]; omega
  rw [hsucc, Bool.eq_iff_iff]
  simp only [inP, Bool.or_eq_true, Bool.and_eq_true, decide_eq_true_eq]
  constructor
  · rintro (⟨h, h3⟩ | rfl)
    · exact ⟨h, by omega⟩
    · refine ⟨⟨⟨by omega, hle⟩, ?_⟩, by omega⟩
      rw [← hK, Nat.add_sub_cancel_left, Nat.mul_mod_left]
  · rintro ⟨⟨⟨h3, h4⟩, h5⟩, h6⟩
    by_cases hlt : x < K
    · exact .inl ⟨⟨⟨h3, h4⟩, h5⟩, hlt⟩
    · refine .inr ?_
      have e : x - p0 = k * p2 + (x - K) := by omega
      rw [e, Nat.add_comm, Nat.add_mul_mod_self_right, Nat.mod_eq_of_lt (by omega)] at h5
      omega
theorem inP_end {p0 p1 p2 K : Nat} (h : p1 < K) : mk (fun x => inP (p0, p1, p2) x && decide (x < K)) = mk (inP (p0, p1, p2)) := by
  refine mk_congr fun x _ => ?_
  rw [Bool.eq_iff_iff]
  simp only [inP, Bool.and_eq_true, decide_eq_true_eq]
  exact ⟨fun h => h.1, fun h => ⟨h, by omega⟩⟩
set_option maxRecDepth 20000 in
set_option maxHeartbeats 2000000 in
theorem values_any (p : Pt) (h0 : p.1 ≤ 99) (h1 : p.2.1 ≤ 59) (h2 : 1 ≤ p.2.2) (h3 : p.2.2 ≤ 60) (w : World) :
    Calls Tryz.prog 126 #[ptv p] w fun e w' => e = .returned (.int .u64 (mk (inP p) : Nat)) ∧ Below w.heap.size w w' := by
  obtain ⟨p0, p1, p2⟩ := p
  simp only at h0 h1 h2 h3
  obtain ⟨R, hR⟩ : ∃ R, R = mk (inP (p0, p1, p2)) := ⟨_, rfl⟩
  rw [← hR]
  obtain ⟨V, hV⟩ : ∃ V, V = w.alloc (.cells #[.int .i64 (p0 : Nat), .int .i64 (p1 : Nat), .int .i64 (p2 : Nat)] 199) := ⟨_, rfl⟩
  have hb : Below w.heap.size w V := by rw [hV]; exact (Below.refl _ _).alloc (Nat.le_refl _) _
  have hg : V.heap[w.heap.size]? = some (.cells #[.int .i64 (p0 : Nat), .int .i64 (p1 : Nat), .int .i64 (p2 : Nat)] 199 (0, 0)) := by rw [hV]; exact heap_alloc_new w _
  obtain ⟨⟨c0, c1, c2⟩, _⟩ := three hg
  have HV := Lib.hid (And.intro hV (And.intro hb hR))
  clear hV hb hg hR
  go_enter Tryz.func126, Tryz.ntmps126
  go_wp2_with fail
  rw [← HV.out.1]
  go_loopw [3, 4] (fun a n wr => ∃ k : Nat, a = .int .u64 (mk (fun x => inP (p0, p1, p2) x && decide (x < p0 + k * p2)) : Nat) ∧ n = .int .i64 ((p0 + k * p2 : Nat) : Int) ∧ p0 + k * p2 ≤ 160 ∧ wr = V) (fun _ n _ => 161 - (RowKit.intOf n).toNat)
  case atStart =>
    refine ⟨0, ?_, by simp, by omega, rfl⟩
    rw [mk_none (fun x => ?_)]
    · rfl
    · simp [inP]; omega
  case round =>
    obtain ⟨k, rfl, rfl, hk, rfl⟩ := hrel
    by_cases hlt : p0 + k * p2 ≤ p1
    · have hml := mk_lt (fun x => inP (p0, p1, p2) x && decide (x < p0 + k * p2))
      have hst := inP_step rfl hlt (by omega) h2
      have hsx : p0 + (k + 1) * p2 = p0 + k * p2 + p2 := by rw [Nat.add_mul]; omega
      generalize hM : mk (fun x => inP (p0, p1, p2) x && decide (x < p0 + k * p2)) = M at hml hst ⊢
      generalize hK : p0 + k * p2 = K at *
      have h5 : 2 ^ K < 2 ^ 64 := Nat.pow_lt_pow_right (by decide) (by omega)
      have e2 : (2 : Int) ^ K = ((2 ^ K : Nat) : Int) := by rw [Int.natCast_pow]; rfl
      have hpw : IntKind.u64.wrap ((2 : Int) ^ K) = (2 : Int) ^ K := by
        rw [e2]
        generalize 2 ^ K = Z at h5
        exact IntWalk.u64_in _ (by omega)
      have hor : bits .or .u64 (M : Int) ((2 : Int) ^ K) = ((M ||| 2 ^ K : Nat) : Int) := by rw [e2]; exact u64_or_nat _ _ hml h5
      clear h5 e2
      have HM := Lib.hid (And.intro hst (And.intro hsx hor))
      clear hM hst hsx hor
      go_wp2_with fail
      rw [HM.out.2.2]
      exact ⟨⟨k + 1, by rw [← HM.out.1], congrArg (Value.int .i64) (by rw [HM.out.2.1]; omega), by rw [HM.out.2.1]; omega, trivial⟩, by simp [RowKit.intOf]; omega⟩
    · have he := inP_end (p0 := p0) (p2 := p2) (p1 := p1) (K := p0 + k * p2) (by omega)
      rw [he, ← HV.out.2.2]
      generalize hK : p0 + k * p2 = K at *
      go_wp2_with fail
      go_ret
      exact ⟨rfl, HV.out.2.1⟩

theorem bit_at (n x : Nat) (hn : n < 18446744073709551616) : (bits .and .u64 ((n : Int) / 2 ^ (min x 64)) 1 == 1) = n.testBit x := by
  have e2 : (2 : Int) ^ (min x 64) = ((2 ^ (min x 64) : Nat) : Int) := by rw [Int.natCast_pow]; rfl
  have e3 : (n : Int) / ((2 ^ (min x 64) : Nat) : Int) = ((n / 2 ^ (min x 64) : Nat) : Int) := (Int.natCast_ediv _ _).symm
  have hle : n / 2 ^ (min x 64) < 18446744073709551616 := Nat.lt_of_le_of_lt (Nat.div_le_self _ _) hn
  rw [e2, e3, show (1 : Int) = ((1 : Nat) : Int) from rfl, u64_and_nat _ _ hle (by decide), nat_mask1, Nat.testBit_eq_decide_div_mod_eq]
  by_cases h : x ≤ 64
  · rw [Nat.min_eq_left h]
    generalize n / 2 ^ x % 2 = Z
    by_cases hz : Z = 1
    · subst hz; rfl
    · rw [decide_eq_false hz, beq_eq_false_iff_ne]; omega
  · have h64 : (2 : Nat) ^ 64 ≤ 2 ^ x := Nat.pow_le_pow_right (by decide) (by omega)
    rw [Nat.min_eq_right (by omega), Nat.div_eq_of_lt hn, Nat.div_eq_of_lt (Nat.lt_of_lt_of_le hn h64)]
    rfl
theorem mk_and (p q : Nat → Bool) : mk p &&& mk q = mk (fun x => p x && q x) := by
  refine mk_eq (Nat.lt_of_le_of_lt Nat.and_le_left (mk_lt p)) fun x hx => ?_
  rw [Nat.testBit_and, mk_bit, mk_bit]; simp [hx]
theorem fold_bits (p : Nat → Bool) : (mk p &&& (18446744073709551615 - 128)) ||| (mk p / 128 &&& 1) = mk (fold p) := by
  have e1 : 18446744073709551615 - 128 = mk (fun x => !decide (x = 7)) := by decide +kernel
  have e2 : mk p / 128 &&& 1 = mk (fun x => decide (x = 0) && p 7) := by
    refine mk_eq (Nat.lt_of_le_of_lt Nat.and_le_right (by decide)) fun x hx => ?_
    rw [Nat.testBit_and, show (128 : Nat) = 2 ^ 7 from rfl, Nat.testBit_div_two_pow, mk_bit]
    by_cases h : x = 0
    · subst h; simp
    · have : (1 : Nat).testBit x = false := by rw [Nat.testBit_lt_two_pow]; exact Nat.one_lt_two_pow h
      rw [this]; simp [h]
  rw [e1, e2, mk_and, mk_or]
  rfl
theorem folded_any (p : Nat → Bool) (w : World) :
    Calls Tryz.prog 103 #[.int .u64 (mk p : Nat)] w fun e w' => e = .returned (.int .u64 (mk (fold p) : Nat)) ∧ w' = w := by
  have hl := mk_lt p
  have hf := fold_bits p
  have e1 : ((mk p : Nat) : Int) / 128 = ((mk p / 128 : Nat) : Int) := (Int.natCast_ediv _ _).symm
  have h1 : bits .andNot .u64 ((mk p : Nat) : Int) 128 = ((mk p &&& (18446744073709551615 - 128) : Nat) : Int) := u64_andNot_nat _ 128 hl (by decide)
  have h2 : bits .and .u64 ((mk p : Nat) : Int) 1 = ((mk p &&& 1 : Nat) : Int) := u64_and_nat _ 1 hl (by decide)
  have h3 : bits .and .u64 (((mk p : Nat) : Int) / 128) 1 = ((mk p / 128 &&& 1 : Nat) : Int) := by rw [e1]; exact u64_and_nat _ 1 (Nat.lt_of_le_of_lt (Nat.div_le_self _ _) hl) (by decide)
  have h4 : bits .or .u64 ((mk p &&& (18446744073709551615 - 128) : Nat) : Int) ((mk p / 128 &&& 1 : Nat) : Int) = ((mk (fold p) : Nat) : Int) := by
    rw [← hf]
    exact u64_or_nat _ _ (Nat.lt_of_le_of_lt Nat.and_le_left hl) (Nat.lt_of_le_of_lt Nat.and_le_right (by decide))
  have H := Lib.hid (And.intro h1 (And.intro h3 h4))
  clear h1 h2 h3 h4 e1 hf
  go_enter Tryz.func103, Tryz.ntmps103
  go_wp2_with fail
  go_ret
  refine ⟨?_, rfl⟩
  show Ending.returned (Value.int IntKind.u64 (bits BinOp.or IntKind.u64 (bits BinOp.andNot IntKind.u64 ((mk p : Nat) : Int) 128) (bits BinOp.and IntKind.u64 (((mk p : Nat) : Int) / 128) 1))) = _
  rw [H.out.1, H.out.2.1, H.out.2.2]
end Go.Proofs.YtcodjknhnhdkfaaGreatDoor.Cn
