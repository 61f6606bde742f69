
/- expressions: numbers, parts (contracts of the program's small functions) -/
import Derived.Test.YtkkanggkbbmfnaaGreatDoorCnM
import Derived.Test.YtkkanggkbbmfnaaGreatDoorCa2
import Derived.Test.YtkkanggkbbmfnaaGreatDoorLib
namespace Go.Proofs.YtkkanggkbbmfnaaGreatDoor.Cn
open Go.RowKit Go.Lib
set_option linter.unusedVariables false

abbrev S (l : L) : Value := .string ⟨l.toArray⟩
theorem byte_at (l : L) (i : Nat) (h : i < (⟨l.toArray⟩ : ByteArray).size) : (⟨l.toArray⟩ : ByteArray)[i] = l[i]'(by simpa [ByteArray.size] using h) := rfl
theorem size_S (l : L) : (⟨l.toArray⟩ : ByteArray).size = l.length := by simp [ByteArray.size]
def val (l : L) : Nat := l.foldl (fun n b => 10 * n + (b.toNat - 48)) 0
theorem val_snoc (l : L) (b : UInt8) : val (l ++ [b]) = 10 * val l + (b.toNat - 48) := by simp [val, List.foldl_append]
theorem dgT_val {s : L} (h : s.length = 1 ∨ s.length = 2) (ha : s.all isD = true) : dgT s = (val s, true) := by
  match s, h with
  | [a], _ => simp at ha; simp [dgT, ha, val]
  | [a, b], _ => simp at ha; simp [dgT, ha, val]
theorem dgT_bad {s : L} {k : Nat} {b : UInt8} (hk : s[k]? = some b) (hb : isD b = false) : dgT s = (0, false) := by
  match s, k with
  | [], _ => simp at hk
  | [a], 0 => simp at hk; subst hk; simp [dgT, hb]
  | [a], k + 1 => simp at hk
  | [a, c], 0 => simp at hk; subst hk; simp [dgT, hb]
  | [a, c], 1 => simp at hk; subst hk; simp [dgT, hb]
  | [a, c], k + 2 => simp at hk
  | a :: c :: d :: r, _ => rfl
theorem dgT_len {s : L} (h1 : s.length ≠ 1) (h2 : s.length ≠ 2) : dgT s = (0, false) := by
  match s with
  | [] => rfl
  | [a] => simp at h1
  | [a, b] => simp at h2
  | a :: c :: d :: r => rfl
theorem val_le {l : L} (h : l.length ≤ 2) (ha : l.all isD = true) : val l ≤ 99 := by
  match l, h with
  | [], _ => decide
  | [a], _ => simp [isD] at ha; simp [val]; omega
  | [a, b], _ => simp [isD] at ha; simp [val]; omega
theorem isD_iff (b : UInt8) : isD b = true ↔ 48 ≤ b.toNat ∧ b.toNat ≤ 57 := by unfold isD; simp
set_option maxHeartbeats 1000000 in
theorem digits_two (s : L) (N : Nat) (hN : s.length = N) (h : N = 1 ∨ N = 2) (w : World) :
    Calls Tryz.prog 89 #[S s] w fun e w' => e = .returned (.tuple #[.int .i64 ((dgT s).1 : Nat), .bool (dgT s).2]) ∧ w' = w := by
  have hz : (⟨s.toArray⟩ : ByteArray).size = N := by rw [size_S, hN]
  have HS := Lib.hid hN
  clear hN
  rcases h with rfl | rfl
  all_goals
    go_enter Tryz.func89, Tryz.ntmps89
    go_wp2_with fail
    go_loopw [4, 16] (fun n i wr => ∃ k : Nat, n = .int .i64 (val (s.take k) : Nat) ∧ i = .int .i64 (k : Nat) ∧ k ≤ s.length ∧ (s.take k).all isD = true ∧ wr = w) (fun _ i _ => 2 - (RowKit.intOf i).toNat)
    case atStart => exact ⟨0, rfl, rfl, Nat.zero_le _, rfl, rfl⟩
    case round =>
      obtain ⟨k, rfl, rfl, hk, ha, rfl⟩ := hrel
      have hv := val_le (l := s.take k) (by rw [List.length_take, HS.out]; omega) ha
      by_cases hlt : k < s.length
      · rw [HS.out] at hk
        have hkb : (0 : Int) ≤ (k : Nat) ∧ ((k : Nat) : Int) < ((⟨s.toArray⟩ : ByteArray).size : Nat) := by rw [size_S]; omega
        obtain ⟨b, hb⟩ : ∃ b, s[k] = b := ⟨_, rfl⟩
        have hbb : (⟨s.toArray⟩ : ByteArray)[k]'(by rw [size_S]; exact hlt) = b := hb
        have hlt2 := hlt
        rw [HS.out] at hlt2
        have hb8 := b.toNat_lt
        have hget : s[k]? = some b := by rw [List.getElem?_eq_getElem hlt, hb]
        have HG := Lib.hid (And.intro hget (And.intro ha (And.intro hb hlt)))
        clear hget ha hb
        obtain ⟨V, hV⟩ : ∃ V, V = val (s.take k) := ⟨_, rfl⟩
        rw [← hV] at hv
        have HV := Lib.hid hV
        rw [← hV]
        clear hV
        by_cases hd : isD b = true
        · obtain ⟨d1, d2⟩ := (isD_iff b).1 hd
          have HD := Lib.hid hd
          clear hd
          go_wp2_with fail
          refine ⟨⟨k + 1, ?_, by simp, by rw [HS.out]; omega, ?_, trivial⟩, by simp [RowKit.intOf]; omega⟩
          · rw [List.take_add_one, HG.out.1]
            simp only [Option.toList]
            rw [val_snoc, ← HV.out]
            exact congrArg (Value.int .i64) (by omega)
          · rw [List.take_add_one, HG.out.1]
            simp only [Option.toList, List.all_append, HG.out.2.1, Bool.true_and]
            simp [HD.out]
        · have hd' : b.toNat < 48 ∨ 57 < b.toNat := by rw [isD_iff] at hd; omega
          have HD := Lib.hid (Bool.eq_false_iff.2 hd)
          have hres := dgT_bad HG.out.1 HD.out
          clear hd
          go_wp2_with fail
          all_goals
            go_ret2
            (try rw [hres])
            exact ⟨rfl, rfl⟩
      · have hkN : k = s.length := by omega
        have hkN2 := hkN
        rw [HS.out] at hkN2
        rw [hkN, List.take_length] at ha
        have hres := dgT_val (s := s) (by rw [HS.out]; omega) ha
        rw [hkN, List.take_length] at hv
        have e1 : val (s.take k) = val s := by rw [hkN, List.take_length]
        rw [e1]
        clear e1 hk hkN hlt
        subst hkN2
        go_wp2_with fail
        go_ret2
        rw [hres]
        exact ⟨rfl, rfl⟩
theorem digits_any (s : L) (w : World) :
    Calls Tryz.prog 89 #[S s] w fun e w' => e = .returned (.tuple #[.int .i64 ((dgT s).1 : Nat), .bool (dgT s).2]) ∧ w' = w := by
  by_cases h : s.length = 1 ∨ s.length = 2
  · exact digits_two s s.length rfl h w
  · have hz := size_S s
    have h1 : ((s.length : Int) != 1) = true := by simp; omega
    have h2 : ((s.length : Int) != 2) = true := by simp; omega
    have hres := dgT_len (s := s) (by omega) (by omega)
    go_enter Tryz.func89, Tryz.ntmps89
    go_wp2_with fail
    go_ret2
    rw [hres]
    exact ⟨rfl, rfl⟩

/-- a field's value; its cells -/
abbrev fdv (f : Fd) : Value := .agg #[.int .i64 (f.lo : Nat), .int .i64 (f.hi : Nat), S f.nm]
abbrev ptv (p : Pt) : Value := .agg #[.int .i64 (p.1 : Nat), .int .i64 (p.2.1 : Nat), .int .i64 (p.2.2 : Nat)]
theorem nmI_len {s : L} : ∀ {n : L}, s.length ≠ 3 → nmI s n = none
  | [], _ => rfl
  | [a], _ => rfl
  | [a, b], _ => rfl
  | a :: b :: c :: r, h => by
    unfold nmI
    rw [if_neg (fun e => by rw [← e] at h; simp at h), nmI_len h]; rfl
theorem nmI_step {s n : L} {k : Nat} (h : 3 * k + 3 ≤ n.length) :
    nmI s (n.drop (3 * k)) = if (n.drop (3 * k)).take 3 = s then some 0 else (nmI s (n.drop (3 * (k + 1)))).map (· + 1) := by
  obtain ⟨a, b, c, r, e⟩ : ∃ a b c r, n.drop (3 * k) = a :: b :: c :: r := by
    have hl : 3 ≤ (n.drop (3 * k)).length := by rw [List.length_drop]; omega
    match n.drop (3 * k), hl with
    | a :: b :: c :: r, _ => exact ⟨a, b, c, r, rfl⟩
  have e2 : n.drop (3 * (k + 1)) = r := by
    rw [show 3 * (k + 1) = 3 * k + 3 by omega, ← List.drop_drop, e]; rfl
  rw [e, e2]
  rfl
/-- a field whose names are of three letters each -/
structure FOk (f : Fd) : Prop where
  lo : f.lo ≤ 1
  lh : f.lo ≤ f.hi
  hi : f.hi ≤ 59
  nm : f.nm.length ≤ 36
  md : f.nm.length % 3 = 0
theorem fds_ok : ∀ i, FOk (fds i)
  | 0 => ⟨by decide, by decide, by decide, by decide, by decide⟩
  | 1 => ⟨by decide, by decide, by decide, by decide, by decide⟩
  | 2 => ⟨by decide, by decide, by decide, by decide, by decide⟩
  | 3 => ⟨by decide, by decide, by decide, by decide, by decide⟩
  | n + 4 => by show FOk ⟨0, 7, _⟩; exact ⟨by decide, by decide, by decide, by decide, by decide⟩
theorem sub_S (l : L) (a b : Nat) : (⟨l.toArray⟩ : ByteArray).extract a b = ⟨((l.drop a).take (b - a)).toArray⟩ := ByteArray.extract_mk l a b
theorem numT_some {f : Fd} {s : L} {k : Nat} (h : nmI s f.nm = some k) : numT f s = (f.lo + k, true) := by unfold numT; rw [h]
theorem numT_none {f : Fd} {s : L} (h : nmI s f.nm = none) : numT f s = dgT s := by unfold numT; rw [h]
/-- what the names from the k-th one on say -/
def numK (f : Fd) (s : L) (k : Nat) : Nat × Bool := match nmI s (f.nm.drop (3 * k)) with
  | some j => (f.lo + (k + j), true)
  | none => dgT s
theorem numK_zero (f : Fd) (s : L) : numK f s 0 = numT f s := by unfold numK numT; simp; rfl
theorem numK_hit {f : Fd} {s : L} {k : Nat} (h : 3 * k + 3 ≤ f.nm.length) (e : (f.nm.drop (3 * k)).take 3 = s) : numK f s k = (f.lo + k, true) := by
  unfold numK; rw [nmI_step h, if_pos e]; rfl
theorem numK_next {f : Fd} {s : L} {k : Nat} (h : 3 * k + 3 ≤ f.nm.length) (e : (f.nm.drop (3 * k)).take 3 ≠ s) : numK f s k = numK f s (k + 1) := by
  unfold numK; rw [nmI_step h, if_neg e]
  cases nmI s (f.nm.drop (3 * (k + 1))) with
  | none => rfl
  | some j => show (f.lo + (k + (j + 1)), true) = _; rw [show k + (j + 1) = k + 1 + j by omega]
theorem numK_end {f : Fd} {s : L} {k : Nat} (h : f.nm.length ≤ 3 * k) : numK f s k = dgT s := by
  unfold numK; rw [List.drop_eq_nil_iff.2 h]; rfl
set_option maxRecDepth 20000 in
set_option maxHeartbeats 1000000 in
theorem number_any (f : Fd) (hf : FOk f) (s : L) (w : World) :
    Calls Tryz.prog 86 #[fdv f, S s] w fun e w' => e = .returned (.tuple #[.int .i64 ((numT f s).1 : Nat), .bool (numT f s).2]) ∧ Below w.heap.size w w' := by
  have hz := size_S s
  have hzn := size_S f.nm
  by_cases h3 : s.length = 3
  · have h3' : (s.length : Int) = 3 := by omega
    have hlo := hf.lo
    have hnm := hf.nm
    have hmd := hf.md
    go_enter Tryz.func86, Tryz.ntmps86
    go_wp2_with fail
    obtain ⟨W1, hW1⟩ : ∃ W, W = w.alloc (.cells #[.int .i64 (f.lo : Nat), .int .i64 (f.hi : Nat), S f.nm] 77) := ⟨_, rfl⟩
    have hblk : W1.heap[w.heap.size]? = some (.cells #[.int .i64 (f.lo : Nat), .int .i64 (f.hi : Nat), S f.nm] 77 (0, 0)) := by rw [hW1]; exact heap_alloc_new w _
    have hbel : Below w.heap.size w W1 := by rw [hW1]; exact (Below.refl _ _).alloc (Nat.le_refl _) _
    have c0 : W1.cell? ⟨w.heap.size, 0, none⟩ = some (.int .i64 (f.lo : Nat)) := by simp [World.cell?, hblk]
    have c2 : W1.cell? ⟨w.heap.size, 2, none⟩ = some (S f.nm) := by simp [World.cell?, hblk]
    rw [← hW1]
    have HB := Lib.hid (And.intro hbel (And.intro hlo hmd))
    clear hblk hbel hW1 hlo hmd
    go_loopw [6] (fun i wr => ∃ k : Nat, i = .int .i64 ((3 * k : Nat) : Int) ∧ 3 * k ≤ f.nm.length ∧ numK f s k = numT f s ∧ wr = W1) (fun i _ => 40 - (RowKit.intOf i).toNat)
    case atStart => exact ⟨0, rfl, Nat.zero_le _, numK_zero f s, rfl⟩
    case round =>
      obtain ⟨k, rfl, hk, hs, rfl⟩ := hrel
      have HK := Lib.hid hs
      clear hs
      by_cases hlt : 3 * k < f.nm.length
      · have hk3 : 3 * k + 3 ≤ f.nm.length := by have := HB.out.2.2; omega
        have hsl := sub_S f.nm (3 * k) (3 * k + 3)
        rw [show 3 * k + 3 - 3 * k = 3 by omega] at hsl
        have ha : ((3 * k : Nat) : Int).toNat = 3 * k := by omega
        have hb : ((3 * k : Nat) : Int) + 3 = ((3 * k + 3 : Nat) : Int) := by omega
        by_cases e : (f.nm.drop (3 * k)).take 3 = s
        · have HN := Lib.hid (numK_hit hk3 e)
          have hlo := HB.out.2.1
          go_wp2_with fail
          go_ret2
          rw [← HK.out, HN.out]
          exact ⟨by rw [show ((f.lo : Nat) : Int) + ((k : Nat) : Int) = ((f.lo + k : Nat) : Int) by omega]; rfl, HB.out.1⟩
        · have HN := Lib.hid (numK_next hk3 e)
          have he2 : ((f.nm.drop (3 * k)).take 3 == s) = false := by simpa using e
          go_wp2_with fail
          exact ⟨⟨k + 1, congrArg (Value.int .i64) (by omega), by omega, by rw [← HN.out]; exact HK.out, trivial⟩, by simp [RowKit.intOf]; omega⟩
      · have hend := numK_end (s := s) (f := f) (k := k) (by omega)
        go_wp2_with (go_at_call 89; refine (digits_any s _).mono ?_; rintro e w' ⟨rfl, rfl⟩)
        go_ret2
        rw [← HK.out, hend]
        exact ⟨rfl, HB.out.1⟩
  · have h3' : ¬ (s.length : Int) = 3 := by omega
    have hnone := numT_none (nmI_len (s := s) (n := f.nm) h3)
    go_enter Tryz.func86, Tryz.ntmps86
    go_wp2_with (go_at_call 89; refine (digits_any s _).mono ?_; rintro e w' ⟨rfl, rfl⟩)
    go_ret2
    rw [hnone]
    exact ⟨rfl, (Below.refl _ _).alloc (Nat.le_refl _) _⟩

theorem all_any (f : Fd) (w : World) : Calls Tryz.prog 109 #[fdv f] w fun e w' => e = .returned (ptv (f.lo, f.hi, 1)) ∧ Below w.heap.size w w' := by
  go_enter Tryz.func109, Tryz.ntmps109
  go_wp2_with fail
  refine bodyPost_ret (v := ptv (f.lo, f.hi, 1)) ?_ rfl ⟨rfl, ?_⟩
  · rw [Ca.results_c1 rfl]
    go_simp
  · (repeat' (first | exact Below.refl _ _ | refine Below.setCell ?_ (by simp <;> omega) _ | refine Below.alloc ?_ (by simp <;> omega) _))

/-- the variable of the library that a search reads holds some number -/
def Mx (w : World) : Prop := ∃ m, w.cell? ⟨1, 0, none⟩ = some (.int .i64 m)
theorem Mx.old {w w' : World} (h : Mx w) (hb : Below w.heap.size w w') : Mx w' := by
  obtain ⟨m, hm⟩ := h
  exact ⟨m, (hb.cell (World.block_lt_of_cell? _ _ hm)).trans hm⟩
theorem cut_any (s : L) (c : UInt8) (w : World) (hs : s.length ≤ 1000) (hm : Mx w) :
    Calls Tryz.prog 87 #[S s, .string ⟨#[c]⟩] w fun e w' => e = .returned (.tuple #[S (ct c s).1, S (ct c s).2.1, .bool (ct c s).2.2]) ∧ ∃ n, w' = w.drewN n := by
  obtain ⟨m, hm⟩ := hm
  have := Tryz.strings_Cut ⟨s.toArray⟩ ⟨#[c]⟩ m w (by rw [size_S]; omega) hm
  rw [← cut_ct]
  exact this
theorem ct_len (c : UInt8) (s : L) : (ct c s).1.length ≤ s.length ∧ (ct c s).2.1.length ≤ s.length := by
  unfold ct
  cases fi c s with
  | none => simp
  | some i => simp [List.length_take, List.length_drop]; omega
theorem two_new (w : World) (C0 : Array Value) (t0 : TypeId) (C1 : Array Value) (t1 : TypeId) :
    Below w.heap.size w ((w.alloc (.cells C0 t0)).alloc (.cells C1 t1)) ∧ ((w.alloc (.cells C0 t0)).alloc (.cells C1 t1)).heap[w.heap.size]? = some (.cells C0 t0 (0, 0)) ∧
    ((w.alloc (.cells C0 t0)).alloc (.cells C1 t1)).heap[w.heap.size + 1]? = some (.cells C1 t1 (0, 0)) ∧ ((w.alloc (.cells C0 t0)).alloc (.cells C1 t1)).heap.size = w.heap.size + 2 := by
  refine ⟨((Below.refl _ _).alloc (Nat.le_refl _) _).alloc (by simp) _, (Below.heap_alloc _ _ _ (by simp)).trans (heap_alloc_new w _), ?_, by simp⟩
  have := heap_alloc_new (w.alloc (.cells C0 t0)) (.cells C1 t1)
  rwa [World.size_alloc] at this
theorem old_blk {w w' : World} {k : Nat} {o : Obj} (h : Below w.heap.size w w') (e : w.heap[k]? = some o) : w'.heap[k]? = some o := (h.block k (Array.getElem?_eq_some_iff.1 e).1).trans e
theorem three {w : World} {b : Nat} {v0 v1 v2 : Value} {t : TypeId} (h : w.heap[b]? = some (.cells #[v0, v1, v2] t (0, 0))) :
    (w.cell? ⟨b, 0, none⟩ = some v0 ∧ w.cell? ⟨b, 1, none⟩ = some v1 ∧ w.cell? ⟨b, 2, none⟩ = some v2) ∧ w.frozen? ⟨b, 0, none⟩ = false ∧ w.frozen? ⟨b, 1, none⟩ = false ∧ w.frozen? ⟨b, 2, none⟩ = false := by
  refine ⟨⟨?_, ?_, ?_⟩, ?_, ?_, ?_⟩ <;> simp [World.cell?, World.frozen?, h]
theorem span_star (f : Fd) : spanT f [42] = ((f.lo, f.hi, 1), true) := by unfold spanT; rw [if_pos rfl]
theorem span_else {f : Fd} {s : L} (h : s ≠ [42]) : spanT f s = (((numT f (ct 45 s).1).1, (numT f (ct 45 s).2.1).1, 1), (numT f (ct 45 s).1).2 && (numT f (ct 45 s).2.1).2) := by unfold spanT; rw [if_neg h]
set_option maxRecDepth 20000 in
set_option maxHeartbeats 1000000 in
theorem span_any (f : Fd) (hf : FOk f) (s : L) (w : World) (hs : s.length ≤ 1000) (hm : Mx w) :
    Calls Tryz.prog 88 #[fdv f, S s] w fun e w' => e = .returned (.tuple #[ptv (spanT f s).1, .bool (spanT f s).2]) ∧ Below w.heap.size w w' := by
  obtain ⟨V, hV⟩ : ∃ V, V = (w.alloc (.cells #[.int .i64 (f.lo : Nat), .int .i64 (f.hi : Nat), S f.nm] 77)).alloc (.cells #[.int .i64 0, .int .i64 0, .int .i64 0] 104) := ⟨_, rfl⟩
  obtain ⟨b1, b2, b3, b4⟩ := two_new w #[.int .i64 (f.lo : Nat), .int .i64 (f.hi : Nat), S f.nm] 77 #[.int .i64 0, .int .i64 0, .int .i64 0] 104
  rw [← hV] at b1 b2 b3 b4
  have HV := Lib.hid (And.intro b1 (And.intro b2 (And.intro b3 (And.intro b4 (hm.old b1)))))
  have HW := Lib.hid hV
  clear b1 b2 b3 b4 hm hV
  by_cases e : s = [42]
  · subst e
    rw [span_star]
    go_enter Tryz.func88, Tryz.ntmps88
    go_wp2_with fail
    rw [← HW.out]
    refine (all_any f V).mono ?_
    rintro e w1 ⟨rfl, hb⟩
    obtain ⟨⟨r0, r1, r2⟩, z0, z1, z2⟩ := three (old_blk hb HV.out.2.2.1)
    have HB := Lib.hid hb
    clear hb
    go_wp2_with fail
    refine bodyPost_ret (v := .tuple #[ptv (f.lo, f.hi, 1), .bool true]) ?_ rfl ⟨rfl, ?_⟩
    · rw [Ca.results_c2 rfl]
      go_simp
    · exact (((HV.out.1.trans (HB.out.mono HV.out.1.size)).setCell (by simp) _).setCell (by simp) _).setCell (by simp) _
  · have he : (s == [42]) = false := by simpa using e
    rw [span_else e]
    have hc := cut_any s 45 V hs HV.out.2.2.2.2
    generalize ct 45 s = q at *
    obtain ⟨A, B, C⟩ := q
    have hA := number_any f hf A
    have hB := number_any f hf B
    simp only at hc ⊢
    generalize numT f A = na at *
    generalize numT f B = nb at *
    obtain ⟨na, oka⟩ := na
    obtain ⟨nb, okb⟩ := nb
    have HC := Lib.hid (And.intro hc (And.intro hA hB))
    clear hc hA hB
    go_enter Tryz.func88, Tryz.ntmps88
    go_wp2_with fail
    rw [← HW.out]
    refine HC.out.1.mono ?_
    rintro e w0 ⟨rfl, n, rfl⟩
    obtain ⟨⟨c0, c1, c2⟩, _⟩ := three (w := V.drewN n) HV.out.2.1
    go_wp2_with fail
    refine (HC.out.2.1 _).mono ?_
    rintro e w1 ⟨rfl, hb1⟩
    have hb1' : Below V.heap.size V w1 := (below_drewN (Below.refl V.heap.size V) n).trans hb1
    obtain ⟨⟨d0, d1, d2⟩, _⟩ := three (old_blk hb1' HV.out.2.1)
    have H1 := Lib.hid hb1'
    clear hb1 hb1' c0 c1 c2
    go_wp2_with fail
    refine (HC.out.2.2 _).mono ?_
    rintro e w2 ⟨rfl, hb2⟩
    have hb2' := H1.out.trans (hb2.mono H1.out.size)
    obtain ⟨⟨r0, r1, r2⟩, z0, z1, z2⟩ := three (old_blk hb2' HV.out.2.2.1)
    have H2 := Lib.hid hb2'
    clear hb2 hb2' d0 d1 d2
    cases oka
    all_goals
      go_wp2_with fail
      refine bodyPost_ret (v := .tuple #[ptv (na, nb, 1), _]) ?_ rfl ⟨rfl, ?_⟩
      · rw [Ca.results_c2 rfl]
        go_simp
      · exact (((HV.out.1.trans (H2.out.mono HV.out.1.size)).setCell (by simp) _).setCell (by simp) _).setCell (by simp) _
end Go.Proofs.YtkkanggkbbmfnaaGreatDoor.Cn
