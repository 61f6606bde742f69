/- reading, told by what it means: with no error the bytes begin with what was read -/
import Derived.Test.YtcodjknhnhdkfaaGreatDoorBr03
import Derived.Test.YtcodjknhnhdkfaaGreatDoorBr01
import Derived.Defers
import Derived.Recover
namespace Go.Proofs.YtcodjknhnhdkfaaGreatDoor.Cm
open Go.RowKit Go.Lib Wn Rf By
set_option linter.unusedVariables false
set_option maxRecDepth 20000
theorem dec_back : ∀ (l : List UInt8) (k X : Nat), (dec k X l).2.2 = 0 → ∃ y, (dec k X l).1 = X + y * 128 ^ k ∧ l = uvarint y ++ (dec k X l).2.1 ∧ (0 < k → 0 < y)
  | [], k, X, h => by simp [dec] at h
  | b :: t, k, X, h => by
    have hb := b.toNat_lt
    by_cases h1 : (k = 9 ∧ 1 < b.toNat) ∨ (0 < k ∧ b.toNat = 0)
    · rw [dec_bad h1] at h; simp at h
    · by_cases h2 : b.toNat < 128
      · rw [dec_last h1 h2]
        refine ⟨b.toNat, by rw [Nat.mod_eq_of_lt h2], ?_, fun hk => by omega⟩
        rw [uvarint_small h2]
        simp
      · rw [dec_more h1 h2] at h ⊢
        obtain ⟨y, e1, e2, e3⟩ := dec_back t (k + 1) _ h
        have hy := e3 (Nat.succ_pos k)
        refine ⟨b.toNat % 128 + y * 128, ?_, ?_, fun _ => by omega⟩
        · rw [e1, Nat.pow_succ, Nat.add_mul, Nat.add_assoc]
          congr 2
          rw [Nat.mul_comm (128 ^ k), Nat.mul_assoc]
        · rw [uvarint_big (by omega), List.cons_append]
          have q1 : (b.toNat % 128 + y * 128) % 128 + 128 = b.toNat := by omega
          have q2 : (b.toNat % 128 + y * 128) / 128 = y := by omega
          rw [q1, q2, ← e2]
          simp
theorem dec_back0 {l : List UInt8} (h : (dec 0 0 l).2.2 = 0) : l = uvarint (dec 0 0 l).1 ++ (dec 0 0 l).2.1 := by
  obtain ⟨y, e1, e2, _⟩ := dec_back l 0 0 h
  have : (dec 0 0 l).1 = y := by rw [e1]; simp
  rw [this]; exact e2
theorem zig_unzig (n : Nat) : zigzag (unzig n) = n := by
  unfold unzig zigzag
  split <;> split <;> omega
theorem unzig_w {n : Nat} (h : U64 n) : Sp.W64 (unzig n) := by
  unfold U64 at h
  unfold Sp.W64 unzig
  simp [Lit.wf, IntKind.min, IntKind.max, IntKind.signed, IntKind.bits]
  split <;> omega
theorem num_r (rb : Nat) (l : List UInt8) (er : Int) (w : World) (h : Rd w rb l er) :
    Calls Tryz.prog 10 #[.pointer (some ⟨rb, 0, none⟩)] w fun e w' => ∃ (x : Nat) (l' : List UInt8) (er' : Int), e = .returned (.int .u64 x) ∧ U64 x ∧ Rd w' rb l' er' ∧ At rb w w' ∧
      (er' = 0 → er = 0 ∧ l = uvarint x ++ l') ∧ ∀ y t, er = 0 → U64 y → l = uvarint y ++ t → er' = 0 := by
  by_cases he : er = 0
  · subst he
    refine (num_ok rb l w h).mono ?_
    rintro e w' ⟨rfl, hr, hA⟩
    refine ⟨_, _, _, rfl, dec_u64 l 0 0 (by omega) (by decide), hr, hA, fun h0 => ⟨rfl, dec_back0 h0⟩, ?_⟩
    rintro y t _ hy rfl
    rw [dec_uv0 hy]
  · refine (num_err rb l er w h he).mono ?_
    rintro e w' ⟨rfl, rfl⟩
    exact ⟨0, l, er, rfl, (by unfold U64; decide), h, At.refl _ _, fun h0 => absurd h0 he, fun _ _ h0 => absurd h0 he⟩
theorem int_r (rb : Nat) (l : List UInt8) (er : Int) (w : World) (h : Rd w rb l er) :
    Calls Tryz.prog 9 #[.pointer (some ⟨rb, 0, none⟩)] w fun e w' => ∃ (x : Int) (l' : List UInt8) (er' : Int), e = .returned (.int .i64 x) ∧ Sp.W64 x ∧ Rd w' rb l' er' ∧ At rb w w' ∧
      (er' = 0 → er = 0 ∧ l = Sp.zz x ++ l') := by
  by_cases he : er = 0
  · subst he
    refine (rint_ok rb l w h).mono ?_
    rintro e w' ⟨rfl, hr, hA⟩
    refine ⟨_, _, _, rfl, unzig_w (dec_u64 l 0 0 (by omega) (by decide)), hr, hA, fun h0 => ⟨rfl, ?_⟩⟩
    unfold Sp.zz
    rw [zig_unzig]
    exact dec_back0 h0
  · refine (rint_err rb l er w h he).mono ?_
    rintro e w' ⟨rfl, rfl⟩
    exact ⟨0, l, er, rfl, (by unfold Sp.W64; decide), h, At.refl _ _, fun h0 => absurd h0 he⟩
theorem cnt_back {m : Nat} {l : List UInt8} (h : (cnt m l).2.2 = 0) : (cnt m l).1 ≤ m ∧ l = uvarint (cnt m l).1 ++ (cnt m l).2.1 := by
  refine ⟨cnt_le m l, ?_⟩
  unfold cnt at h ⊢
  split
  · rename_i hc
    rw [if_pos hc] at h
    exact dec_back0 h
  · rename_i hc
    rw [if_neg hc] at h
    simp at h
theorem count_r (rb : Nat) (l : List UInt8) (er : Int) (m : Nat) (w : World) (h : Rd w rb l er) (hm : m ≤ 1000000000000) :
    Calls Tryz.prog 34 #[.pointer (some ⟨rb, 0, none⟩), .int .i64 m] w fun e w' => ∃ (x : Nat) (l' : List UInt8) (er' : Int), e = .returned (.int .i64 x) ∧ x ≤ m ∧ Rd w' rb l' er' ∧ At rb w w' ∧
      (er' = 0 → er = 0 ∧ l = uvarint x ++ l') ∧ (er' ≠ 0 → x = 0) ∧ ∀ y t, er = 0 → y ≤ m → l = uvarint y ++ t → er' = 0 := by
  by_cases he : er = 0
  · subst he
    refine (count_ok rb l m w h hm).mono ?_
    rintro e w' ⟨rfl, hr, hA⟩
    refine ⟨_, _, _, rfl, cnt_le m l, hr, hA, fun h0 => ⟨rfl, (cnt_back h0).2⟩, fun h0 => (cnt_zero m l h0).1, ?_⟩
    rintro y t _ hy rfl
    have hu : U64 y := by unfold U64; omega
    unfold cnt
    rw [dec_uv0 hu, if_pos hy]
  · refine (count_err rb l er m w h he hm).mono ?_
    rintro e w' ⟨rfl, rfl⟩
    exact ⟨0, l, er, rfl, Nat.zero_le _, h, At.refl _ _, fun h0 => absurd h0 he, fun _ => rfl, fun _ _ h0 => absurd h0 he⟩
theorem text_r (rb : Nat) (l : List UInt8) (er : Int) (m : Nat) (w : World) (h : Rd w rb l er) (hm : m ≤ 1000000000000) :
    Calls Tryz.prog 53 #[.pointer (some ⟨rb, 0, none⟩), .int .i64 m] w fun e w' => ∃ (s : ByteArray) (l' : List UInt8) (er' : Int), e = .returned (.string s) ∧ s.size ≤ m ∧ Rd w' rb l' er' ∧ At rb w w' ∧
      (er' = 0 → er = 0 ∧ l = textB s ++ l') := by
  by_cases he : er = 0
  · subst he
    refine (text_ok rb l m w h hm).mono ?_
    rintro e w' ⟨rfl, hr, hA⟩
    refine ⟨_, _, _, rfl, ?_, hr, hA, fun h0 => ⟨rfl, ?_⟩⟩
    · have := cnt_le m l
      unfold txt
      split
      · exact Nat.zero_le _
      · rw [bytes_size, List.length_take]; omega
    · unfold txt at h0 ⊢
      split
      · rename_i hc
        rw [if_pos hc] at h0
        simp at h0
      · rename_i hc
        rw [if_neg hc] at h0
        have hb := (cnt_back h0).2
        have hs : ((cnt m l).2.1.take (cnt m l).1).length = (cnt m l).1 := by rw [List.length_take]; omega
        unfold textB
        rw [bytes_size, hs, List.append_assoc]
        show l = uvarint _ ++ ((cnt m l).2.1.take _ ++ _)
        rw [List.take_append_drop]
        exact hb
  · refine (text_err rb l er m w h he hm).mono ?_
    rintro e w' ⟨rfl, rfl⟩
    exact ⟨⟨#[]⟩, l, er, rfl, Nat.zero_le _, h, At.refl _ _, fun h0 => absurd h0 he⟩
/-- but for the reader's block nothing that was there has turned -/
structure Ar (rb : Nat) (w w' : World) : Prop where
  os : w'.os = w.os
  tape : w'.tape = w.tape
  output : w'.output = w.output
  size : w.heap.size ≤ w'.heap.size
  block : ∀ k, k < w.heap.size → k ≠ rb → w'.heap[k]? = w.heap[k]?
theorem Ar.refl (rb : Nat) (w : World) : Ar rb w w := ⟨rfl, rfl, rfl, Nat.le_refl _, fun _ _ _ => rfl⟩
theorem _root_.Go.Proofs.YtcodjknhnhdkfaaGreatDoor.Wn.At.ar {rb : Nat} {a b : World} (h : At rb a b) : Ar rb a b := ⟨h.os, h.tape, h.output, Nat.le_of_eq h.size.symm, fun k _ hk => h.block k hk⟩
theorem Ar.trans {rb : Nat} {a b c : World} (h : Ar rb a b) (k : Ar rb b c) : Ar rb a c :=
  ⟨k.os.trans h.os, k.tape.trans h.tape, k.output.trans h.output, Nat.le_trans h.size k.size, fun i hi hn => (k.block i (Nat.lt_of_lt_of_le hi h.size) hn).trans (h.block i hi hn)⟩
theorem Ar.below {rb N : Nat} {a b : World} (h : Ar rb a b) (hN : N ≤ rb) (hs : N ≤ a.heap.size) : Below N a b :=
  ⟨h.os, h.tape, h.output, h.size, fun k hk => h.block k (by omega) (by omega)⟩
theorem Ar.ofBelow {rb : Nat} {a b : World} (h : Below a.heap.size a b) : Ar rb a b := ⟨h.os, h.tape, h.output, h.size, fun k hk _ => h.block k hk⟩
end Go.Proofs.YtcodjknhnhdkfaaGreatDoor.Cm
namespace Go.Proofs.YtcodjknhnhdkfaaGreatDoor.Cm
open Go.RowKit Go.Lib Wn Rf By
set_option linter.unusedVariables false
set_option maxRecDepth 20000
def Get1 {E : Type} (val : E → Value) (enc : E → List UInt8) (Ok : E → Prop) (rb : Nat) (l : List UInt8) (er : Int) (w : World) (e : Ending) (w' : World) : Prop :=
  ∃ (x : E) (l' : List UInt8) (er' : Int), e = .returned (val x) ∧ Rd w' rb l' er' ∧ At rb w w' ∧ (er' = 0 → er = 0 ∧ l = enc x ++ l') ∧ ∀ y t, er = 0 → Ok y → l = enc y ++ t → er' = 0
theorem flat_cut {E : Type} {enc : E → List UInt8} (inj : ∀ x y s t, enc x ++ s = enc y ++ t → x = y ∧ s = t) : ∀ (xs ys : List E) (s t : List UInt8), xs.length ≤ ys.length → xs.flatMap enc ++ s = ys.flatMap enc ++ t → s = (ys.drop xs.length).flatMap enc ++ t
  | [], ys, s, t, _, h => by simpa using h
  | x :: xs, [], s, t, hl, h => by simp at hl
  | x :: xs, y :: ys, s, t, hl, h => by
    simp only [List.flatMap_cons, List.append_assoc] at h
    have := flat_cut inj xs ys s t (by simpa using hl) (inj _ _ _ _ h).2
    simpa using this
theorem uvr_inj (x y : Nat) (s t : List UInt8) (h : uvarint x ++ s = uvarint y ++ t) : x = y ∧ s = t := Sp.uv_inj _ _ _ _ _ (Nat.le_refl _) h
theorem txr_inj (x y : ByteArray) (s t : List UInt8) (h : textB x ++ s = textB y ++ t) : x = y ∧ s = t := Sp.tx_inj h
def valI (x : Nat) : Value := .int .i64 (min x 8 : Nat)
theorem sptext_r (rb : Nat) (l : List UInt8) (er : Int) (w : World) (h : Rd w rb l er) :
    Calls Tryz.prog 37 #[.pointer (some ⟨rb, 0, none⟩)] w (Get1 Value.string textB (fun _ => False) rb l er w) := by
  have H := Lib.hid (text_r rb l er 255 w h (by decide))
  clear h
  go_enter Tryz.func37, Tryz.ntmps37
  go_wp2_with fail
  refine H.out.mono ?_
  rintro e w' ⟨s, l', er', rfl, hx, hr, hA, hb⟩
  have HH := Lib.hid (And.intro hx (And.intro hr (And.intro hA hb)))
  clear hx hr hA hb
  go_wp2_with fail
  go_ret
  exact ⟨s, l', er', rfl, HH.out.2.1, HH.out.2.2.1, HH.out.2.2.2, fun _ _ _ h => h.elim⟩
theorem getSF_idle (p q : Addr) (w : World) :
    CallsD Tryz.prog 64 #[.pointer (some p), .pointer (some q)] .returning w fun e u' w' => e = .returned (.tuple #[]) ∧ u' = .returning ∧ w' = w := by
  refine callsD_of_wpS Tryz.func64 rfl fun c₀ cs hu => ?_
  apply wpS_seq
  apply wpS_region
  simp [wpOpsS, go_sem, recoverD, hu, Tryz.ntmps64, Exit.thenS]
  refine wpS_cond (t := false) (by simp [Act.eval, Array.replicate]) ?_
  simp only [Bool.false_eq_true, if_false]
  refine wpS_of_wp (wp_skip ?_)
  cases c₀
  simp_all [bodyPostS, results, Tryz.results64]
theorem putSF_idle (p q : Addr) (w : World) :
    CallsD Tryz.prog 80 #[.pointer (some p), .pointer (some q)] .returning w fun e u' w' => e = .returned (.tuple #[]) ∧ u' = .returning ∧ w' = w := by
  refine callsD_of_wpS Tryz.func80 rfl fun c₀ cs hu => ?_
  apply wpS_seq
  apply wpS_region
  simp [wpOpsS, go_sem, recoverD, hu, Tryz.ntmps80, Exit.thenS]
  refine wpS_cond (t := false) (by simp [Act.eval, Array.replicate]) ?_
  simp only [Bool.false_eq_true, if_false]
  refine wpS_of_wp (wp_skip ?_)
  cases c₀
  simp_all [bodyPostS, results, Tryz.results80]
end Go.Proofs.YtcodjknhnhdkfaaGreatDoor.Cm
namespace Go.Proofs.YtcodjknhnhdkfaaGreatDoor.Cm
open Go.RowKit Go.Lib Wn Rf By
set_option linter.unusedVariables false
set_option maxRecDepth 20000
/-- a row that may be read -/
def Da {E : Type} (val : E → Value) (w : World) (a : Option Addr) (n : Nat) (xs : List E) : Prop :=
  xs.length = n ∧ (a = none → n = 0) ∧ (n = 0 ∨ ∃ b o, a = some ⟨b, o, none⟩ ∧ ∀ i (h : i < xs.length), w.cell? ⟨b, o + i, none⟩ = some (val xs[i]))
theorem Da.old {E : Type} {val : E → Value} {w w' : World} {a : Option Addr} {n : Nat} {xs : List E} (h : Da val w a n xs) (hb : Below w.heap.size w w') : Da val w' a n xs := by
  refine ⟨h.1, h.2.1, ?_⟩
  rcases h.2.2 with h0 | ⟨b, o, h1, h2⟩
  · exact .inl h0
  · exact .inr ⟨b, o, h1, fun i hi => (hb.cell (World.block_lt_of_cell? w _ (h2 i hi))).trans (h2 i hi)⟩
def iv (x : Int) : Value := .int .i64 x
def ie (x : Int) : List UInt8 := uvarint x.toNat
def iok (x : Int) : Prop := 0 ≤ x ∧ x < 9223372036854775808
theorem _root_.Go.Proofs.YtcodjknhnhdkfaaGreatDoor.Wn.Fr.ofBelow {B pb : Nat} {a b : World} (h : Below a.heap.size a b) (hB : B ≤ a.heap.size) : Fr B pb a b :=
  ⟨h.os, h.tape, h.output, h.size, fun k hk _ => h.block k (by omega), fun k hk _ _ => h.block k hk⟩
theorem _root_.Go.Proofs.YtcodjknhnhdkfaaGreatDoor.Wn.Fr.cell {B pb : Nat} {a b : World} (h : Fr B pb a b) {p : Addr} (hp : p.block < B) (hn : p.block ≠ pb) : b.cell? p = a.cell? p := World.cell?_of_block (w := a) (h.block _ hp hn)
def Put1 (B pb : Nat) (bs : List UInt8) (w : World) (e : Ending) (w' : World) : Prop := e = .returned (.tuple #[]) ∧ Wr B w' pb bs ∧ Fr B pb w w'
theorem text_w (B pb : Nat) (s : ByteArray) (bs : List UInt8) (w : World) (hx : s.size ≤ 1000000000) (hpb : pb < B) (hB : B ≤ w.heap.size) (hw : Wr B w pb bs) (hlen : bs.length ≤ 10000000000) :
    Calls Tryz.prog 49 #[.pointer (some ⟨pb, 0, none⟩), .string s] w (Put1 B pb (bs ++ textB s) w) := wtext_any B pb s bs w hpb hB hw hx (by omega)
theorem int_w (B pb : Nat) (x : Int) (bs : List UInt8) (w : World) (hx : Sp.W64 x) (hpb : pb < B) (hB : B ≤ w.heap.size) (hw : Wr B w pb bs) (hlen : bs.length ≤ 10000000000) :
    Calls Tryz.prog 16 #[.pointer (some ⟨pb, 0, none⟩), .int .i64 x] w (Put1 B pb (bs ++ Sp.zz x) w) := int_any B pb x bs w hx hpb hB hw (by omega)
theorem num_w (B pb : Nat) (x : Nat) (bs : List UInt8) (w : World) (hx : U64 x) (hpb : pb < B) (hB : B ≤ w.heap.size) (hw : Wr B w pb bs) (hlen : bs.length ≤ 10000000000) :
    Calls Tryz.prog 18 #[.pointer (some ⟨pb, 0, none⟩), .int .u64 x] w (Put1 B pb (bs ++ uvarint x) w) := num_any B pb x bs w hx hpb hB hw (by omega)
theorem flat_take {E : Type} (enc : E → List UInt8) (xs : List E) (k : Nat) : ((xs.take k).flatMap enc).length ≤ (xs.flatMap enc).length := by
  have := congrArg (fun l => (l.flatMap enc).length) (List.take_append_drop k xs)
  simp only [List.flatMap_append, List.length_append] at this
  omega
theorem flat_succ {E : Type} (enc : E → List UInt8) {xs : List E} {k : Nat} (h : k < xs.length) : (xs.take (k + 1)).flatMap enc = (xs.take k).flatMap enc ++ enc xs[k] := by
  rw [List.take_succ_eq_append_getElem h, List.flatMap_append]; simp
end Go.Proofs.YtcodjknhnhdkfaaGreatDoor.Cm
namespace Go.Proofs.YtcodjknhnhdkfaaGreatDoor.Cm
open Go.RowKit Go.Lib Wn Rf By
set_option linter.unusedVariables false
set_option maxRecDepth 20000
/-- a command as it came -/
structure Cmd where
  kd : Int
  nm : ByteArray
  wk : ByteArray
  tk : Nat
  vl : Int
  sp : Sp.Spc
structure Req where
  cl : Nat
  nu : Nat
  c : Cmd
def Cmd.cells (c : Cmd) : Array Value := #[.int .i64 c.kd, .string c.nm, .string c.wk, .int .u64 c.tk, .int .i64 c.vl, .string c.sp.nm, .string c.sp.tn, .int .i64 c.sp.pr, .int .i64 c.sp.dl, .slice c.sp.a c.sp.n c.sp.c, .int .i64 c.sp.bs, .int .i64 c.sp.cp, .int .i64 c.sp.at', .int .i64 c.sp.ls, .string c.sp.cr, .int .i64 c.sp.ct]
def Req.cells (q : Req) : Array Value := #[.int .u64 q.cl, .int .u64 q.nu, .int .i64 q.c.kd, .string q.c.nm, .string q.c.wk, .int .u64 q.c.tk, .int .i64 q.c.vl, .string q.c.sp.nm, .string q.c.sp.tn, .int .i64 q.c.sp.pr, .int .i64 q.c.sp.dl, .slice q.c.sp.a q.c.sp.n q.c.sp.c, .int .i64 q.c.sp.bs, .int .i64 q.c.sp.cp, .int .i64 q.c.sp.at', .int .i64 q.c.sp.ls, .string q.c.sp.cr, .int .i64 q.c.sp.ct]
def Cmd.wf (c : Cmd) : Prop := Sp.W64 c.kd ∧ U64 c.tk ∧ Sp.W64 c.vl ∧ c.sp.wf
def Req.wf (q : Req) : Prop := U64 q.cl ∧ U64 q.nu ∧ q.c.wf
def bS (k : Int) : Bool := decide (k = 1)
def bW (k : Int) : Bool := decide (k = 2)
def bN (k : Int) : Bool := decide (3 ≤ k) && decide (k ≤ 8)
def bT (k : Int) : Bool := decide (3 ≤ k) && decide (k ≤ 5)
def bV (k : Int) : Bool := decide (k = 4) || decide (k = 9)
def part (b : Bool) (l : List UInt8) : List UInt8 := if b then l else []
/-- a kind, by its fields -/
inductive Cls (k : Int) : Prop
  | spec (h : k = 1)
  | worker (h : k = 2)
  | two (h : k = 3 ∨ k = 5)
  | three (h : k = 4)
  | name (h : k = 6 ∨ k = 7 ∨ k = 8)
  | value (h : k = 9)
  | none (h : k < 1 ∨ 9 < k)
theorem cls (k : Int) : Cls k := by
  by_cases h1 : k = 1
  · exact .spec h1
  by_cases h2 : k = 2
  · exact .worker h2
  by_cases h3 : k = 3 ∨ k = 5
  · exact .two h3
  by_cases h4 : k = 4
  · exact .three h4
  by_cases h5 : k = 6 ∨ k = 7 ∨ k = 8
  · exact .name h5
  by_cases h6 : k = 9
  · exact .value h6
  · exact .none (by omega)
def tailC (c : Cmd) : List UInt8 := part (bS c.kd) (Sp.specB c.sp) ++ (part (bW c.kd) (textB c.wk) ++ (part (bN c.kd) (textB c.nm) ++ (part (bT c.kd) (uvarint c.tk) ++ part (bV c.kd) (Sp.zz c.vl))))
def cmdB (c : Cmd) : List UInt8 := uvarint c.kd.toNat ++ tailC c
def reqB (q : Req) : List UInt8 := uvarint q.cl ++ (uvarint q.nu ++ cmdB q.c)
def isK (k : Int) : Bool := decide (0 ≤ k) && decide (k ≤ 9)
/-- a spec that is none -/
def zsp : Sp.Spc := ⟨⟨#[]⟩, ⟨#[]⟩, 0, 0, Option.none, 0, 0, [], 0, 0, 0, 0, ⟨#[]⟩, 0⟩
/-- two commands the same, as far as is asked -/
def Cmd.eqv (a b : Cmd) : Prop := a.kd = b.kd ∧ a.nm = b.nm ∧ a.wk = b.wk ∧ a.tk = b.tk ∧ a.vl = b.vl ∧ Sp.specB a.sp = Sp.specB b.sp
/-- with the fields that the kind has; the spec's row is another one -/
def Only (c o : Cmd) : Prop := o.kd = c.kd ∧ o.nm = (if bN c.kd then c.nm else ⟨#[]⟩) ∧ o.wk = (if bW c.kd then c.wk else ⟨#[]⟩) ∧ o.tk = (if bT c.kd then c.tk else 0) ∧ o.vl = (if bV c.kd then c.vl else 0) ∧
  o.sp = (if bS c.kd then { c.sp with a := o.sp.a, c := o.sp.c } else zsp)
theorem part_inj {b : Bool} {x y s t : List UInt8} (hi : ∀ s t, x ++ s = y ++ t → x = y ∧ s = t) (h : part b x ++ s = part b y ++ t) : (b = true → x = y) ∧ s = t := by
  unfold part at h
  cases b with
  | true => simp only [if_true] at h; have := hi _ _ h; exact ⟨fun _ => this.1, this.2⟩
  | false => simp only [Bool.false_eq_true, if_false, List.nil_append] at h; exact ⟨(fun h => by cases h), h⟩
theorem spec_cut {x y : Sp.Spc} (hx : x.ds.length = x.n) (hy : y.ds.length = y.n) {s t : List UInt8} (h : Sp.specB x ++ s = Sp.specB y ++ t) : Sp.specB x = Sp.specB y ∧ s = t := by
  have h0 := h
  unfold Sp.specB Sp.headB Sp.tailB at h
  simp only [List.append_assoc] at h
  obtain ⟨h1, h⟩ := Sp.tx_inj h
  obtain ⟨h2, h⟩ := Sp.tx_inj h
  obtain ⟨h3, h⟩ := Sp.zz_inj h
  obtain ⟨h4, h⟩ := Sp.zz_inj h
  obtain ⟨hn, h⟩ := Sp.uv_inj _ _ _ _ _ (Nat.le_refl _) h
  obtain ⟨h5, h⟩ := Sp.row_inj (by rw [hx, hy, hn]) h
  obtain ⟨h6, h⟩ := Sp.zz_inj h
  obtain ⟨h7, h⟩ := Sp.zz_inj h
  obtain ⟨h8, h⟩ := Sp.zz_inj h
  obtain ⟨h9, h⟩ := Sp.zz_inj h
  obtain ⟨h10, h⟩ := Sp.tx_inj h
  obtain ⟨h11, h⟩ := Sp.zz_inj h
  exact ⟨(Sp.eqv_iff hx hy).1 ⟨h1, h2, h3, h4, h5, h6, h7, h8, h9, h10, h11⟩, h⟩
theorem isK_iff {k : Int} : isK k = true ↔ 0 ≤ k ∧ k ≤ 9 := by unfold isK; simp
/-- the bytes tell what counts, and no more -/
theorem req_iff {p q : Req} {a b : Cmd} (hp : isK p.c.kd = true) (hq : isK q.c.kd = true) (dp : p.c.sp.ds.length = p.c.sp.n) (dq : q.c.sp.ds.length = q.c.sp.n) (ha : Only p.c a) (hb : Only q.c b) :
    reqB p = reqB q ↔ p.cl = q.cl ∧ p.nu = q.nu ∧ a.eqv b := by
  have hp' := isK_iff.1 hp
  have hq' := isK_iff.1 hq
  obtain ⟨a1, a2, a3, a4, a5, a6⟩ := ha
  obtain ⟨b1, b2, b3, b4, b5, b6⟩ := hb
  have sa : ∀ {x y : Sp.Spc}, x = { y with a := x.a, c := x.c } → Sp.specB x = Sp.specB y := fun {x y} h => by rw [h]; rfl
  constructor
  · intro h
    unfold reqB cmdB tailC at h
    obtain ⟨h1, h⟩ := uvr_inj _ _ _ _ h
    obtain ⟨h2, h⟩ := uvr_inj _ _ _ _ h
    obtain ⟨h3, h⟩ := uvr_inj _ _ _ _ h
    have hk : p.c.kd = q.c.kd := by omega
    rw [hk] at h
    obtain ⟨h4, h⟩ := part_inj (fun s t => spec_cut dp dq) h
    obtain ⟨h5, h⟩ := part_inj (fun s t h => let q := Sp.tx_inj h; ⟨by rw [q.1], q.2⟩) h
    obtain ⟨h6, h⟩ := part_inj (fun s t h => let q := Sp.tx_inj h; ⟨by rw [q.1], q.2⟩) h
    obtain ⟨h7, h⟩ := part_inj (fun s t h => let q := uvr_inj _ _ _ _ h; ⟨by rw [q.1], q.2⟩) h
    have h8 : bV q.c.kd = true → Sp.zz p.c.vl = Sp.zz q.c.vl := (part_inj (s := []) (t := []) (fun s t h => let q := Sp.zz_inj h; ⟨by rw [q.1], q.2⟩) (by rw [List.append_nil, List.append_nil]; exact h)).1
    have tx : ∀ {x y : ByteArray}, textB x = textB y → x = y := fun {x y} h => (Sp.tx_inj (s := []) (t := []) (by rw [h])).1
    refine ⟨h1, h2, by rw [a1, b1, hk], ?_, ?_, ?_, ?_, ?_⟩
    · rw [a2, b2, hk]
      split
      · exact tx (h6 ‹_›)
      · rfl
    · rw [a3, b3, hk]
      split
      · exact tx (h5 ‹_›)
      · rfl
    · rw [a4, b4, hk]
      split
      · exact (uvr_inj _ _ [] [] (by rw [h7 ‹_›])).1
      · rfl
    · rw [a5, b5, hk]
      split
      · exact (Sp.zz_inj (s := []) (t := []) (by rw [h8 ‹_›])).1
      · rfl
    · rw [hk] at a6
      cases hs : bS q.c.kd with
      | true => rw [hs, if_pos rfl] at a6 b6; rw [sa a6, sa b6]; exact h4 hs
      | false => rw [hs, if_neg (by simp)] at a6 b6; rw [a6, b6]
  · rintro ⟨h1, h2, h3, h4, h5, h6, h7, h8⟩
    have hk : p.c.kd = q.c.kd := by rw [← a1, ← b1, h3]
    rw [a2, b2, hk] at h4
    rw [a3, b3, hk] at h5
    rw [a4, b4, hk] at h6
    rw [a5, b5, hk] at h7
    rw [hk] at a6
    unfold reqB cmdB tailC part
    rw [h1, h2, hk]
    have e1 : (if bS q.c.kd = true then Sp.specB p.c.sp else []) = if bS q.c.kd = true then Sp.specB q.c.sp else [] := by
      cases hs : bS q.c.kd with
      | true => rw [hs, if_pos rfl] at a6 b6; rw [if_pos rfl, if_pos rfl, ← sa a6, ← sa b6]; exact h8
      | false => rfl
    have e2 : (if bW q.c.kd = true then textB p.c.wk else []) = if bW q.c.kd = true then textB q.c.wk else [] := by
      cases hs : bW q.c.kd with
      | true => rw [hs, if_pos rfl, if_pos rfl] at h5; rw [h5]
      | false => rfl
    have e3 : (if bN q.c.kd = true then textB p.c.nm else []) = if bN q.c.kd = true then textB q.c.nm else [] := by
      cases hs : bN q.c.kd with
      | true => rw [hs, if_pos rfl, if_pos rfl] at h4; rw [h4]
      | false => rfl
    have e4 : (if bT q.c.kd = true then uvarint p.c.tk else []) = if bT q.c.kd = true then uvarint q.c.tk else [] := by
      cases hs : bT q.c.kd with
      | true => rw [hs, if_pos rfl, if_pos rfl] at h6; rw [h6]
      | false => rfl
    have e5 : (if bV q.c.kd = true then Sp.zz p.c.vl else []) = if bV q.c.kd = true then Sp.zz q.c.vl else [] := by
      cases hs : bV q.c.kd with
      | true => rw [hs, if_pos rfl, if_pos rfl] at h7; rw [h7]
      | false => rfl
    rw [e1, e2, e3, e4, e5]
end Go.Proofs.YtcodjknhnhdkfaaGreatDoor.Cm
namespace Go.Proofs.YtcodjknhnhdkfaaGreatDoor.Cm
open Go.RowKit Go.Lib Wn Rf By
set_option linter.unusedVariables false
set_option maxRecDepth 20000
set_option maxHeartbeats 2000000 in
theorem put_s (B pb : Nat) (a : Option Addr) (n c : Nat) (xs : List ByteArray) (bs : List UInt8) (w : World) (hd : Da Value.string w a n xs) (ha : 0 < n → ∀ b o, a = some ⟨b, o, none⟩ → b < B) (hx : ∀ x ∈ xs, x.size ≤ 1000000000) (hpb : pb < B) (hB : B ≤ w.heap.size) (hw : Wr B w pb bs)
    (hlen : bs.length + (xs.flatMap textB).length ≤ 1000000000) (hn : n ≤ 1000000000) :
    Calls Tryz.prog 63 #[.pointer (some ⟨pb, 0, none⟩), .slice a n c, .func (.func 49) #[] #[]] w (Put1 B pb (bs ++ (uvarint n ++ xs.flatMap textB)) w) := by
  have hmf : ∀ (fn : Fn) (first cap : Array Value) (w : World), (Instr.makeFunc fn first cap).run Tryz.prog w = .ok (.func fn first cap) w := fun _ _ _ _ => rfl
  have hu : U64 n := by unfold U64; omega
  have hul := uvarint_length64 hu
  obtain ⟨v0, hp0, hown0⟩ := id hw
  obtain ⟨ao, cp, hao⟩ := own_shape hown0
  subst hao
  have hc0 := cell_of_one hp0
  have hsz := lt_of_block hp0
  obtain ⟨V, hV⟩ : ∃ V, V = (w.alloc (.cells #[.pointer (some ⟨pb, 0, none⟩)] 47)).alloc (.cells #[.int .i64 bs.length] 3) := ⟨_, rfl⟩
  have hb : Below w.heap.size w V := by rw [hV]; exact ((Below.refl _ _).alloc (Nat.le_refl _) _).alloc (by simp) _
  have h3 : V.heap[w.heap.size]? = some (.cells #[.pointer (some ⟨pb, 0, none⟩)] 47 (0, 0)) := by rw [hV]; exact ((Below.refl (w.heap.size + 1) _).alloc (by simp) _ |>.block _ (by omega)).trans (heap_alloc_new w _)
  have hsV : V.heap.size = w.heap.size + 2 := by rw [hV]; simp
  have hwV : Wr B V pb bs := hw.below hb hsz (fun k hk => hk)
  have hat : n = 0 ∨ ∃ b o, a = some ⟨b, o, none⟩ ∧ b < B ∧ b ≠ pb ∧ ∀ i (h : i < xs.length), V.cell? ⟨b, o + i, none⟩ = some (Value.string xs[i]) := by
    rcases hd.2.2 with h0 | ⟨b, o, h1, h2⟩
    · exact .inl h0
    · by_cases h0 : n = 0
      · exact .inl h0
      · refine .inr ⟨b, o, h1, ha (by omega) b o h1, ?_, fun i hi => (hb.cell (World.block_lt_of_cell? w _ (h2 i hi))).trans (h2 i hi)⟩
        rintro rfl
        have q := h2 0 (by rw [hd.1]; omega)
        simp only [World.cell?, hp0] at q
        rcases Nat.eq_zero_or_pos o with z | z
        · subst z; simp at q
        · rw [show (#[Value.slice ao bs.length cp])[o + 0]? = none by simp; omega] at q
          cases q
  have H0 := Lib.hid (num_w B pb n bs V hu hpb (by omega) hwV (by omega))
  have HF0 : Fr B pb w V := Fr.ofBelow hb hB
  have HX := Lib.hid (And.intro hat (And.intro hx (And.intro hd.1 (And.intro HF0 (And.intro hb (And.intro h3 hsV))))))
  clear hat hd hwV hp0 hown0 hw hb HF0 h3
  have hwr : IntKind.u64.wrap (n : Int) = n := by rw [IntKind.wrap_u64]; omega
  go_enter_defers Tryz.func63, Tryz.ntmps63
  go_wp2_with fail
  rw [← hV]
  have HV := Lib.hid hV
  clear hV
  refine H0.out.mono ?_
  rintro e w1 ⟨rfl, hw1, hf1⟩
  have hlt1 := hf1.size
  have b3 : w1.heap[w.heap.size]? = some (.cells #[.pointer (some ⟨pb, 0, none⟩)] 47 (0, 0)) := by
    rw [hf1.more w.heap.size (by omega) (by omega) (fun cur q => by rw [HX.out.2.2.2.2.2.1] at q; simp at q)]
    exact HX.out.2.2.2.2.2.1
  have H1 := Lib.hid (And.intro hw1 hf1)
  clear hw1 hf1 hlt1 b3 H0
  go_wp2_with fail
  go_loopw [24] (fun s24 wr => ∃ k : Nat, s24 = .int .i64 k ∧ k ≤ n ∧ Wr B wr pb (bs ++ (uvarint n ++ (xs.take k).flatMap textB)) ∧ Fr B pb V wr) (fun s24 _ => n - (RowKit.intOf s24).toNat)
  case atStart => exact ⟨0, rfl, Nat.zero_le _, by simpa using H1.out.1, H1.out.2⟩
  case round =>
    obtain ⟨k, rfl, hk, hwk, hfk⟩ := hrel
    have hB' : B ≤ wr.heap.size := by have := hfk.size; omega
    have b3 : wr.heap[w.heap.size]? = some (.cells #[.pointer (some ⟨pb, 0, none⟩)] 47 (0, 0)) := by
      rw [hfk.more w.heap.size (by omega) (by omega) (fun cur q => by rw [HX.out.2.2.2.2.2.1] at q; simp at q)]
      exact HX.out.2.2.2.2.2.1
    have c3 := cell_of_one b3
    clear b3
    by_cases hlt : k < n
    · have hkl : k < xs.length := by rw [HX.out.2.2.1]; exact hlt
      rcases HX.out.1 with h0 | ⟨b, o, rfl, hbB, hbp, hcell⟩
      · omega
      obtain ⟨x, hx'⟩ : ∃ x, x = xs[k] := ⟨_, rfl⟩
      have hc : wr.cell? ⟨b, o + k, none⟩ = some (.string x) := by rw [hfk.cell (p := ⟨b, o + k, none⟩) hbB hbp, hcell k hkl, hx']
      have hxk := HX.out.2.1 x (by rw [hx']; exact List.getElem_mem _)
      have hlk : (bs ++ (uvarint n ++ (xs.take k).flatMap textB)).length ≤ 10000000000 := by
        have := flat_take textB xs k
        simp only [List.length_append]
        omega
      have HE := Lib.hid (text_w B pb x _ wr hxk hpb hB' hwk hlk)
      have HK := Lib.hid (And.intro hfk (And.intro hx' hcell))
      clear hwk hlk hfk hxk hx' hcell hB'
      go_wp2_with fail
      refine HE.out.mono ?_
      rintro e w2 ⟨rfl, hw2, hf2⟩
      have H2 := Lib.hid (And.intro hw2 hf2)
      clear hw2 hf2 HE
      go_wp2_with fail
      go_roundw
      case rel =>
        refine ⟨k + 1, rfl, hlt, ?_, HK.out.1.trans H2.out.2⟩
        rw [flat_succ textB hkl, ← List.append_assoc (uvarint n), ← List.append_assoc bs, ← HK.out.2.1]
        exact H2.out.1
      case measure => simp only [RowKit.intOf]; omega
    · have hkn : k = n := by omega
      subst hkn
      have hto : xs.take k = xs := by rw [List.take_of_length_le]; have := HX.out.2.2.1; omega
      rw [hto] at hwk
      have HZ := Lib.hid (And.intro hwk (HX.out.2.2.2.1.trans hfk))
      clear hwk hfk
      go_wp2_with fail
      refine leaves_cons (f := 80) (args := #[.pointer (some ⟨w.heap.size, 0, none⟩), .pointer (some ⟨w.heap.size + 1, 0, none⟩)]) (by simp) (by simp [go_sem]) ?_
      refine (putSF_idle ⟨w.heap.size, 0, none⟩ ⟨w.heap.size + 1, 0, none⟩ _).mono ?_
      rintro e u' w'' ⟨rfl, rfl, rfl⟩
      simp [Leaves, settle, results, Tryz.results63, go_sem]
      exact ⟨rfl, HZ.out⟩
end Go.Proofs.YtcodjknhnhdkfaaGreatDoor.Cm
namespace Go.Proofs.YtcodjknhnhdkfaaGreatDoor.Cm
open Go.RowKit Go.Lib Wn Rf By
set_option linter.unusedVariables false
set_option maxRecDepth 20000
theorem old_fr {B pb k : Nat} {w w' : World} {cs : Array Value} {t : TypeId} (hf : Fr B pb w w') (h : w.heap[k]? = some (.cells cs t (0, 0))) (ht : t ≠ 5) (hk : k ≠ pb) : w'.heap[k]? = some (.cells cs t (0, 0)) := by
  rw [hf.more k (lt_of_block h) hk (fun cur q => by rw [h] at q; simp only [Option.some.injEq, Obj.cells.injEq] at q; exact ht q.2.1)]
  exact h
set_option maxHeartbeats 4000000 in
theorem spPut_any (B pb : Nat) (x : Sp.Spc) (M0 : List UInt8) (w : World) (hd : Sp.Dp w x.a x.n x.ds) (ha : 0 < x.n → ∀ b o, x.a = some ⟨b, o, none⟩ → b < B) (hwf : x.wf) (hm : x.med) (hpb : pb < B) (hB : B ≤ w.heap.size) (hw : Wr B w pb M0) (hlen : M0.length ≤ 1000000) :
    Calls Tryz.prog 48 #[.pointer (some ⟨pb, 0, none⟩), .agg x.cells] w (Put1 B pb (M0 ++ Sp.specB x) w) := by
  have hres : M0 ++ Sp.specB x = M0 ++ textB x.nm ++ textB x.tn ++ Sp.zz x.pr ++ Sp.zz x.dl ++ (uvarint x.n ++ x.ds.flatMap textB) ++ Sp.zz x.bs ++ Sp.zz x.cp ++ Sp.zz x.at' ++ Sp.zz x.ls ++ textB x.cr ++ Sp.zz x.ct := by
    unfold Sp.specB Sp.headB Sp.tailB Sp.rowB
    simp only [List.append_assoc]
  rw [hres]
  clear hres
  obtain ⟨nm, tn, pr, dl, a, n, c, ds, bs, cp, at', ls, cr, ct⟩ := x
  obtain ⟨w2, w3, w5, w6, w7, w8, w10⟩ := hwf
  obtain ⟨fd, f0, f1, fn, f9, fr⟩ := hm
  simp only at hd ha w2 w3 w5 w6 w7 w8 w10 fd f0 f1 fn f9 fr ⊢
  obtain ⟨V, hV⟩ : ∃ V, V = w.alloc (.cells #[.string nm, .string tn, .int .i64 pr, .int .i64 dl, .slice a n c, .int .i64 bs, .int .i64 cp, .int .i64 at', .int .i64 ls, .string cr, .int .i64 ct] 40) := ⟨_, rfl⟩
  have hb : Below w.heap.size w V := by rw [hV]; exact (Below.refl _ w).alloc (Nat.le_refl _) _
  have hs : V.heap.size = w.heap.size + 1 := by rw [hV]; simp
  have hx0 : V.heap[w.heap.size]? = some (.cells #[.string nm, .string tn, .int .i64 pr, .int .i64 dl, .slice a n c, .int .i64 bs, .int .i64 cp, .int .i64 at', .int .i64 ls, .string cr, .int .i64 ct] 40 (0, 0)) := by rw [hV]; exact heap_alloc_new w _
  have hpw : pb < w.heap.size := by omega
  have hw0 : Wr B V pb M0 := hw.below hb hpw (fun k hk => hk)
  have hF0 : Fr B pb w V := Fr.ofBelow hb hB
  have hu : U64 n := by unfold U64; omega
  have hul := uvarint_length64 hu
  have hul2 : (uvarint n).length ≤ 10 := hul
  have hrow : (ds.flatMap textB).length ≤ 20000 := fr
  have hdV : Da Value.string V a n ds := Sp.Dp.old hd hb
  have HD := Lib.hid (And.intro hdV (And.intro ha fd))
  clear hd hb ha fd hdV hw fr hul hu
  unfold Sp.Spc.cells
  simp only
  have q0 := Lib.hid (show ∀ d ∈ ds, d.size ≤ 1000000000 from fun d hd => by have := HD.out.2.2 d hd; omega)
  have p0 := Lib.hid hw0
  have r0 := Lib.hid hF0
  have S0 := Lib.hid (show B ≤ V.heap.size by omega)
  clear hw0 hF0
  go_enter Tryz.func48, Tryz.ntmps48
  have HC0 := Lib.hid (text_w B pb nm M0 V (by omega) hpb S0.out p0.out (by omega))
  obtain ⟨⟨l0, l1, l2, l3, l4, l5, l6, l7, l8, l9, l10⟩, _⟩ := Sp.eleven hx0
  go_wp2_with fail
  rw [← hV]
  have HV := Lib.hid hV
  clear hV
  refine HC0.out.mono ?_
  rintro e W1 ⟨rfl, hw1, hf1⟩
  obtain ⟨M1, hM1⟩ : ∃ M, M = M0 ++ textB nm := ⟨_, rfl⟩
  rw [← hM1] at hw1
  have g1 : M1.length ≤ 1001010 := by
    rw [hM1, List.length_append]
    have := Sp.text_lenm (s := nm) (by omega)
    omega
  have hx1 := old_fr hf1 hx0 (by decide) (by omega)
  have r1 := Lib.hid (r0.out.trans hf1)
  have r0V_0 := Lib.hid (hf1)
  have S1 := Lib.hid (show B ≤ W1.heap.size from Nat.le_trans S0.out hf1.size)
  have p1 := Lib.hid hw1
  have E1 := Lib.hid hM1
  clear hw1 hf1 hM1 hx0 HC0 l0 l1 l2 l3 l4 l5 l6 l7 l8 l9 l10
  have HC1 := Lib.hid (text_w B pb tn M1 W1 (by omega) hpb S1.out p1.out (by omega))
  obtain ⟨⟨l0, l1, l2, l3, l4, l5, l6, l7, l8, l9, l10⟩, _⟩ := Sp.eleven hx1
  go_wp2_with fail
  refine HC1.out.mono ?_
  rintro e W2 ⟨rfl, hw2, hf2⟩
  obtain ⟨M2, hM2⟩ : ∃ M, M = M1 ++ textB tn := ⟨_, rfl⟩
  rw [← hM2] at hw2
  have g2 : M2.length ≤ 1002020 := by
    rw [hM2, List.length_append]
    have := Sp.text_lenm (s := tn) (by omega)
    omega
  have hx2 := old_fr hf2 hx1 (by decide) (by omega)
  have r2 := Lib.hid (r1.out.trans hf2)
  have r0V_1 := Lib.hid (r0V_0.out.trans hf2)
  have S2 := Lib.hid (show B ≤ W2.heap.size from Nat.le_trans S1.out hf2.size)
  have p2 := Lib.hid hw2
  have E2 := Lib.hid hM2
  clear hw2 hf2 hM2 hx1 HC1 l0 l1 l2 l3 l4 l5 l6 l7 l8 l9 l10
  have HC2 := Lib.hid (int_w B pb pr M2 W2 w2 hpb S2.out p2.out (by omega))
  obtain ⟨⟨l0, l1, l2, l3, l4, l5, l6, l7, l8, l9, l10⟩, _⟩ := Sp.eleven hx2
  go_wp2_with fail
  refine HC2.out.mono ?_
  rintro e W3 ⟨rfl, hw3, hf3⟩
  obtain ⟨M3, hM3⟩ : ∃ M, M = M2 ++ Sp.zz pr := ⟨_, rfl⟩
  rw [← hM3] at hw3
  have g3 : M3.length ≤ 1002030 := by
    rw [hM3, List.length_append]
    have := Sp.zz_len w2
    omega
  have hx3 := old_fr hf3 hx2 (by decide) (by omega)
  have r3 := Lib.hid (r2.out.trans hf3)
  have r0V_2 := Lib.hid (r0V_1.out.trans hf3)
  have S3 := Lib.hid (show B ≤ W3.heap.size from Nat.le_trans S2.out hf3.size)
  have p3 := Lib.hid hw3
  have E3 := Lib.hid hM3
  clear hw3 hf3 hM3 hx2 HC2 l0 l1 l2 l3 l4 l5 l6 l7 l8 l9 l10
  have HC3 := Lib.hid (int_w B pb dl M3 W3 w3 hpb S3.out p3.out (by omega))
  obtain ⟨⟨l0, l1, l2, l3, l4, l5, l6, l7, l8, l9, l10⟩, _⟩ := Sp.eleven hx3
  go_wp2_with fail
  refine HC3.out.mono ?_
  rintro e W4 ⟨rfl, hw4, hf4⟩
  obtain ⟨M4, hM4⟩ : ∃ M, M = M3 ++ Sp.zz dl := ⟨_, rfl⟩
  rw [← hM4] at hw4
  have g4 : M4.length ≤ 1002040 := by
    rw [hM4, List.length_append]
    have := Sp.zz_len w3
    omega
  have hx4 := old_fr hf4 hx3 (by decide) (by omega)
  have r4 := Lib.hid (r3.out.trans hf4)
  have r0V := Lib.hid (r0V_2.out.trans hf4)
  have S4 := Lib.hid (show B ≤ W4.heap.size from Nat.le_trans S3.out hf4.size)
  have p4 := Lib.hid hw4
  have E4 := Lib.hid hM4
  clear hw4 hf4 hM4 hx3 HC3 l0 l1 l2 l3 l4 l5 l6 l7 l8 l9 l10
  have D4 : Da Value.string W4 a n ds := by
    refine ⟨HD.out.1.1, HD.out.1.2.1, ?_⟩
    rcases HD.out.1.2.2 with h0 | ⟨b, o, h1, h2⟩
    · exact .inl h0
    · by_cases h0 : n = 0
      · exact .inl h0
      · refine .inr ⟨b, o, h1, fun i hi => ?_⟩
        have hb' := HD.out.2.1 (by omega) b o h1
        have hne : b ≠ pb := by
          rintro rfl
          obtain ⟨v, hp, hown⟩ := p0.out
          obtain ⟨ao, cpp, rfl⟩ := own_shape hown
          have q := h2 0 (by rw [HD.out.1.1]; omega)
          simp only [World.cell?, hp] at q
          rcases Nat.eq_zero_or_pos o with z | z
          · subst z; simp at q
          · rw [show (#[Value.slice ao M0.length cpp])[o + 0]? = none by simp; omega] at q
            cases q
        rw [r0V.out.cell (p := ⟨b, o + i, none⟩) hb' hne]
        exact h2 i hi
  have HC4 := Lib.hid (put_s B pb a n c ds M4 W4 D4 HD.out.2.1 q0.out hpb S4.out p4.out (by omega) (by omega))
  obtain ⟨⟨l0, l1, l2, l3, l4, l5, l6, l7, l8, l9, l10⟩, _⟩ := Sp.eleven hx4
  go_wp2_with fail
  refine HC4.out.mono ?_
  rintro e W5 ⟨rfl, hw5, hf5⟩
  obtain ⟨M5, hM5⟩ : ∃ M, M = M4 ++ (uvarint n ++ ds.flatMap textB) := ⟨_, rfl⟩
  rw [← hM5] at hw5
  have g5 : M5.length ≤ 1022050 := by
    rw [hM5, List.length_append]
    have : (uvarint n ++ ds.flatMap textB).length ≤ 20010 := by rw [List.length_append]; omega
    omega
  have hx5 := old_fr hf5 hx4 (by decide) (by omega)
  have r5 := Lib.hid (r4.out.trans hf5)
  have S5 := Lib.hid (show B ≤ W5.heap.size from Nat.le_trans S4.out hf5.size)
  have p5 := Lib.hid hw5
  have E5 := Lib.hid hM5
  clear hw5 hf5 hM5 hx4 HC4 l0 l1 l2 l3 l4 l5 l6 l7 l8 l9 l10
  have HC5 := Lib.hid (int_w B pb bs M5 W5 w5 hpb S5.out p5.out (by omega))
  obtain ⟨⟨l0, l1, l2, l3, l4, l5, l6, l7, l8, l9, l10⟩, _⟩ := Sp.eleven hx5
  go_wp2_with fail
  refine HC5.out.mono ?_
  rintro e W6 ⟨rfl, hw6, hf6⟩
  obtain ⟨M6, hM6⟩ : ∃ M, M = M5 ++ Sp.zz bs := ⟨_, rfl⟩
  rw [← hM6] at hw6
  have g6 : M6.length ≤ 1022060 := by
    rw [hM6, List.length_append]
    have := Sp.zz_len w5
    omega
  have hx6 := old_fr hf6 hx5 (by decide) (by omega)
  have r6 := Lib.hid (r5.out.trans hf6)
  have S6 := Lib.hid (show B ≤ W6.heap.size from Nat.le_trans S5.out hf6.size)
  have p6 := Lib.hid hw6
  have E6 := Lib.hid hM6
  clear hw6 hf6 hM6 hx5 HC5 l0 l1 l2 l3 l4 l5 l6 l7 l8 l9 l10
  have HC6 := Lib.hid (int_w B pb cp M6 W6 w6 hpb S6.out p6.out (by omega))
  obtain ⟨⟨l0, l1, l2, l3, l4, l5, l6, l7, l8, l9, l10⟩, _⟩ := Sp.eleven hx6
  go_wp2_with fail
  refine HC6.out.mono ?_
  rintro e W7 ⟨rfl, hw7, hf7⟩
  obtain ⟨M7, hM7⟩ : ∃ M, M = M6 ++ Sp.zz cp := ⟨_, rfl⟩
  rw [← hM7] at hw7
  have g7 : M7.length ≤ 1022070 := by
    rw [hM7, List.length_append]
    have := Sp.zz_len w6
    omega
  have hx7 := old_fr hf7 hx6 (by decide) (by omega)
  have r7 := Lib.hid (r6.out.trans hf7)
  have S7 := Lib.hid (show B ≤ W7.heap.size from Nat.le_trans S6.out hf7.size)
  have p7 := Lib.hid hw7
  have E7 := Lib.hid hM7
  clear hw7 hf7 hM7 hx6 HC6 l0 l1 l2 l3 l4 l5 l6 l7 l8 l9 l10
  have HC7 := Lib.hid (int_w B pb at' M7 W7 w7 hpb S7.out p7.out (by omega))
  obtain ⟨⟨l0, l1, l2, l3, l4, l5, l6, l7, l8, l9, l10⟩, _⟩ := Sp.eleven hx7
  go_wp2_with fail
  refine HC7.out.mono ?_
  rintro e W8 ⟨rfl, hw8, hf8⟩
  obtain ⟨M8, hM8⟩ : ∃ M, M = M7 ++ Sp.zz at' := ⟨_, rfl⟩
  rw [← hM8] at hw8
  have g8 : M8.length ≤ 1022080 := by
    rw [hM8, List.length_append]
    have := Sp.zz_len w7
    omega
  have hx8 := old_fr hf8 hx7 (by decide) (by omega)
  have r8 := Lib.hid (r7.out.trans hf8)
  have S8 := Lib.hid (show B ≤ W8.heap.size from Nat.le_trans S7.out hf8.size)
  have p8 := Lib.hid hw8
  have E8 := Lib.hid hM8
  clear hw8 hf8 hM8 hx7 HC7 l0 l1 l2 l3 l4 l5 l6 l7 l8 l9 l10
  have HC8 := Lib.hid (int_w B pb ls M8 W8 w8 hpb S8.out p8.out (by omega))
  obtain ⟨⟨l0, l1, l2, l3, l4, l5, l6, l7, l8, l9, l10⟩, _⟩ := Sp.eleven hx8
  go_wp2_with fail
  refine HC8.out.mono ?_
  rintro e W9 ⟨rfl, hw9, hf9⟩
  obtain ⟨M9, hM9⟩ : ∃ M, M = M8 ++ Sp.zz ls := ⟨_, rfl⟩
  rw [← hM9] at hw9
  have g9 : M9.length ≤ 1022090 := by
    rw [hM9, List.length_append]
    have := Sp.zz_len w8
    omega
  have hx9 := old_fr hf9 hx8 (by decide) (by omega)
  have r9 := Lib.hid (r8.out.trans hf9)
  have S9 := Lib.hid (show B ≤ W9.heap.size from Nat.le_trans S8.out hf9.size)
  have p9 := Lib.hid hw9
  have E9 := Lib.hid hM9
  clear hw9 hf9 hM9 hx8 HC8 l0 l1 l2 l3 l4 l5 l6 l7 l8 l9 l10
  have HC9 := Lib.hid (text_w B pb cr M9 W9 (by omega) hpb S9.out p9.out (by omega))
  obtain ⟨⟨l0, l1, l2, l3, l4, l5, l6, l7, l8, l9, l10⟩, _⟩ := Sp.eleven hx9
  go_wp2_with fail
  refine HC9.out.mono ?_
  rintro e W10 ⟨rfl, hw10, hf10⟩
  obtain ⟨M10, hM10⟩ : ∃ M, M = M9 ++ textB cr := ⟨_, rfl⟩
  rw [← hM10] at hw10
  have g10 : M10.length ≤ 1023100 := by
    rw [hM10, List.length_append]
    have := Sp.text_lenm (s := cr) (by omega)
    omega
  have hx10 := old_fr hf10 hx9 (by decide) (by omega)
  have r10 := Lib.hid (r9.out.trans hf10)
  have S10 := Lib.hid (show B ≤ W10.heap.size from Nat.le_trans S9.out hf10.size)
  have p10 := Lib.hid hw10
  have E10 := Lib.hid hM10
  clear hw10 hf10 hM10 hx9 HC9 l0 l1 l2 l3 l4 l5 l6 l7 l8 l9 l10
  have HC10 := Lib.hid (int_w B pb ct M10 W10 w10 hpb S10.out p10.out (by omega))
  obtain ⟨⟨l0, l1, l2, l3, l4, l5, l6, l7, l8, l9, l10⟩, _⟩ := Sp.eleven hx10
  go_wp2_with fail
  refine HC10.out.mono ?_
  rintro e W11 ⟨rfl, hw11, hf11⟩
  obtain ⟨M11, hM11⟩ : ∃ M, M = M10 ++ Sp.zz ct := ⟨_, rfl⟩
  rw [← hM11] at hw11
  have g11 : M11.length ≤ 1023110 := by
    rw [hM11, List.length_append]
    have := Sp.zz_len w10
    omega
  have hx11 := old_fr hf11 hx10 (by decide) (by omega)
  have r11 := Lib.hid (r10.out.trans hf11)
  have S11 := Lib.hid (show B ≤ W11.heap.size from Nat.le_trans S10.out hf11.size)
  have p11 := Lib.hid hw11
  have E11 := Lib.hid hM11
  clear hw11 hf11 hM11 hx10 HC10 l0 l1 l2 l3 l4 l5 l6 l7 l8 l9 l10
  go_wp2_with fail
  go_end0
  refine ⟨rfl, ?_, r11.out⟩
  rw [← E1.out, ← E2.out, ← E3.out, ← E4.out, ← E5.out, ← E6.out, ← E7.out, ← E8.out, ← E9.out, ← E10.out, ← E11.out]
  exact p11.out
end Go.Proofs.YtcodjknhnhdkfaaGreatDoor.Cm
