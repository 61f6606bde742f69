/- who is next: how a row lies; New, lineOf, first -/
import Derived.Test.YtcodjknhnhdkfaaGreatDoorBrNxM
import Derived.Test.YtcodjknhnhdkfaaGreatDoorBr13
import Derived.Test.YtcodjknhnhdkfaaGreatDoorBr02
import Derived.Shelf.Abstract
namespace Go.Proofs.YtcodjknhnhdkfaaGreatDoor.Nx
open Go.RowKit Go.Lib Go.Sort Hp HpE
set_option linter.unusedVariables false
set_option linter.unusedSectionVars false
set_option maxRecDepth 20000
/-- a line: none, or a heap -/
def Ln (T : Nat → Prop) (w : World) (v : Value) (m : List (K × Int)) : Prop := (v = .pointer none ∧ m = []) ∨ ∃ h, v = .pointer (some ⟨h, 0, none⟩) ∧ Hv T w h m
theorem Ln.kept {T : Nat → Prop} {w Y : World} {v : Value} {m : List (K × Int)} (h : Ln T w v m) (hs : w.heap.size ≤ Y.heap.size) (e : ∀ k, T k → Y.heap[k]? = w.heap[k]?) : Ln T Y v m := by
  rcases h with h | ⟨b, h1, h2⟩
  · exact .inl h
  · exact .inr ⟨b, h1, h2.kept hs e⟩
theorem Ln.perm {T : Nat → Prop} {w : World} {v : Value} {m m' : List (K × Int)} (h : Ln T w v m) (e : m.Perm m') : Ln T w v m' := by
  rcases h with ⟨h1, rfl⟩ | ⟨b, h1, h2⟩
  · exact .inl ⟨h1, e.nil_eq.symm⟩
  · exact .inr ⟨b, h1, h2.perm e⟩
theorem Ln.shape {T : Nat → Prop} {w : World} {v : Value} {m : List (K × Int)} (h : Ln T w v m) : ∃ a, v = .pointer a := by
  rcases h with ⟨h1, _⟩ | ⟨b, h1, _⟩
  · exact ⟨_, h1⟩
  · exact ⟨_, h1⟩
/-- a row: its lines, all apart -/
structure Rq (w : World) (rb : Nat) (p : Nat → Value) (T : Nat → Nat → Prop) (M : List O) : Prop where
  obj : w.heap[rb]? = some (.cells #[p 0, p 1, p 2, p 3] 110 (0, 0))
  line : ∀ i, i < 4 → Ln (T i) w (p i) (lin M i)
  apart : ∀ i j k, i < 4 → j < 4 → T i k → T j k → i = j
  away : ∀ i k, i < 4 → T i k → k ≠ rb
  size : ∀ i k, i < 4 → T i k → k < w.heap.size
  pri : ∀ x ∈ M, x.2.1 < 4
  nodup : (M.map (·.1)).Nodup
  keys : ∀ x ∈ M, wk x.1
/-- a row's blocks -/
def bk (rb : Nat) (T : Nat → Nat → Prop) (k : Nat) : Prop := k = rb ∨ ∃ i, i < 4 ∧ T i k
theorem Rq.lt {w : World} {rb : Nat} {p : Nat → Value} {T : Nat → Nat → Prop} {M : List O} (h : Rq w rb p T M) : rb < w.heap.size := (Array.getElem?_eq_some_iff.1 h.obj).1
theorem Rq.kept {w Y : World} {rb : Nat} {p : Nat → Value} {T : Nat → Nat → Prop} {M : List O} (h : Rq w rb p T M) (hs : w.heap.size ≤ Y.heap.size) (e : ∀ k, bk rb T k → Y.heap[k]? = w.heap[k]?) : Rq Y rb p T M where
  obj := (e rb (.inl rfl)).trans h.obj
  line i hi := (h.line i hi).kept hs fun k hk => e k (.inr ⟨i, hi, hk⟩)
  apart := h.apart
  away := h.away
  size i k hi hk := Nat.lt_of_lt_of_le (h.size i k hi hk) hs
  pri := h.pri
  nodup := h.nodup
  keys := h.keys
theorem Rq.blt {w : World} {rb : Nat} {p : Nat → Value} {T : Nat → Nat → Prop} {M : List O} (h : Rq w rb p T M) : ∀ k, bk rb T k → k < w.heap.size := by
  rintro k (rfl | ⟨i, hi, hk⟩)
  · exact h.lt
  · exact h.size i k hi hk
theorem Rq.old {w Y : World} {rb : Nat} {p : Nat → Value} {T : Nat → Nat → Prop} {M : List O} (h : Rq w rb p T M) (e : Below w.heap.size w Y) : Rq Y rb p T M := h.kept e.size fun k hk => e.block k (h.blt k hk)
theorem Rq.perm {w : World} {rb : Nat} {p : Nat → Value} {T : Nat → Nat → Prop} {M M' : List O} (h : Rq w rb p T M) (e : M.Perm M') : Rq w rb p T M' where
  obj := h.obj
  line i hi := (h.line i hi).perm (lin_perm e i)
  apart := h.apart
  away := h.away
  size := h.size
  pri x hx := h.pri x (e.mem_iff.2 hx)
  nodup := (e.map _).nodup_iff.1 h.nodup
  keys x hx := h.keys x (e.mem_iff.2 hx)
section
variable {T : Nat → Prop} {w : World} {v : Value} {m : List (K × Int)}
theorem rank_ln (h : Ln T w v m) {k : K} (hk : wk k) :
    Calls Tryz.prog 127 #[v, ek k] w fun e w' => ((k ∉ m.map (·.1) ∧ e = .returned (.tuple #[.int .u64 0, .bool false])) ∨ (∃ r, (k, r) ∈ m ∧ e = .returned (.tuple #[er r, .bool true]))) ∧ Below w.heap.size w w' := by
  rcases h with ⟨rfl, rfl⟩ | ⟨b, rfl, h⟩
  · refine (rank_nil w k).mono ?_
    rintro e w' ⟨rfl, hb⟩
    exact ⟨.inl ⟨by simp, rfl⟩, hb⟩
  · exact rank_any h hk
end
section
variable {w : World} {rb : Nat} {p : Nat → Value} {T : Nat → Nat → Prop} {M : List O}
theorem Rq.cells (h : Rq w rb p T M) : w.cell? ⟨rb, 0, none⟩ = some (p 0) ∧ w.cell? ⟨rb, 1, none⟩ = some (p 1) ∧ w.cell? ⟨rb, 2, none⟩ = some (p 2) ∧ w.cell? ⟨rb, 3, none⟩ = some (p 3) := by
  refine ⟨?_, ?_, ?_, ?_⟩ <;> (rw [cell_of_row w rb _ _ _ _ h.obj]; rfl)
theorem ix (p : Nat → Value) {i : Nat} (hi : i < 4) (W : World) : (Instr.index 108 (.agg #[p 0, p 1, p 2, p 3]) (.int .i64 ((i : Nat) : Int))).run Tryz.prog W = .ok (p i) W := by
  rcases (by omega : i = 0 ∨ i = 1 ∨ i = 2 ∨ i = 3) with rfl | rfl | rfl | rfl <;> kernel_rfl
theorem wrap4 {i : Nat} (hi : i < 4) : wrap64 (((i : Nat) : Int) + 1) = ((i + 1 : Nat) : Int) := by unfold wrap64; omega
set_option maxHeartbeats 1000000 in
theorem lineOf_any (h : Rq w rb p T M) {k : K} (hk : wk k) : Calls Tryz.prog 104 #[.pointer (some ⟨rb, 0, none⟩), ek k] w fun e w' =>
    ((∃ i, i < 4 ∧ k ∈ (lin M i).map (·.1) ∧ e = .returned (p i)) ∨ (k ∉ M.map (·.1) ∧ e = .returned (.pointer none))) ∧ Below w.heap.size w w' := by
  obtain ⟨c0, c1, c2, c3⟩ := h.cells
  have H := Lib.hid h
  have HK := Lib.hid hk
  clear h hk
  obtain ⟨kv, hkv⟩ : ∃ v, v = ek k := ⟨_, rfl⟩
  rw [← hkv]
  have HV := Lib.hid hkv
  clear hkv
  go_enter Tryz.func104, Tryz.ntmps104
  go_wp2_with fail
  go_loopw [15] (fun s wr => ∃ i : Nat, s = .int .i64 ((i : Nat) : Int) ∧ i ≤ 4 ∧ (∀ j, j < i → k ∉ (lin M j).map (·.1)) ∧ Below w.heap.size w wr) (fun s _ => 4 - (RowKit.intOf s).toNat)
  case atStart => exact ⟨0, rfl, by omega, fun j hj => absurd hj (by omega), Below.refl _ _⟩
  case round =>
    obtain ⟨i, rfl, hi, hno, hb⟩ := hrel
    by_cases hlt : i < 4
    · have hx := fun W => ix p hlt W
      have hR := rank_ln ((H.out.old hb).line i hlt) HK.out
      rw [← HV.out] at hR
      have hw := wrap4 hlt
      have hlt' : ((i : Nat) : Int) < 4 := by omega
      have HB := Lib.hid (And.intro hno (And.intro hb (And.intro hlt hi)))
      clear hno hb hlt hi
      go_wp2_with fail
      refine hR.mono ?_
      rintro e w1 ⟨hr, hb1⟩
      have H1 := Lib.hid (HB.out.2.1.trans (hb1.mono HB.out.2.1.size))
      clear hb1 hR
      rcases hr with ⟨h1, rfl⟩ | ⟨r, h1, rfl⟩
      · have h1' := Lib.hid h1
        clear h1
        go_wp2_with fail
        go_roundw
        case rel => exact ⟨i + 1, by simp, HB.out.2.2.1, fun j hj => by
          rcases Nat.lt_or_ge j i with e | e
          · exact HB.out.1 j e
          · obtain rfl : j = i := by omega
            exact h1'.out, H1.out⟩
        case measure => simp only [RowKit.intOf]; omega
      · have h1' := Lib.hid h1
        clear h1
        go_wp2_with fail
        go_ret
        exact ⟨.inl ⟨i, HB.out.2.2.1, List.mem_map.2 ⟨_, h1'.out, rfl⟩, rfl⟩, H1.out⟩
    · have hlt' : ¬ ((i : Nat) : Int) < 4 := by omega
      have HB := Lib.hid (And.intro hno (And.intro hb (show i = 4 by omega)))
      clear hno hb hlt hi
      go_wp2_with fail
      go_ret
      have hno' : k ∉ M.map (·.1) := fun hm => by
        obtain ⟨j, r, hj⟩ := key_of' hm
        have h4 : j < 4 := H.out.pri _ hj
        exact HB.out.1 j (by have := HB.out.2.2; omega) (key_lin.2 ⟨r, hj⟩)
      exact ⟨.inr ⟨by simpa using hno', rfl⟩, HB.out.2.1⟩
end
end Go.Proofs.YtcodjknhnhdkfaaGreatDoor.Nx
namespace Go.Proofs.YtcodjknhnhdkfaaGreatDoor.Nx
open Go.RowKit Go.Lib Go.Sort Go.Shelf Hp HpE Ht
set_option linter.unusedVariables false
set_option linter.unusedSectionVars false
set_option maxRecDepth 20000
/-- a row whose blocks are S -/
def Rv (S : Nat → Prop) (w : World) (rb : Nat) (M : List O) : Prop := ∃ p T, Rq w rb p T M ∧ S = bk rb T
/-- a row behind some deeds -/
def Rw (S : Nat → Prop) (w : World) (rb : Nat) (w' : World) (M : List O) : Prop := ∃ S', Rv S' w' rb M ∧ Fr S w w' ∧ ∀ x, S' x → S x ∨ w.heap.size ≤ x
theorem Rv.kept {S : Nat → Prop} {w Y : World} {rb : Nat} {M : List O} (h : Rv S w rb M) (hs : w.heap.size ≤ Y.heap.size) (e : ∀ k, S k → Y.heap[k]? = w.heap[k]?) : Rv S Y rb M := by
  obtain ⟨p, T, h1, rfl⟩ := h
  exact ⟨p, T, h1.kept hs e, rfl⟩
theorem Rv.old {S : Nat → Prop} {w Y : World} {rb : Nat} {M : List O} (h : Rv S w rb M) (e : Below w.heap.size w Y) : Rv S Y rb M := by
  obtain ⟨p, T, h1, rfl⟩ := h
  exact ⟨p, T, h1.old e, rfl⟩
theorem Rv.fr {S S' : Nat → Prop} {w Y : World} {rb : Nat} {M : List O} (h : Rv S w rb M) (e : Fr S' w Y) (hd : ∀ k, S k → ¬ S' k) : Rv S Y rb M := by
  obtain ⟨p, T, h1, rfl⟩ := h
  exact ⟨p, T, h1.kept e.size fun k hk => e.block k (h1.blt k hk) (hd k hk), rfl⟩
theorem Rv.perm {S : Nat → Prop} {w : World} {rb : Nat} {M M' : List O} (h : Rv S w rb M) (e : M.Perm M') : Rv S w rb M' := by
  obtain ⟨p, T, h1, h2⟩ := h
  exact ⟨p, T, h1.perm e, h2⟩
theorem Rv.size {S : Nat → Prop} {w : World} {rb : Nat} {M : List O} (h : Rv S w rb M) : ∀ k, S k → k < w.heap.size := by
  obtain ⟨p, T, h1, rfl⟩ := h
  exact h1.blt
theorem Rv.own {S : Nat → Prop} {w : World} {rb : Nat} {M : List O} (h : Rv S w rb M) : S rb := by
  obtain ⟨p, T, h1, rfl⟩ := h
  exact .inl rfl
theorem Rv.nodup {S : Nat → Prop} {w : World} {rb : Nat} {M : List O} (h : Rv S w rb M) : (M.map (·.1)).Nodup := by
  obtain ⟨p, T, h1, rfl⟩ := h
  exact h1.nodup
theorem Rv.keys {S : Nat → Prop} {w : World} {rb : Nat} {M : List O} (h : Rv S w rb M) : ∀ x ∈ M, wk x.1 := by
  obtain ⟨p, T, h1, rfl⟩ := h
  exact h1.keys
theorem Rv.pri {S : Nat → Prop} {w : World} {rb : Nat} {M : List O} (h : Rv S w rb M) : ∀ x ∈ M, x.2.1 < 4 := by
  obtain ⟨p, T, h1, rfl⟩ := h
  exact h1.pri
theorem Rw.same {S : Nat → Prop} {w w' : World} {rb : Nat} {M : List O} (h : Rv S w rb M) (e : Below w.heap.size w w') : Rw S w rb w' M := ⟨S, h.old e, Fr.of_below e, fun x hx => .inl hx⟩
/-- behind another world that is like it -/
theorem Rw.trans {S : Nat → Prop} {w w1 w2 : World} {rb : Nat} {M : List O} (h : Rw S w1 rb w2 M) (e : Below w.heap.size w w1) : Rw S w rb w2 M := by
  obtain ⟨S', h1, h2, h3⟩ := h
  exact ⟨S', h1, (Fr.of_below (S := S) e).trans h2 (fun x hx => .inl hx), fun x hx => (h3 x hx).elim .inl fun e2 => .inr (Nat.le_trans e.size e2)⟩
section
variable {w : World} {rb : Nat} {p : Nat → Value} {T : Nat → Nat → Prop} {M : List O}
/-- behind a deed to a line -/
theorem Rq.deed (h : Rq w rb p T M) {q hb : Nat} (hq : q < 4) (hp : p q = .pointer (some ⟨hb, 0, none⟩)) {w' : World} {m' : List (K × Int)} (hw : Hw (T q) w hb w' m') {M' : List O} (hm : m'.Perm (lin M' q)) (ho : ∀ j, j < 4 → j ≠ q → lin M' j = lin M j)
    (hpri : ∀ x ∈ M', x.2.1 < 4) (hnd : (M'.map (·.1)).Nodup) (hk : ∀ x ∈ M', wk x.1) : Rw (bk rb T) w rb w' M' := by
  obtain ⟨S', h1, h2, h3⟩ := hw
  have hfr : ∀ k, k < w.heap.size → ¬ T q k → w'.heap[k]? = w.heap[k]? := h2.block
  refine ⟨bk rb (fun i => if i = q then S' else T i), ⟨p, fun i => if i = q then S' else T i, ⟨?_, fun i hi => ?_, fun i j k hi hj => ?_, fun i k hi => ?_, fun i k hi => ?_, hpri, hnd, hk⟩, rfl⟩, h2.mono fun x _ hx => .inr ⟨q, hq, hx⟩, ?_⟩
  · exact (hfr rb h.lt (fun e => h.away q rb hq e rfl)).trans h.obj
  · try simp only
    by_cases e : i = q
    · subst e
      rw [if_pos rfl]
      exact .inr ⟨hb, hp, h1.perm hm⟩
    · rw [if_neg e, ho i hi e]
      exact (h.line i hi).kept h2.size fun k hk => hfr k (h.size i k hi hk) (fun e2 => e (h.apart i q k hi hq hk e2))
  · try simp only
    by_cases e : i = q <;> by_cases e2 : j = q
    · intro _ _; rw [e, e2]
    · rw [if_pos e, if_neg e2]
      intro a b
      rcases h3 k a with a | a
      · exact absurd (h.apart q j k hq hj a b).symm e2
      · have := h.size j k hj b; omega
    · rw [if_neg e, if_pos e2]
      intro a b
      rcases h3 k b with b | b
      · exact absurd (h.apart i q k hi hq a b) e
      · have := h.size i k hi a; omega
    · rw [if_neg e, if_neg e2]
      exact h.apart i j k hi hj
  · try simp only
    by_cases e : i = q
    · rw [if_pos e]
      intro a
      rcases h3 k a with a | a
      · exact h.away q k hq a
      · have := h.lt; omega
    · rw [if_neg e]
      exact h.away i k hi
  · try simp only
    by_cases e : i = q
    · rw [if_pos e]
      exact h1.size k
    · rw [if_neg e]
      intro a
      exact Nat.lt_of_lt_of_le (h.size i k hi a) h2.size
  · rintro x (hx | ⟨i, hi, hx⟩)
    · exact .inl (.inl hx)
    · try simp only at hx
      by_cases e : i = q
      · rw [if_pos e] at hx
        exact (h3 x hx).elim (fun e => .inl (.inr ⟨q, hq, e⟩)) .inr
      · rw [if_neg e] at hx
        exact .inl (.inr ⟨i, hi, hx⟩)
/-- a line's new heap is laid in -/
theorem Rq.opened (h : Rq w rb p T M) {q hb : Nat} (hq : q < 4) (hl : lin M q = []) {w1 : World} (hb1 : Below w.heap.size w w1) (hv : Hv (fun k => k = hb) w1 hb []) (hlb : w.heap.size ≤ hb) {W : World} (hW : W = w1.setCell ⟨rb, q, none⟩ (.pointer (some ⟨hb, 0, none⟩))) :
    Rq W rb (fun i => if i = q then .pointer (some ⟨hb, 0, none⟩) else p i) (fun i => if i = q then (fun k => k = hb) else T i) M ∧ Fr (bk rb T) w W ∧ Hv (fun k => k = hb) W hb [] := by
  have ho : ∀ k, k ≠ rb → W.heap[k]? = w1.heap[k]? := fun k hk => by rw [hW]; exact heap_setCell_other _ _ _ _ hk
  have hz : W.heap.size = w1.heap.size := by rw [hW]; simp
  have hs1 := hb1.size
  have hlt := h.lt
  have hbl := hv.size hb rfl
  refine ⟨⟨?_, fun i hi => ?_, fun i j k hi hj => ?_, fun i k hi => ?_, fun i k hi => ?_, h.pri, h.nodup, h.keys⟩, ⟨?_, ?_, ?_, by omega, fun k hk hn => ?_⟩, ?_⟩
  · have h1 := (hb1.block rb hlt).trans h.obj
    rw [hW, Lib.heap_setCell_same h1]
    rcases (by omega : q = 0 ∨ q = 1 ∨ q = 2 ∨ q = 3) with rfl | rfl | rfl | rfl <;> rfl
  · try simp only
    by_cases e : i = q
    · rw [if_pos e, if_pos e, e, hl]
      exact .inr ⟨hb, rfl, hv.kept (by omega) fun k hk => ho k (by subst hk; omega)⟩
    · rw [if_neg e, if_neg e]
      exact (h.line i hi).kept (by omega) fun k hk => (ho k (h.away i k hi hk)).trans (hb1.block k (h.size i k hi hk))
  · try simp only
    by_cases e : i = q <;> by_cases e2 : j = q
    · intro _ _; rw [e, e2]
    · rw [if_pos e, if_neg e2]
      intro a b
      have := h.size j k hj b; omega
    · rw [if_neg e, if_pos e2]
      intro a b
      have := h.size i k hi a; omega
    · rw [if_neg e, if_neg e2]
      exact h.apart i j k hi hj
  · try simp only
    by_cases e : i = q
    · rw [if_pos e]; intro a; omega
    · rw [if_neg e]; exact h.away i k hi
  · try simp only
    by_cases e : i = q
    · rw [if_pos e]; intro a; omega
    · rw [if_neg e]; intro a; have := h.size i k hi a; omega
  · rw [hW]; exact hb1.os
  · rw [hW]; exact hb1.tape
  · rw [hW]; exact hb1.output
  · rw [ho k (fun e => hn (.inl e))]
    exact hb1.block k hk
  · exact hv.kept (by omega) fun k hk => ho k (by subst hk; omega)
end
theorem Rw.behind {S S1 : Nat → Prop} {w1 W w' : World} {rb : Nat} {M : List O} (h : Rw S1 W rb w' M) (e : Fr S w1 W) (hs : ∀ x, S1 x → S x ∨ w1.heap.size ≤ x) : Rw S w1 rb w' M := by
  obtain ⟨S', h1, h2, h3⟩ := h
  exact ⟨S', h1, e.trans h2 hs, fun x hx => (h3 x hx).elim (hs x) fun e2 => .inr (Nat.le_trans e.size e2)⟩
theorem new_row (w : World) : Calls Tryz.prog 29 #[] w fun e w' => e = .returned (.pointer (some ⟨w.heap.size, 0, none⟩)) ∧ Rv (fun k => k = w.heap.size) w' w.heap.size [] ∧ Below w.heap.size w w' := by
  go_enter Tryz.func29, Tryz.ntmps29
  go_wp2_with fail
  go_ret
  refine ⟨by simp, ⟨fun _ => .pointer none, fun _ _ => False, ⟨?_, fun i hi => .inl ⟨rfl, rfl⟩, fun i j k hi hj h => h.elim, fun i k hi h => h.elim, fun i k hi h => h.elim, fun x hx => (by cases hx), List.nodup_nil, fun x hx => (by cases hx)⟩, ?_⟩, (Below.refl _ w).alloc (Nat.le_refl _) _⟩
  · exact (MapKept.heap_alloc w _).1
  · funext k
    unfold bk
    simp
theorem isPri_any (q : Int) (w : World) : Calls Tryz.prog 87 #[.int .i64 q] w fun e w' => e = .returned (.bool (decide (0 ≤ q ∧ q < 4))) ∧ w' = w := by
  obtain ⟨d, hd⟩ : ∃ d, d = decide (0 ≤ q ∧ q < 4) := ⟨_, rfl⟩
  rw [← hd]
  have hc : (0 ≤ q ∧ q < 4 ∧ d = true) ∨ (0 ≤ q ∧ 4 ≤ q ∧ d = false) ∨ (q < 0 ∧ d = false) := by
    rw [hd, decide_eq_true_eq, decide_eq_false_iff_not]; omega
  clear hd
  rcases hc with ⟨h1, h2, rfl⟩ | ⟨h1, h2, rfl⟩ | ⟨h1, rfl⟩
  all_goals
    go_enter Tryz.func87, Tryz.ntmps87
    go_wp2_with fail
    go_ret
    first | exact ⟨rfl, rfl⟩ | exact ⟨by simp; omega, rfl⟩
section
variable {S : Nat → Prop} {w : World} {rb : Nat} {M : List O}
theorem Rv.Has (h : Rv S w rb M) {k : K} (hk : wk k) : Calls Tryz.prog 88 #[.pointer (some ⟨rb, 0, none⟩), ek k] w fun e w' => e = .returned (.bool (decide (k ∈ M.map (·.1)))) ∧ Below w.heap.size w w' := by
  obtain ⟨p, T, h, rfl⟩ := h
  obtain ⟨d, hd⟩ : ∃ d, d = decide (k ∈ M.map (·.1)) := ⟨_, rfl⟩
  rw [← hd]
  have hL := lineOf_any h hk
  have H := Lib.hid h
  clear h
  obtain ⟨kv, hkv⟩ : ∃ v, v = ek k := ⟨_, rfl⟩
  rw [← hkv] at hL ⊢
  clear hkv
  go_enter Tryz.func88, Tryz.ntmps88
  go_wp2_with fail
  refine hL.mono ?_
  rintro e w1 ⟨⟨i, hi, hm, rfl⟩ | ⟨hm, rfl⟩, hb⟩
  · have hin : k ∈ M.map (·.1) := by obtain ⟨r, hr⟩ := key_lin.1 hm; exact key_in hr
    obtain rfl : d = true := by rw [hd]; exact decide_eq_true hin
    rcases H.out.line i hi with ⟨h1, h2⟩ | ⟨b, h1, _⟩
    · rw [h2] at hm; cases hm
    · rw [h1]
      have HB := Lib.hid hb
      clear hb hL hm hin hd h1
      go_wp2_with fail
      go_ret
      exact ⟨rfl, HB.out⟩
  · obtain rfl : d = false := by rw [hd]; exact decide_eq_false hm
    have HB := Lib.hid hb
    clear hb hL hm hd
    go_wp2_with fail
    go_ret
    exact ⟨rfl, HB.out⟩
theorem Rv.Put_bad (h : Rv S w rb M) (kv : Value) (r : Int) {q : Int} (hq : ¬ (0 ≤ q ∧ q < 4)) : Calls Tryz.prog 73 #[.pointer (some ⟨rb, 0, none⟩), kv, .int .i64 q, er r] w fun e w' => e = .returned (.int .i64 3) ∧ w' = w := by
  have hP := isPri_any q w
  rw [decide_eq_false hq] at hP
  clear h hq
  generalize er r = rv
  go_enter Tryz.func73, Tryz.ntmps73
  go_wp2_with fail
  refine hP.mono ?_
  rintro e w1 ⟨rfl, rfl⟩
  clear hP
  go_wp2_with fail
  go_ret
  exact ⟨rfl, rfl⟩
theorem Rv.Put_same (h : Rv S w rb M) {k : K} (hk : wk k) (r : Int) {q : Int} (hq : 0 ≤ q ∧ q < 4) (hm : k ∈ M.map (·.1)) : Calls Tryz.prog 73 #[.pointer (some ⟨rb, 0, none⟩), ek k, .int .i64 q, er r] w fun e w' => e = .returned (.int .i64 8) ∧ Below w.heap.size w w' := by
  have hP := isPri_any q w
  rw [decide_eq_true hq] at hP
  have hH := h.Has hk
  rw [decide_eq_true hm] at hH
  clear h hq hm
  generalize er r = rv
  generalize ek k = kv at hH ⊢
  go_enter Tryz.func73, Tryz.ntmps73
  go_wp2_with fail
  refine hP.mono ?_
  rintro e w1 ⟨rfl, rfl⟩
  clear hP
  go_wp2_with fail
  refine hH.mono ?_
  rintro e w1 ⟨rfl, hb⟩
  have HB := Lib.hid hb
  clear hH hb
  go_wp2_with fail
  go_ret
  exact ⟨rfl, HB.out⟩
theorem lin_other (M : List O) (k : K) (q : Nat) (r : Int) {j : Nat} (h : j ≠ q) : lin (M ++ [(k, q, r)]) j = lin M j := by rw [lin_app, if_neg (fun e => h e.symm)]
theorem Rq.app {p : Nat → Value} {T : Nat → Nat → Prop} (h : Rq w rb p T M) {k : K} (hk : wk k) (r : Int) {q : Nat} (hq : q < 4) (hm : k ∉ M.map (·.1)) : (∀ x ∈ M ++ [(k, q, r)], x.2.1 < 4) ∧ ((M ++ [(k, q, r)]).map (·.1)).Nodup ∧ ∀ x ∈ M ++ [(k, q, r)], wk x.1 := by
  refine ⟨fun x hx => ?_, ?_, fun x hx => ?_⟩
  · rcases List.mem_append.1 hx with hx | hx
    · exact h.pri x hx
    · rw [List.mem_singleton.1 hx]; exact hq
  · rw [List.map_append, List.nodup_append]
    refine ⟨h.nodup, by simp, fun a ha b hb => ?_⟩
    simp only [List.map_cons, List.map_nil, List.mem_singleton] at hb
    subst hb
    exact fun e => hm (e ▸ ha)
  · rcases List.mem_append.1 hx with hx | hx
    · exact h.keys x hx
    · rw [List.mem_singleton.1 hx]; exact hk
set_option maxHeartbeats 4000000 in
theorem Rv.Put_ok (h : Rv S w rb M) {k : K} (hk : wk k) (r : Int) {q : Nat} (hq : q < 4) (hm : k ∉ M.map (·.1)) (hn : M.length < 1000000) : Calls Tryz.prog 73 #[.pointer (some ⟨rb, 0, none⟩), ek k, .int .i64 ((q : Nat) : Int), er r] w fun e w' => e = .returned (.int .i64 0) ∧ Rw S w rb w' (M ++ [(k, q, r)]) := by
  have hmix : Tryz.prog.follows .mixedOrders = true := by kernel_rfl
  have hP := isPri_any ((q : Nat) : Int) w
  rw [decide_eq_true (by omega)] at hP
  have hH := h.Has hk
  rw [decide_eq_false hm] at hH
  obtain ⟨p, T, h, rfl⟩ := h
  have H := Lib.hid (And.intro h (And.intro hk (And.intro hq (And.intro hm hn))))
  obtain ⟨kv, hkv⟩ : ∃ v, v = ek k := ⟨_, rfl⟩
  obtain ⟨rv, hrv⟩ : ∃ v, v = er r := ⟨_, rfl⟩
  rw [← hkv] at hH ⊢
  rw [← hrv]
  have HV := Lib.hid (And.intro hkv hrv)
  clear h hk hm hkv hrv hn
  have hqq : q = 0 ∨ q = 1 ∨ q = 2 ∨ q = 3 := by omega
  clear hq
  rcases hqq with rfl | rfl | rfl | rfl
  · go_enter Tryz.func73, Tryz.ntmps73
    go_wp2_with fail
    refine hP.mono ?_
    rintro e w1 ⟨rfl, rfl⟩
    clear hP
    go_wp2_with fail
    refine hH.mono ?_
    rintro e w1 ⟨rfl, hb⟩
    have h1 := H.out.1.old hb
    obtain ⟨c0, c1, c2, c3⟩ := h1.cells
    have HB := Lib.hid (And.intro hb h1)
    have hln := h1.line 0 (by omega)
    clear hH hb h1
    rcases hln with ⟨hpq, hmq⟩ | ⟨hb, hpq, hv⟩
    · rw [hpq] at c0
      have HL := Lib.hid hmq
      clear hmq hpq
      go_wp2_with fail
      have hcs : ∀ X, Below w1.heap.size w1 X → X.cell? ⟨rb, 0, none⟩ = some (.pointer none) ∧ rb < X.heap.size := fun X hX => ⟨(hX.cell (p := ⟨rb, 0, none⟩) HB.out.2.lt).trans c0, Nat.lt_of_lt_of_le HB.out.2.lt hX.size⟩
      refine begin' 6 (fun ZZ => Below w1.heap.size w1 ZZ) hmix ((Below.refl _ w1).drew) (fun hS0 => ?_)
      refine Ht.takeD 8 (i := 0) ⟨some 24, _, _, _, _, _⟩ (.pointer (some ⟨rb, 0, none⟩)) rfl (by kernel_rfl) (by kernel_rfl) (by decide) (by kernel_rfl) (by kernel_rfl) (by kernel_rfl) hS0 (Or.inl ⟨by rfl, by (intro X hX; go_simp)⟩) ?_
      simp only [Act.put, List.setIfInBounds_toArray, List.set_cons_zero, List.set_cons_succ]
      refine Ht.takeD 8 (i := 1) ⟨some 25, _, _, _, _, _⟩ (.int .i64 0) rfl (by kernel_rfl) (by kernel_rfl) (by decide) (by kernel_rfl) (by kernel_rfl) (by kernel_rfl) hS0 (Or.inl ⟨by rfl, by (intro X hX; go_simp)⟩) ?_
      simp only [Act.put, List.setIfInBounds_toArray, List.set_cons_zero, List.set_cons_succ]
      refine Ht.takeD 8 (i := 3) ⟨some 27, _, _, _, _, _⟩ (.pointer (some ⟨rb, 0, none⟩)) rfl (by kernel_rfl) (by kernel_rfl) (by decide) (by kernel_rfl) (by kernel_rfl) (by kernel_rfl) hS0 (Or.inl ⟨by rfl, by (intro X hX; have := hcs X hX; go_simp)⟩) ?_
      simp only [Act.put, List.setIfInBounds_toArray, List.set_cons_zero, List.set_cons_succ]
      refine Ht.takeD 8 (i := 4) ⟨some 28, _, _, _, _, _⟩ (.pointer (some ⟨rb, 0, none⟩)) rfl (by kernel_rfl) (by kernel_rfl) (by decide) (by kernel_rfl) (by kernel_rfl) (by kernel_rfl) hS0 (Or.inl ⟨by rfl, by (intro X hX; go_simp)⟩) ?_
      simp only [Act.put, List.setIfInBounds_toArray, List.set_cons_zero, List.set_cons_succ]
      refine Ht.step (i := 2) ⟨some 26, _, _, _, _, _⟩ rfl (by kernel_rfl) (by rfl) (fun K hK => ?_)
      refine Ht.enter 89 #[] (by have hen := fun args w => enters_of (P := Tryz.prog) Tryz.func89 (by kernel_rfl) rfl args w; go_simp) (new_v _) ?_
      rintro e w2 ⟨rfl, hv2, hb2⟩
      have hb3 : Below w1.heap.size w1 w2 := hS0.trans (hb2.mono hS0.size)
      have c2' := (hb3.cell (p := ⟨rb, 0, none⟩) HB.out.2.lt).trans c0
      have hfz : w2.frozen? ⟨rb, 0, none⟩ = false := by
        have := (hb3.block rb HB.out.2.lt).trans HB.out.2.obj
        simp [World.frozen?, this]
      have hzz := hS0.size
      have HN := Lib.hid (And.intro hv2 hb3)
      clear hv2 hb2
      refine ⟨_, rfl, hK _ _ (fun hn => hb3) (fun hnx => ?_)⟩
      clear hK K hnx
      try simp only [Act.put, List.setIfInBounds_toArray, List.set_cons_zero, List.set_cons_succ]
      refine Ht.step (i := 5) ⟨some 29, _, _, _, _, _⟩ rfl (by kernel_rfl) (by rfl) (fun K hK => ?_)
      go_simp
      refine hK _ _ (fun hn => hb3) (fun hnx => ?_)
      clear hK K hnx
      try simp only [Act.put, List.setIfInBounds_toArray, List.set_cons_zero, List.set_cons_succ]
      refine Ht.step (i := 6) ⟨none, _, _, _, _, _⟩ rfl (by kernel_rfl) (by rfl) (fun K hK => ?_)
      go_simp
      refine hK _ _ (fun hn => absurd rfl hn) (fun hnx => ?_)
      clear hK K hnx
      try simp only [Act.put, List.setIfInBounds_toArray, List.set_cons_zero, List.set_cons_succ]
      refine done (by kernel_rfl) ?_
      obtain ⟨W, hW⟩ : ∃ W, W = w2.setCell ⟨rb, 0, none⟩ (.pointer (some ⟨w1.heap.size, 0, none⟩)) := ⟨_, rfl⟩
      rw [← hW]
      obtain ⟨o1, o2, o3⟩ := HB.out.2.opened (q := 0) (hb := w1.heap.size) (by omega) HL.out HN.out.2 HN.out.1 (Nat.le_refl _) hW
      have cq : W.cell? ⟨rb, 0, none⟩ = some (.pointer (some ⟨w1.heap.size, 0, none⟩)) := by rw [hW]; exact World.cell?_setCell_same _ _ _ c2'
      have hput := put_any o3 (k := k) H.out.2.1 r (by simp)
      rw [← HV.out.1, ← HV.out.2] at hput
      have HO := Lib.hid (And.intro o1 o2)
      clear o1 o2 o3 hW c2' hfz hzz hS0 hcs
      go_wp2_with fail
      refine hput.mono ?_
      rintro e w3 ⟨rfl, hw⟩
      have HW := Lib.hid hw
      clear hput hw
      go_wp2_with fail
      go_ret
      refine ⟨rfl, ?_⟩
      obtain ⟨a1, a2, a3⟩ := H.out.1.app H.out.2.1 r (q := 0) (by omega) H.out.2.2.2.1
      refine Rw.trans (Rw.behind (HO.out.1.deed (q := 0) (by omega) rfl HW.out (by have := put_lin 0 r H.out.2.2.2.1; rw [HL.out] at this; exact this) (fun j _ hj => lin_other M k 0 r hj) a1 a2 a3) HO.out.2 (fun x hx => ?_)) HB.out.1
      rcases hx with hx | ⟨i, hi, hx⟩
      · exact .inl (.inl hx)
      · try simp only at hx
        by_cases e : i = 0
        · rw [if_pos e] at hx; exact .inr (by omega)
        · rw [if_neg e] at hx; exact .inl (.inr ⟨i, hi, hx⟩)
    · have hv1 := Lib.hid hv
      rw [hpq] at c0
      have hput := put_any hv (k := k) H.out.2.1 r (by have := lin_len M 0; have := H.out.2.2.2.2; omega)
      rw [← HV.out.1, ← HV.out.2] at hput
      have HQ := Lib.hid hpq
      clear hv hpq
      go_wp2_with fail
      refine hput.mono ?_
      rintro e w2 ⟨rfl, hw⟩
      have HW := Lib.hid hw
      clear hput hw
      go_wp2_with fail
      go_ret
      refine ⟨rfl, ?_⟩
      obtain ⟨a1, a2, a3⟩ := H.out.1.app H.out.2.1 r (q := 0) (by omega) H.out.2.2.2.1
      exact Rw.trans (HB.out.2.deed (by omega) HQ.out HW.out (put_lin 0 r H.out.2.2.2.1) (fun j _ hj => lin_other M k 0 r hj) a1 a2 a3) HB.out.1
  · go_enter Tryz.func73, Tryz.ntmps73
    go_wp2_with fail
    refine hP.mono ?_
    rintro e w1 ⟨rfl, rfl⟩
    clear hP
    go_wp2_with fail
    refine hH.mono ?_
    rintro e w1 ⟨rfl, hb⟩
    have h1 := H.out.1.old hb
    obtain ⟨c0, c1, c2, c3⟩ := h1.cells
    have HB := Lib.hid (And.intro hb h1)
    have hln := h1.line 1 (by omega)
    clear hH hb h1
    rcases hln with ⟨hpq, hmq⟩ | ⟨hb, hpq, hv⟩
    · rw [hpq] at c1
      have HL := Lib.hid hmq
      clear hmq hpq
      go_wp2_with fail
      have hcs : ∀ X, Below w1.heap.size w1 X → X.cell? ⟨rb, 1, none⟩ = some (.pointer none) ∧ rb < X.heap.size := fun X hX => ⟨(hX.cell (p := ⟨rb, 1, none⟩) HB.out.2.lt).trans c1, Nat.lt_of_lt_of_le HB.out.2.lt hX.size⟩
      refine begin' 6 (fun ZZ => Below w1.heap.size w1 ZZ) hmix ((Below.refl _ w1).drew) (fun hS0 => ?_)
      refine Ht.takeD 8 (i := 0) ⟨some 24, _, _, _, _, _⟩ (.pointer (some ⟨rb, 0, none⟩)) rfl (by kernel_rfl) (by kernel_rfl) (by decide) (by kernel_rfl) (by kernel_rfl) (by kernel_rfl) hS0 (Or.inl ⟨by rfl, by (intro X hX; go_simp)⟩) ?_
      simp only [Act.put, List.setIfInBounds_toArray, List.set_cons_zero, List.set_cons_succ]
      refine Ht.takeD 8 (i := 1) ⟨some 25, _, _, _, _, _⟩ (.int .i64 1) rfl (by kernel_rfl) (by kernel_rfl) (by decide) (by kernel_rfl) (by kernel_rfl) (by kernel_rfl) hS0 (Or.inl ⟨by rfl, by (intro X hX; go_simp)⟩) ?_
      simp only [Act.put, List.setIfInBounds_toArray, List.set_cons_zero, List.set_cons_succ]
      refine Ht.takeD 8 (i := 3) ⟨some 27, _, _, _, _, _⟩ (.pointer (some ⟨rb, 0, none⟩)) rfl (by kernel_rfl) (by kernel_rfl) (by decide) (by kernel_rfl) (by kernel_rfl) (by kernel_rfl) hS0 (Or.inl ⟨by rfl, by (intro X hX; have := hcs X hX; go_simp)⟩) ?_
      simp only [Act.put, List.setIfInBounds_toArray, List.set_cons_zero, List.set_cons_succ]
      refine Ht.takeD 8 (i := 4) ⟨some 28, _, _, _, _, _⟩ (.pointer (some ⟨rb, 0, none⟩)) rfl (by kernel_rfl) (by kernel_rfl) (by decide) (by kernel_rfl) (by kernel_rfl) (by kernel_rfl) hS0 (Or.inl ⟨by rfl, by (intro X hX; go_simp)⟩) ?_
      simp only [Act.put, List.setIfInBounds_toArray, List.set_cons_zero, List.set_cons_succ]
      refine Ht.step (i := 2) ⟨some 26, _, _, _, _, _⟩ rfl (by kernel_rfl) (by rfl) (fun K hK => ?_)
      refine Ht.enter 89 #[] (by have hen := fun args w => enters_of (P := Tryz.prog) Tryz.func89 (by kernel_rfl) rfl args w; go_simp) (new_v _) ?_
      rintro e w2 ⟨rfl, hv2, hb2⟩
      have hb3 : Below w1.heap.size w1 w2 := hS0.trans (hb2.mono hS0.size)
      have c2' := (hb3.cell (p := ⟨rb, 1, none⟩) HB.out.2.lt).trans c1
      have hfz : w2.frozen? ⟨rb, 1, none⟩ = false := by
        have := (hb3.block rb HB.out.2.lt).trans HB.out.2.obj
        simp [World.frozen?, this]
      have hzz := hS0.size
      have HN := Lib.hid (And.intro hv2 hb3)
      clear hv2 hb2
      refine ⟨_, rfl, hK _ _ (fun hn => hb3) (fun hnx => ?_)⟩
      clear hK K hnx
      try simp only [Act.put, List.setIfInBounds_toArray, List.set_cons_zero, List.set_cons_succ]
      refine Ht.step (i := 5) ⟨some 29, _, _, _, _, _⟩ rfl (by kernel_rfl) (by rfl) (fun K hK => ?_)
      go_simp
      refine hK _ _ (fun hn => hb3) (fun hnx => ?_)
      clear hK K hnx
      try simp only [Act.put, List.setIfInBounds_toArray, List.set_cons_zero, List.set_cons_succ]
      refine Ht.step (i := 6) ⟨none, _, _, _, _, _⟩ rfl (by kernel_rfl) (by rfl) (fun K hK => ?_)
      go_simp
      refine hK _ _ (fun hn => absurd rfl hn) (fun hnx => ?_)
      clear hK K hnx
      try simp only [Act.put, List.setIfInBounds_toArray, List.set_cons_zero, List.set_cons_succ]
      refine done (by kernel_rfl) ?_
      obtain ⟨W, hW⟩ : ∃ W, W = w2.setCell ⟨rb, 1, none⟩ (.pointer (some ⟨w1.heap.size, 0, none⟩)) := ⟨_, rfl⟩
      rw [← hW]
      obtain ⟨o1, o2, o3⟩ := HB.out.2.opened (q := 1) (hb := w1.heap.size) (by omega) HL.out HN.out.2 HN.out.1 (Nat.le_refl _) hW
      have cq : W.cell? ⟨rb, 1, none⟩ = some (.pointer (some ⟨w1.heap.size, 0, none⟩)) := by rw [hW]; exact World.cell?_setCell_same _ _ _ c2'
      have hput := put_any o3 (k := k) H.out.2.1 r (by simp)
      rw [← HV.out.1, ← HV.out.2] at hput
      have HO := Lib.hid (And.intro o1 o2)
      clear o1 o2 o3 hW c2' hfz hzz hS0 hcs
      go_wp2_with fail
      refine hput.mono ?_
      rintro e w3 ⟨rfl, hw⟩
      have HW := Lib.hid hw
      clear hput hw
      go_wp2_with fail
      go_ret
      refine ⟨rfl, ?_⟩
      obtain ⟨a1, a2, a3⟩ := H.out.1.app H.out.2.1 r (q := 1) (by omega) H.out.2.2.2.1
      refine Rw.trans (Rw.behind (HO.out.1.deed (q := 1) (by omega) rfl HW.out (by have := put_lin 1 r H.out.2.2.2.1; rw [HL.out] at this; exact this) (fun j _ hj => lin_other M k 1 r hj) a1 a2 a3) HO.out.2 (fun x hx => ?_)) HB.out.1
      rcases hx with hx | ⟨i, hi, hx⟩
      · exact .inl (.inl hx)
      · try simp only at hx
        by_cases e : i = 1
        · rw [if_pos e] at hx; exact .inr (by omega)
        · rw [if_neg e] at hx; exact .inl (.inr ⟨i, hi, hx⟩)
    · have hv1 := Lib.hid hv
      rw [hpq] at c1
      have hput := put_any hv (k := k) H.out.2.1 r (by have := lin_len M 1; have := H.out.2.2.2.2; omega)
      rw [← HV.out.1, ← HV.out.2] at hput
      have HQ := Lib.hid hpq
      clear hv hpq
      go_wp2_with fail
      refine hput.mono ?_
      rintro e w2 ⟨rfl, hw⟩
      have HW := Lib.hid hw
      clear hput hw
      go_wp2_with fail
      go_ret
      refine ⟨rfl, ?_⟩
      obtain ⟨a1, a2, a3⟩ := H.out.1.app H.out.2.1 r (q := 1) (by omega) H.out.2.2.2.1
      exact Rw.trans (HB.out.2.deed (by omega) HQ.out HW.out (put_lin 1 r H.out.2.2.2.1) (fun j _ hj => lin_other M k 1 r hj) a1 a2 a3) HB.out.1
  · go_enter Tryz.func73, Tryz.ntmps73
    go_wp2_with fail
    refine hP.mono ?_
    rintro e w1 ⟨rfl, rfl⟩
    clear hP
    go_wp2_with fail
    refine hH.mono ?_
    rintro e w1 ⟨rfl, hb⟩
    have h1 := H.out.1.old hb
    obtain ⟨c0, c1, c2, c3⟩ := h1.cells
    have HB := Lib.hid (And.intro hb h1)
    have hln := h1.line 2 (by omega)
    clear hH hb h1
    rcases hln with ⟨hpq, hmq⟩ | ⟨hb, hpq, hv⟩
    · rw [hpq] at c2
      have HL := Lib.hid hmq
      clear hmq hpq
      go_wp2_with fail
      have hcs : ∀ X, Below w1.heap.size w1 X → X.cell? ⟨rb, 2, none⟩ = some (.pointer none) ∧ rb < X.heap.size := fun X hX => ⟨(hX.cell (p := ⟨rb, 2, none⟩) HB.out.2.lt).trans c2, Nat.lt_of_lt_of_le HB.out.2.lt hX.size⟩
      refine begin' 6 (fun ZZ => Below w1.heap.size w1 ZZ) hmix ((Below.refl _ w1).drew) (fun hS0 => ?_)
      refine Ht.takeD 8 (i := 0) ⟨some 24, _, _, _, _, _⟩ (.pointer (some ⟨rb, 0, none⟩)) rfl (by kernel_rfl) (by kernel_rfl) (by decide) (by kernel_rfl) (by kernel_rfl) (by kernel_rfl) hS0 (Or.inl ⟨by rfl, by (intro X hX; go_simp)⟩) ?_
      simp only [Act.put, List.setIfInBounds_toArray, List.set_cons_zero, List.set_cons_succ]
      refine Ht.takeD 8 (i := 1) ⟨some 25, _, _, _, _, _⟩ (.int .i64 2) rfl (by kernel_rfl) (by kernel_rfl) (by decide) (by kernel_rfl) (by kernel_rfl) (by kernel_rfl) hS0 (Or.inl ⟨by rfl, by (intro X hX; go_simp)⟩) ?_
      simp only [Act.put, List.setIfInBounds_toArray, List.set_cons_zero, List.set_cons_succ]
      refine Ht.takeD 8 (i := 3) ⟨some 27, _, _, _, _, _⟩ (.pointer (some ⟨rb, 0, none⟩)) rfl (by kernel_rfl) (by kernel_rfl) (by decide) (by kernel_rfl) (by kernel_rfl) (by kernel_rfl) hS0 (Or.inl ⟨by rfl, by (intro X hX; have := hcs X hX; go_simp)⟩) ?_
      simp only [Act.put, List.setIfInBounds_toArray, List.set_cons_zero, List.set_cons_succ]
      refine Ht.takeD 8 (i := 4) ⟨some 28, _, _, _, _, _⟩ (.pointer (some ⟨rb, 0, none⟩)) rfl (by kernel_rfl) (by kernel_rfl) (by decide) (by kernel_rfl) (by kernel_rfl) (by kernel_rfl) hS0 (Or.inl ⟨by rfl, by (intro X hX; go_simp)⟩) ?_
      simp only [Act.put, List.setIfInBounds_toArray, List.set_cons_zero, List.set_cons_succ]
      refine Ht.step (i := 2) ⟨some 26, _, _, _, _, _⟩ rfl (by kernel_rfl) (by rfl) (fun K hK => ?_)
      refine Ht.enter 89 #[] (by have hen := fun args w => enters_of (P := Tryz.prog) Tryz.func89 (by kernel_rfl) rfl args w; go_simp) (new_v _) ?_
      rintro e w2 ⟨rfl, hv2, hb2⟩
      have hb3 : Below w1.heap.size w1 w2 := hS0.trans (hb2.mono hS0.size)
      have c2' := (hb3.cell (p := ⟨rb, 2, none⟩) HB.out.2.lt).trans c2
      have hfz : w2.frozen? ⟨rb, 2, none⟩ = false := by
        have := (hb3.block rb HB.out.2.lt).trans HB.out.2.obj
        simp [World.frozen?, this]
      have hzz := hS0.size
      have HN := Lib.hid (And.intro hv2 hb3)
      clear hv2 hb2
      refine ⟨_, rfl, hK _ _ (fun hn => hb3) (fun hnx => ?_)⟩
      clear hK K hnx
      try simp only [Act.put, List.setIfInBounds_toArray, List.set_cons_zero, List.set_cons_succ]
      refine Ht.step (i := 5) ⟨some 29, _, _, _, _, _⟩ rfl (by kernel_rfl) (by rfl) (fun K hK => ?_)
      go_simp
      refine hK _ _ (fun hn => hb3) (fun hnx => ?_)
      clear hK K hnx
      try simp only [Act.put, List.setIfInBounds_toArray, List.set_cons_zero, List.set_cons_succ]
      refine Ht.step (i := 6) ⟨none, _, _, _, _, _⟩ rfl (by kernel_rfl) (by rfl) (fun K hK => ?_)
      go_simp
      refine hK _ _ (fun hn => absurd rfl hn) (fun hnx => ?_)
      clear hK K hnx
      try simp only [Act.put, List.setIfInBounds_toArray, List.set_cons_zero, List.set_cons_succ]
      refine done (by kernel_rfl) ?_
      obtain ⟨W, hW⟩ : ∃ W, W = w2.setCell ⟨rb, 2, none⟩ (.pointer (some ⟨w1.heap.size, 0, none⟩)) := ⟨_, rfl⟩
      rw [← hW]
      obtain ⟨o1, o2, o3⟩ := HB.out.2.opened (q := 2) (hb := w1.heap.size) (by omega) HL.out HN.out.2 HN.out.1 (Nat.le_refl _) hW
      have cq : W.cell? ⟨rb, 2, none⟩ = some (.pointer (some ⟨w1.heap.size, 0, none⟩)) := by rw [hW]; exact World.cell?_setCell_same _ _ _ c2'
      have hput := put_any o3 (k := k) H.out.2.1 r (by simp)
      rw [← HV.out.1, ← HV.out.2] at hput
      have HO := Lib.hid (And.intro o1 o2)
      clear o1 o2 o3 hW c2' hfz hzz hS0 hcs
      go_wp2_with fail
      refine hput.mono ?_
      rintro e w3 ⟨rfl, hw⟩
      have HW := Lib.hid hw
      clear hput hw
      go_wp2_with fail
      go_ret
      refine ⟨rfl, ?_⟩
      obtain ⟨a1, a2, a3⟩ := H.out.1.app H.out.2.1 r (q := 2) (by omega) H.out.2.2.2.1
      refine Rw.trans (Rw.behind (HO.out.1.deed (q := 2) (by omega) rfl HW.out (by have := put_lin 2 r H.out.2.2.2.1; rw [HL.out] at this; exact this) (fun j _ hj => lin_other M k 2 r hj) a1 a2 a3) HO.out.2 (fun x hx => ?_)) HB.out.1
      rcases hx with hx | ⟨i, hi, hx⟩
      · exact .inl (.inl hx)
      · try simp only at hx
        by_cases e : i = 2
        · rw [if_pos e] at hx; exact .inr (by omega)
        · rw [if_neg e] at hx; exact .inl (.inr ⟨i, hi, hx⟩)
    · have hv1 := Lib.hid hv
      rw [hpq] at c2
      have hput := put_any hv (k := k) H.out.2.1 r (by have := lin_len M 2; have := H.out.2.2.2.2; omega)
      rw [← HV.out.1, ← HV.out.2] at hput
      have HQ := Lib.hid hpq
      clear hv hpq
      go_wp2_with fail
      refine hput.mono ?_
      rintro e w2 ⟨rfl, hw⟩
      have HW := Lib.hid hw
      clear hput hw
      go_wp2_with fail
      go_ret
      refine ⟨rfl, ?_⟩
      obtain ⟨a1, a2, a3⟩ := H.out.1.app H.out.2.1 r (q := 2) (by omega) H.out.2.2.2.1
      exact Rw.trans (HB.out.2.deed (by omega) HQ.out HW.out (put_lin 2 r H.out.2.2.2.1) (fun j _ hj => lin_other M k 2 r hj) a1 a2 a3) HB.out.1
  · go_enter Tryz.func73, Tryz.ntmps73
    go_wp2_with fail
    refine hP.mono ?_
    rintro e w1 ⟨rfl, rfl⟩
    clear hP
    go_wp2_with fail
    refine hH.mono ?_
    rintro e w1 ⟨rfl, hb⟩
    have h1 := H.out.1.old hb
    obtain ⟨c0, c1, c2, c3⟩ := h1.cells
    have HB := Lib.hid (And.intro hb h1)
    have hln := h1.line 3 (by omega)
    clear hH hb h1
    rcases hln with ⟨hpq, hmq⟩ | ⟨hb, hpq, hv⟩
    · rw [hpq] at c3
      have HL := Lib.hid hmq
      clear hmq hpq
      go_wp2_with fail
      have hcs : ∀ X, Below w1.heap.size w1 X → X.cell? ⟨rb, 3, none⟩ = some (.pointer none) ∧ rb < X.heap.size := fun X hX => ⟨(hX.cell (p := ⟨rb, 3, none⟩) HB.out.2.lt).trans c3, Nat.lt_of_lt_of_le HB.out.2.lt hX.size⟩
      refine begin' 6 (fun ZZ => Below w1.heap.size w1 ZZ) hmix ((Below.refl _ w1).drew) (fun hS0 => ?_)
      refine Ht.takeD 8 (i := 0) ⟨some 24, _, _, _, _, _⟩ (.pointer (some ⟨rb, 0, none⟩)) rfl (by kernel_rfl) (by kernel_rfl) (by decide) (by kernel_rfl) (by kernel_rfl) (by kernel_rfl) hS0 (Or.inl ⟨by rfl, by (intro X hX; go_simp)⟩) ?_
      simp only [Act.put, List.setIfInBounds_toArray, List.set_cons_zero, List.set_cons_succ]
      refine Ht.takeD 8 (i := 1) ⟨some 25, _, _, _, _, _⟩ (.int .i64 3) rfl (by kernel_rfl) (by kernel_rfl) (by decide) (by kernel_rfl) (by kernel_rfl) (by kernel_rfl) hS0 (Or.inl ⟨by rfl, by (intro X hX; go_simp)⟩) ?_
      simp only [Act.put, List.setIfInBounds_toArray, List.set_cons_zero, List.set_cons_succ]
      refine Ht.takeD 8 (i := 3) ⟨some 27, _, _, _, _, _⟩ (.pointer (some ⟨rb, 0, none⟩)) rfl (by kernel_rfl) (by kernel_rfl) (by decide) (by kernel_rfl) (by kernel_rfl) (by kernel_rfl) hS0 (Or.inl ⟨by rfl, by (intro X hX; have := hcs X hX; go_simp)⟩) ?_
      simp only [Act.put, List.setIfInBounds_toArray, List.set_cons_zero, List.set_cons_succ]
      refine Ht.takeD 8 (i := 4) ⟨some 28, _, _, _, _, _⟩ (.pointer (some ⟨rb, 0, none⟩)) rfl (by kernel_rfl) (by kernel_rfl) (by decide) (by kernel_rfl) (by kernel_rfl) (by kernel_rfl) hS0 (Or.inl ⟨by rfl, by (intro X hX; go_simp)⟩) ?_
      simp only [Act.put, List.setIfInBounds_toArray, List.set_cons_zero, List.set_cons_succ]
      refine Ht.step (i := 2) ⟨some 26, _, _, _, _, _⟩ rfl (by kernel_rfl) (by rfl) (fun K hK => ?_)
      refine Ht.enter 89 #[] (by have hen := fun args w => enters_of (P := Tryz.prog) Tryz.func89 (by kernel_rfl) rfl args w; go_simp) (new_v _) ?_
      rintro e w2 ⟨rfl, hv2, hb2⟩
      have hb3 : Below w1.heap.size w1 w2 := hS0.trans (hb2.mono hS0.size)
      have c2' := (hb3.cell (p := ⟨rb, 3, none⟩) HB.out.2.lt).trans c3
      have hfz : w2.frozen? ⟨rb, 3, none⟩ = false := by
        have := (hb3.block rb HB.out.2.lt).trans HB.out.2.obj
        simp [World.frozen?, this]
      have hzz := hS0.size
      have HN := Lib.hid (And.intro hv2 hb3)
      clear hv2 hb2
      refine ⟨_, rfl, hK _ _ (fun hn => hb3) (fun hnx => ?_)⟩
      clear hK K hnx
      try simp only [Act.put, List.setIfInBounds_toArray, List.set_cons_zero, List.set_cons_succ]
      refine Ht.step (i := 5) ⟨some 29, _, _, _, _, _⟩ rfl (by kernel_rfl) (by rfl) (fun K hK => ?_)
      go_simp
      refine hK _ _ (fun hn => hb3) (fun hnx => ?_)
      clear hK K hnx
      try simp only [Act.put, List.setIfInBounds_toArray, List.set_cons_zero, List.set_cons_succ]
      refine Ht.step (i := 6) ⟨none, _, _, _, _, _⟩ rfl (by kernel_rfl) (by rfl) (fun K hK => ?_)
      go_simp
      refine hK _ _ (fun hn => absurd rfl hn) (fun hnx => ?_)
      clear hK K hnx
      try simp only [Act.put, List.setIfInBounds_toArray, List.set_cons_zero, List.set_cons_succ]
      refine done (by kernel_rfl) ?_
      obtain ⟨W, hW⟩ : ∃ W, W = w2.setCell ⟨rb, 3, none⟩ (.pointer (some ⟨w1.heap.size, 0, none⟩)) := ⟨_, rfl⟩
      rw [← hW]
      obtain ⟨o1, o2, o3⟩ := HB.out.2.opened (q := 3) (hb := w1.heap.size) (by omega) HL.out HN.out.2 HN.out.1 (Nat.le_refl _) hW
      have cq : W.cell? ⟨rb, 3, none⟩ = some (.pointer (some ⟨w1.heap.size, 0, none⟩)) := by rw [hW]; exact World.cell?_setCell_same _ _ _ c2'
      have hput := put_any o3 (k := k) H.out.2.1 r (by simp)
      rw [← HV.out.1, ← HV.out.2] at hput
      have HO := Lib.hid (And.intro o1 o2)
      clear o1 o2 o3 hW c2' hfz hzz hS0 hcs
      go_wp2_with fail
      refine hput.mono ?_
      rintro e w3 ⟨rfl, hw⟩
      have HW := Lib.hid hw
      clear hput hw
      go_wp2_with fail
      go_ret
      refine ⟨rfl, ?_⟩
      obtain ⟨a1, a2, a3⟩ := H.out.1.app H.out.2.1 r (q := 3) (by omega) H.out.2.2.2.1
      refine Rw.trans (Rw.behind (HO.out.1.deed (q := 3) (by omega) rfl HW.out (by have := put_lin 3 r H.out.2.2.2.1; rw [HL.out] at this; exact this) (fun j _ hj => lin_other M k 3 r hj) a1 a2 a3) HO.out.2 (fun x hx => ?_)) HB.out.1
      rcases hx with hx | ⟨i, hi, hx⟩
      · exact .inl (.inl hx)
      · try simp only at hx
        by_cases e : i = 3
        · rw [if_pos e] at hx; exact .inr (by omega)
        · rw [if_neg e] at hx; exact .inl (.inr ⟨i, hi, hx⟩)
    · have hv1 := Lib.hid hv
      rw [hpq] at c3
      have hput := put_any hv (k := k) H.out.2.1 r (by have := lin_len M 3; have := H.out.2.2.2.2; omega)
      rw [← HV.out.1, ← HV.out.2] at hput
      have HQ := Lib.hid hpq
      clear hv hpq
      go_wp2_with fail
      refine hput.mono ?_
      rintro e w2 ⟨rfl, hw⟩
      have HW := Lib.hid hw
      clear hput hw
      go_wp2_with fail
      go_ret
      refine ⟨rfl, ?_⟩
      obtain ⟨a1, a2, a3⟩ := H.out.1.app H.out.2.1 r (q := 3) (by omega) H.out.2.2.2.1
      exact Rw.trans (HB.out.2.deed (by omega) HQ.out HW.out (put_lin 3 r H.out.2.2.2.1) (fun j _ hj => lin_other M k 3 r hj) a1 a2 a3) HB.out.1
end
end Go.Proofs.YtcodjknhnhdkfaaGreatDoor.Nx
