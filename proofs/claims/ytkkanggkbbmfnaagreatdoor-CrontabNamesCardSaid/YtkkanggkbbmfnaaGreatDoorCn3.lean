
/- expressions: a text's pieces, one by one (strings.SplitSeq) -/
import Derived.Test.YtkkanggkbbmfnaaGreatDoorCn2
import Derived.Test.YtkkanggkbbmfnaaGreatDoorRy
import Derived.Test.YtkkanggkbbmfnaaGreatDoorHr
import Derived.Shelf.Abstract
import Derived.Shelf.RegionOpen
import Derived.OwnWalkIn
import Derived.TacticsInMore
import Derived.LoopNIn
import Derived.LoopIn
namespace Go.Proofs.YtkkanggkbbmfnaaGreatDoor.Cn
open Go.RowKit Go.Lib Go.Proofs.YtkkanggkbbmfnaaGreatDoor.Rg
attribute [local go_sem] Oper.semAt_some
set_option linter.unusedVariables false

theorem index_any (s : L) (c : UInt8) (w : World) :
    Calls Tryz.prog 84 #[S s, .string ⟨#[c]⟩] w fun e w' => e = .returned (.int .i64 (fiI c s)) ∧ w' = w := by
  have h := Tryz.strings_Index_one ⟨s.toArray⟩ c w
  have e : indexByte s c = fiI c s := by
    induction s with
    | nil => rfl
    | cons b l ih =>
      have h2 := fun w => Tryz.strings_Index_one ⟨l.toArray⟩ c w
      unfold indexByte fiI fi
      have ih := ih (h2 w)
      by_cases hb : b = c
      · subst hb; simp
      · rw [if_neg (by simpa using hb), if_neg hb, ih]
        unfold fiI
        cases fi c l with
        | none => simp
        | some i => simp
  rw [← e]
  exact h
/-- the pieces that are told -/
def encS (x : L) : Array Value := #[S x]
def PieceC (ps : List L) (m : Nat) (x : L) (_ : World) : Prop := ps[m]? = some x
/-- the boxes that the iterator reads -/
abbrev seqB (b : Nat) : Array Value := #[.pointer (some ⟨b + 1, 0, none⟩), .pointer (some ⟨b, 0, none⟩), .pointer (some ⟨b + 2, 0, none⟩)]
theorem seq_any (s : L) (c : UInt8) (w : World) :
    Calls Tryz.prog 62 #[S s, .string ⟨#[c]⟩] w fun e w' => e = .returned (.func (.func 107) #[] (seqB w.heap.size)) ∧
      w' = ((w.alloc (.cells #[S s] 9)).alloc (.cells #[.string ⟨#[c]⟩] 9)).alloc (.cells #[.int .i64 0] 3) := by
  have hmf : ∀ (fn : Fn) (first cap : Array Value) (w : World), (Instr.makeFunc fn first cap).run Tryz.prog w = .ok (.func fn first cap) w := fun _ _ _ _ => rfl
  go_enter Tryz.func62, Tryz.ntmps62
  go_wp2_with go_in
  go_ret
  exact ⟨rfl, rfl⟩
/-- the text that lies in a box -/
def strAt (b : Nat) (w : World) : Nat := match w.cell? ⟨b, 0, none⟩ with
  | some (.string x) => x.size
  | _ => 0
theorem one_cell {w : World} {b : Nat} {v : Value} {t : TypeId} (h : w.heap[b]? = some (.cells #[v] t (0, 0))) : w.cell? ⟨b, 0, none⟩ = some v ∧ w.frozen? ⟨b, 0, none⟩ = false := by
  constructor <;> simp [World.cell?, World.frozen?, h]
theorem strAt_eq {w : World} {b : Nat} {l : L} {t : TypeId} (h : w.heap[b]? = some (.cells #[S l] t (0, 0))) : strAt b w = l.length := by
  unfold strAt; rw [(one_cell h).1]; exact size_S l
theorem one_set {w : World} {b : Nat} {v : Value} {t : TypeId} (h : w.heap[b]? = some (.cells #[v] t (0, 0))) (u : Value) : (w.setCell ⟨b, 0, none⟩ u).heap[b]? = some (.cells #[u] t (0, 0)) :=
  heap_setCell_same w b 0 #[v] t u h
set_option maxRecDepth 20000 in
set_option maxHeartbeats 4000000 in
theorem seq_iter (n n₀ n₁ b : Nat) (s : L) (c : UInt8) (w : World) (hs : s.length ≤ 1000) (hb1 : n₁ ≤ b) (hb2 : b + 2 < w.heap.size)
    (h0 : w.heap[b]? = some (.cells #[S s] 9 (0, 0))) (h1 : w.heap[b + 1]? = some (.cells #[.string ⟨#[c]⟩] 9 (0, 0))) (h2 : w.heap[b + 2]? = some (.cells #[.int .i64 0] 3 (0, 0))) :
    IterO (fun k => k = b) true Fence.wide n Tryz.prog 107 (seqB b) encS n₀ n₁ w.heap.size (PieceC (sp c s)) (fun m => m = (sp c s).length) w := by
  intro l J K W hW hJ hKK hY hJ0
  have HJ := Lib.hid hJ
  have HKK := Lib.hid hKK
  have HY := Lib.hid hY
  have HJ0 := Lib.hid hJ0
  have g0 := (hW.block b (by omega)).trans h0
  have g1 := (hW.block (b + 1) (by omega)).trans h1
  have g2 := (hW.block (b + 2) (by omega)).trans h2
  have hk1 := (one_cell g1).1
  have HW := Lib.hid (And.intro hW (And.intro g0 (And.intro g1 g2)))
  clear hJ hKK hY hJ0 hW g0 g1 g2 h0 h1 h2
  refine callsIn_of_wp Tryz.func107 rfl trivial ?_ rfl
  simp only [Tryz.ntmps107, List.size_toArray, List.length_cons, List.length_nil, Nat.reduceAdd, Nat.reduceSub, Array.replicate_succ, Array.replicate_zero, List.push_toArray, List.append_toArray, List.nil_append, List.cons_append]
  gi_wp2_with fail
  gi_loopw [] (fun wr => ∃ (m : Nat) (r : L), (sp c s).drop m = sp c r ∧ r.length ≤ s.length ∧ J m wr ∧ w.heap.size ≤ wr.heap.size ∧ wr.heap[b]? = some (.cells #[S r] 9 (0, 0)) ∧ wr.heap[b + 1]? = some (.cells #[.string ⟨#[c]⟩] 9 (0, 0)) ∧ wr.heap[b + 2]? = some (.cells #[.int .i64 0] 3 (0, 0))) (fun wr => strAt b wr)
  case atStart => exact ⟨0, s, rfl, Nat.le_refl _, HJ0.out, HW.out.1.size, HW.out.2.1, HW.out.2.2.1, HW.out.2.2.2⟩
  case round =>
    obtain ⟨m, r, hd, hr, hj, hz, g0, g1, g2⟩ := hrel
    obtain ⟨k0, f0⟩ := one_cell g0
    have k1 := (one_cell g1).1
    have k2 := (one_cell g2).1
    have hsz := size_S r
    have HA := Lib.hid (And.intro hd (And.intro hj (And.intro g0 (And.intro g1 g2))))
    clear hd hj g0 g1 g2
    cases hfi : fi c r with
    | none =>
      have hI : fiI c r = -1 := by unfold fiI; rw [hfi]
      have hx := index_any r c wr
      rw [hI] at hx
      have hps : (sp c s)[m]? = some r ∧ (sp c s).length = m + 1 := by
        have e1 : (sp c s).drop m = [r] := HA.out.1.trans (sp_miss hfi)
        have e2 := congrArg List.length e1
        rw [List.length_drop, List.length_singleton] at e2
        refine ⟨?_, by omega⟩
        have e3 : ((sp c s).drop m)[0]? = some r := by rw [e1]; rfl
        rw [List.getElem?_drop] at e3
        exact e3
      have HP := Lib.hid hps
      clear hps hfi hI
      obtain ⟨fn, tmps, assign, body, hy, hR⟩ := HY.out m r wr HA.out.2.1 HP.out.1
      dsimp only [encS] at hy
      gi_wp2_with fail
      refine ⟨trivial, (fun h => by cases h), (callsIn_wide.2 hx).mono ?_⟩
      rintro e w' ⟨rfl, rfl⟩
      gi_wp2_with fail
      refine ⟨(fun h => by cases h), hR.mono ?_⟩
      rintro e' W3 (⟨rfl, hJ3, hm3⟩ | ⟨_, rfl, hK3⟩)
      · gi_wp2_with fail
        go_end0
        exact ⟨⟨_, rfl⟩, .inl ⟨m + 1, HP.out.2.symm, hJ3⟩⟩
      · gi_wp2_with fail
        go_end0
        exact ⟨⟨_, rfl⟩, .inr ⟨m, hK3⟩⟩
    | some i =>
      obtain ⟨i1, i2, i3⟩ := fi_some hfi
      have hI : fiI c r = (i : Nat) := by unfold fiI; rw [hfi]
      have hx := index_any r c wr
      rw [hI] at hx
      have hlt : (i : Int) < ((⟨r.toArray⟩ : ByteArray).size : Nat) := by rw [hsz]; omega
      have hsl1 := sub_S r 0 i
      have hsl2 := sub_S r (i + 1) r.length
      rw [List.drop_zero, Nat.sub_zero] at hsl1
      rw [List.take_of_length_le (by rw [List.length_drop]; omega)] at hsl2
      have hps : (sp c s)[m]? = some (r.take i) ∧ (sp c s).drop (m + 1) = sp c (r.drop (i + 1)) := by
        have e1 : (sp c s).drop m = r.take i :: sp c (r.drop (i + 1)) := HA.out.1.trans (sp_at hfi)
        constructor
        · have e3 : ((sp c s).drop m)[0]? = some (r.take i) := by rw [e1]; rfl
          rw [List.getElem?_drop] at e3
          exact e3
        · rw [← List.drop_drop, e1]; rfl
      have HP := Lib.hid hps
      clear hps hfi hI i2 i3
      obtain ⟨fn, tmps, assign, body, hy, hR⟩ := HY.out m (r.take i) wr HA.out.2.1 HP.out.1
      dsimp only [encS] at hy
      gi_wp2_with fail
      refine ⟨trivial, (fun h => by cases h), (callsIn_wide.2 hx).mono ?_⟩
      rintro e w' ⟨rfl, rfl⟩
      gi_wp2_with fail
      refine ⟨(fun h => by cases h), hR.mono ?_⟩
      rintro e' W3 (⟨rfl, hJ3, hm3⟩ | ⟨_, rfl, hK3⟩)
      · have g0 := (hm3.block b (.inr hb1) (by omega)).trans HA.out.2.2.1
        have g1 := (hm3.block (b + 1) (.inr (by omega)) (by omega)).trans HA.out.2.2.2.1
        have g2 := (hm3.block (b + 2) (.inr (by omega)) (by omega)).trans HA.out.2.2.2.2
        obtain ⟨k0', f0'⟩ := one_cell g0
        have k1' := (one_cell g1).1
        have hz3 := hm3.size
        have HF := Lib.hid (And.intro hJ3 (And.intro g0 (And.intro g1 g2)))
        clear hJ3 hm3 g0 g1 g2 k0 f0 k1 k2 hsl1 hlt
        gi_wp2_with fail
        refine ⟨⟨m + 1, r.drop (i + 1), HP.out.2, by rw [List.length_drop]; omega, HJ.out _ _ _ HF.out.1 (BelowO.set (own := fun k => k = b) (p := ⟨b, 0, none⟩) (BelowO.of (Below.refl _ _)) rfl _), by simp; omega, one_set HF.out.2.1 _, ?_, ?_⟩, ?_⟩
        · rw [heap_setCell_other _ _ _ _ (by simp)]; exact HF.out.2.2.1
        · rw [heap_setCell_other _ _ _ _ (by simp)]; exact HF.out.2.2.2
        · rw [strAt_eq HA.out.2.2.1, strAt_eq (one_set HF.out.2.1 _), List.length_drop]; omega
      · gi_wp2_with fail
        refine bodyPost_ret (results_none rfl _ _ _) rfl ?_
        exact ⟨⟨_, rfl⟩, .inr ⟨m, hK3⟩⟩
end Go.Proofs.YtkkanggkbbmfnaaGreatDoor.Cn
