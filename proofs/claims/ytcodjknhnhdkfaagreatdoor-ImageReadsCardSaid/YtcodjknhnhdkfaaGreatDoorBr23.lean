/- a job where its state belongs: enter -/
import Derived.Test.YtcodjknhnhdkfaaGreatDoorBrImJ
import Derived.Test.YtcodjknhnhdkfaaGreatDoorSp1
import Derived.Test.YtcodjknhnhdkfaaGreatDoorBr02
import Derived.Test.YtcodjknhnhdkfaaGreatDoorBr06
namespace Go.Proofs.YtcodjknhnhdkfaaGreatDoor.Im
open Go.RowKit Go.Lib Hp Ht
set_option linter.unusedVariables false
set_option linter.unusedSectionVars false
set_option maxRecDepth 20000
attribute [local go_sem] Oper.semAt_some
section
variable {S : Nat → Nat → Prop} {w : World} {sb mb gb rb wb lb : Nat} {jb : K → Nat} {now each : Int} {order : Nat} {ns : List DgB.Id} {js : List Jb} {m : Nat}
/-- behind a deed that may be refused: all old blocks but its own are kept, and if it isn't refused it's whole -/
def Ent (S : Nat → Nat → Prop) (w : World) (sb mb gb rb wb lb : Nat) (jb : K → Nat) (now each : Int) (order : Nat) (ns : List DgB.Id) (js : List Jb) (m : Nat) (e : Ending) (w' : World) : Prop :=
  ∃ (er : Int) (S' : Nat → Nat → Prop), e = .returned (.int .i64 er) ∧ Fr (fun k => ∃ i, 0 < i ∧ S i k) w w' ∧ (er = 0 → Sd S' w' sb mb gb rb wb lb jb now each order ns js m ∧ S' 0 = S 0 ∧ ∀ i k, S' i k → S i k ∨ w.heap.size ≤ k)
theorem put_in {a : Nat} {T : Nat → Prop} {B : Nat} (h : ∀ k, T k → S a k ∨ B ≤ k) : ∀ i k, put S a T i k → S i k ∨ B ≤ k := by
  intro i k hk
  unfold put at hk
  by_cases e : i = a
  · rw [if_pos e] at hk; rw [e]; exact h k hk
  · rw [if_neg e] at hk; exact .inl hk
theorem Ent.no {e : Ending} {w' : World} (er : Int) (h0 : er ≠ 0) (he : e = .returned (.int .i64 er)) (b : Below w.heap.size w w') : Ent S w sb mb gb rb wb lb jb now each order ns js m e w' := ⟨er, S, he, Fr.of_below b, fun e => absurd e h0⟩
theorem Ent.from {Y : World} {e : Ending} {w' : World} (b : Below w.heap.size w Y) (h : Ent S Y sb mb gb rb wb lb jb now each order ns js m e w') : Ent S w sb mb gb rb wb lb jb now each order ns js m e w' := by
  obtain ⟨er, S', h1, h2, h3⟩ := h
  exact ⟨er, S', h1, (Fr.of_below b).trans h2 fun x hx => .inl hx, fun e0 => ⟨(h3 e0).1, (h3 e0).2.1, fun i k hk => ((h3 e0).2.2 i k hk).imp_right fun hk => Nat.le_trans b.size hk⟩⟩
theorem below_drewn (w : World) (d : Nat) : Below w.heap.size w (w.drewN d) := by
  induction d with
  | zero => exact Below.refl _ _
  | succ n ih => exact ih.drew
theorem take_e (h : Sd S w sb mb gb rb wb lb jb now each order ns js m) (hm : m ≤ 900000) (t : ByteArray) (ht : t.size ≤ maxLen) : Calls Tryz.prog 72 #[.pointer (some ⟨lb, 0, none⟩), .string t] w (Ent S w sb mb gb rb wb lb jb now each order ns js (m + 1)) := by
  obtain ⟨nm, c, M, H, q, hc⟩ := h.l
  have hk : Qt.wk t.data.toList := by unfold Qt.wk; simpa using ht
  have ek : (Value.string t) = Qt.ek t.data.toList := by unfold Qt.ek; simp
  by_cases hq : Qt.may each M t.data.toList ≤ Qt.has H t.data.toList
  · have := Qt.Take_no q t.data.toList hk hq
    rw [← Qt.ek, ← ek] at this
    refine this.mono ?_
    rintro e w' ⟨rfl, rfl⟩
    exact Ent.no 14 (by decide) rfl (Below.refl _ _)
  · have := Qt.Take_ok q t.data.toList hk (by omega) (by omega)
    rw [← Qt.ek, ← ek] at this
    refine this.mono ?_
    rintro e w' ⟨rfl, T, hT, hf, hn⟩
    have hfam := h.fam
    exact ⟨0, put S 4 T, rfl, hf.mono fun x _ hx => ⟨4, by decide, hx⟩, fun _ => ⟨(h.more (Nat.le_succ m)).setL hf hT (fun k hk => ⟨hn k hk, Qt.Lv.size hT k hk⟩) (by omega), rfl, put_in hn⟩⟩
theorem put_e (h : Sd S w sb mb gb rb wb lb jb now each order ns js m) (hm : m ≤ 900000) (t : ByteArray) (ht : t.size ≤ 1000) (q : Int) (r : Nat) : Calls Tryz.prog 73 #[.pointer (some ⟨rb, 0, none⟩), .string t, .int .i64 q, .int .u64 ((r : Nat) : Int)] w (Ent S w sb mb gb rb wb lb jb now each order ns js (m + 1)) := by
  obtain ⟨M, hr, hM⟩ := h.r
  have hk : HpE.wk t.data.toList := by unfold HpE.wk; simpa using ht
  have ek : (Value.string t) = HpE.ek t.data.toList := by unfold HpE.ek; simp
  by_cases hq : 0 ≤ q ∧ q < 4
  · obtain ⟨q, rfl⟩ := Int.eq_ofNat_of_zero_le hq.1
    by_cases hm' : t.data.toList ∈ M.map (·.1)
    · have := hr.Put_same hk ((r : Nat) : Int) hq hm'
      rw [← ek] at this
      refine this.mono ?_
      rintro e w' ⟨rfl, hb⟩
      exact Ent.no 8 (by decide) rfl hb
    · have := hr.Put_ok hk ((r : Nat) : Int) (q := q) (by omega) hm' (by omega)
      rw [← ek] at this
      refine this.mono ?_
      rintro e w' ⟨rfl, T, hT, hf, hn⟩
      exact ⟨0, put S 2 T, rfl, hf.mono fun x _ hx => ⟨2, by decide, hx⟩, fun _ => ⟨(h.more (Nat.le_succ m)).setR hf hT (fun k hk => ⟨hn k hk, hT.size k hk⟩) (by simp; omega), rfl, put_in hn⟩⟩
  · refine (hr.Put_bad (.string t) ((r : Nat) : Int) hq).mono ?_
    rintro e w' ⟨rfl, rfl⟩
    exact Ent.no 3 (by decide) rfl (Below.refl _ _)
theorem add_e (h : Sd S w sb mb gb rb wb lb jb now each order ns js m) (hm : m ≤ 800000) (t : ByteArray) (ht : t.size ≤ maxLen) (du : Int) : Calls Tryz.prog 74 #[.pointer (some ⟨wb, 0, none⟩), .string t, .int .i64 du] w (Ent S w sb mb gb rb wb lb jb now each order ns js (m + 1)) := by
  obtain ⟨L, hv, hL⟩ := h.t
  have hk : Wh.wk t.data.toList := by unfold Wh.wk; simpa using ht
  have ek : (Value.string t) = Wh.ek t.data.toList := by unfold Wh.ek; simp
  by_cases hb : t.data.toList = [] ∨ ¬ (0 ≤ du ∧ du ≤ Wh.MT)
  · have := Wh.add_bad hv (k := t.data.toList) (t := du) hb
    rw [← ek] at this
    refine this.mono ?_
    rintro e w' ⟨rfl, rfl⟩
    exact Ent.no 1 (by decide) rfl (Below.refl _ _)
  · have h1 : ¬ t.data.toList = [] := fun e => hb (.inl e)
    have h2 : Wh.Tk du := by
      unfold Wh.Tk
      exact Decidable.byContradiction fun e => hb (.inr e)
    obtain ⟨f, hf⟩ : ∃ f, Wh.Ls f L := by obtain ⟨_, _, f, _, hf⟩ := hv; exact ⟨f, hf⟩
    by_cases hs : (f t.data.toList).isSome = true
    · have := Wh.add_no hv hf h1 hk h2 (c := 8) (.inl ⟨hs, rfl⟩) (by omega)
      rw [← ek] at this
      refine this.mono ?_
      rintro e w' ⟨rfl, d, rfl⟩
      exact Ent.no 8 (by decide) rfl (below_drewn _ _)
    · have hn : f t.data.toList = none := by cases hx : f t.data.toList <;> simp_all
      by_cases hl : L.length < 128
      · have := Wh.add_yes hv hf h1 hk h2 hn hl (by omega)
        rw [← ek] at this
        refine this.mono ?_
        rintro e w' ⟨rfl, T, hT, hn', hfr⟩
        exact ⟨0, put S 3 T, rfl, hfr.mono fun x _ hx => ⟨3, by decide, hx⟩, fun _ => ⟨(h.more (Nat.le_succ m)).setT hfr hT (fun k hk => ⟨hn' k hk, hT.size k hk⟩) (by simp; omega), rfl, put_in hn'⟩⟩
      · have := Wh.add_no hv hf h1 hk h2 (c := 6) (.inr ⟨hn, by omega, rfl⟩) (by omega)
        rw [← ek] at this
        refine this.mono ?_
        rintro e w' ⟨rfl, d, rfl⟩
        exact Ent.no 6 (by decide) rfl (below_drewn _ _)
end
end Go.Proofs.YtcodjknhnhdkfaaGreatDoor.Im
namespace Go.Proofs.YtcodjknhnhdkfaaGreatDoor.DgB
open Go.RowKit Go.Lib Hp Mv Dg Ht
set_option linter.unusedVariables false
set_option maxRecDepth 20000
attribute [local go_sem] Oper.semAt_some
section
variable {S : Nat → Prop} {w : World} {gb : Nat} {mv : Option Nat} {ns : List Id} {E : Id → Id → Bool} {nb ob ub : Id → Nat}
set_option maxHeartbeats 4000000 in
theorem add_same (q : Gq S w gb mv ns E nb ob ub) (k : (List UInt8)) (hk : okK k) (hin : (k, false) ∈ ns) : Calls Tryz.prog 39 #[.pointer (some ⟨gb, 0, none⟩), kv k, .slice none 0 0] w fun e w' => e = .returned (.int .i64 8) ∧ Below w.heap.size w w' := by
  have HQ := Lib.hid (And.intro q (And.intro hk hin))
  clear q hk hin
  unfold kv
  go_enter Tryz.func39, Tryz.ntmps39
  go_wp2_with fail
  refine (idOf_any k _).mono ?_
  rintro e W1 ⟨rfl, hb1⟩
  have HB1 := Lib.hid hb1
  clear hb1
  unfold ek kv
  go_wp2_with fail
  obtain ⟨W2, hW2⟩ : ∃ V, V = W1.alloc (.cells #[.string ⟨k.toArray⟩, .bool false] 115) := ⟨_, rfl⟩
  have hb2 : Below W1.heap.size W1 W2 := by rw [hW2]; exact below_new _ _
  have hid2 := cell_id W1 (k, false)
  unfold kv at hid2
  rw [← hW2] at hid2 ⊢
  clear hW2
  obtain ⟨B, hB⟩ : ∃ B, B = W1.heap.size := ⟨_, rfl⟩
  rw [← hB] at hid2 hb2 ⊢
  have hbB : Below w.heap.size w W2 := HB1.out.trans (hb2.mono (by rw [hB]; exact HB1.out.size))
  have q2 := HQ.out.1.below hbB (Nat.le_refl _)
  have H2 := Lib.hid hbB
  clear hbB hid2 hb2 hB HB1
  refine (has_any q2 (k, false) HQ.out.2.1).mono ?_
  rintro e W3 ⟨rfl, hb3⟩
  rw [decide_eq_true HQ.out.2.2]
  have H3 := Lib.hid hb3
  clear hb3 q2
  go_wp2_with fail
  go_ret
  exact ⟨rfl, H2.out.trans (H3.out.mono H2.out.size)⟩
set_option maxHeartbeats 4000000 in
theorem link_none (q : Gq S w gb mv ns E nb ob ub) (k on : (List UInt8)) (hk : (k, false) ∈ ns) (ho : (on, false) ∉ ns) (hok : okK on) : Calls Tryz.prog 59 #[.pointer (some ⟨gb, 0, none⟩), kv k, kv on] w fun e w' => e = .returned (.int .i64 7) ∧ Below w.heap.size w w' := by
  have HQ := Lib.hid (And.intro q (And.intro hk (And.intro ho hok)))
  clear q hk ho hok
  unfold kv
  go_enter Tryz.func59, Tryz.ntmps59
  go_wp2_with fail
  refine (idOf_any k _).mono ?_
  rintro e W1 ⟨rfl, hb1⟩
  have HB1 := Lib.hid hb1
  clear hb1
  unfold ek kv
  go_wp2_with fail
  refine (idOf_any on _).mono ?_
  rintro e W2 ⟨rfl, hb2⟩
  have HB2 := Lib.hid hb2
  clear hb2
  unfold ek kv
  go_wp2_with fail
  obtain ⟨V, hV⟩ : ∃ V, V = (W2.alloc (.cells #[.string ⟨k.toArray⟩, .bool false] 115)).alloc (.cells #[.string ⟨on.toArray⟩, .bool false] 115) := ⟨_, rfl⟩
  have hA := below_new W2 (.cells #[kv k, .bool false] 115)
  have hB := below_new (W2.alloc (.cells #[kv k, .bool false] 115)) (.cells #[kv on, .bool false] 115)
  have ck := cell_id W2 (k, false)
  have co := cell_id (W2.alloc (.cells #[kv k, .bool false] 115)) (on, false)
  have ck2 := And.intro (bc hB ck.1) (bc hB ck.2)
  rw [show (W2.alloc (.cells #[kv k, .bool false] 115)).heap.size = W2.heap.size + 1 by simp] at co
  have hbV : Below W2.heap.size W2 ((W2.alloc (.cells #[kv k, .bool false] 115)).alloc (.cells #[kv on, .bool false] 115)) := hA.trans (hB.mono hA.size)
  unfold kv at ck2 co hbV
  rw [← hV] at ck2 co hbV ⊢
  obtain ⟨N, hN⟩ : ∃ N, N = W2.heap.size := ⟨_, rfl⟩
  have hbw : Below w.heap.size w V := HB1.out.trans ((HB2.out.trans (hbV.mono HB2.out.size)).mono HB1.out.size)
  rw [← hN] at ck2 co ⊢
  have HV := Lib.hid (And.intro hbw (And.intro (HQ.out.1.below hbw (Nat.le_refl _)) (And.intro ck2 co)))
  clear hV hA hB ck hN hbV hbw
  have hh1 := has_any HV.out.2.1 (k, false) (HV.out.2.1.ok _ HQ.out.2.1).1
  rw [decide_eq_true HQ.out.2.1] at hh1
  refine hh1.mono ?_
  rintro e V1 ⟨rfl, hb1⟩
  have H1 := Lib.hid hb1
  have co1 := And.intro (bc hb1 co.1) (bc hb1 co.2)
  have q1 := HV.out.2.1.below hb1 (Nat.le_refl _)
  have hh2 := has_any q1 (on, false) HQ.out.2.2.2
  rw [decide_eq_false HQ.out.2.2.1] at hh2
  clear hb1 hh1 q1 ck2 co
  go_wp2_with fail
  refine hh2.mono ?_
  rintro e V2 ⟨rfl, hb2⟩
  have H2 := Lib.hid (HV.out.1.trans ((H1.out.trans (hb2.mono H1.out.size)).mono HV.out.1.size))
  clear hh2 hb2 co1
  go_wp2_with fail
  go_ret
  exact ⟨rfl, H2.out⟩
end
end Go.Proofs.YtcodjknhnhdkfaaGreatDoor.DgB
namespace Go.Proofs.YtcodjknhnhdkfaaGreatDoor.Im
open Go.RowKit Go.Lib Hp Ht
set_option linter.unusedVariables false
section
variable {S : Nat → Nat → Prop} {w : World} {sb mb gb rb wb lb : Nat} {jb : K → Nat} {now each : Int} {order : Nat} {ns : List DgB.Id} {js : List Jb} {m : Nat}
theorem node_e (h : Sd S w sb mb gb rb wb lb jb now each order ns js m) (hm : m ≤ 800000) (t : ByteArray) (ht : t.size ≤ maxLen) :
    Calls Tryz.prog 39 #[.pointer (some ⟨gb, 0, none⟩), .string t, .slice none 0 0] w fun e w' => Ent S w sb mb gb rb wb lb jb now each order (ns ++ [(t.data.toList, false)]) js (m + 1) e w' ∧ (e = .returned (.int .i64 0) → (t.data.toList, false) ∉ ns) := by
  obtain ⟨⟨E, mv, nb, ob, ub, q⟩, hl⟩ := h.g
  have hk : DgB.okK t.data.toList := by unfold DgB.okK; simpa using ht
  have ek : (Value.string t) = DgB.kv t.data.toList := by unfold DgB.kv; simp
  rw [ek]
  by_cases hin : (t.data.toList, false) ∈ ns
  · refine (DgB.add_same q _ hk hin).mono ?_
    rintro e w' ⟨rfl, hb⟩
    exact ⟨Ent.no 8 (by decide) rfl hb, fun e => by simp at e⟩
  · refine (DgB.add_any q _ hk hin (.slice none 0 0) [] (.inl ⟨rfl, rfl⟩) (fun o ho => by simp at ho) (fun o ho => by simp at ho) (by omega) (by simp)).mono ?_
    rintro e w' ⟨rfl, T, hT, hf, hn⟩
    refine ⟨⟨0, put S 1 T, rfl, hf.mono fun x _ hx => ⟨1, by decide, hx⟩, fun _ => ⟨(h.more (Nat.le_succ m)).setG hf hT (fun k hk => ⟨hn k hk, ?_⟩) (by simp; omega), rfl, put_in hn⟩⟩, fun _ => hin⟩
    obtain ⟨_, _, _, _, q⟩ := hT
    exact q.size k hk
theorem link_e (h : Sd S w sb mb gb rb wb lb jb now each order ns js m) (hm : m ≤ 800000) (t o : ByteArray) (ht : (t.data.toList, false) ∈ ns) (ho : o.size ≤ maxLen) :
    Calls Tryz.prog 59 #[.pointer (some ⟨gb, 0, none⟩), .string t, .string o] w (Ent S w sb mb gb rb wb lb jb now each order ns js m) := by
  obtain ⟨⟨E, mv, nb, ob, ub, q⟩, hl⟩ := h.g
  have hk : DgB.okK o.data.toList := by unfold DgB.okK; simpa using ho
  have ek : ∀ t : ByteArray, (Value.string t) = DgB.kv t.data.toList := fun t => by unfold DgB.kv; simp
  rw [ek t, ek o]
  by_cases hin : (o.data.toList, false) ∈ ns
  · refine (DgB.link_any q _ _ ht hin (by omega)).mono ?_
    rintro e w' ⟨n, rfl, E', q', hf, _⟩
    refine ⟨n, S, rfl, hf.mono fun x _ hx => ⟨1, by decide, hx⟩, fun _ => ⟨?_, rfl, fun i k hk => .inl hk⟩⟩
    have := h.setG hf ⟨mv, nb, ob, ub, q'⟩ (fun k hk => ⟨.inl hk, by have := h.fam.lt 1 k hk; have := hf.size; omega⟩) hl
    rwa [show put S 1 (S 1) = S from funext fun i => by unfold put; by_cases e : i = 1 <;> simp [e]] at this
  · refine (DgB.link_none q _ _ ht hin hk).mono ?_
    rintro e w' ⟨rfl, hb⟩
    exact Ent.no 7 (by decide) rfl hb
end
end Go.Proofs.YtcodjknhnhdkfaaGreatDoor.Im
namespace Go.Proofs.YtcodjknhnhdkfaaGreatDoor.Im
open Go.RowKit Go.Lib Hp Ht
set_option linter.unusedVariables false
set_option linter.unusedSectionVars false
set_option maxRecDepth 20000
attribute [local go_sem] Oper.semAt_some
section
variable {S : Nat → Nat → Prop} {w : World} {sb mb gb rb wb lb : Nat} {jb : K → Nat} {now each : Int} {order : Nat} {ns : List DgB.Id} {js : List Jb} {m : Nat}
/-- a scheduler's fields, and a job's that lies elsewhere, behind any deed to its parts -/
def Cls (S : Nat → Nat → Prop) (w : World) (sb gb rb wb lb b : Nat) (j : Jb) : Prop := ∀ X, Fr (fun k => ∃ i, 0 < i ∧ S i k) w X →
  X.cell? ⟨sb, 4, none⟩ = some (.pointer (some ⟨rb, 0, none⟩)) ∧ X.cell? ⟨sb, 5, none⟩ = some (.pointer (some ⟨wb, 0, none⟩)) ∧ X.cell? ⟨sb, 6, none⟩ = some (.pointer (some ⟨lb, 0, none⟩)) ∧
  X.cell? ⟨b, 0, none⟩ = some (.string j.sp.nm) ∧ X.cell? ⟨b, 1, none⟩ = some (.string j.sp.tn) ∧ X.cell? ⟨b, 2, none⟩ = some (.int .i64 j.sp.pr) ∧ X.cell? ⟨b, 11, none⟩ = some (.int .i64 j.st) ∧ X.cell? ⟨b, 12, none⟩ = some (.int .i64 j.du) ∧ X.cell? ⟨b, 17, none⟩ = some (.int .u64 ((j.od : Nat) : Int))
theorem Sd.cls (h : Sd S w sb mb gb rb wb lb jb now each order ns js m) {j : Jb} {b : Nat} (hb : w.heap[b]? = some (.cells j.cs.toArray 42 (0, 0))) (ho : ∀ i, 0 < i → ¬ S i b) : Cls S w sb gb rb wb lb b j := by
  intro X hX
  have ns : ¬ ∃ i, 0 < i ∧ S i sb := fun ⟨i, h0, hi⟩ => by have := h.fam.dis i 0 sb hi h.core.sbC; omega
  have nb : ¬ ∃ i, 0 < i ∧ S i b := fun ⟨i, h0, hi⟩ => ho i h0 hi
  have cs : ∀ i v, (#[Value.int .i64 each, .int .u64 order, .map (some mb), .pointer (some ⟨gb, 0, none⟩), .pointer (some ⟨rb, 0, none⟩), .pointer (some ⟨wb, 0, none⟩), .pointer (some ⟨lb, 0, none⟩)] : Array Value)[i]? = some v → X.cell? ⟨sb, i, none⟩ = some v := fun i v e => hX.cell (cellj h.core.row e).1 ns
  have cb : ∀ i v, j.cs.toArray[i]? = some v → X.cell? ⟨b, i, none⟩ = some v := fun i v e => hX.cell (cellj hb e).1 nb
  exact ⟨cs 4 _ rfl, cs 5 _ rfl, cs 6 _ rfl, cb 0 _ rfl, cb 1 _ rfl, cb 2 _ rfl, cb 11 _ rfl, cb 12 _ rfl, cb 17 _ rfl⟩
theorem Ent.more {e : Ending} {w' : World} {n : Nat} (h : Ent S w sb mb gb rb wb lb jb now each order ns js m e w') (hn : m ≤ n) : Ent S w sb mb gb rb wb lb jb now each order ns js n e w' := by
  obtain ⟨er, S', h1, h2, h3⟩ := h
  exact ⟨er, S', h1, h2, fun e0 => ⟨(h3 e0).1.more hn, (h3 e0).2⟩⟩
/-- one behind another -/
theorem Ent.then {S' : Nat → Nat → Prop} {Y : World} {e : Ending} {w' : World} (hf : Fr (fun k => ∃ i, 0 < i ∧ S i k) w Y) (h0 : S' 0 = S 0) (hi : ∀ i k, S' i k → S i k ∨ w.heap.size ≤ k) (h : Ent S' Y sb mb gb rb wb lb jb now each order ns js m e w') : Ent S w sb mb gb rb wb lb jb now each order ns js m e w' := by
  obtain ⟨er, T, h1, h2, h3⟩ := h
  refine ⟨er, T, h1, hf.trans h2 fun x ⟨i, hi0, hx⟩ => ?_, fun e0 => ⟨(h3 e0).1, (h3 e0).2.1.trans h0, fun i k hk => ?_⟩⟩
  · rcases hi i x hx with hx | hx
    · exact .inl ⟨i, hi0, hx⟩
    · exact .inr hx
  · rcases (h3 e0).2.2 i k hk with hk | hk
    · exact hi i k hk
    · exact .inr (Nat.le_trans hf.size hk)
set_option maxHeartbeats 4000000 in
theorem enter_any (h : Sd S w sb mb gb rb wb lb jb now each order ns js m) (hm : m ≤ 700000) {j : Jb} {b : Nat} (hb : w.heap[b]? = some (.cells j.cs.toArray 42 (0, 0))) (ho : ∀ i, 0 < i → ¬ S i b) (hlt : b < w.heap.size) (hnm : j.sp.nm.size ≤ 1000) (htn : j.sp.tn.size ≤ 1000) :
    Calls Tryz.prog 58 #[.pointer (some ⟨sb, 0, none⟩), .pointer (some ⟨b, 0, none⟩)] w (Ent S w sb mb gb rb wb lb jb now each order ns js (m + 2)) := by
  have hmix : Tryz.prog.follows .mixedOrders = true := by kernel_rfl
  have hC := h.cls hb ho
  have hP := Sp.final_any j.st w
  have H := Lib.hid (And.intro h (And.intro hm (And.intro hb (And.intro ho (And.intro hnm htn)))))
  have HC := Lib.hid hC
  obtain ⟨c4, c5, c6, d0, d1, d2, d11, d12, d17⟩ := hC w (Fr.refl _ _)
  clear h hm hb ho hnm htn hC c4 c5 c6 d0 d1 d2 d12 d17
  generalize hst : j.st = st at *
  generalize hnm : j.sp.nm = nm at *
  generalize htn : j.sp.tn = tn at *
  generalize hpr : j.sp.pr = pr at *
  generalize hdu : j.du = du at *
  generalize hod : j.od = od at *
  have HJ := Lib.hid (And.intro hst (And.intro hnm (And.intro htn (And.intro hpr (And.intro hdu hod)))))
  clear hst hnm htn hpr hdu hod
  by_cases hf : st = 4 ∨ st = 5 ∨ st = 6
  · have e1 : (decide (st = 4) || decide (st = 5) || decide (st = 6)) = true := by simp [or_assoc]; exact hf
    rw [e1] at hP
    clear e1
    have n1 : ¬ st = 1 := by omega
    have n2 : ¬ st = 2 := by omega
    have n3 : ¬ st = 3 := by omega
    clear hf
    go_enter Tryz.func58, Tryz.ntmps58
    go_wp2_with fail
    refine hP.mono ?_
    rintro e w ⟨rfl, rfl⟩
    clear hP
    go_wp2_with fail
    go_ret
    exact ⟨0, S, rfl, Fr.refl _ _, fun _ => ⟨H.out.1.more (by omega), rfl, fun i k hk => .inl hk⟩⟩
  · have e1 : (decide (st = 4) || decide (st = 5) || decide (st = 6)) = false := by simp; omega
    rw [e1] at hP
    clear e1 hf
    go_enter Tryz.func58, Tryz.ntmps58
    go_wp2_with fail
    refine hP.mono ?_
    rintro e w ⟨rfl, rfl⟩
    clear hP
    have c1 : ∀ X, Fr (fun k => ∃ i, 0 < i ∧ S i k) w X → X.cell? ⟨b, 1, none⟩ = some (.string tn) := fun X hX => by have := (HC.out X hX).2.2.2.2.1; rw [HJ.out.2.2.1] at this; exact this
    have H1c := Lib.hid c1
    clear c1
    go_wp2_with fail
    refine begin' 10 (fun ZZ => Fr (fun k => ∃ i, 0 < i ∧ S i k) w ZZ) hmix (Fr.refl _ w).drew (fun hS0 => ?_)
    refine Ht.takeD 8 (i := 0) ⟨some 12, _, _, _, _, _⟩ (.pointer (some ⟨sb, 0, none⟩)) rfl (by kernel_rfl) (by kernel_rfl) (by decide) (by kernel_rfl) (by kernel_rfl) (by kernel_rfl) hS0 (Or.inl ⟨by rfl, by (intro X hX; go_simp)⟩) ?_
    simp only [Act.put, List.setIfInBounds_toArray, List.set_cons_zero, List.set_cons_succ]
    refine Ht.takeD 8 (i := 1) ⟨some 13, _, _, _, _, _⟩ (.pointer (some ⟨sb, 0, none⟩)) rfl (by kernel_rfl) (by kernel_rfl) (by decide) (by kernel_rfl) (by kernel_rfl) (by kernel_rfl) hS0 (Or.inl ⟨by rfl, by (intro X hX; go_simp)⟩) ?_
    simp only [Act.put, List.setIfInBounds_toArray, List.set_cons_zero, List.set_cons_succ]
    refine Ht.takeD 8 (i := 2) ⟨some 14, _, _, _, _, _⟩ (.pointer (some ⟨sb, 6, none⟩)) rfl (by kernel_rfl) (by kernel_rfl) (by decide) (by kernel_rfl) (by kernel_rfl) (by kernel_rfl) hS0 (Or.inl ⟨by rfl, by (intro X hX; go_simp)⟩) ?_
    simp only [Act.put, List.setIfInBounds_toArray, List.set_cons_zero, List.set_cons_succ]
    refine Ht.takeD 8 (i := 3) ⟨some 15, _, _, _, _, _⟩ (.pointer (some ⟨lb, 0, none⟩)) rfl (by kernel_rfl) (by kernel_rfl) (by decide) (by kernel_rfl) (by kernel_rfl) (by kernel_rfl) hS0 (Or.inl ⟨by rfl, by (intro X hX; have := (HC.out X hX).2.2.1; go_simp)⟩) ?_
    simp only [Act.put, List.setIfInBounds_toArray, List.set_cons_zero, List.set_cons_succ]
    refine Ht.takeD 8 (i := 4) ⟨some 16, _, _, _, _, _⟩ (.pointer (some ⟨b, 0, none⟩)) rfl (by kernel_rfl) (by kernel_rfl) (by decide) (by kernel_rfl) (by kernel_rfl) (by kernel_rfl) hS0 (Or.inl ⟨by rfl, by (intro X hX; go_simp)⟩) ?_
    simp only [Act.put, List.setIfInBounds_toArray, List.set_cons_zero, List.set_cons_succ]
    refine Ht.takeD 8 (i := 5) ⟨some 17, _, _, _, _, _⟩ (.pointer (some ⟨b, 0, none⟩)) rfl (by kernel_rfl) (by kernel_rfl) (by decide) (by kernel_rfl) (by kernel_rfl) (by kernel_rfl) hS0 (Or.inl ⟨by rfl, by (intro X hX; go_simp)⟩) ?_
    simp only [Act.put, List.setIfInBounds_toArray, List.set_cons_zero, List.set_cons_succ]
    refine Ht.takeD 8 (i := 6) ⟨some 18, _, _, _, _, _⟩ (.pointer (some ⟨b, 0, none⟩)) rfl (by kernel_rfl) (by kernel_rfl) (by decide) (by kernel_rfl) (by kernel_rfl) (by kernel_rfl) hS0 (Or.inl ⟨by rfl, by (intro X hX; go_simp)⟩) ?_
    simp only [Act.put, List.setIfInBounds_toArray, List.set_cons_zero, List.set_cons_succ]
    refine Ht.takeD 8 (i := 7) ⟨some 19, _, _, _, _, _⟩ (.pointer (some ⟨b, 1, none⟩)) rfl (by kernel_rfl) (by kernel_rfl) (by decide) (by kernel_rfl) (by kernel_rfl) (by kernel_rfl) hS0 (Or.inl ⟨by rfl, by (intro X hX; go_simp)⟩) ?_
    simp only [Act.put, List.setIfInBounds_toArray, List.set_cons_zero, List.set_cons_succ]
    refine Ht.takeD 8 (i := 8) ⟨some 20, _, _, _, _, _⟩ (.string tn) rfl (by kernel_rfl) (by kernel_rfl) (by decide) (by kernel_rfl) (by kernel_rfl) (by kernel_rfl) hS0 (Or.inl ⟨by rfl, by (intro X hX; have := H1c.out X hX; go_simp)⟩) ?_
    simp only [Act.put, List.setIfInBounds_toArray, List.set_cons_zero, List.set_cons_succ]
    refine Ht.step (i := 9) ⟨some 21, _, _, _, _, _⟩ rfl (by kernel_rfl) (by rfl) (fun K hK => ?_)
    refine Ht.enter 72 #[.pointer (some ⟨lb, 0, none⟩), .string tn] (by have hen := fun args w => enters_of (P := Tryz.prog) Tryz.func72 (by kernel_rfl) rfl args w; go_simp) (take_e (H.out.1.old (Below.refl _ _).drew) (by have := H.out.2.1; omega) tn (by have := H.out.2.2.2.2.2; unfold maxLen; omega)) ?_
    rintro e w1 he1
    replace he1 := Ent.from (Below.refl _ _).drew he1
    obtain ⟨er, S1, rfl, hf1, h1⟩ := he1
    refine ⟨_, rfl, hK _ _ (fun hn => hf1) (fun hnx => ?_)⟩
    clear hK K hnx
    try simp only [Act.put, List.setIfInBounds_toArray, List.set_cons_zero, List.set_cons_succ]
    refine Ht.step (i := 10) ⟨some 5, _, _, _, _, _⟩ rfl (by kernel_rfl) (by rfl) (fun K hK => ?_)
    go_simp
    refine hK _ _ (fun hn => absurd rfl hn) (fun hnx => ?_)
    clear hK K hnx
    try simp only [Act.put, List.setIfInBounds_toArray, List.set_cons_zero, List.set_cons_succ]
    refine done (by kernel_rfl) ?_
    by_cases he : er = 0
    · subst he
      obtain ⟨h1, h10, h1i⟩ := h1 rfl
      have hb1 : w1.heap[b]? = some (.cells j.cs.toArray 42 (0, 0)) := (hf1.block b hlt (fun ⟨i, hi0, hi⟩ => H.out.2.2.2.1 i hi0 hi)).trans H.out.2.2.1
      have ho1 : ∀ i, 0 < i → ¬ S1 i b := fun i hi0 hi => (h1i i b hi).elim (H.out.2.2.2.1 i hi0) (by omega)
      have HC1 := Lib.hid (h1.cls hb1 ho1)
      obtain ⟨hst, hnm, htn, hpr, hdu, hod⟩ := HJ.out
      have d11 : w1.cell? ⟨b, 11, none⟩ = some (.int .i64 st) := by rw [← hst]; exact (HC1.out w1 (Fr.refl _ _)).2.2.2.2.2.2.1
      have c0 : ∀ X, Fr (fun k => ∃ i, 0 < i ∧ S1 i k) w1 X → X.cell? ⟨b, 0, none⟩ = some (.string nm) := fun X hX => by rw [← hnm]; exact (HC1.out X hX).2.2.2.1
      have c2 : ∀ X, Fr (fun k => ∃ i, 0 < i ∧ S1 i k) w1 X → X.cell? ⟨b, 2, none⟩ = some (.int .i64 pr) := fun X hX => by rw [← hpr]; exact (HC1.out X hX).2.2.2.2.2.1
      have c12 : ∀ X, Fr (fun k => ∃ i, 0 < i ∧ S1 i k) w1 X → X.cell? ⟨b, 12, none⟩ = some (.int .i64 du) := fun X hX => by rw [← hdu]; exact (HC1.out X hX).2.2.2.2.2.2.2.1
      have c17 : ∀ X, Fr (fun k => ∃ i, 0 < i ∧ S1 i k) w1 X → X.cell? ⟨b, 17, none⟩ = some (.int .u64 ((od : Nat) : Int)) := fun X hX => by rw [← hod]; exact (HC1.out X hX).2.2.2.2.2.2.2.2
      have H1 := Lib.hid (And.intro hf1 (And.intro h1 (And.intro h10 h1i)))
      clear hst hnm htn hpr hdu hod hf1 h1 h10 h1i hb1 ho1
      have HK := Lib.hid (And.intro c0 (And.intro c2 (And.intro c12 c17)))
      clear c0 c2 c12 c17
      by_cases n2 : st = 2
      · subst n2
        go_wp2_with fail
        refine begin' 19 (fun ZZ => Fr (fun k => ∃ i, 0 < i ∧ S1 i k) w1 ZZ) hmix (Fr.refl _ w1).drew (fun hS0 => ?_)
        refine Ht.takeD 8 (i := 0) ⟨some 31, _, _, _, _, _⟩ (.pointer (some ⟨sb, 0, none⟩)) rfl (by kernel_rfl) (by kernel_rfl) (by decide) (by kernel_rfl) (by kernel_rfl) (by kernel_rfl) hS0 (Or.inl ⟨by rfl, by (intro X hX; go_simp)⟩) ?_
        simp only [Act.put, List.setIfInBounds_toArray, List.set_cons_zero, List.set_cons_succ]
        refine Ht.takeD 8 (i := 1) ⟨some 32, _, _, _, _, _⟩ (.pointer (some ⟨sb, 0, none⟩)) rfl (by kernel_rfl) (by kernel_rfl) (by decide) (by kernel_rfl) (by kernel_rfl) (by kernel_rfl) hS0 (Or.inl ⟨by rfl, by (intro X hX; go_simp)⟩) ?_
        simp only [Act.put, List.setIfInBounds_toArray, List.set_cons_zero, List.set_cons_succ]
        refine Ht.takeD 8 (i := 2) ⟨some 33, _, _, _, _, _⟩ (.pointer (some ⟨sb, 4, none⟩)) rfl (by kernel_rfl) (by kernel_rfl) (by decide) (by kernel_rfl) (by kernel_rfl) (by kernel_rfl) hS0 (Or.inl ⟨by rfl, by (intro X hX; go_simp)⟩) ?_
        simp only [Act.put, List.setIfInBounds_toArray, List.set_cons_zero, List.set_cons_succ]
        refine Ht.takeD 8 (i := 3) ⟨some 34, _, _, _, _, _⟩ (.pointer (some ⟨rb, 0, none⟩)) rfl (by kernel_rfl) (by kernel_rfl) (by decide) (by kernel_rfl) (by kernel_rfl) (by kernel_rfl) hS0 (Or.inl ⟨by rfl, by (intro X hX; have := (HC1.out X hX).1; go_simp)⟩) ?_
        simp only [Act.put, List.setIfInBounds_toArray, List.set_cons_zero, List.set_cons_succ]
        refine Ht.takeD 8 (i := 4) ⟨some 35, _, _, _, _, _⟩ (.pointer (some ⟨b, 0, none⟩)) rfl (by kernel_rfl) (by kernel_rfl) (by decide) (by kernel_rfl) (by kernel_rfl) (by kernel_rfl) hS0 (Or.inl ⟨by rfl, by (intro X hX; go_simp)⟩) ?_
        simp only [Act.put, List.setIfInBounds_toArray, List.set_cons_zero, List.set_cons_succ]
        refine Ht.takeD 8 (i := 5) ⟨some 36, _, _, _, _, _⟩ (.pointer (some ⟨b, 0, none⟩)) rfl (by kernel_rfl) (by kernel_rfl) (by decide) (by kernel_rfl) (by kernel_rfl) (by kernel_rfl) hS0 (Or.inl ⟨by rfl, by (intro X hX; go_simp)⟩) ?_
        simp only [Act.put, List.setIfInBounds_toArray, List.set_cons_zero, List.set_cons_succ]
        refine Ht.takeD 8 (i := 6) ⟨some 37, _, _, _, _, _⟩ (.pointer (some ⟨b, 0, none⟩)) rfl (by kernel_rfl) (by kernel_rfl) (by decide) (by kernel_rfl) (by kernel_rfl) (by kernel_rfl) hS0 (Or.inl ⟨by rfl, by (intro X hX; go_simp)⟩) ?_
        simp only [Act.put, List.setIfInBounds_toArray, List.set_cons_zero, List.set_cons_succ]
        refine Ht.takeD 8 (i := 7) ⟨some 38, _, _, _, _, _⟩ (.pointer (some ⟨b, 0, none⟩)) rfl (by kernel_rfl) (by kernel_rfl) (by decide) (by kernel_rfl) (by kernel_rfl) (by kernel_rfl) hS0 (Or.inl ⟨by rfl, by (intro X hX; go_simp)⟩) ?_
        simp only [Act.put, List.setIfInBounds_toArray, List.set_cons_zero, List.set_cons_succ]
        refine Ht.takeD 8 (i := 8) ⟨some 39, _, _, _, _, _⟩ (.string nm) rfl (by kernel_rfl) (by kernel_rfl) (by decide) (by kernel_rfl) (by kernel_rfl) (by kernel_rfl) hS0 (Or.inl ⟨by rfl, by (intro X hX; have := HK.out.1 X hX; go_simp)⟩) ?_
        simp only [Act.put, List.setIfInBounds_toArray, List.set_cons_zero, List.set_cons_succ]
        refine Ht.takeD 8 (i := 9) ⟨some 40, _, _, _, _, _⟩ (.pointer (some ⟨b, 0, none⟩)) rfl (by kernel_rfl) (by kernel_rfl) (by decide) (by kernel_rfl) (by kernel_rfl) (by kernel_rfl) hS0 (Or.inl ⟨by rfl, by (intro X hX; go_simp)⟩) ?_
        simp only [Act.put, List.setIfInBounds_toArray, List.set_cons_zero, List.set_cons_succ]
        refine Ht.takeD 8 (i := 10) ⟨some 41, _, _, _, _, _⟩ (.pointer (some ⟨b, 0, none⟩)) rfl (by kernel_rfl) (by kernel_rfl) (by decide) (by kernel_rfl) (by kernel_rfl) (by kernel_rfl) hS0 (Or.inl ⟨by rfl, by (intro X hX; go_simp)⟩) ?_
        simp only [Act.put, List.setIfInBounds_toArray, List.set_cons_zero, List.set_cons_succ]
        refine Ht.takeD 8 (i := 11) ⟨some 42, _, _, _, _, _⟩ (.pointer (some ⟨b, 0, none⟩)) rfl (by kernel_rfl) (by kernel_rfl) (by decide) (by kernel_rfl) (by kernel_rfl) (by kernel_rfl) hS0 (Or.inl ⟨by rfl, by (intro X hX; go_simp)⟩) ?_
        simp only [Act.put, List.setIfInBounds_toArray, List.set_cons_zero, List.set_cons_succ]
        refine Ht.takeD 8 (i := 12) ⟨some 43, _, _, _, _, _⟩ (.pointer (some ⟨b, 2, none⟩)) rfl (by kernel_rfl) (by kernel_rfl) (by decide) (by kernel_rfl) (by kernel_rfl) (by kernel_rfl) hS0 (Or.inl ⟨by rfl, by (intro X hX; go_simp)⟩) ?_
        simp only [Act.put, List.setIfInBounds_toArray, List.set_cons_zero, List.set_cons_succ]
        refine Ht.takeD 8 (i := 13) ⟨some 44, _, _, _, _, _⟩ (.int .i64 pr) rfl (by kernel_rfl) (by kernel_rfl) (by decide) (by kernel_rfl) (by kernel_rfl) (by kernel_rfl) hS0 (Or.inl ⟨by rfl, by (intro X hX; have := HK.out.2.1 X hX; go_simp)⟩) ?_
        simp only [Act.put, List.setIfInBounds_toArray, List.set_cons_zero, List.set_cons_succ]
        refine Ht.takeD 8 (i := 14) ⟨some 45, _, _, _, _, _⟩ (.pointer (some ⟨b, 0, none⟩)) rfl (by kernel_rfl) (by kernel_rfl) (by decide) (by kernel_rfl) (by kernel_rfl) (by kernel_rfl) hS0 (Or.inl ⟨by rfl, by (intro X hX; go_simp)⟩) ?_
        simp only [Act.put, List.setIfInBounds_toArray, List.set_cons_zero, List.set_cons_succ]
        refine Ht.takeD 8 (i := 15) ⟨some 46, _, _, _, _, _⟩ (.pointer (some ⟨b, 0, none⟩)) rfl (by kernel_rfl) (by kernel_rfl) (by decide) (by kernel_rfl) (by kernel_rfl) (by kernel_rfl) hS0 (Or.inl ⟨by rfl, by (intro X hX; go_simp)⟩) ?_
        simp only [Act.put, List.setIfInBounds_toArray, List.set_cons_zero, List.set_cons_succ]
        refine Ht.takeD 8 (i := 16) ⟨some 47, _, _, _, _, _⟩ (.pointer (some ⟨b, 17, none⟩)) rfl (by kernel_rfl) (by kernel_rfl) (by decide) (by kernel_rfl) (by kernel_rfl) (by kernel_rfl) hS0 (Or.inl ⟨by rfl, by (intro X hX; go_simp)⟩) ?_
        simp only [Act.put, List.setIfInBounds_toArray, List.set_cons_zero, List.set_cons_succ]
        refine Ht.takeD 8 (i := 17) ⟨some 48, _, _, _, _, _⟩ (.int .u64 ((od : Nat) : Int)) rfl (by kernel_rfl) (by kernel_rfl) (by decide) (by kernel_rfl) (by kernel_rfl) (by kernel_rfl) hS0 (Or.inl ⟨by rfl, by (intro X hX; have := HK.out.2.2.2 X hX; go_simp)⟩) ?_
        simp only [Act.put, List.setIfInBounds_toArray, List.set_cons_zero, List.set_cons_succ]
        refine Ht.step (i := 18) ⟨some 49, _, _, _, _, _⟩ rfl (by kernel_rfl) (by rfl) (fun K hK => ?_)
        refine Ht.enter 73 #[.pointer (some ⟨rb, 0, none⟩), .string nm, .int .i64 pr, .int .u64 ((od : Nat) : Int)] (by have hen := fun args w => enters_of (P := Tryz.prog) Tryz.func73 (by kernel_rfl) rfl args w; go_simp) (put_e (H1.out.2.1.old (Below.refl _ _).drew) (by have := H.out.2.1; omega) nm H.out.2.2.2.2.1 pr od) ?_
        rintro e w2 he2
        replace he2 := Ent.from (Below.refl _ _).drew he2
        obtain ⟨er, S2, rfl, hf2, h2⟩ := he2
        refine ⟨_, rfl, hK _ _ (fun hn => hf2) (fun hnx => ?_)⟩
        clear hK K hnx
        try simp only [Act.put, List.setIfInBounds_toArray, List.set_cons_zero, List.set_cons_succ]
        refine Ht.step (i := 19) ⟨some 4, _, _, _, _, _⟩ rfl (by kernel_rfl) (by rfl) (fun K hK => ?_)
        go_simp
        refine hK _ _ (fun hn => absurd rfl hn) (fun hnx => ?_)
        clear hK K hnx
        try simp only [Act.put, List.setIfInBounds_toArray, List.set_cons_zero, List.set_cons_succ]
        refine done (by kernel_rfl) ?_
        go_wp2_with fail
        go_ret
        exact Ent.then H1.out.1 H1.out.2.2.1 H1.out.2.2.2 ⟨er, S2, rfl, hf2, h2⟩
      · by_cases n13 : st = 1 ∨ st = 3
        · have HN := Lib.hid n2
          rcases n13 with rfl | rfl
          all_goals
            clear n2
            go_wp2_with fail
            refine begin' 14 (fun ZZ => Fr (fun k => ∃ i, 0 < i ∧ S1 i k) w1 ZZ) hmix (Fr.refl _ w1).drew (fun hS0 => ?_)
            refine Ht.takeD 8 (i := 0) ⟨some 53, _, _, _, _, _⟩ (.pointer (some ⟨sb, 0, none⟩)) rfl (by kernel_rfl) (by kernel_rfl) (by decide) (by kernel_rfl) (by kernel_rfl) (by kernel_rfl) hS0 (Or.inl ⟨by rfl, by (intro X hX; go_simp)⟩) ?_
            simp only [Act.put, List.setIfInBounds_toArray, List.set_cons_zero, List.set_cons_succ]
            refine Ht.takeD 8 (i := 1) ⟨some 54, _, _, _, _, _⟩ (.pointer (some ⟨sb, 0, none⟩)) rfl (by kernel_rfl) (by kernel_rfl) (by decide) (by kernel_rfl) (by kernel_rfl) (by kernel_rfl) hS0 (Or.inl ⟨by rfl, by (intro X hX; go_simp)⟩) ?_
            simp only [Act.put, List.setIfInBounds_toArray, List.set_cons_zero, List.set_cons_succ]
            refine Ht.takeD 8 (i := 2) ⟨some 55, _, _, _, _, _⟩ (.pointer (some ⟨sb, 5, none⟩)) rfl (by kernel_rfl) (by kernel_rfl) (by decide) (by kernel_rfl) (by kernel_rfl) (by kernel_rfl) hS0 (Or.inl ⟨by rfl, by (intro X hX; go_simp)⟩) ?_
            simp only [Act.put, List.setIfInBounds_toArray, List.set_cons_zero, List.set_cons_succ]
            refine Ht.takeD 8 (i := 3) ⟨some 56, _, _, _, _, _⟩ (.pointer (some ⟨wb, 0, none⟩)) rfl (by kernel_rfl) (by kernel_rfl) (by decide) (by kernel_rfl) (by kernel_rfl) (by kernel_rfl) hS0 (Or.inl ⟨by rfl, by (intro X hX; have := (HC1.out X hX).2.1; go_simp)⟩) ?_
            simp only [Act.put, List.setIfInBounds_toArray, List.set_cons_zero, List.set_cons_succ]
            refine Ht.takeD 8 (i := 4) ⟨some 57, _, _, _, _, _⟩ (.pointer (some ⟨b, 0, none⟩)) rfl (by kernel_rfl) (by kernel_rfl) (by decide) (by kernel_rfl) (by kernel_rfl) (by kernel_rfl) hS0 (Or.inl ⟨by rfl, by (intro X hX; go_simp)⟩) ?_
            simp only [Act.put, List.setIfInBounds_toArray, List.set_cons_zero, List.set_cons_succ]
            refine Ht.takeD 8 (i := 5) ⟨some 58, _, _, _, _, _⟩ (.pointer (some ⟨b, 0, none⟩)) rfl (by kernel_rfl) (by kernel_rfl) (by decide) (by kernel_rfl) (by kernel_rfl) (by kernel_rfl) hS0 (Or.inl ⟨by rfl, by (intro X hX; go_simp)⟩) ?_
            simp only [Act.put, List.setIfInBounds_toArray, List.set_cons_zero, List.set_cons_succ]
            refine Ht.takeD 8 (i := 6) ⟨some 59, _, _, _, _, _⟩ (.pointer (some ⟨b, 0, none⟩)) rfl (by kernel_rfl) (by kernel_rfl) (by decide) (by kernel_rfl) (by kernel_rfl) (by kernel_rfl) hS0 (Or.inl ⟨by rfl, by (intro X hX; go_simp)⟩) ?_
            simp only [Act.put, List.setIfInBounds_toArray, List.set_cons_zero, List.set_cons_succ]
            refine Ht.takeD 8 (i := 7) ⟨some 60, _, _, _, _, _⟩ (.pointer (some ⟨b, 0, none⟩)) rfl (by kernel_rfl) (by kernel_rfl) (by decide) (by kernel_rfl) (by kernel_rfl) (by kernel_rfl) hS0 (Or.inl ⟨by rfl, by (intro X hX; go_simp)⟩) ?_
            simp only [Act.put, List.setIfInBounds_toArray, List.set_cons_zero, List.set_cons_succ]
            refine Ht.takeD 8 (i := 8) ⟨some 61, _, _, _, _, _⟩ (.string nm) rfl (by kernel_rfl) (by kernel_rfl) (by decide) (by kernel_rfl) (by kernel_rfl) (by kernel_rfl) hS0 (Or.inl ⟨by rfl, by (intro X hX; have := HK.out.1 X hX; go_simp)⟩) ?_
            simp only [Act.put, List.setIfInBounds_toArray, List.set_cons_zero, List.set_cons_succ]
            refine Ht.takeD 8 (i := 9) ⟨some 62, _, _, _, _, _⟩ (.pointer (some ⟨b, 0, none⟩)) rfl (by kernel_rfl) (by kernel_rfl) (by decide) (by kernel_rfl) (by kernel_rfl) (by kernel_rfl) hS0 (Or.inl ⟨by rfl, by (intro X hX; go_simp)⟩) ?_
            simp only [Act.put, List.setIfInBounds_toArray, List.set_cons_zero, List.set_cons_succ]
            refine Ht.takeD 8 (i := 10) ⟨some 63, _, _, _, _, _⟩ (.pointer (some ⟨b, 0, none⟩)) rfl (by kernel_rfl) (by kernel_rfl) (by decide) (by kernel_rfl) (by kernel_rfl) (by kernel_rfl) hS0 (Or.inl ⟨by rfl, by (intro X hX; go_simp)⟩) ?_
            simp only [Act.put, List.setIfInBounds_toArray, List.set_cons_zero, List.set_cons_succ]
            refine Ht.takeD 8 (i := 11) ⟨some 64, _, _, _, _, _⟩ (.pointer (some ⟨b, 12, none⟩)) rfl (by kernel_rfl) (by kernel_rfl) (by decide) (by kernel_rfl) (by kernel_rfl) (by kernel_rfl) hS0 (Or.inl ⟨by rfl, by (intro X hX; go_simp)⟩) ?_
            simp only [Act.put, List.setIfInBounds_toArray, List.set_cons_zero, List.set_cons_succ]
            refine Ht.takeD 8 (i := 12) ⟨some 65, _, _, _, _, _⟩ (.int .i64 du) rfl (by kernel_rfl) (by kernel_rfl) (by decide) (by kernel_rfl) (by kernel_rfl) (by kernel_rfl) hS0 (Or.inl ⟨by rfl, by (intro X hX; have := HK.out.2.2.1 X hX; go_simp)⟩) ?_
            simp only [Act.put, List.setIfInBounds_toArray, List.set_cons_zero, List.set_cons_succ]
            refine Ht.step (i := 13) ⟨some 66, _, _, _, _, _⟩ rfl (by kernel_rfl) (by rfl) (fun K hK => ?_)
            refine Ht.enter 74 #[.pointer (some ⟨wb, 0, none⟩), .string nm, .int .i64 du] (by have hen := fun args w => enters_of (P := Tryz.prog) Tryz.func74 (by kernel_rfl) rfl args w; go_simp) (add_e (H1.out.2.1.old (Below.refl _ _).drew) (by have := H.out.2.1; omega) nm (by have := H.out.2.2.2.2.1; unfold maxLen; omega) du) ?_
            rintro e w2 he2
            replace he2 := Ent.from (Below.refl _ _).drew he2
            obtain ⟨er, S2, rfl, hf2, h2⟩ := he2
            refine ⟨_, rfl, hK _ _ (fun hn => hf2) (fun hnx => ?_)⟩
            clear hK K hnx
            try simp only [Act.put, List.setIfInBounds_toArray, List.set_cons_zero, List.set_cons_succ]
            refine Ht.step (i := 14) ⟨some 4, _, _, _, _, _⟩ rfl (by kernel_rfl) (by rfl) (fun K hK => ?_)
            go_simp
            refine hK _ _ (fun hn => absurd rfl hn) (fun hnx => ?_)
            clear hK K hnx
            try simp only [Act.put, List.setIfInBounds_toArray, List.set_cons_zero, List.set_cons_succ]
            refine done (by kernel_rfl) ?_
            go_wp2_with fail
            go_ret
            exact Ent.then H1.out.1 H1.out.2.2.1 H1.out.2.2.2 ⟨er, S2, rfl, hf2, h2⟩
        · have n1 : ¬ st = 1 := fun e => n13 (.inl e)
          have n3 : ¬ st = 3 := fun e => n13 (.inr e)
          clear n13
          go_wp2_with fail
          go_ret
          exact ⟨0, S1, rfl, H1.out.1, fun _ => ⟨H1.out.2.1.more (by omega), H1.out.2.2⟩⟩
    · go_wp2_with fail
      go_ret
      exact ⟨er, S, rfl, hf1, fun e => absurd e he⟩
end
end Go.Proofs.YtcodjknhnhdkfaaGreatDoor.Im
namespace Go.Proofs.YtcodjknhnhdkfaaGreatDoor.Im
open Go.RowKit Go.Lib Hp Ht
set_option linter.unusedVariables false
set_option linter.unusedSectionVars false
set_option maxRecDepth 20000
attribute [local go_sem] Oper.semAt_some
section
variable {S : Nat → Nat → Prop} {w : World} {sb mb gb rb wb lb : Nat} {jb : K → Nat} {now each : Int} {order : Nat} {ns : List DgB.Id} {js : List Jb} {m : Nat}
set_option maxHeartbeats 4000000 in
theorem link_any (h : Sd S w sb mb gb rb wb lb jb now each order ns js m) (hm : m ≤ 700000) {j : Jb} (hd : Jd w j) (hn : j.sp.n ≤ 1000000) (hds : ∀ d ∈ j.sp.ds, d.size ≤ maxLen) (hout : ∀ b o, j.sp.n ≠ 0 → j.sp.a = some ⟨b, o, none⟩ → ∀ i, 0 < i → ¬ S i b) (hin : (nmK j, false) ∈ ns) :
    Calls Tryz.prog 41 #[.pointer (some ⟨sb, 0, none⟩), .agg j.cs.toArray] w (Ent S w sb mb gb rb wb lb jb now each order ns js m) := by
  have hmix : Tryz.prog.follows .mixedOrders = true := by kernel_rfl
  obtain ⟨C, hC⟩ : ∃ C, C = j.cs.toArray := ⟨_, rfl⟩
  rw [← hC]
  have hbo := run_box
  obtain ⟨V, hV⟩ : ∃ V, V = w.alloc (.cells C 42) := ⟨_, rfl⟩
  have hb1 : Below w.heap.size w V := by rw [hV]; exact (Below.refl _ _).alloc (Nat.le_refl _) _
  have hzV : V.heap.size = w.heap.size + 1 := by rw [hV]; simp
  have hx0 : V.heap[w.heap.size]? = some (.cells j.cs.toArray 42 (0, 0)) := by rw [hV, hC]; exact heap_alloc_new w _
  have hsV := h.old hb1
  have hbx : ∀ i, ¬ S i w.heap.size := fun i e => by have := h.fam.lt i _ e; omega
  have hnsb : ¬ ∃ i, 0 < i ∧ S i sb := fun ⟨i, h0, hi⟩ => by have := h.fam.dis i 0 sb hi h.core.sbC; omega
  have cc : ∀ X, Fr (fun k => ∃ i, 0 < i ∧ S i k) V X → X.cell? ⟨sb, 3, none⟩ = some (.pointer (some ⟨gb, 0, none⟩)) ∧ X.cell? ⟨w.heap.size, 0, none⟩ = some (.string j.sp.nm) ∧ X.cell? ⟨w.heap.size, 4, none⟩ = some (.slice j.sp.a j.sp.n j.sp.c) := fun X hX =>
    ⟨hX.cell (cellj hsV.core.row rfl).1 hnsb, hX.cell (cellj hx0 rfl).1 (fun ⟨i, _, e⟩ => hbx i e), hX.cell (cellj hx0 rfl).1 (fun ⟨i, _, e⟩ => hbx i e)⟩
  obtain ⟨a, ha⟩ : ∃ a, a = j.sp.a := ⟨_, rfl⟩
  obtain ⟨n, hnn⟩ : ∃ n, n = j.sp.n := ⟨_, rfl⟩
  obtain ⟨c, hcc⟩ : ∃ c, c = j.sp.c := ⟨_, rfl⟩
  obtain ⟨nm, hnm⟩ : ∃ nm, nm = j.sp.nm := ⟨_, rfl⟩
  have hdV := hd.old hb1
  unfold Jd at hdV
  rw [← ha, ← hnn, ← hcc, ← hnm] at cc
  rw [← ha, ← hnn] at hdV
  rw [← ha, ← hnn] at hout
  have hin' : (nm.data.toList, false) ∈ ns := by rw [hnm]; exact hin
  rw [← hnn] at hn
  obtain ⟨c3, c0, c4⟩ := cc V (Fr.refl _ _)
  have H := Lib.hid (And.intro hb1 (And.intro hsV (And.intro hzV (And.intro hm (And.intro hds (And.intro hout (And.intro hin' (And.intro hn hdV))))))))
  have HC := Lib.hid cc
  clear h hm hd hn hds hout hin hin' hb1 hzV hx0 hsV hbx hnsb cc ha hnn hcc hnm hdV c3 c0 hC
  go_enter Tryz.func41, Tryz.ntmps41
  go_upto_region 1 with fail
  rw [← hV]
  have HV := Lib.hid hV
  clear hV hbo
  go_wp2_with fail
  go_loopw [12] (fun s12 wr => ∃ (k : Nat) (S' : Nat → Nat → Prop), s12 = .int .i64 ((k : Nat) : Int) ∧ k ≤ n ∧ Sd S' wr sb mb gb rb wb lb jb now each order ns js m ∧ S' 0 = S 0 ∧ (∀ i k, S' i k → S i k ∨ V.heap.size ≤ k) ∧ Fr (fun k => ∃ i, 0 < i ∧ S i k) V wr) (fun s12 _ => n - (RowKit.intOf s12).toNat)
  case atStart => exact ⟨0, S, rfl, Nat.zero_le _, H.out.2.1, rfl, fun i k hk => .inl hk, Fr.refl _ _⟩
  case round =>
    obtain ⟨k, S', rfl, hk, hs, h0, hi, hf⟩ := hrel
    by_cases hlt : k < n
    · have hdV := H.out.2.2.2.2.2.2.2.2
      have hkl : k < j.sp.ds.length := by rw [hdV.1]; exact hlt
      rcases hdV.2.2 with e0 | ⟨b, o, rfl, hat⟩
      · omega
      have hc : wr.cell? ⟨b, o + k, none⟩ = some (.string j.sp.ds[k]) := hf.cell (hat k hkl) (fun ⟨i, hi0, e⟩ => H.out.2.2.2.2.2.1 b o (by omega) rfl i hi0 e)
      obtain ⟨d, hd⟩ : ∃ d, d = j.sp.ds[k] := ⟨_, rfl⟩
      have hdz : d.size ≤ maxLen := by rw [hd]; exact H.out.2.2.2.2.1 _ (List.getElem_mem hkl)
      rw [← hd] at hc
      have cc : ∀ X, Fr (fun k => ∃ i, 0 < i ∧ S' i k) wr X → X.cell? ⟨sb, 3, none⟩ = some (.pointer (some ⟨gb, 0, none⟩)) ∧ X.cell? ⟨w.heap.size, 0, none⟩ = some (.string nm) := fun X hX => by
        have t := HC.out X (hf.trans hX fun x ⟨i, hi0, e⟩ => (hi i x e).imp_left fun e => ⟨i, hi0, e⟩)
        exact ⟨t.1, t.2.1⟩
      have CC := Lib.hid cc
      have hlk := link_e (hs.old (Below.refl _ _).drew) (by have := H.out.2.2.2.1; omega) nm d H.out.2.2.2.2.2.2.1 hdz
      have HR := Lib.hid (And.intro hs (And.intro h0 (And.intro hi (And.intro hf hlk))))
      have hltx : ((k : Nat) : Int) < ((n : Nat) : Int) := by omega
      have hkb : k ≤ 1000000 := by have := H.out.2.2.2.2.2.2.2.1; omega
      clear hs h0 hi hf hlk hat hdV hd hdz cc hkl
      go_wp2_with fail
      refine begin' 9 (fun ZZ => Fr (fun k => ∃ i, 0 < i ∧ S' i k) wr ZZ) hmix (Fr.refl _ wr).drew (fun hS0 => ?_)
      refine Ht.takeD 8 (i := 0) ⟨some 16, _, _, _, _, _⟩ (.pointer (some ⟨sb, 0, none⟩)) rfl (by kernel_rfl) (by kernel_rfl) (by decide) (by kernel_rfl) (by kernel_rfl) (by kernel_rfl) hS0 (Or.inl ⟨by rfl, by (intro X hX; go_simp)⟩) ?_
      simp only [Act.put, List.setIfInBounds_toArray, List.set_cons_zero, List.set_cons_succ]
      refine Ht.takeD 8 (i := 1) ⟨some 17, _, _, _, _, _⟩ (.pointer (some ⟨sb, 0, none⟩)) rfl (by kernel_rfl) (by kernel_rfl) (by decide) (by kernel_rfl) (by kernel_rfl) (by kernel_rfl) hS0 (Or.inl ⟨by rfl, by (intro X hX; go_simp)⟩) ?_
      simp only [Act.put, List.setIfInBounds_toArray, List.set_cons_zero, List.set_cons_succ]
      refine Ht.takeD 8 (i := 2) ⟨some 18, _, _, _, _, _⟩ (.pointer (some ⟨sb, 3, none⟩)) rfl (by kernel_rfl) (by kernel_rfl) (by decide) (by kernel_rfl) (by kernel_rfl) (by kernel_rfl) hS0 (Or.inl ⟨by rfl, by (intro X hX; go_simp)⟩) ?_
      simp only [Act.put, List.setIfInBounds_toArray, List.set_cons_zero, List.set_cons_succ]
      refine Ht.takeD 8 (i := 3) ⟨some 19, _, _, _, _, _⟩ (.pointer (some ⟨gb, 0, none⟩)) rfl (by kernel_rfl) (by kernel_rfl) (by decide) (by kernel_rfl) (by kernel_rfl) (by kernel_rfl) hS0 (Or.inl ⟨by rfl, by (intro X hX; have := (CC.out X hX).1; go_simp)⟩) ?_
      simp only [Act.put, List.setIfInBounds_toArray, List.set_cons_zero, List.set_cons_succ]
      refine Ht.takeD 8 (i := 4) ⟨some 20, _, _, _, _, _⟩ (.pointer (some ⟨w.heap.size, 0, none⟩)) rfl (by kernel_rfl) (by kernel_rfl) (by decide) (by kernel_rfl) (by kernel_rfl) (by kernel_rfl) hS0 (Or.inl ⟨by rfl, by (intro X hX; go_simp)⟩) ?_
      simp only [Act.put, List.setIfInBounds_toArray, List.set_cons_zero, List.set_cons_succ]
      refine Ht.takeD 8 (i := 5) ⟨some 21, _, _, _, _, _⟩ (.pointer (some ⟨w.heap.size, 0, none⟩)) rfl (by kernel_rfl) (by kernel_rfl) (by decide) (by kernel_rfl) (by kernel_rfl) (by kernel_rfl) hS0 (Or.inl ⟨by rfl, by (intro X hX; go_simp)⟩) ?_
      simp only [Act.put, List.setIfInBounds_toArray, List.set_cons_zero, List.set_cons_succ]
      refine Ht.takeD 8 (i := 6) ⟨some 22, _, _, _, _, _⟩ (.string nm) rfl (by kernel_rfl) (by kernel_rfl) (by decide) (by kernel_rfl) (by kernel_rfl) (by kernel_rfl) hS0 (Or.inl ⟨by rfl, by (intro X hX; have := (CC.out X hX).2; go_simp)⟩) ?_
      simp only [Act.put, List.setIfInBounds_toArray, List.set_cons_zero, List.set_cons_succ]
      refine Ht.takeD 8 (i := 7) ⟨some 23, _, _, _, _, _⟩ (.string d) rfl (by kernel_rfl) (by kernel_rfl) (by decide) (by kernel_rfl) (by kernel_rfl) (by kernel_rfl) hS0 (Or.inl ⟨by rfl, by (intro X hX; go_simp)⟩) ?_
      simp only [Act.put, List.setIfInBounds_toArray, List.set_cons_zero, List.set_cons_succ]
      refine Ht.step (i := 8) ⟨some 24, _, _, _, _, _⟩ rfl (by kernel_rfl) (by rfl) (fun K hK => ?_)
      refine Ht.enter 59 #[.pointer (some ⟨gb, 0, none⟩), .string nm, .string d] (by have hen := fun args w => enters_of (P := Tryz.prog) Tryz.func59 (by kernel_rfl) rfl args w; go_simp) (HR.out.2.2.2.2) ?_
      rintro e w2 he2
      replace he2 := Ent.from (Below.refl _ _).drew he2
      obtain ⟨er, S2, rfl, hf2, h2⟩ := he2
      refine ⟨_, rfl, hK _ _ (fun hn => hf2) (fun hnx => ?_)⟩
      clear hK K hnx
      try simp only [Act.put, List.setIfInBounds_toArray, List.set_cons_zero, List.set_cons_succ]
      refine Ht.step (i := 9) ⟨some 7, _, _, _, _, _⟩ rfl (by kernel_rfl) (by rfl) (fun K hK => ?_)
      go_simp
      refine hK _ _ (fun hn => absurd rfl hn) (fun hnx => ?_)
      clear hK K hnx
      try simp only [Act.put, List.setIfInBounds_toArray, List.set_cons_zero, List.set_cons_succ]
      refine done (by kernel_rfl) ?_
      have HF := Lib.hid (And.intro hf2 h2)
      clear hf2 h2 hc
      by_cases he : er = 0
      · subst he
        go_wp2_with fail
        go_roundw
        case rel =>
          obtain ⟨hs, h0, hi, hf, _⟩ := HR.out
          obtain ⟨hf2, h2⟩ := HF.out
          obtain ⟨q, q0, qi⟩ := h2 rfl
          have hsz := hf.size
          refine ⟨k + 1, S2, rfl, hlt, q, q0.trans h0, fun i x hx => ?_, hf.trans hf2 fun x ⟨i, hi0, e⟩ => (hi i x e).imp_left fun e => ⟨i, hi0, e⟩⟩
          rcases qi i x hx with hx | hx
          · exact hi i x hx
          · exact .inr (by omega)
        case measure => simp only [RowKit.intOf]; omega
      · go_wp2_with fail
        go_ret
        obtain ⟨hs, h0, hi, hf, _⟩ := HR.out
        obtain ⟨hf2, h2⟩ := HF.out
        exact Ent.from H.out.1 ⟨er, S, rfl, hf.trans hf2 fun x ⟨i, hi0, e⟩ => (hi i x e).imp_left fun e => ⟨i, hi0, e⟩, fun e => absurd e he⟩
    · have hltx : ¬ ((k : Nat) : Int) < ((n : Nat) : Int) := by omega
      have HR := Lib.hid (And.intro hs (And.intro h0 (And.intro hi hf)))
      clear hs h0 hi hf
      go_wp2_with fail
      go_ret
      obtain ⟨hs, h0, hi, hf⟩ := HR.out
      exact Ent.from H.out.1 ⟨0, S', rfl, hf, fun _ => ⟨hs, h0, hi⟩⟩
end
end Go.Proofs.YtcodjknhnhdkfaaGreatDoor.Im
namespace Go.Proofs.YtcodjknhnhdkfaaGreatDoor.Im
open Go.RowKit Go.Lib Hp Ht
set_option linter.unusedVariables false
set_option linter.unusedSectionVars false
set_option maxRecDepth 20000
attribute [local go_sem] Oper.semAt_some
section
variable {S : Nat → Nat → Prop} {w : World} {sb mb gb rb wb lb : Nat} {jb : K → Nat} {now each : Int} {order : Nat} {ns : List DgB.Id} {js : List Jb} {m : Nat}
/-- the core has changed -/
theorem Sd.setC {Y : World} {T : Nat → Prop} {jb' : K → Nat} {order' : Nat} {js' : List Jb} (h : Sd S w sb mb gb rb wb lb jb now each order ns js m) (f : Fr (S 0) w Y) (hc : Core T Y sb mb gb rb wb lb jb' each order' js') (hT : ∀ k, T k → (∀ i, 0 < i → ¬ S i k) ∧ k < Y.heap.size) : Sd (put S 0 T) Y sb mb gb rb wb lb jb' now each order' ns js' m where
  fam := by
    refine ⟨fun i j k hi hj => ?_, fun i k hi => ?_⟩
    · unfold put at hi hj
      by_cases a : i = 0 <;> by_cases b : j = 0
      · rw [a, b]
      · rw [if_pos a] at hi
        rw [if_neg b] at hj
        exact absurd hj ((hT k hi).1 j (by omega))
      · rw [if_neg a] at hi
        rw [if_pos b] at hj
        exact absurd hi ((hT k hj).1 i (by omega))
      · rw [if_neg a] at hi
        rw [if_neg b] at hj
        exact h.fam.dis i j k hi hj
    · unfold put at hi
      by_cases a : i = 0
      · rw [if_pos a] at hi
        exact (hT k hi).2
      · rw [if_neg a] at hi
        have := h.fam.lt i k hi
        have := f.size
        omega
  core := hc
  g := ⟨let ⟨E, q⟩ := h.g.1; ⟨E, Gd.kept q f.size (h.fam.keep f (by decide))⟩, h.g.2⟩
  r := let ⟨M, q, hq⟩ := h.r; ⟨M, q.kept f.size (h.fam.keep f (by decide)), hq⟩
  t := let ⟨T, q, hq⟩ := h.t; ⟨T, q.kept f.size (h.fam.keep f (by decide)), hq⟩
  l := let ⟨nm, c, M, H, q, hq⟩ := h.l; ⟨nm, c, M, H, Lv.kept q f.size (h.fam.keep f (by decide)), hq⟩
theorem Jin.ne {C : Nat → Prop} {b n : Nat} {j : Jb} {f : K → Option Value} (h : Jin C w b j) (hm : Mq w mb n f) : Jin (fun k => C k ∧ k ≠ mb) w b j where
  own := ⟨h.own, (hm.ne h.obj).symm⟩
  obj := h.obj
  ds := h.ds
  dep := h.dep.imp_right fun ⟨g, cur, h1, h2, h3⟩ => ⟨g, cur, h1, ⟨h2, (hm.ne h3).symm⟩, h3⟩
  name := h.name
  few := h.few
/-- behind a put that may be refused -/
def Put (S : Nat → Nat → Prop) (w : World) (sb mb gb rb wb lb : Nat) (jb : K → Nat) (now each : Int) (order : Nat) (ns : List DgB.Id) (js : List Jb) (m : Nat) (j : Jb) (e : Ending) (w' : World) : Prop :=
  ∃ (er : Int) (S' : Nat → Nat → Prop) (jb' : K → Nat) (y : Jb), e = .returned (.int .i64 er) ∧ Fr (fun k => ∃ i, S i k) w w' ∧ w'.heap[sb]? = w.heap[sb]? ∧ (er = 0 → Like j y ∧ Sd S' w' sb mb gb rb wb lb jb' now each order ns (js ++ [y]) m ∧ ∀ i k, S' i k → S i k ∨ w.heap.size ≤ k)
theorem Jd.kept' {Y : World} {y : Jb} (h : Jd w y) (hg : y.sp.n = 0 ∨ ∃ g, y.sp.a = some ⟨g, 0, none⟩ ∧ Y.heap[g]? = w.heap[g]?) : Jd Y y := by
  refine ⟨h.1, h.2.1, ?_⟩
  rcases hg with h0 | ⟨g, h1, e⟩
  · exact .inl h0
  · rcases h.2.2 with h0 | ⟨b', o, k1, k2⟩
    · exact .inl h0
    · rw [h1] at k1
      obtain ⟨rfl, rfl⟩ : g = b' ∧ 0 = o := by simpa using k1
      exact .inr ⟨g, 0, h1, fun i hi => (World.cell?_of_block (w := w) (a := ⟨g, 0 + i, none⟩) e).trans (k2 i hi)⟩
theorem Like.tn' {x y : Jb} (h : Like x y) : y.sp.tn = x.sp.tn := by rw [h.sp]
theorem jf_new {j : Jb} (h : nmK j ∉ js.map nmK) : jf js jb (nmK j) = none := by unfold jf; rw [if_neg h]
/-- a job's block and its row's, among the core's -/
theorem put_core {w2 Z : World} {tb : Nat} {y : Jb} (h : Sd S w2 sb mb gb rb wb lb jb now each order ns js m) (hnew : nmK y ∉ js.map nmK) (hy : w2.heap[tb]? = some (.cells y.cs.toArray 42 (0, 0))) (hd : Jd w2 y) (hg : y.sp.n = 0 ∨ ∃ g cur, y.sp.a = some ⟨g, 0, none⟩ ∧ (∀ i, ¬ S i g) ∧ w2.heap[g]? = some (.cells cur 9 (0, 0)))
    (hn : wk (nmK y)) (hf : y.sp.n ≤ 1000000) (ho : ∀ i, ¬ S i tb) {w3 : World} (b3 : Below w2.heap.size w2 w3) (z3 : w3.heap.size = w2.heap.size) (hz : w3.grownBy Z (some mb)) (hzs : Z.heap.size = w3.heap.size) (hmp : Mq Z mb (if (jf js jb (nmK y)).isSome then js.length else js.length + 1) (Mv.upd (jf js jb) (nmK y) (.pointer (some ⟨tb, 0, none⟩)))) :
    Fr (S 0) w2 Z ∧ ∃ S', Sd S' Z sb mb gb rb wb lb (fun k => if k = nmK y then tb else jb k) now each order ns (js ++ [y]) m ∧ ∀ i k, S' i k → S i k ∨ k = tb ∨ (y.sp.n ≠ 0 ∧ ∃ g, y.sp.a = some ⟨g, 0, none⟩ ∧ k = g) := by
  have hfz : Fr (S 0) w2 Z := (Fr.of_below (S := S 0) b3).trans (Fr.grown hz (.inl h.core.mbC)) fun x hx => .inl hx
  have hkp : ∀ k, k < w2.heap.size → k ≠ mb → Z.heap[k]? = w2.heap[k]? := fun k hk hne => (hz.block k (by omega) (fun e => hne (Option.some.inj e))).trans (b3.block k hk)
  have htl := lt_of_block hy
  have hne : tb ≠ mb := (h.core.map.ne hy).symm
  refine ⟨hfz, put S 0 (fun k => S 0 k ∨ k = tb ∨ (y.sp.n ≠ 0 ∧ ∃ g, y.sp.a = some ⟨g, 0, none⟩ ∧ k = g)), h.setC hfz ⟨?_, .inl h.core.sbC, .inl h.core.mbC, ?_, ?_, ?_⟩ ?_, ?_⟩
  · refine (hkp sb (h.fam.lt 0 sb h.core.sbC) ?_).trans h.core.row
    exact (h.core.map.ne h.core.row).symm
  · rw [jf_new hnew] at hmp
    simp only [Option.isSome_none, Bool.false_eq_true, if_false] at hmp
    rw [List.length_append]
    refine hmp.congr fun k _ => ?_
    show (if k = nmK y then _ else jf js jb k) = (if k ∈ (js ++ [y]).map nmK then some (Value.pointer (some ⟨if k = nmK y then tb else jb k, 0, none⟩)) else none)
    unfold jf
    by_cases e : k = nmK y
    · rw [if_pos e, if_pos (by rw [e]; simp), if_pos e]
    · rw [if_neg e, if_neg e]
      by_cases e2 : k ∈ js.map nmK
      · rw [if_pos e2, if_pos (by rw [List.map_append]; exact List.mem_append_left _ e2)]
      · rw [if_neg e2, if_neg (by rw [List.map_append, List.mem_append]; intro e3; rcases e3 with e3 | e3; exact e2 e3; exact e (by simpa using e3))]
  · intro x hx
    rcases List.mem_append.1 hx with hx | hx
    · have hnx : nmK x ≠ nmK y := fun e => hnew (e ▸ List.mem_map.2 ⟨x, hx, rfl⟩)
      rw [if_neg hnx]
      exact ((h.core.job x hx).ne h.core.map).kept (fun k hk => hkp k (h.fam.lt 0 k hk.1) hk.2) fun k hk => .inl hk.1
    · rw [List.mem_singleton.1 hx, if_pos rfl]
      have hJ : Jin (fun k => (k = tb ∨ (y.sp.n ≠ 0 ∧ ∃ g, y.sp.a = some ⟨g, 0, none⟩ ∧ k = g)) ∧ k < w2.heap.size) w2 tb y := by
        refine ⟨⟨.inl rfl, htl⟩, hy, hd, ?_, hn, hf⟩
        by_cases e0 : y.sp.n = 0
        · exact .inl e0
        · rcases hg with hg | ⟨g, cur, h1, h2, h3⟩
          · exact absurd hg e0
          · exact .inr ⟨g, cur, h1, ⟨.inr ⟨e0, g, h1, rfl⟩, lt_of_block h3⟩, h3⟩
      exact (hJ.ne h.core.map).kept (fun k hk => hkp k hk.1.2 hk.2) fun k hk => .inr hk.1.1
  · rw [List.map_append, List.nodup_append]
    refine ⟨h.core.nd, by simp, fun a ha b hb e => hnew ?_⟩
    rw [List.map_cons, List.map_nil, List.mem_singleton] at hb
    rw [← hb, ← e]; exact ha
  · intro k hk
    rcases hk with hk | hk | ⟨h0, g, h1, rfl⟩
    · exact ⟨fun i hi hik => by have := h.fam.dis i 0 k hik hk; omega, by have := h.fam.lt 0 k hk; omega⟩
    · rw [hk]
      exact ⟨fun i hi => ho i, by omega⟩
    · rcases hg with hg | ⟨g', cur, h1', h2, h3⟩
      · exact absurd hg h0
      · rw [h1'] at h1
        obtain rfl : g' = k := by simpa using h1
        have := lt_of_block h3
        exact ⟨fun i hi => h2 i, by omega⟩
  · intro i k hk
    unfold put at hk
    by_cases e : i = 0
    · rw [if_pos e] at hk
      rw [e]; exact hk
    · rw [if_neg e] at hk
      exact .inl hk
set_option maxHeartbeats 4000000 in
theorem put_any (h : Sd S w sb mb gb rb wb lb jb now each order ns js m) (hm : m ≤ 700000) {j : Jb} (hd : Jd w j) (hfew : j.sp.n ≤ 1000000) (hjs : js.length ≤ 1000000) (hnm : j.sp.nm.size ≤ 1000) (htn : j.sp.tn.size ≤ 1000) (hnew : nmK j ∉ js.map nmK) :
    Calls Tryz.prog 40 #[.pointer (some ⟨sb, 0, none⟩), .agg j.cs.toArray] w (Put S w sb mb gb rb wb lb jb now each order ns js (m + 2) j) := by
  have hmix : Tryz.prog.follows .mixedOrders = true := by kernel_rfl
  obtain ⟨C, hC⟩ : ∃ C, C = j.cs.toArray := ⟨_, rfl⟩
  rw [← hC]
  have hbo := run_box
  obtain ⟨V, hV⟩ : ∃ V, V = w.alloc (.cells C 42) := ⟨_, rfl⟩
  have hb1 : Below w.heap.size w V := by rw [hV]; exact (Below.refl _ _).alloc (Nat.le_refl _) _
  have hzV : V.heap.size = w.heap.size + 1 := by rw [hV]; simp
  have hx0 : V.heap[w.heap.size]? = some (.cells C 42 (0, 0)) := by rw [hV]; exact heap_alloc_new w _
  have hr0 : V.rangeAt w.heap.size 0 C.toList := Cm.range_of hx0
  have hinf : (Tryz.prog.info? 42).map (·.size) = some C.toList.length := by rw [hC]; exact info_job
  have hcl := clone_any j (hd.old hb1) (by omega)
  rw [← hC] at hcl
  have H := Lib.hid (And.intro h (And.intro hm (And.intro hfew (And.intro hjs (And.intro hnm (And.intro htn (And.intro hnew hC)))))))
  have HV := Lib.hid (And.intro hb1 (And.intro hzV hx0))
  clear h hm hd hfew hnm htn hnew hC hjs hb1 hzV hx0
  go_enter Tryz.func40, Tryz.ntmps40
  go_upto_region 1 with fail
  rw [← hV]
  have HVV := Lib.hid hV
  clear hV
  go_wp2_with (refine wpList_load_mid rfl 42 _ rfl w.heap.size 0 rfl C.toList _ hr0 Tryz.underlying42 rfl hinf ?_)
  refine hcl.mono ?_
  rintro e w1 ⟨y, rfl, hly, hb2, hdy, hoy⟩
  obtain ⟨Cy, hCy⟩ : ∃ Cy, Cy = y.cs.toArray := ⟨_, rfl⟩
  rw [← hCy]
  have hCs : Cy.size = 21 := by rw [hCy]; rfl
  have hsc := sc_job w1 Cy hCs (by rw [hCy]; exact y.one)
  obtain ⟨Y, hY⟩ : ∃ Y, Y = w1.alloc (.cells Cy 42) := ⟨_, rfl⟩
  rw [← hY] at hsc
  unfold jobZ at hsc
  obtain ⟨tb, htb⟩ : ∃ tb, tb = w1.heap.size := ⟨_, rfl⟩
  have hbY : Below w1.heap.size w1 Y := by rw [hY]; exact (Below.refl _ _).alloc (Nat.le_refl _) _
  have hzY : Y.heap.size = w1.heap.size + 1 := by rw [hY]; simp
  have hYt : Y.heap[tb]? = some (.cells y.cs.toArray 42 (0, 0)) := by rw [hY, htb, hCy]; exact heap_alloc_new w1 _
  have hwY : Below w.heap.size w Y := HV.out.1.trans ((hb2.trans (hbY.mono hb2.size)).mono (by have := HV.out.2.1; omega))
  have hsY : Sd S Y sb mb gb rb wb lb jb now each order ns js m := H.out.1.old hwY
  have hnS : ∀ i k, w.heap.size ≤ k → ¬ S i k := fun i k hk e => by have := H.out.1.fam.lt i k e; omega
  have htw : w.heap.size ≤ tb ∧ tb < Y.heap.size := by have := hb2.size; have := HV.out.2.1; omega
  have hen := enter_any hsY H.out.2.1 hYt (fun i _ => hnS i tb htw.1) htw.2 (by rw [hly.nm]; exact H.out.2.2.2.2.1) (by rw [hly.tn']; exact H.out.2.2.2.2.2.1)
  have hdY : Jd Y y := hdy.old hbY
  have hoY := hoy.old hbY
  have hxY : Y.cell? ⟨w.heap.size, 0, none⟩ = some (.string j.sp.nm) ∧ Y.frozen? ⟨w.heap.size, 0, none⟩ = false := by
    have e : Y.heap[w.heap.size]? = some (.cells C 42 (0, 0)) := ((hbY.block _ (by have := hb2.size; have := HV.out.2.1; omega)).trans (hb2.block _ (by have := HV.out.2.1; omega))).trans HV.out.2.2
    exact cellj e (by rw [H.out.2.2.2.2.2.2.2]; rfl)
  have H1 := Lib.hid (And.intro hly (And.intro hwY (And.intro hsY (And.intro hnS (And.intro htw (And.intro hYt (And.intro hdY (And.intro hoY hxY))))))))
  have HCY := Lib.hid hCy
  rw [htb] at hen
  clear hly hwY hsY hnS htw hYt hdY hoY hxY hdy hoy hbY hzY hb2 hr0 hinf hcl hCy
  go_wp2_with fail
  rw [← hY]
  have HYY := Lib.hid (And.intro hY htb)
  clear hY hsc hbo
  refine hen.mono ?_
  rintro e w2 ⟨er, S', rfl, hf2, h2⟩
  clear hen
  rw [← htb]
  have HF := Lib.hid hf2
  have hall : Fr (fun k => ∃ i, S i k) w w2 := (Fr.of_below H1.out.2.1).trans hf2 fun x ⟨i, _, hx⟩ => .inl ⟨i, hx⟩
  have HA := Lib.hid hall
  clear hall hf2 htb
  by_cases he : er = 0
  · subst he
    obtain ⟨h2, h20, h2i⟩ := h2 rfl
    obtain ⟨hly, hwY, hsY, hnS, htw, hYt, hdY, hoY, hxY⟩ := H1.out
    have hnS' : ∀ i k, w.heap.size ≤ k → k < Y.heap.size → ¬ S' i k := fun i k h1 h2 e => (h2i i k e).elim (hnS i k h1) (by omega)
    have hk2 : ∀ k, w.heap.size ≤ k → k < Y.heap.size → w2.heap[k]? = Y.heap[k]? := fun k h1 h2 => HF.out.block k h2 fun ⟨i, _, e⟩ => hnS i k h1 e
    have hsz2 := HF.out.size
    have c2 : ∀ X, Below w2.heap.size w2 X → X.cell? ⟨sb, 2, none⟩ = some (.map (some mb)) := fun X hX => (World.cell?_of_block (w := w2) (a := ⟨sb, 2, none⟩) (hX.block sb (h2.fam.lt 0 sb h2.core.sbC))).trans (cellj h2.core.row rfl).1
    have n2 : ∀ X, Below w2.heap.size w2 X → X.cell? ⟨w.heap.size, 0, none⟩ = some (.string j.sp.nm) := fun X hX => by
      have e := (hX.block w.heap.size (by omega)).trans (hk2 w.heap.size (Nat.le_refl _) (by omega))
      exact (World.cell?_of_block (w := Y) (a := ⟨w.heap.size, 0, none⟩) e).trans hxY.1
    have hwkj : wk (nmK j) := by have := H.out.2.2.2.2.1; unfold wk nmK maxLen; simp; omega
    obtain ⟨Z, hrun, hmp, hgr, hzs⟩ := Mv.Mp.put kind (h2.core.map.kept (Y := w2.drew) rfl) (by have := H.out.2.2.2.1; unfold maxLen; omega) (k := nmK j) hwkj (.pointer (some ⟨tb, 0, none⟩))
    rw [ek_nm] at hrun
    have hnj : nmK y = nmK j := by unfold nmK; rw [hly.nm]
    rw [← hnj] at hmp
    have HP := Lib.hid (put_core h2 (by rw [hnj]; exact H.out.2.2.2.2.2.2.1) ((hk2 tb htw.1 htw.2).trans hYt) (Z := Z) (w3 := w2.drew) (Jd.kept' hdY (hoY.imp_right fun ⟨g, cur, e1, e2, e3⟩ => ⟨g, e1, hk2 g (by have := HV.out.2.1; omega) (lt_of_block e3)⟩)) (by
        refine hoY.imp_right fun ⟨g, cur, e1, e2, e3⟩ => ⟨g, cur, e1, fun i => ?_, ?_⟩
        · exact hnS' i g (by have := HV.out.2.1; omega) (lt_of_block e3)
        · exact (hk2 g (by have := HV.out.2.1; omega) (lt_of_block e3)).trans e3) (by rw [hnj]; exact hwkj) (by rw [hly.n]; exact H.out.2.2.1) (fun i => hnS' i tb htw.1 htw.2) (Below.refl _ _).drew rfl hgr hzs hmp)
    have H2 := Lib.hid (And.intro h2 (And.intro h20 (And.intro h2i (And.intro hoY htw))))
    have HL := Lib.hid hly
    clear hly hwY hsY hnS htw hYt hdY hoY hxY hnS' hk2 hsz2 hwkj hnj hmp hgr hzs h2 h20 h2i
    generalize hnm : j.sp.nm = nm at *
    have C2 := Lib.hid c2
    have N2 := Lib.hid n2
    clear c2 n2
    go_wp2_with fail
    refine begin' 7 (fun ZZ => Below w2.heap.size w2 ZZ) hmix ((Below.refl _ w2).drew) (fun hS0 => ?_)
    refine Ht.takeD 8 (i := 0) ⟨some 14, _, _, _, _, _⟩ (.pointer (some ⟨sb, 0, none⟩)) rfl (by kernel_rfl) (by kernel_rfl) (by decide) (by kernel_rfl) (by kernel_rfl) (by kernel_rfl) hS0 (Or.inl ⟨by rfl, by (intro X hX; go_simp)⟩) ?_
    simp only [Act.put, List.setIfInBounds_toArray, List.set_cons_zero, List.set_cons_succ]
    refine Ht.takeD 8 (i := 1) ⟨some 15, _, _, _, _, _⟩ (.pointer (some ⟨sb, 0, none⟩)) rfl (by kernel_rfl) (by kernel_rfl) (by decide) (by kernel_rfl) (by kernel_rfl) (by kernel_rfl) hS0 (Or.inl ⟨by rfl, by (intro X hX; go_simp)⟩) ?_
    simp only [Act.put, List.setIfInBounds_toArray, List.set_cons_zero, List.set_cons_succ]
    refine Ht.takeD 8 (i := 2) ⟨some 16, _, _, _, _, _⟩ (.pointer (some ⟨sb, 2, none⟩)) rfl (by kernel_rfl) (by kernel_rfl) (by decide) (by kernel_rfl) (by kernel_rfl) (by kernel_rfl) hS0 (Or.inl ⟨by rfl, by (intro X hX; go_simp)⟩) ?_
    simp only [Act.put, List.setIfInBounds_toArray, List.set_cons_zero, List.set_cons_succ]
    refine Ht.takeD 8 (i := 3) ⟨some 17, _, _, _, _, _⟩ (.map (some mb)) rfl (by kernel_rfl) (by kernel_rfl) (by decide) (by kernel_rfl) (by kernel_rfl) (by kernel_rfl) hS0 (Or.inl ⟨by rfl, by (intro X hX; have := C2.out X hX; go_simp)⟩) ?_
    simp only [Act.put, List.setIfInBounds_toArray, List.set_cons_zero, List.set_cons_succ]
    refine Ht.takeD 8 (i := 4) ⟨some 18, _, _, _, _, _⟩ (.pointer (some ⟨w.heap.size, 0, none⟩)) rfl (by kernel_rfl) (by kernel_rfl) (by decide) (by kernel_rfl) (by kernel_rfl) (by kernel_rfl) hS0 (Or.inl ⟨by rfl, by (intro X hX; go_simp)⟩) ?_
    simp only [Act.put, List.setIfInBounds_toArray, List.set_cons_zero, List.set_cons_succ]
    refine Ht.takeD 8 (i := 5) ⟨some 19, _, _, _, _, _⟩ (.pointer (some ⟨w.heap.size, 0, none⟩)) rfl (by kernel_rfl) (by kernel_rfl) (by decide) (by kernel_rfl) (by kernel_rfl) (by kernel_rfl) hS0 (Or.inl ⟨by rfl, by (intro X hX; go_simp)⟩) ?_
    simp only [Act.put, List.setIfInBounds_toArray, List.set_cons_zero, List.set_cons_succ]
    refine Ht.takeD 8 (i := 6) ⟨some 20, _, _, _, _, _⟩ (.string nm) rfl (by kernel_rfl) (by kernel_rfl) (by decide) (by kernel_rfl) (by kernel_rfl) (by kernel_rfl) hS0 (Or.inl ⟨by rfl, by (intro X hX; have := N2.out X hX; go_simp)⟩) ?_
    simp only [Act.put, List.setIfInBounds_toArray, List.set_cons_zero, List.set_cons_succ]
    refine Ht.step (i := 7) ⟨none, _, _, _, _, _⟩ rfl (by kernel_rfl) (by rfl) (fun K hK => ?_)
    go_simp
    refine hK _ _ (fun hn => absurd rfl hn) (fun hnx => ?_)
    clear hK K hnx
    try simp only [Act.put, List.setIfInBounds_toArray, List.set_cons_zero, List.set_cons_succ]
    refine done (by kernel_rfl) ?_
    clear hrun
    go_wp2_with fail
    go_ret
    obtain ⟨fz, S2, hs2, hi2⟩ := HP.out
    refine ⟨0, S2, _, y, rfl, HA.out.trans fz fun x hx => ?_, hs2.core.row.trans H.out.1.core.row.symm, fun _ => ⟨HL.out, hs2, fun i k hk => ?_⟩⟩
    · rw [H2.out.2.1] at hx
      exact .inl ⟨0, hx⟩
    · rcases hi2 i k hk with hk | hk | ⟨h0, g, h1, rfl⟩
      · rcases H2.out.2.2.1 i k hk with hk | hk
        · exact .inl hk
        · exact .inr (Nat.le_trans H1.out.2.1.size hk)
      · rw [hk]; exact .inr H2.out.2.2.2.2.1
      · rcases H2.out.2.2.2.1 with e | ⟨g', cur, e1, e2, e3⟩
        · exact absurd e h0
        · rw [e1] at h1
          obtain rfl : g' = k := by simpa using h1
          have := HV.out.2.1
          exact .inr (by omega)
  · go_wp2_with fail
    go_ret
    refine ⟨er, S, jb, y, rfl, HA.out, (HF.out.block sb (H1.out.2.2.1.fam.lt 0 sb H1.out.2.2.1.core.sbC) fun ⟨i, h0, hi⟩ => ?_).trans (H1.out.2.1.block sb (H.out.1.fam.lt 0 sb H.out.1.core.sbC)), fun e => absurd e he⟩
    have := H1.out.2.2.1.fam.dis i 0 sb hi H1.out.2.2.1.core.sbC
    omega
end
end Go.Proofs.YtcodjknhnhdkfaaGreatDoor.Im
