
/- commands that were read: not too long; what Only tells is the same -/
import Derived.Test.YtfidmjpjfigmcaaCmI
import Derived.Test.YtfidmjpjfigmcaaCmE
namespace Go.Proofs.Ytfidmjpjfigmcaa.Cm
open Go.RowKit Go.Lib Wn Rf By
set_option linter.unusedVariables false
set_option maxRecDepth 20000
theorem text_size {s : ByteArray} {m : Nat} (h : (textB s).length ≤ m) : s.size ≤ m := by
  unfold textB at h
  rw [List.length_append] at h
  have e : s.data.toList.length = s.size := Array.length_toList
  omega
theorem row_each : ∀ {l : List ByteArray} {m : Nat}, (Sp.rowB l).length ≤ m → (∀ d ∈ l, d.size ≤ m) ∧ l.length ≤ m
  | [], m, _ => ⟨(fun d hd => by cases hd), Nat.zero_le _⟩
  | x :: l, m, h => by
    simp only [Sp.rowB, List.flatMap_cons, List.length_append] at h
    have hx := text_size (s := x) (m := m) (by omega)
    have h1 : 1 ≤ (textB x).length := by
      unfold textB
      by_cases q : x.size < 128
      · rw [uvarint_small q, List.length_append, List.length_singleton]; omega
      · rw [uvarint_big (by omega), List.length_append, List.length_cons]; omega
    obtain ⟨i1, i2⟩ := row_each (l := l) (m := m - 1) (by show (l.flatMap textB).length ≤ m - 1; omega)
    refine ⟨fun d hd => ?_, by simp; omega⟩
    rcases List.mem_cons.1 hd with rfl | hd
    · exact hx
    · have := i1 d hd; omega
theorem spec_med {x : Sp.Spc} (hl : x.ds.length = x.n) (h : (Sp.specB x).length ≤ 1000) : x.med := by
  unfold Sp.specB Sp.headB Sp.tailB at h
  simp only [List.length_append] at h
  obtain ⟨r1, r2⟩ := row_each (l := x.ds) (m := 1000) (by omega)
  exact ⟨r1, text_size (by omega), text_size (by omega), by omega, text_size (by omega), by omega⟩
theorem zsp_med : zsp.med := ⟨(fun d hd => by cases hd), by decide, by decide, by decide, by decide, by decide⟩
theorem zsp_wf' : zsp.wf := by unfold zsp Sp.Spc.wf Sp.W64; decide
theorem cmd_med {c : Cmd} (hl : c.sp.ds.length = c.sp.n) (ho : Only c c) (h : (cmdB c).length ≤ 1000) : c.med := by
  obtain ⟨_, o2, o3, o4, o5, o6⟩ := ho
  unfold cmdB tailC at h
  simp only [List.length_append] at h
  refine ⟨?_, ?_, ?_⟩
  · cases hb : bN c.kd with
    | true => rw [hb] at h; exact text_size (by unfold part at h; simp only [if_true] at h; omega)
    | false => rw [hb, if_neg (by simp)] at o2; rw [o2]; decide
  · cases hb : bW c.kd with
    | true => rw [hb] at h; exact text_size (by unfold part at h; simp only [if_true] at h; omega)
    | false => rw [hb, if_neg (by simp)] at o3; rw [o3]; decide
  · cases hb : bS c.kd with
    | true => rw [hb] at h; exact spec_med hl (by unfold part at h; simp only [if_true] at h; omega)
    | false => rw [hb, if_neg (by simp)] at o6; rw [o6]; exact zsp_med
theorem only_sp {c o : Cmd} (ho : Only c o) : o.sp = { c.sp with a := o.sp.a, c := o.sp.c } ∨ o.sp = zsp := by
  have h := ho.2.2.2.2.2
  split at h
  · exact .inl h
  · exact .inr h
theorem only_wf {c o : Cmd} (ho : Only c o) (h : c.sp.wf) : o.sp.wf := by
  rcases only_sp ho with e | e
  · rw [e]; exact h
  · rw [e]; exact zsp_wf'
theorem only_med {c o : Cmd} (ho : Only c o) (h : c.sp.med) : o.sp.med := by
  rcases only_sp ho with e | e
  · rw [e]; exact h
  · rw [e]; exact zsp_med
theorem only_same {c o : Cmd} (h1 : Only c c) (h2 : Only c o) : c.eqv o := by
  obtain ⟨_, a2, a3, a4, a5, a6⟩ := h1
  obtain ⟨b1, b2, b3, b4, b5, b6⟩ := h2
  refine ⟨b1.symm, by rw [b2, ← a2], by rw [b3, ← a3], by rw [b4, ← a4], by rw [b5, ← a5], ?_⟩
  cases hs : bS c.kd with
  | true => rw [hs, if_pos rfl] at b6; rw [b6]; rfl
  | false => rw [hs, if_neg (by simp)] at a6 b6; rw [a6, b6]
def zcmd : Cmd := ⟨0, ⟨#[]⟩, ⟨#[]⟩, 0, 0, zsp⟩
end Go.Proofs.Ytfidmjpjfigmcaa.Cm
