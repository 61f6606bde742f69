
/- graphs: walks to their ends; stands -/
import Derived.Test.YtmlmacplkfnhkaaDgJB
namespace Go.Proofs.Ytmlmacplkfnhkaa.DgB
open Go.RowKit Go.Lib Hp Mv Dg Ht Go.WideElems Go.ChangeMaps Go.MapKept
set_option linter.unusedVariables false
set_option maxRecDepth 20000
attribute [local go_sem] Oper.semAt_some
section
variable {T O : Nat → Prop} {w : World} {wb fb : Nat} {rv : Value} {ns : List Id} {R : Id → Id → Bool} {fid : FuncId} {cb : Nat} {nx : Id → Nat} {F : Id → Bool} {n : Nat} {rest : List Id}
/-- a walk on its way since a world -/
structure Way (T O : Nat → Prop) (w : World) (wb fb : Nat) (ns : List Id) (R : Id → Id → Bool) (fid : FuncId) (cb : Nat) (nx : Id → Nat) (s : Id) (X : World) (O' : Nat → Prop) (rv' : Value) (F' : Id → Bool) (n' : Nat) (rest' : List Id) : Prop where
  mem : Wk T O' X wb fb rv' ns R fid cb nx F' n' rest'
  wi : WI R s (fun x => F' x = true) rest'
  fr : Fr O w X
  new : ∀ k, O' k → O k ∨ w.heap.size ≤ k
theorem Way.step {s : Id} {X Y : World} {O' : Nat → Prop} {rv' : Value} {F' : Id → Bool} {n' : Nat} {rest' : List Id} {m : Nat} (p : Way T O w wb fb ns R fid cb nx s X O' rv' F' n' rest') (h : Stepped T O' X Y wb fb ns R fid cb nx s m) :
    ∃ O2 rv2 F2 n2 rest2, Way T O w wb fb ns R fid cb nx s Y O2 rv2 F2 n2 rest2 ∧ ns.length - n2 + rest2.length < m ∧ Fr O' X Y ∧ (∀ k, O2 k → O' k ∨ X.heap.size ≤ k) := by
  obtain ⟨O2, rv2, F2, n2, rest2, h1, h2, h3, h4, h5⟩ := h
  exact ⟨O2, rv2, F2, n2, rest2, ⟨h1, h2, p.fr.trans h3 p.new, fun k hk => (h4 k hk).elim (p.new k) (fun e => .inr (Nat.le_trans p.fr.size e))⟩, h5, h3, h4⟩
theorem Way.fr' {s : Id} {X Y : World} {O' Z : Nat → Prop} {rv' : Value} {F' : Id → Bool} {n' : Nat} {rest' : List Id} (p : Way T O w wb fb ns R fid cb nx s X O' rv' F' n' rest') (h : Fr Z X Y) (hd : ∀ k, T k ∨ O' k → ¬ Z k) : Wk T O' Y wb fb rv' ns R fid cb nx F' n' rest' := p.mem.fr h hd
/-- a measure, as a number -/
def lenOf (w : World) (wb : Nat) : Nat := match w.cell? ⟨wb, 2, none⟩ with | some (.slice _ n _) => n | _ => 0
def cntOf (w : World) (fb : Nat) : Nat := match w.heap[fb]? with | some (.map es _) => es.size | _ => 0
theorem Wk.lenOf (h : Wk T O w wb fb rv ns R fid cb nx F n rest) : lenOf w wb = rest.length := by
  obtain ⟨a, c, rfl⟩ := own_shape h.row
  unfold DgB.lenOf; rw [h.cells.2.2]
theorem Wk.cntOf (h : Wk T O w wb fb rv ns R fid cb nx F n rest) : cntOf w fb = n := by
  obtain ⟨D, ⟨es, clock, hb, hF, hsz, rfl⟩, hn, hD⟩ := h.found
  unfold DgB.cntOf; rw [hb]
  simp only
  rw [← hn]; simp [Maps.size, length_sorted]
theorem wall_any (h : Wk T O w wb fb rv ns R fid cb nx F n rest) {s : Id} (hw : WI R s (fun x => F x = true) rest) (hN : ns.length ≤ 900000) : Calls Try.prog 31 #[.pointer (some ⟨wb, 0, none⟩)] w fun e w' => ∃ O' rv' F' n', e = .returned (.map (some fb)) ∧ Way T O w wb fb ns R fid cb nx s w' O' rv' F' n' [] := by
  have h0 : Way T O w wb fb ns R fid cb nx s w O rv F n rest := ⟨h, hw, Fr.refl _ _, fun _ e => .inl e⟩
  have H0 := Lib.hid (And.intro h0 hN)
  clear h hw hN h0
  go_enter Try.func31, Try.ntmps31
  go_wp2_with fail
  go_loopw [4] (fun _ wr => ∃ O' rv' F' n' rest', Way T O w wb fb ns R fid cb nx s wr O' rv' F' n' rest') (fun _ wr => ns.length - cntOf wr fb + lenOf wr wb)
  case atStart => exact ⟨_, _, _, _, _, H0.out.1⟩
  case round =>
    obtain ⟨O', rv', F', n', rest', p⟩ := hrel
    have he := ends_any p.mem
    have HP := Lib.hid p
    clear p
    go_wp2_with fail
    refine he.mono ?_
    rintro e W1 ⟨rfl, rfl⟩
    clear he
    by_cases hr : rest' = []
    · subst hr
      rw [decide_eq_true rfl]
      have cc := HP.out.mem.cells.2.1
      go_wp2_with fail
      go_ret
      exact ⟨_, _, _, _, by simp, HP.out⟩
    · rw [decide_eq_false hr]
      have hs := step_any HP.out.mem HP.out.wi hr H0.out.2
      have HR := Lib.hid hr
      clear hr
      go_wp2_with fail
      refine hs.mono ?_
      rintro e W2 ⟨rfl, hst⟩
      obtain ⟨O2, rv2, F2, n2, rest2, p2, hm, _, _⟩ := HP.out.step hst
      have HQ := Lib.hid (And.intro p2 hm)
      clear p2 hm hst hs
      go_wp2_with fail
      go_roundw
      case rel => exact ⟨_, _, _, _, _, HQ.out.1⟩
      case measure => rw [HQ.out.1.mem.cntOf, HQ.out.1.mem.lenOf, HP.out.mem.cntOf, HP.out.mem.lenOf]; exact HQ.out.2
end
end Go.Proofs.Ytmlmacplkfnhkaa.DgB
