
/- all jobs of a scheduler: Jobs -/
import Derived.Test.YtcodjknhnhdkfaaDoorIm5
namespace Go.Proofs.YtcodjknhnhdkfaaDoor.Im
open Go.RowKit Go.Lib Go.Sort Ht Hp
set_option linter.unusedVariables false
set_option linter.unusedSectionVars false
set_option maxRecDepth 20000
attribute [local go_sem] Oper.semAt_some
section
variable {w : World} {sb mb wb : Nat} {jb : K → Nat} {now each : Int} {order : Nat} {js : List Jb}
theorem jf_at {j : Jb} (hj : j ∈ js) : jf js jb (nmK j) = some (.pointer (some ⟨jb (nmK j), 0, none⟩)) := by
  unfold jf
  rw [if_pos (List.mem_map.2 ⟨j, hj, rfl⟩)]
theorem wrap_up {m : Nat} (h : m ≤ 1000000) : wrap64 (((m : Nat) : Int) + 1) = ((m + 1 : Nat) : Int) := by unfold wrap64; omega
theorem meas_up {n k : Nat} (h : k < n) : n - (RowKit.intOf (.int .i64 ((k + 1 : Nat) : Int))).toNat < n - (RowKit.intOf (.int .i64 ((k : Nat) : Int))).toNat := by simp only [RowKit.intOf]; omega
/-- all jobs lie in a row of one's own, whose slice lies in a block of its own -/
def Kept (w w' : World) (js : List Jb) : Prop := ∃ v ls, w'.heap[w.heap.size]? = some (.cells #[v] 53 (0, 0)) ∧ Ga (w.heap.size + 1) w' v js.length js ls ∧ Below w.heap.size w w'
set_option maxHeartbeats 4000000 in
theorem Jobs_any (h : Sq w sb mb wb jb now each order js) : Calls Tryd.prog 19 #[.pointer (some ⟨sb, 0, none⟩)] w fun e w' =>
    e = .returned (.func (.func 33) #[] #[.pointer (some ⟨w.heap.size, 0, none⟩)]) ∧ Kept w w' js := by
  have hmix : Tryd.prog.follows .mixedOrders = true := by kernel_rfl
  have hmf : ∀ (fn : Fn) (first cap : Array Value) (w : World), (Instr.makeFunc fn first cap).run Tryd.prog w = .ok (.func fn first cap) w := fun _ _ _ _ => rfl
  obtain ⟨V, hV⟩ : ∃ V, V = w.alloc (.cells #[.slice none 0 0] 53) := ⟨_, rfl⟩
  have hbV : Below w.heap.size w V := by rw [hV]; exact (Below.refl _ _).alloc (Nat.le_refl _) _
  have hzV : V.heap.size = w.heap.size + 1 := by rw [hV]; simp
  have h0V : V.heap[w.heap.size]? = some (.cells #[.slice none 0 0] 53 (0, 0)) := by rw [hV]; exact (MapKept.heap_alloc w _).1
  have hn := names_any (h.old hbV)
  have H := Lib.hid (And.intro h (And.intro hbV (And.intro hzV (And.intro h0V h.few))))
  have hsb := World.block_lt_of_cell? w _ h.cell.1
  clear h hbV hzV h0V
  go_enter Tryd.func19, Tryd.ntmps19
  go_wp2_with fail
  rw [← hV]
  have HV := Lib.hid hV
  clear hV
  refine hn.mono ?_
  rintro e W1 ⟨vn, rfl, hrn, hb1⟩
  obtain ⟨an, cn, rfl, hnn⟩ := hrn
  obtain ⟨n, hnl⟩ : ∃ n, n = js.length := ⟨_, rfl⟩
  rw [List.length_map, ← hnl]
  have hz1 := hb1.size
  have h01 : W1.heap[w.heap.size]? = some (.cells #[.slice none 0 0] 53 (0, 0)) := (hb1.block _ (by have := H.out.2.2.1; omega)).trans H.out.2.2.2.1
  have hw1 : Below w.heap.size w W1 := H.out.2.1.trans (hb1.mono (by have := H.out.2.2.1; omega))
  have hwz : w.heap.size < W1.heap.size := lt_of_block h01
  have H1 := Lib.hid (And.intro hnn (And.intro hnl (And.intro h01 (And.intro hw1 hwz))))
  clear hnn hnl h01 hw1 hwz hz1 hb1 hn
  go_wp2_with fail
  go_loopw [11] (fun s wr => ∃ (k : Nat) (v : Value) (ls : List Jb), s = .int .i64 ((k : Nat) : Int) ∧ k ≤ n ∧ wr.heap[w.heap.size]? = some (.cells #[v] 53 (0, 0)) ∧ Ga W1.heap.size wr v k js ls ∧ Below w.heap.size w wr ∧ W1.heap.size ≤ wr.heap.size ∧ ∀ x, w.heap.size < x → x < W1.heap.size → wr.heap[x]? = W1.heap[x]?) (fun s _ => n - (RowKit.intOf s).toNat)
  case atStart => exact ⟨0, _, [], rfl, Nat.zero_le _, H1.out.2.2.1, Ga.nil _ _ _, H1.out.2.2.2.1, Nat.le_refl _, fun _ _ _ => rfl⟩
  case round =>
    obtain ⟨k, v, ls, rfl, hk, hbx, hga, hbw, hsz, hst⟩ := hrel
    by_cases hlt : k < n
    · have hkl : k < js.length := by rw [← H1.out.2.1]; exact hlt
      obtain ⟨x, hx⟩ : ∃ x, x = js[k] := ⟨_, rfl⟩
      have hxm : x ∈ js := by rw [hx]; exact List.getElem_mem _
      obtain ⟨g, rfl, hg1, hg2, hg3⟩ : ∃ g, an = some ⟨g, 0, none⟩ ∧ V.heap.size + 1 ≤ g ∧ g < W1.heap.size ∧ ∀ i (h : i < (js.map nmK).length), W1.cell? ⟨g, i, none⟩ = some (ek (js.map nmK)[i]) := by
        rcases H1.out.1 with h0 | h0
        · have : js = [] := List.map_eq_nil_iff.1 h0
          rw [this] at hkl; simp at hkl
        · exact h0
      have hcn : wr.cell? ⟨g, k, none⟩ = some (ek (nmK x)) := by
        have e := hst g (by have := H.out.2.2.1; omega) hg2
        rw [World.cell?_of_block (w := W1) (a := ⟨g, k, none⟩) e, hg3 k (by simpa using hkl)]
        simp [hx]
      have q := H.out.1.old hbw
      obtain ⟨hjb, hjd, hwk, hjn⟩ := q.job x hxm
      have c2 := q.cell.2.2.1
      have hml := q.map.lt
      have hmp := q.map
      obtain ⟨a, c, rfl⟩ := hga.shape
      have hbox : wr.cell? ⟨w.heap.size, 0, none⟩ = some (.slice a k c) := cell_of_one hbx
      have hfz : wr.frozen? ⟨w.heap.size, 0, none⟩ = false := by simp [World.frozen?, hbx]
      have hnob : ∀ b, b < W1.heap.size → ¬ (Value.slice a k c).ownBlock = some b := fun b hb e => by have := (own_block hga.own e).1; omega
      obtain ⟨JB, hJB⟩ : ∃ b, b = jb (nmK x) := ⟨_, rfl⟩
      rw [← hJB] at hjb
      have hnjb : ¬ (Value.slice a k c).ownBlock = some JB := fun e => by
        have h1 := (own_block hga.own e).1
        have h2 := lt_of_block ((H.out.1.job x hxm).1)
        have := H1.out.2.2.2.2
        rw [hJB] at h1
        omega
      have hnmb : ¬ (Value.slice a k c).ownBlock = some mb := fun e => by
        have h1 := (own_block hga.own e).1
        have h2 := H.out.1.map.lt
        have := H1.out.2.2.2.2
        omega
      have hlook : ∀ X : World, Fr (fun b => (Value.slice a k c).ownBlock = some b) wr X → (Instr.lookup 67 (.map (some mb)) (.string x.sp.nm) false).run Tryd.prog X = .ok (.pointer (some ⟨JB, 0, none⟩)) X := fun X hX => by
        have := hmp.look1 kind (Y := X) (hX.block mb hml hnmb) hwk
        rw [jf_at hxm, ek_nm, ← hJB] at this
        exact this
      obtain ⟨C, hC⟩ : ∃ C, C = x.cs.toArray := ⟨_, rfl⟩
      rw [← hC] at hjb
      have hCl : C.toList = x.cs := by rw [hC]
      have hrg : ∀ X : World, Fr (fun b => (Value.slice a k c).ownBlock = some b) wr X → X.rangeAt JB 0 C.toList := fun X hX => Cm.range_of ((hX.block JB (lt_of_block hjb) hnjb).trans hjb)
      have hinf : (Tryd.prog.info? 52).map (·.size) = some C.toList.length := by rw [hCl]; exact info_job
      have hsb1 : ∀ X : World, Fr (fun b => (Value.slice a k c).ownBlock = some b) wr X → X.cell? ⟨sb, 2, none⟩ = some (.map (some mb)) := fun X hX => hX.cell c2 (hnob sb (by have := H1.out.2.2.2.2; omega))
      have hbox1 : ∀ X : World, Fr (fun b => (Value.slice a k c).ownBlock = some b) wr X → X.cell? ⟨w.heap.size, 0, none⟩ = some (.slice a k c) := fun X hX => hX.cell hbox (hnob _ H1.out.2.2.2.2)
      have hsbl : sb < wr.heap.size := by have := H1.out.2.2.2.2; omega
      rw [ek_nm] at hcn
      have HK := Lib.hid (And.intro hx (And.intro hga (And.intro hbw (And.intro hsz (And.intro hst (And.intro hjd (And.intro hjn (And.intro hC hbx))))))))
      have HQ := Lib.hid (And.intro q hxm)
      clear hx hga hbw hsz hst hjd hjn hC hbx q hjb hmp hml hwk hxm hJB
      generalize hnm : x.sp.nm = nm at *
      have HNM := Lib.hid hnm
      clear hnm
      have hltx : ((k : Nat) : Int) < ((n : Nat) : Int) := by omega
      go_wp2_with fail
      refine begin' 12 (fun ZZ => Fr (fun b => (Value.slice a k c).ownBlock = some b) wr ZZ) hmix (Fr.refl _ wr).drew (fun hS0 => ?_)
      refine Ht.takeD 8 (i := 0) ⟨some 15, _, _, _, _, _⟩ (.slice a k c) rfl (by kernel_rfl) (by kernel_rfl) (by decide) (by kernel_rfl) (by kernel_rfl) (by kernel_rfl) hS0 (Or.inl ⟨by rfl, by (intro X hX; have := hbox1 X hX; go_simp)⟩) ?_
      simp only [Act.put, List.setIfInBounds_toArray, List.set_cons_zero, List.set_cons_succ]
      refine Ht.takeD 8 (i := 1) ⟨some 16, _, _, _, _, _⟩ (.pointer (some ⟨sb, 0, none⟩)) rfl (by kernel_rfl) (by kernel_rfl) (by decide) (by kernel_rfl) (by kernel_rfl) (by kernel_rfl) hS0 (Or.inl ⟨by rfl, by (intro X hX; go_simp)⟩) ?_
      simp only [Act.put, List.setIfInBounds_toArray, List.set_cons_zero, List.set_cons_succ]
      refine Ht.takeD 8 (i := 2) ⟨some 17, _, _, _, _, _⟩ (.pointer (some ⟨sb, 0, none⟩)) rfl (by kernel_rfl) (by kernel_rfl) (by decide) (by kernel_rfl) (by kernel_rfl) (by kernel_rfl) hS0 (Or.inl ⟨by rfl, by (intro X hX; go_simp)⟩) ?_
      simp only [Act.put, List.setIfInBounds_toArray, List.set_cons_zero, List.set_cons_succ]
      refine Ht.takeD 8 (i := 3) ⟨some 18, _, _, _, _, _⟩ (.pointer (some ⟨sb, 2, none⟩)) rfl (by kernel_rfl) (by kernel_rfl) (by decide) (by kernel_rfl) (by kernel_rfl) (by kernel_rfl) hS0 (Or.inl ⟨by rfl, by (intro X hX; go_simp)⟩) ?_
      simp only [Act.put, List.setIfInBounds_toArray, List.set_cons_zero, List.set_cons_succ]
      refine Ht.takeD 8 (i := 4) ⟨some 19, _, _, _, _, _⟩ (.map (some mb)) rfl (by kernel_rfl) (by kernel_rfl) (by decide) (by kernel_rfl) (by kernel_rfl) (by kernel_rfl) hS0 (Or.inl ⟨by rfl, by (intro X hX; have := hsb1 X hX; go_simp)⟩) ?_
      simp only [Act.put, List.setIfInBounds_toArray, List.set_cons_zero, List.set_cons_succ]
      refine Ht.takeD 8 (i := 5) ⟨some 20, _, _, _, _, _⟩ (.string nm) rfl (by kernel_rfl) (by kernel_rfl) (by decide) (by kernel_rfl) (by kernel_rfl) (by kernel_rfl) hS0 (Or.inl ⟨by rfl, by (intro X hX; go_simp)⟩) ?_
      simp only [Act.put, List.setIfInBounds_toArray, List.set_cons_zero, List.set_cons_succ]
      refine Ht.takeD 8 (i := 6) ⟨some 21, _, _, _, _, _⟩ (.pointer (some ⟨JB, 0, none⟩)) rfl (by kernel_rfl) (by kernel_rfl) (by decide) (by kernel_rfl) (by kernel_rfl) (by kernel_rfl) hS0 (Or.inl ⟨by rfl, by (intro X hX; have := hlook X hX; go_simp)⟩) ?_
      simp only [Act.put, List.setIfInBounds_toArray, List.set_cons_zero, List.set_cons_succ]
      refine Ht.takeD 8 (i := 7) ⟨some 22, _, _, _, _, _⟩ (.pointer (some ⟨JB, 0, none⟩)) rfl (by kernel_rfl) (by kernel_rfl) (by decide) (by kernel_rfl) (by kernel_rfl) (by kernel_rfl) hS0 (Or.inl ⟨by rfl, by (intro X hX; go_simp)⟩) ?_
      simp only [Act.put, List.setIfInBounds_toArray, List.set_cons_zero, List.set_cons_succ]
      refine Ht.takeD 8 (i := 8) ⟨some 23, _, _, _, _, _⟩ (.agg C.toList.toArray) rfl (by kernel_rfl) (by kernel_rfl) (by decide) (by kernel_rfl) (by kernel_rfl) (by kernel_rfl) hS0 (yieldsIf_load_mid (by rfl) 52 _ rfl JB 0 rfl C.toList _ hrg Tryd.underlying52 rfl hinf) ?_
      simp only [Act.put, List.setIfInBounds_toArray, List.set_cons_zero, List.set_cons_succ, Array.toArray_toList]
      have hjd0 : Jd wr.drew x := HK.out.2.2.2.2.2.1
      have hcl := clone_any x hjd0 (by have := HK.out.2.2.2.2.2.2.1; omega)
      rw [← HK.out.2.2.2.2.2.2.2.1] at hcl
      refine Ht.step (i := 9) ⟨some 24, _, _, _, _, _⟩ rfl (by kernel_rfl) (by rfl) (fun K hK => ?_)
      refine Ht.enter 32 #[.agg C] (by have hen := fun args w => enters_of (P := Tryd.prog) Tryd.func32 (by kernel_rfl) rfl args w; go_simp) (hcl) ?_
      rintro e Z ⟨y, rfl, hly, hbZ, hdy, hoy⟩
      obtain ⟨Cy, hCy⟩ : ∃ Cy, Cy = y.cs.toArray := ⟨_, rfl⟩
      rw [← hCy]
      have hfZ : Fr (fun b => (Value.slice a k c).ownBlock = some b) wr Z := hS0.trans (Fr.of_below hbZ) (fun x hx => .inl hx)
      refine ⟨_, rfl, hK _ _ (fun hn => hfZ) (fun hnx => ?_)⟩
      clear hK K hnx
      try simp only [Act.put, List.setIfInBounds_toArray, List.set_cons_zero, List.set_cons_succ]
      obtain ⟨v', w', hra, gw, fw⟩ := HK.out.2.1.push (by have := HK.out.2.2.2.1; omega) (⟨hbZ.os, hbZ.tape, hbZ.output, hbZ.size, hbZ.block⟩ : Below wr.heap.size wr Z) (x := x) (y := y) (by rw [HK.out.1]; exact List.getElem?_eq_getElem hkl) hly hdy (hoy.imp_right fun ⟨g, cur, e1, e2, e3⟩ => ⟨g, cur, e1, Nat.le_trans HK.out.2.2.2.1 e2, e3⟩) (by have := H.out.2.2.2.2; omega) 53
      rw [← hCy] at hra
      have hCs : Cy.size = 21 := by rw [hCy]; rfl
      have hfU : Fr (fun b => (Value.slice a k c).ownBlock = some b) wr (Z.alloc (.cells Cy 52)) := hfZ.trans (Fr.alloc (fun b => (Value.slice a k c).ownBlock = some b) Z _) (fun x hx => .inl hx)
      refine Ht.step (i := 10) ⟨some 25, _, _, _, _, _⟩ rfl (by kernel_rfl) (by rfl) (fun K hK => ?_)
      refine wp_buildJ _ rfl y (by rw [← hCy]; rfl) ?_
      rw [← hCy]
      refine hK _ _ (fun hn => hfU) (fun hnx => ?_)
      clear hK K hnx
      try simp only [Act.put, List.setIfInBounds_toArray, List.set_cons_zero, List.set_cons_succ]
      refine Ht.step (i := 11) ⟨some 26, _, _, _, _, _⟩ rfl (by kernel_rfl) (by rfl) (fun K hK => ?_)
      refine wp_app _ _ rfl rfl rfl hra ?_
      refine hK _ _ (fun hn => fw) (fun hnx => ?_)
      clear hK K hnx
      try simp only [Act.put, List.setIfInBounds_toArray, List.set_cons_zero, List.set_cons_succ]
      refine Ht.step (i := 12) ⟨none, _, _, _, _, _⟩ rfl (by kernel_rfl) (by rfl) (fun K hK => ?_)
      have hbx' : w'.heap[w.heap.size]? = some (.cells #[.slice a k c] 53 (0, 0)) := (fw.block _ (by have := HK.out.2.2.1.size; have := HK.out.2.2.2.1; have := H1.out.2.2.2.2; omega) (hnob _ H1.out.2.2.2.2)).trans HK.out.2.2.2.2.2.2.2.2
      have cb' := cell_of_one hbx'
      have fb' : w'.frozen? ⟨w.heap.size, 0, none⟩ = false := by simp [World.frozen?, hbx']
      obtain ⟨a', c', rfl⟩ := gw.shape
      go_simp
      refine hK _ _ (fun hn => absurd rfl hn) (fun hnx => ?_)
      clear hK K hnx
      try simp only [Act.put, List.setIfInBounds_toArray, List.set_cons_zero, List.set_cons_succ]
      refine done (by kernel_rfl) ?_
      obtain ⟨X, hX⟩ : ∃ X, X = w'.setCell ⟨w.heap.size, 0, none⟩ (.slice a' (k + 1) c') := ⟨_, rfl⟩
      rw [← hX]
      have oX : ∀ b, b ≠ w.heap.size → X.heap[b]? = w'.heap[b]? := fun b hb => by rw [hX]; exact heap_setCell_other _ _ _ _ hb
      have zX : X.heap.size = w'.heap.size := by rw [hX]; simp [World.setCell]
      have bX : X.heap[w.heap.size]? = some (.cells #[.slice a' (k + 1) c'] 53 (0, 0)) := by rw [hX]; exact Lib.heap_setCell_same hbx' _
      have hrel : ∃ (k2 : Nat) (v2 : Value) (ls2 : List Jb), Value.int .i64 (((k + 1 : Nat) : Nat) : Int) = .int .i64 ((k2 : Nat) : Int) ∧ k2 ≤ n ∧ X.heap[w.heap.size]? = some (.cells #[v2] 53 (0, 0)) ∧ Ga W1.heap.size X v2 k2 js ls2 ∧ Below w.heap.size w X ∧ W1.heap.size ≤ X.heap.size ∧ ∀ x, w.heap.size < x → x < W1.heap.size → X.heap[x]? = W1.heap[x]? := by
        obtain ⟨hx, hga, hbw, hsz, hst, _⟩ := HK.out
        have hfs := fw.size
        have h12 := H1.out.2.2.2.2
        refine ⟨k + 1, _, _, rfl, by omega, bX, gw.kept fun b hb _ => oX b (by omega), ⟨?_, ?_, ?_, by have := hbw.size; omega, fun b hb => ?_⟩, by omega, fun b h1 h2 => ?_⟩
        · rw [hX]; exact fw.os.trans hbw.os
        · rw [hX]; exact fw.tape.trans hbw.tape
        · rw [hX]; exact fw.output.trans hbw.output
        · exact (oX b (by omega)).trans ((fw.block b (by omega) (hnob b (by omega))).trans (hbw.block b hb))
        · exact (oX b (by omega)).trans ((fw.block b (by omega) (hnob b h2)).trans (hst b h1 h2))
      have HR := Lib.hid hrel
      clear hrel oX zX bX hX hra gw fw hbx' cb' fb' hfU hfZ hoy hdy hbZ hly hCy hcl hjd0 hS0 hlook hrg hsb1 hbox1 hbox hnob hnjb hnmb hcn c2 hinf hCl hfz
      have hwk : wrap64 (((k : Nat) : Int) + 1) = ((k + 1 : Nat) : Int) := wrap_up (Nat.le_trans hk (by rw [H1.out.2.1]; exact Nat.le_trans H.out.2.2.2.2 (by decide)))
      go_wp2_with fail
      go_roundw
      case rel => rw [hwk]; exact HR.out
      case measure => rw [hwk]; exact meas_up hlt
    · have hkn : k = n := by omega
      have HZ := Lib.hid (And.intro hbx (And.intro hga (And.intro hbw hsz)))
      have hcl : ¬ ((k : Nat) : Int) < ((n : Nat) : Int) := by omega
      clear hbx hga hbw hsz hst
      go_wp2_with fail
      go_ret
      obtain ⟨hbx, hga, hbw, hsz⟩ := HZ.out
      subst hkn
      unfold Kept
      rw [← H1.out.2.1]
      refine ⟨by simp, v, ls, hbx, ⟨?_, hga.len, hga.like, fun y hy => ⟨(hga.d y hy).1, ?_⟩⟩, hbw⟩
      · refine ⟨hga.own.1, ?_⟩
        rcases hga.own.2 with h1 | ⟨g, cap, cur, h1, h2, h3⟩
        · exact .inl h1
        · exact .inr ⟨g, cap, cur, h1, by have := H1.out.2.2.2.2; omega, h3⟩
      · exact (hga.d y hy).2.imp_right fun ⟨g, cur, h1, h2, h3⟩ => ⟨g, cur, h1, by have := H1.out.2.2.2.2; omega, h3⟩
end
end Go.Proofs.YtcodjknhnhdkfaaDoor.Im
