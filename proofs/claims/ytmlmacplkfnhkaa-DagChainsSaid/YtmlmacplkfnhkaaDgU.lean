
/- dag: an order, told one by one -/
import Derived.Test.YtmlmacplkfnhkaaDgT
import Derived.Test.YtmlmacplkfnhkaaFiR
import Derived.Shelf.RegionOpen
import Derived.OwnWalkIn
import Derived.TacticsInMore
import Derived.LoopNIn
import Derived.LoopIn
namespace Go.Proofs.Ytmlmacplkfnhkaa.DgA
open Go.RowKit Go.Lib Hp Mv Dg Ht Ao Rg
set_option linter.unusedVariables false
set_option maxRecDepth 20000
attribute [local go_sem] Oper.semAt_some
section
variable {S : Nat → Prop} {w : World} {gb M : Nat} {ns : List Id} {E : Id → Id → Bool} {nb ob ub : Id → Nat}
theorem order_any {k : Nat} (q : Gq S w gb (some M) ns E nb ob ub) (c : Ch ns E k) (hk : 1 ≤ k) (hN : k ≤ 900000) : Calls Try.prog 7 #[.pointer (some ⟨gb, 0, none⟩)] w fun e w' => ∃ v, e = .returned (.func (.func 18) #[] #[.pointer (some ⟨w.heap.size, 0, none⟩)]) ∧ w'.cell? ⟨w.heap.size, 0, none⟩ = some v ∧
    w'.ownsRow (w.heap.size + 1) 3 1 v (rl k).length ((rl k).map kv) ∧ Below w.heap.size w w' := by
  obtain ⟨V, hV⟩ : ∃ V, V = w.alloc (.cells #[.slice none 0 0] 25) := ⟨_, rfl⟩
  have hb : Below w.heap.size w V := by rw [hV]; exact below_new _ _
  have hz : V.heap.size = w.heap.size + 1 := by rw [hV]; simp
  have hx : V.heap[w.heap.size]? = some (.cells #[.slice none 0 0] 25 (0, 0)) := by rw [hV]; exact (MapKept.heap_alloc w _).1
  have ho := ord_chain (q.below hb (Nat.le_refl _)) c hk hN
  rw [hz] at ho
  have H := Lib.hid (And.intro hb (And.intro hz hx))
  clear hb hz hx q c hk hN
  go_enter Try.func7, Try.ntmps7
  go_wp2_with fail
  rw [← hV]
  clear hV
  refine ho.mono ?_
  rintro e W ⟨v, rfl, hr, hbw⟩
  obtain ⟨a, d, rfl⟩ := own_shape hr
  have hxW : W.heap[w.heap.size]? = some (.cells #[.slice none 0 0] 25 (0, 0)) := (hbw.block _ (by have := H.out.2.1; omega)).trans H.out.2.2
  have c0 : W.cell? ⟨w.heap.size, 0, none⟩ = some (.slice none 0 0) := by rw [cell_of_row _ _ _ _ _ _ hxW]; rfl
  have f0 : W.frozen? ⟨w.heap.size, 0, none⟩ = false := by simp [World.frozen?, hxW]
  have hW := Lib.hid (And.intro hr (And.intro hbw hxW))
  clear hr hbw hxW ho
  go_wp2_with fail
  go_ret
  obtain ⟨hr, hbw, hxW⟩ := hW.out
  have hf : (W.setCell ⟨w.heap.size, 0, none⟩ (.slice a (rl k).length d)).heap[w.heap.size]? = some (.cells #[.slice a (rl k).length d] 25 (0, 0)) := by rw [Lib.heap_setCell_same hxW]; rfl
  refine ⟨.slice a (rl k).length d, by simp, ?_, own_kept hr fun b hb => heap_setCell_other _ _ _ _ (by have := (own_obj hr hb).1; show b ≠ w.heap.size; omega), (H.out.1.trans (hbw.mono (by have := H.out.2.1; omega))).setCell (Nat.le_refl _) _⟩
  rw [cell_of_row _ _ _ _ _ _ hf]; rfl
end
theorem eqlNil (W : World) (lp : Nat) : (binOp .eql 54 (.func (.yield lp) #[] #[]) .nilFunc).run Try.prog W = .ok (.bool false) W := by kernel_rfl
/-- what tells them -/
theorem ord_iter (n B0 B k : Nat) (w : World) {v : Value} (hbox : w.cell? ⟨B0, 0, none⟩ = some v) (hrow : w.ownsRow B 3 1 v (rl k).length ((rl k).map kv)) (hk : k ≤ 900000) :
    SeqI Fence.wide n Try.prog 18 #[.pointer (some ⟨B0, 0, none⟩)] (fun j => j = B0 ∨ v.ownBlock = some j) (-1) (fun x y => y = x + 1 ∧ y < (k : Int)) (fun x => x + 1 = (k : Int)) w := by
  intro own lp J K W hW hown hJ hK hY h0
  have hcell : W.cell? ⟨B0, 0, none⟩ = some v := bc hW hbox
  have hrowW : W.ownsRow B 3 1 v (rl k).length ((rl k).map kv) := own_kept hrow fun b hb => hW.block b (hrow.lt b hb).2
  have hbW : ∀ b, (b = B0 ∨ v.ownBlock = some b) → ¬ own b := fun b hb ho => (hown b ho).1 hb
  obtain ⟨a, c, rfl⟩ := own_shape hrowW
  rw [rl_len] at hcell hrowW hbW
  have hcs : ∀ m, m < k → ∃ g, a = some ⟨g, 0, none⟩ ∧ ¬ own g ∧ g < W.heap.size ∧ W.cell? ⟨g, m, none⟩ = some (kv (m : Int)) := fun m hm => by
    obtain ⟨h0, h1 | ⟨g, cap, cur, e, _, hg, h3, h4, h5, h6⟩⟩ := hrowW
    · have := h1.2; omega
    · cases e
      refine ⟨g, rfl, hbW g (.inr rfl), (Array.getElem?_eq_some_iff.1 hg).1, ?_⟩
      rw [cell_of_row W g _ cur _ _ hg]
      have h7 : (cur.toList.take (k * 1))[m]? = ((rl k).map kv)[m]? := by rw [h6]
      rw [List.getElem?_take_of_lt (by omega), Array.getElem?_toList] at h7
      show cur[m]? = _
      rw [h7]
      unfold rl
      simp [hm]
  have hyn := fun W => eqlNil W lp
  have HY := Lib.hid (And.intro hY (And.intro hJ hcs))
  have H0 := Lib.hid h0
  clear hY hJ hK hW hbox hrow hrowW hbW hcs hown h0
  refine callsIn_of_wp Try.func18 rfl trivial ?_ rfl
  simp only [Try.ntmps18, List.size_toArray, List.length_cons, List.length_nil, Nat.reduceAdd, Nat.reduceSub, Array.replicate_succ, Array.replicate_zero, List.push_toArray, List.append_toArray, List.nil_append, List.cons_append]
  gi_wp2_with fail
  gi_loopw [9] (fun i wr => ∃ m : Nat, i = .int .i64 ((m : Nat) : Int) ∧ m ≤ k ∧ J ((m : Int) - 1) wr ∧ BelowO own W wr) (fun i _ => k - (RowKit.intOf i).toNat)
  case atStart => exact ⟨0, rfl, Nat.zero_le _, H0.out, BelowO.of (Below.refl _ _)⟩
  case round =>
    obtain ⟨m, rfl, hm, hj, hbo⟩ := hrel
    by_cases hlt : m < k
    · obtain ⟨g, rfl, hgo, hgl, hcg⟩ := HY.out.2.2 m hlt
      have k1 : wr.cell? ⟨g, m, none⟩ = some (kv (m : Int)) := by
        rw [← hcg]; unfold World.cell?; rw [hbo.block g hgl hgo]
      have hltx : ((m : Nat) : Int) < ((k : Nat) : Int) := by omega
      obtain ⟨fn, tmps, assign, body, hy, hR⟩ := HY.out.1 ((m : Int) - 1) (m : Int) wr hj ⟨by omega, hltx⟩ hbo.size
      have HX := Lib.hid (And.intro hj (And.intro hbo (And.intro hlt hm)))
      clear hj hbo hcg hgo hgl hm hlt
      unfold kv at k1
      gi_wp2_with fail
      refine ⟨(fun h => by cases h), hR.mono ?_⟩
      rintro e W3 (⟨rfl, hJ3, hm3⟩ | ⟨rfl, hK3, hm3⟩)
      · have HZ := Lib.hid (And.intro hJ3 hm3)
        clear hJ3 hm3 hR hy
        have hmk : m ≤ 900000 := by have := HX.out.2.2.2; omega
        gi_wp2_with fail
        exact ⟨⟨m + 1, by simp, HX.out.2.2.1, by rw [show ((m + 1 : Nat) : Int) - 1 = (m : Int) by omega]; exact HZ.out.1, HX.out.2.1.trans HZ.out.2⟩, by have := HX.out.2.2.1; simp [RowKit.intOf]; omega⟩
      · have HZ := Lib.hid hK3
        clear hK3 hm3 hR hy
        gi_wp2_with fail
        refine bodyPost_ret (results_none rfl _ _ _) rfl ?_
        exact ⟨⟨_, rfl⟩, .inr ⟨_, HZ.out⟩⟩
    · have hltx : ((k : Nat) : Int) ≤ ((m : Nat) : Int) := by omega
      have hme : m = k := by omega
      have HX := Lib.hid (And.intro hj hme)
      clear hj hme hbo hlt hm
      gi_wp2_with fail
      go_end0
      exact ⟨⟨_, rfl⟩, .inl ⟨(m : Int) - 1, by rw [HX.out.2]; omega, HX.out.1⟩⟩
end Go.Proofs.Ytmlmacplkfnhkaa.DgA
