
/- wheels: All -/
import Derived.Test.YtcafiehlhdoibaaWh14
import Derived.Test.YtcafiehlhdoibaaRo
import Derived.Test.YtcafiehlhdoibaaHr
namespace Go.Proofs.Ytcafiehlhdoibaa.Wh
open Go.RowKit Go.Lib Go.Sort Go.Maps Hp Ht
set_option linter.unusedVariables false
set_option maxRecDepth 20000
section
variable {S : Nat → Prop} {w : World} {wb : Nat} {now : Int} {most : Nat} {m : List (K × Int)}
/-- timers gathered out of the map, on the way -/
structure Gt (w : World) (f : K → Option Int) (ab : Nat) (X : World) (es : List (K × Int)) (cnt : Nat) (v : Value) : Prop where
  rg : Rgs X (some ab) (w.heap.size + 1) f es cnt
  box : X.heap[w.heap.size]? = some (.cells #[v] 29 (0, 0))
  own : Own X (w.heap.size + 1) v es
  b : Below w.heap.size w X
  sz : w.heap.size + 1 ≤ X.heap.size
theorem Gt.push {f : K → Option Int} {ab : Nat} {X Y Z : World} {es : List (K × Int)} {cnt cnt' : Nat} {v v' : Value} (hab : ab < w.heap.size) {k : K} {t : Int} (p : Gt w f ab X es cnt v) (hrg : Rgs Y (some ab) (w.heap.size + 1) f (es ++ [(k, t)]) cnt') (hg : X.grownBy Y (some (w.heap.size + 1)))
    (ho : Own Z (w.heap.size + 1) v' (es ++ [(k, t)])) (hz : Y.grownBy Z v.ownBlock) : Gt w f ab (Z.setCell ⟨w.heap.size, 0, none⟩ v') (es ++ [(k, t)]) cnt' v' := by
  have hX : ∀ b, v.ownBlock = some b → w.heap.size + 1 ≤ b ∧ b ≠ w.heap.size + 1 ∧ b < X.heap.size := fun b e => by
    obtain ⟨h1, h2, cur, h3⟩ := own_cell p.own e
    exact ⟨h1, (p.rg.ne_row h3).1, h2⟩
  have s1 := hg.size
  have s2 := hz.size
  have bz : ∀ k, k < Y.heap.size → v.ownBlock ≠ some k → Z.heap[k]? = Y.heap[k]? := fun k hk hn => hz.block k hk (fun e => hn e.symm)
  have ot : ∀ k, k ≠ w.heap.size → (Z.setCell ⟨w.heap.size, 0, none⟩ v').heap[k]? = Z.heap[k]? := fun k hk => heap_setCell_other _ _ _ _ hk
  have hsz := p.sz
  have z0 : Z.heap[w.heap.size]? = some (.cells #[v] 29 (0, 0)) :=
    (bz _ (by omega) fun e => by have := (hX _ e).1; omega).trans ((hg.block _ (by omega) (fun e => by have := Option.some.inj e; omega)).trans p.box)
  refine ⟨hrg.kept (fun b e => ?_) ?_, ?_, own_kept ho fun b hb => ot b (by have := (own_cell ho hb).1; omega), ?_, by simp; omega⟩
  · cases e
    rw [ot ab (by omega), bz ab (by omega) fun e => by have := (hX _ e).1; omega]
  · rw [ot _ (by omega), bz _ hrg.lt fun e => (hX _ e).2.1 rfl]
  · rw [Lib.heap_setCell_same z0]; rfl
  · refine (((p.b.grown hg p.b.size (fun j hj => by cases hj; omega)).grown hz (Nat.le_trans p.b.size s1) (fun j hj => by have := (hX j hj).1; omega))).setCell (Nat.le_refl _) _
set_option maxHeartbeats 4000000 in
theorem all_any (hq : Wv S w wb now most m) (hm : m.length ≤ 400000) : Calls Try.prog 13 #[.pointer (some ⟨wb, 0, none⟩)] w fun e w' => ∃ v ls, e = .returned (.func (.func 27) #[] #[.pointer (some ⟨w.heap.size, 0, none⟩)]) ∧ w'.cell? ⟨w.heap.size, 0, none⟩ = some v ∧ ls.Perm m ∧ Srt ls ∧ Src w' v ls ∧
    (∀ a n c, v = .slice (some a) n c → w.heap.size < a.block ∧ a.block < w'.heap.size) ∧ Below w.heap.size w w' := by
  obtain ⟨ab, sv, f, q, hL⟩ := hq
  obtain ⟨V, hV⟩ : ∃ V, V = w.alloc (.cells #[.slice none 0 0] 29) := ⟨_, rfl⟩
  have hbV : Below w.heap.size w V := by rw [hV]; exact (Below.refl _ w).alloc (Nat.le_refl _) _
  have qV := q.below hbV
  have oV : V.heap[w.heap.size]? = some (.cells #[.slice none 0 0] 29 (0, 0)) := by rw [hV]; exact (MapKept.heap_alloc w _).1
  have zV : V.heap.size = w.heap.size + 1 := by rw [hV]; simp
  have c2 := q.cell.2.2.1
  have hsl : Sl V (some ab) f := ⟨_, qV.at'⟩
  have hwk : ∀ k t, f k = some t → wk k := fun k t e => (q.okf k t e).1
  have hab := q.size ab q.ownA
  have hwl := q.size wb q.ownW
  have HQ := Lib.hid (And.intro hL (And.intro hm (And.intro hbV (And.intro oV (And.intro zV hab)))))
  clear q qV hL hm hbV oV zV hab
  go_enter Try.func13, Try.ntmps13
  go_wp2_with (first
    | (at_range; rw [← hV]; refine wpList_range_sl _ rfl _ _ rfl Try.underlying53 (some ab) f rfl hsl hwk ?_; intro w0 cnt0 hrg0 hg0 hs0)
    | go_in)
  try go_frame
  obtain ⟨hL, hm, hbV, oV, zV, hab⟩ := HQ.out
  rw [zV] at hrg0 hs0 ⊢
  have hp0 : Gt w f ab w0 [] cnt0 (.slice none 0 0) := ⟨hrg0, (hg0.block _ (by omega) (by simp)).trans oV, ⟨rfl, .inl ⟨rfl, rfl⟩⟩, hbV.grown hg0 hbV.size (fun j hj => by cases hj), by omega⟩
  have HP := Lib.hid hp0
  clear hp0 hrg0 hg0 hs0 hL hm hbV oV zV hab hsl hV
  go_loopw [4] (fun _ wr => ∃ es cnt v, Gt w f ab wr es cnt v) (fun _ wr => rl wr (some ab) (w.heap.size + 1))
  case atStart => exact ⟨_, _, _, HP.out⟩
  case round =>
    obtain ⟨es, cnt, v, hp⟩ := hrel
    have HC := Lib.hid hp
    have hrg := hp.rg
    clear hp
    go_wp2_with (first
      | (at_next; refine wpList_next_sl _ rfl _ rfl (some ab) (w.heap.size + 1) f es cnt rfl hrg ?_ ?_)
      | go_in)
    · intro hls
      obtain ⟨hL, hm, hbV, oV, zV, hab⟩ := HQ.out
      have p := HC.out
      have hle : es.length = m.length := (hls.same hL).length_eq
      have hS := sort_any wr p.own p.sz (by omega)
      obtain ⟨a2, k2, rfl⟩ := own_shape p.own
      have c1 : wr.cell? ⟨w.heap.size, 0, none⟩ = some (.slice a2 es.length k2) := by rw [cell_of_row _ _ _ _ _ _ p.box]; rfl
      have hob : ∀ a, a2 = some a → w.heap.size + 1 ≤ a.block ∧ a.block < wr.heap.size := fun a e => by
        have h := own_cell p.own (b := a.block) (by rw [e]; rfl)
        exact ⟨h.1, h.2.1⟩
      have HL := Lib.hid (And.intro hls (And.intro hL (And.intro p hob)))
      clear hls hrg hL hm hbV oV zV hab p hle hob
      generalize es.length = el9 at *
      go_wp2_with fail
      refine hS.mono ?_
      rintro e w3 ⟨rfl, ls, s1, s2, s3, s4⟩
      obtain ⟨hls, hL, p, hob⟩ := HL.out
      have hnb : ∀ x, (Value.slice a2 el9 k2).ownBlock = some x → w.heap.size + 1 ≤ x := fun x hx => by
        cases a2 with
        | none => cases hx
        | some a => have h := hob a rfl; cases hx; exact h.1
      have c3 : w3.cell? ⟨w.heap.size, 0, none⟩ = some (.slice a2 el9 k2) := (by
        unfold World.cell? at c1 ⊢
        rw [s4.block _ (World.block_lt_of_cell? _ _ c1) (fun e => by have h := hnb _ e; simp only at h; omega)]
        exact c1)
      have hb3 : Below w.heap.size w w3 := ⟨s4.os.trans p.b.os, s4.tape.trans p.b.tape, s4.output.trans p.b.output, Nat.le_trans p.b.size s4.size, fun k hk => (s4.block k (Nat.lt_of_lt_of_le hk p.b.size) (fun e => by have := hnb _ e; omega)).trans (p.b.block k hk)⟩
      have HF := Lib.hid (And.intro (s1.trans (hls.same hL)) (And.intro s2 (And.intro s3 (And.intro c3 (And.intro hb3 (And.intro hob s4.size))))))
      clear s1 s2 s3 s4 c3 hb3 hnb hob p hls hL hS c1
      go_wp2_with fail
      go_ret
      obtain ⟨h1, h2, h3, h4, h5, h6, h7⟩ := HF.out
      exact ⟨.slice a2 el9 k2, ls, by simp, h4, h1, h2, h3, fun a n c e => by
        cases e
        have := h6 a rfl
        exact ⟨this.1, Nat.lt_of_lt_of_le this.2 h7⟩, h5⟩
    · intro k t w1 cnt1 hwk1 hf hrg1 hlt hg1 hs1 hen
      obtain ⟨hL, hm, hbV, oV, zV, hab⟩ := HQ.out
      have p := HC.out
      have hown1 : Own w1 (w.heap.size + 1) v es := own_kept p.own fun b hb => hg1.block b (own_cell p.own hb).2.1 (fun e => by
        obtain ⟨_, _, cur, hcur⟩ := own_cell p.own hb
        exact (p.rg.ne_row hcur).1 (Option.some.inj e))
      have hle : es.length ≤ 1000000 := by have := p.rg.le hL; omega
      have hB1 : w.heap.size + 1 ≤ (w1.alloc (.cells #[ek k, er t] 42)).heap.size := by have := p.sz; simp; omega
      have hcs := cells_one w1 k t
      have o1 : w1.heap[w.heap.size]? = some (.cells #[v] 29 (0, 0)) := (hg1.block _ (by have := p.sz; omega) (fun e => by have := Option.some.inj e; omega)).trans p.box
      have hvb : v.ownBlock ≠ some w.heap.size := fun e => by have := (own_cell p.own e).1; omega
      obtain ⟨a0, k0, rfl⟩ := own_shape p.own
      have c1 : w1.cell? ⟨w.heap.size, 0, none⟩ = some (.slice a0 es.length k0) := by rw [cell_of_row _ _ _ _ _ _ o1]; rfl
      have hz1 : w.heap.size < w1.heap.size := by have := p.sz; omega
      have hrl := hrg.left_eq
      have HL := Lib.hid hrl
      have HW := Lib.hid (And.intro hrg1 (And.intro hlt (And.intro hg1 (And.intro hown1 (And.intro hle (And.intro hB1 (And.intro hcs (And.intro o1 (And.intro hvb (And.intro hz1 hab))))))))))
      clear hrg1 hlt hg1 hs1 hwk1 hf hrg hrl hown1 hle hB1 hcs o1 hvb hL hm hbV oV zV p hab hz1
      obtain ⟨el9, hel9⟩ : ∃ x, x = es.length := ⟨_, rfl⟩
      rw [← hel9] at c1
      have HE := Lib.hid hel9
      clear hel9
      unfold ek er at hen
      unfold ek er
      go_wp2_with (first
        | (at_builtin; rw [HE.out]; refine wpList_push _ rfl _ _ rfl (w.heap.size + 1) (.slice a0 es.length k0) es rfl (HW.out.2.2.2.1.alloc _) HW.out.2.2.2.2.1 ⟨w1.heap.size, 0, none⟩ 1 k t rfl HW.out.2.2.2.2.2.2.1 HW.out.2.2.2.2.2.1 ?_; intro v9 w9 ho9 hg9; obtain ⟨a9, c9, rfl⟩ := own_shape ho9; have hS9 := (hg9.block w.heap.size (by have := HW.out.2.2.2.2.2.2.2.2.2.1; simp; omega) (fun e => HW.out.2.2.2.2.2.2.2.2.1 e.symm)).trans ((Below.heap_alloc w1 _ w.heap.size HW.out.2.2.2.2.2.2.2.2.2.1).trans HW.out.2.2.2.2.2.2.2.1); have c9' := (cell_of_row w9 w.heap.size 0 _ _ _ hS9).trans (rfl : _ = some (Value.slice a0 es.length k0)); have f9 : w9.frozen? ⟨w.heap.size, 0, none⟩ = false := (by simp [World.frozen?, hS9]))
        | go_in)
      have hz9 := ((World.grownBy_alloc w1 (.cells #[.string ⟨k.toArray⟩, .int .i64 t] 42) none).but (Value.slice a0 es.length k0).ownBlock).trans hg9
      have pz := HC.out.push HW.out.2.2.2.2.2.2.2.2.2.2 HW.out.1 HW.out.2.2.1 ho9 hz9
      rw [show (es ++ [(k, t)]).length = es.length + 1 by simp] at pz
      go_roundw
      case rel => exact ⟨_, _, _, pz⟩
      case measure => rw [pz.rg.left_eq, HL.out]; exact HW.out.2.1
theorem yield_some (W : World) (lp : Nat) : (binOp .eql 71 (.func (.yield lp) #[] #[]) .nilFunc).run Try.prog W = .ok (.bool false) W := by kernel_rfl
end
end Go.Proofs.Ytcafiehlhdoibaa.Wh
