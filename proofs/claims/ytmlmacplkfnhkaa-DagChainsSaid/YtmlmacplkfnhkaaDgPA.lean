
/- graphs: All, how many -/
import Derived.Test.YtmlmacplkfnhkaaDgOA
import Derived.Test.YtmlmacplkfnhkaaLib
import Derived.Lib.OwnBridge
namespace Go.Proofs.Ytmlmacplkfnhkaa.DgA
open Go.RowKit Go.Lib Hp Mv Dg Ht Ao Go.Sort
set_option linter.unusedVariables false
set_option maxRecDepth 20000
attribute [local go_sem] Oper.semAt_some
theorem infoK : (Try.prog.info? 3).map (fun i => (i.zero, i.size, i.bytes)) = some (some (.int .i64 0), 1, 8) := by kernel_rfl
theorem below_grow {B : Nat} {a w : World} (h : Below B a w) (hB : B ≤ w.heap.size) (os : Array Obj) : Below B a (grow w os) :=
  ⟨h.os, h.tape, h.output, by simp [grow]; have := h.size; omega, fun k hk => by rw [← h.block k hk]; simp [grow, Array.getElem?_append_left (show k < w.heap.size by omega)]⟩
/-- a row of keys is put in order -/
theorem sort_any (w : World) (B g cap : Nat) (ks : List Int) (h : w.ownsRow B 3 1 (.slice (some ⟨g, 0, none⟩) ks.length cap) ks.length (ks.map kv)) (hB : B ≤ g) (hBw : B ≤ w.heap.size) (hl : ks.length ≤ 1000000) :
    Calls Try.prog 39 #[.slice (some ⟨g, 0, none⟩) ks.length cap] w fun e w' => e = .returned (.tuple #[]) ∧ Below B w w' := by
  rcases h.2 with ⟨h1, _⟩ | ⟨g', cap', cur, e, hB', hg, h2, h3, h4, h5⟩
  · cases h1
  · cases e
    have hgw : g < w.heap.size := (Array.getElem?_eq_some_iff.1 hg).1
    have hH : Holds (Value.int .i64) w g 0 ks.toArray := fun j hj => by
      have hj2 : j < ks.length := by simpa using hj
      constructor
      · rw [cell_of_row w g _ cur _ _ hg, Nat.zero_add]
        have h6 : (cur.toList.take (ks.length * 1))[j]? = (ks.map kv)[j]? := by rw [h5]
        rw [List.getElem?_take_of_lt (by omega), Array.getElem?_toList] at h6
        show cur[j]? = _
        rw [h6]
        simp only [List.getElem?_map, List.getElem?_eq_getElem hj2, Option.map_some]
        rw [getElem!_pos _ j (by simpa using hj2)]
        simp [kv]
      · simp [World.frozen?, hg]
    refine (Try.slices_Sort_int g 0 cap ks w hH hgw (by omega)).mono ?_
    rintro e w' ⟨rfl, n, os, rfl⟩
    exact ⟨rfl, below_grow (below_putRow (Below.refl B w) hB) (by simpa [putRow, mapBlock, Sort.ahead] using hBw) os⟩
theorem push_k {Z : World} {B : Nat} {v : Value} {l : List Int} (y : Int) (hown : Z.ownsRow B 3 1 v l.length (l.map kv)) (hn : l.length ≤ 1000000) (ad : Addr) (hc : Z.cell? (ad.add 0) = some (kv y)) (hB : B ≤ Z.heap.size) (ty : TypeId) :
    ∃ v' w', (Builtin.append_ #[25, 25] ty #[v, .slice (some ad) 1 1]).run Try.prog Z = .ok v' w' ∧ w'.ownsRow B 3 1 v' (l ++ [y]).length ((l ++ [y]).map kv) ∧ Z.grownBy w' v.ownBlock ∧ (v'.ownBlock = v.ownBlock ∨ ∃ g, v'.ownBlock = some g ∧ Z.heap.size ≤ g) := by
  obtain ⟨i0, hi, hz0, hz1, hz2⟩ := info_parts infoK
  obtain ⟨v', w', hr, h1, h2, h3⟩ := run_append_own_new (P := Try.prog) Z B 25 ty 3 i0 (.int .i64 0) 1 8 Try.underlying25 hi hz0 hz1 hz2 rfl (by decide) v l.length (l.map kv) hown ad 1 1 [kv y] rfl
    (fun j u hu => by
      match j, hu with
      | 0, hu => simp at hu; rw [← hu]; exact hc
      | j + 1, hu => simp at hu) (fun u hu => by simp at hu; rw [hu]; rfl) (by unfold maxLen; omega) (by omega) hB
  refine ⟨v', w', hr, ?_, h2, h3⟩
  rw [List.map_append, show (l ++ [y]).length = l.length + 1 by simp]; exact h1
section
variable {S : Nat → Prop} {w : World} {gb : Nat} {mv : Option Nat} {ns : List Id} {E : Id → Id → Bool} {nb ob ub : Id → Nat}
theorem at_any (q : Gq S w gb mv ns E nb ob ub) (k : Int) (hk : okK k) : Calls Try.prog 20 #[.pointer (some ⟨gb, 0, none⟩), kv k] w fun e w' => e = .returned (if (k, false) ∈ ns then .pointer (some ⟨nb (k, false), 0, none⟩) else .pointer none) ∧ Below w.heap.size w w' := by
  have c0 := q.cell
  have lk : ∀ Z, Below w.heap.size w Z → (Instr.lookup 40 (.map mv) (.agg #[.int .i64 k, .bool false]) false).run Try.prog Z = .ok (if (k, false) ∈ ns then .pointer (some ⟨nb (k, false), 0, none⟩) else .pointer none) Z := fun Z h =>
    q.look (Y := Z) (x := (k, false)) (fun b e => h.block b (q.size b (q.ownM b e))) hk
  clear q hk
  generalize (if (k, false) ∈ ns then Value.pointer (some ⟨nb (k, false), 0, none⟩) else .pointer none) = pv at *
  have hmix : Try.prog.follows .mixedOrders = true := by kernel_rfl
  unfold kv
  go_enter Try.func20, Try.ntmps20
  go_wp2_with fail
  refine begin' 7 (fun Z => Below w.heap.size w Z) hmix ((Below.refl _ w).drew) (fun hS0 => ?_)
  refine Ht.takeD 8 (i := 0) ⟨some 7, _, _, _, _, _⟩ (.pointer (some ⟨gb, 0, none⟩)) rfl (by kernel_rfl) (by kernel_rfl) (by decide) (by kernel_rfl) (by kernel_rfl) (by kernel_rfl) hS0 (Or.inl ⟨by rfl, by (intro X hX; go_simp)⟩) ?_
  simp only [Act.put, List.setIfInBounds_toArray, List.set_cons_zero, List.set_cons_succ]
  refine Ht.takeD 8 (i := 1) ⟨some 8, _, _, _, _, _⟩ (.pointer (some ⟨gb, 0, none⟩)) rfl (by kernel_rfl) (by kernel_rfl) (by decide) (by kernel_rfl) (by kernel_rfl) (by kernel_rfl) hS0 (Or.inl ⟨by rfl, by (intro X hX; go_simp)⟩) ?_
  simp only [Act.put, List.setIfInBounds_toArray, List.set_cons_zero, List.set_cons_succ]
  refine Ht.takeD 8 (i := 2) ⟨some 9, _, _, _, _, _⟩ (.pointer (some ⟨gb, 0, none⟩)) rfl (by kernel_rfl) (by kernel_rfl) (by decide) (by kernel_rfl) (by kernel_rfl) (by kernel_rfl) hS0 (Or.inl ⟨by rfl, by (intro X hX; go_simp)⟩) ?_
  simp only [Act.put, List.setIfInBounds_toArray, List.set_cons_zero, List.set_cons_succ]
  refine Ht.takeD 8 (i := 3) ⟨some 10, _, _, _, _, _⟩ (.map mv) rfl (by kernel_rfl) (by kernel_rfl) (by decide) (by kernel_rfl) (by kernel_rfl) (by kernel_rfl) hS0 (Or.inl ⟨by rfl, by (intro X hX; have := bc hX c0; go_simp)⟩) ?_
  simp only [Act.put, List.setIfInBounds_toArray, List.set_cons_zero, List.set_cons_succ]
  refine Ht.takeD 8 (i := 4) ⟨some 11, _, _, _, _, _⟩ (.int .i64 k) rfl (by kernel_rfl) (by kernel_rfl) (by decide) (by kernel_rfl) (by kernel_rfl) (by kernel_rfl) hS0 (Or.inl ⟨by rfl, by (intro X hX; go_simp)⟩) ?_
  simp only [Act.put, List.setIfInBounds_toArray, List.set_cons_zero, List.set_cons_succ]
  refine Ht.step (i := 5) ⟨some 12, _, _, _, _, _⟩ rfl (by kernel_rfl) (by rfl) (fun K hK => ?_)
  refine Ht.enter 14 #[.int .i64 k] (by have hen := fun args w => enters_of (P := Try.prog) Try.func14 (by kernel_rfl) rfl args w; go_simp) (idOf_any k _) ?_
  rintro e X1 ⟨rfl, hx1⟩
  have b1 : Below w.heap.size w X1 := hS0.trans (hx1.mono hS0.size)
  unfold ek kv
  refine ⟨_, rfl, hK _ _ (fun hn => b1) (fun hnx => ?_)⟩
  clear hK K hnx
  try simp only [Act.put, List.setIfInBounds_toArray, List.set_cons_zero, List.set_cons_succ]
  refine Ht.takeD 8 (i := 6) ⟨some 13, _, _, _, _, _⟩ (pv) rfl (by kernel_rfl) (by kernel_rfl) (by decide) (by kernel_rfl) (by kernel_rfl) (by kernel_rfl) b1 (Or.inl ⟨by rfl, by (intro X hX; have := lk X hX; go_simp)⟩) ?_
  simp only [Act.put, List.setIfInBounds_toArray, List.set_cons_zero, List.set_cons_succ]
  refine Ht.step (i := 7) ⟨some 4, _, _, _, _, _⟩ rfl (by kernel_rfl) (by rfl) (fun K hK => ?_)
  go_simp
  refine hK _ _ (fun hn => absurd rfl hn) (fun hnx => ?_)
  clear hK K hnx
  try simp only [Act.put, List.setIfInBounds_toArray, List.set_cons_zero, List.set_cons_succ]
  refine done (by kernel_rfl) ?_
  go_wp2_with fail
  go_ret
  exact ⟨by simp, b1⟩
/-- keys gathered, on the way -/
structure Ri (S : Nat → Prop) (w : World) (gb : Nat) (mv : Option Nat) (ns : List Id) (E : Id → Id → Bool) (nb ob ub : Id → Nat) (fb : Nat) (F : Id → Bool) (X : World) (es : List Id) (cnt : Nat) (v : Value) : Prop where
  q : Gq S X gb mv ns E nb ob ub
  rg : Rgs Try.prog 44 ek wk X fb w.heap.size (sf F) es cnt
  own : X.ownsRow (w.heap.size + 1) 3 1 v (es.map (·.1)).length ((es.map (·.1)).map kv)
  b : Below w.heap.size w X
set_option maxHeartbeats 4000000 in
theorem rising_any (q : Gq S w gb mv ns E nb ob ub) {fb n : Nat} {F : Id → Bool} (hm : Mq w fb n (sf F)) (hF : ∀ x, F x = true → x ∈ ns) (hn : 1 ≤ n) (hN : ns.length ≤ 900000) : Calls Try.prog 21 #[.pointer (some ⟨gb, 0, none⟩), .map (some fb)] w fun e w' => (∃ a c, e = .returned (.slice a n c)) ∧ Below w.heap.size w w' := by
  obtain ⟨W0, cnt0, hrun, hrg, hgr, hsz⟩ := hm.range kindS
  have hb0 : Below w.heap.size w W0 := (Below.refl _ w).grown hgr (Nat.le_refl _) (fun j hj => by cases hj)
  have h0 : Ri S w gb mv ns E nb ob ub fb F W0 [] cnt0 (.slice none 0 0) := ⟨q.below hb0 (Nat.le_refl _), hrg, ⟨rfl, .inl ⟨rfl, rfl⟩⟩, hb0⟩
  have HQ := Lib.hid q
  have H0 := Lib.hid (And.intro h0 (And.intro hm (And.intro hF (And.intro hn (And.intro hN (And.intro hm.lt hsz))))))
  clear h0 hrg hgr hb0 hm hF hn hN q hsz
  have hmix : Try.prog.follows .mixedOrders = true := by kernel_rfl
  go_enter Try.func21, Try.ntmps21
  go_wp2_with fail
  try go_frame
  go_loopw [5] (fun v wr => ∃ es cnt, Ri S w gb mv ns E nb ob ub fb F wr es cnt v) (fun _ wr => wr.rangeLeft fb w.heap.size)
  case atStart => exact ⟨_, _, H0.out.1⟩
  case round =>
    obtain ⟨es, cnt, p⟩ := hrel
    obtain ⟨a0, k0, rfl⟩ := own_shape p.own
    have hrg := p.rg
    have HP := Lib.hid p
    have HL := Lib.hid p.rg.left_eq
    clear p
    obtain ⟨L, hL⟩ : ∃ L, L = (es.map (·.1)).length := ⟨_, rfl⟩
    rw [← hL]
    have HLe := Lib.hid hL
    clear hL
    go_wp2_with (first
      | (at_next; refine Mv.wpList_nextQ kindS _ rfl _ rfl fb w.heap.size _ es cnt rfl hrg ?_ ?_)
      | go_in)
    · intro hdone
      have p := HP.out
      have hL := HLe.out
      have hkeys : n = es.length := H0.out.2.1.card kindS p.rg.nodup fun k => by
        constructor
        · intro hk; exact p.rg.mem hk
        · intro hk; exact hdone k hk.1 hk.2
      have hLn : L = n := by rw [hL, hkeys]; simp
      have hnl : n ≤ 1000000 := by
        have h1 : n ≤ ns.length := H0.out.2.1.card_le kindS fun k _ hk => by rw [sf_some] at hk; exact H0.out.2.2.1 k hk
        have := H0.out.2.2.2.2.1; omega
      obtain ⟨g, rfl, hBg⟩ : ∃ g, a0 = some ⟨g, 0, none⟩ ∧ w.heap.size + 1 ≤ g := by
        obtain ⟨h0, h1 | ⟨g, cap, cur, e, h1, _⟩⟩ := p.own
        · have h2 := h1.2; have h3 := H0.out.2.2.2.1; omega
        · cases e; exact ⟨g, rfl, h1⟩
      have hso := sort_any wr (w.heap.size) g k0 (es.map (·.1)) (by have h := p.own; exact ⟨h.1, by
          rcases h.2 with h2 | ⟨g2, cap, cur, e, _, h3⟩
          · exact .inl h2
          · exact .inr ⟨g2, cap, cur, e, by cases e; omega, h3⟩⟩) (by omega) p.b.size (by rw [← hL, hLn]; exact hnl)
      rw [← hL] at hso
      have HS := Lib.hid (And.intro hso (And.intro hLn p.b))
      clear hdone hkeys hLn hnl hso p hrg hL
      go_wp2_with fail
      refine HS.out.1.mono ?_
      rintro e w3 ⟨rfl, hb3⟩
      have HB := Lib.hid hb3
      clear hb3
      go_wp2_with fail
      go_ret
      exact ⟨⟨some ⟨g, 0, none⟩, k0, by simp [HS.out.2.1]⟩, HS.out.2.2.trans HB.out⟩
    · rintro ⟨y, v, w1, cnt1, hwy, hfy, hny, hrg1, hlt1, hg1, hs1⟩ hen
      dsimp only at hen ⊢
      have hFy : F y = true := by
        have h1 := hfy
        unfold sf at h1
        by_cases e : F y = true
        · exact e
        · rw [if_neg e] at h1; cases h1
      have hyn := H0.out.2.2.1 y hFy
      have p := HP.out
      have hL := HLe.out
      have hrs : w.heap.size < wr.heap.size := p.rg.lt
      have b1 : Below w.heap.size w w1 := p.b.grown hg1 p.b.size (fun j hj => by cases hj; exact Nat.le_refl _)
      have bA := below_new w1 (.cells #[kv y.1, .bool y.2] 44)
      have cA := cell_id w1 y
      obtain ⟨Y, hY⟩ : ∃ Y, Y = w1.alloc (.cells #[kv y.1, .bool y.2] 44) := ⟨_, rfl⟩
      rw [← hY] at bA cA
      have bY : Below w.heap.size w Y := b1.trans (bA.mono b1.size)
      have qY := (HQ.out.below bY (Nat.le_refl _))
      have rgY := hrg1.kept (Y := Y) (bA.block _ (Nat.lt_of_lt_of_le H0.out.2.2.2.2.2.1 b1.size)) (bA.block _ hrg1.lt)
      have vr : ∀ b, (Value.slice a0 L k0).ownBlock = some b → b ≠ w.heap.size ∧ w.heap.size + 1 ≤ b ∧ b < wr.heap.size := fun b e => by
        rw [hL] at e
        obtain ⟨h0, h1 | ⟨g, cap, cur, e2, h1, h2, _⟩⟩ := p.own
        · rw [h1.1] at e; cases e
        · rw [e2] at e; cases e; exact ⟨by show g ≠ w.heap.size; omega, h1, (Array.getElem?_eq_some_iff.1 h2).1⟩
      have owY : Y.ownsRow (w.heap.size + 1) 3 1 (.slice a0 L k0) (es.map (·.1)).length ((es.map (·.1)).map kv) := by
        have h := p.own
        rw [← hL] at h
        rw [← hL]
        refine own_kept h fun b hb => ?_
        have h2 := vr b hb
        exact (bA.block b (Nat.lt_of_lt_of_le h2.2.2 hg1.size)).trans (hg1.block b h2.2.2 (fun e => h2.1 (Option.some.inj e)))
      have c0 := qY.cell
      have lk : ∀ Z, Fr (fun k => (Value.slice a0 L k0).ownBlock = some k) Y Z → (Instr.lookup 40 (.map mv) (.agg #[.int .i64 y.1, .bool y.2]) false).run Try.prog Z = .ok (.pointer (some ⟨nb y, 0, none⟩)) Z := fun Z h => by
        have := qY.look (Y := Z) (fun b e => h.block b (qY.size b (qY.ownM b e)) (fun e2 => by have h1 := HQ.out.size b (HQ.out.ownM b e); have h2 := (vr b e2).2.1; omega)) (qY.ok y hyn).1
        rw [if_pos hyn] at this; exact this
      have nd := (qY.nodeC hyn).1
      have ng : ¬ (Value.slice a0 L k0).ownBlock = some gb := fun e => by have h1 := HQ.out.size gb HQ.out.ownG; have h2 := (vr _ e).2.1; omega
      have nn : ¬ (Value.slice a0 L k0).ownBlock = some (nb y) := fun e => by have h1 := HQ.out.size _ (HQ.out.ownN y hyn).1; have h2 := (vr _ e).2.1; omega
      have hwJ : w1.heap.size < Y.heap.size := by rw [hY]; simp
      have nJ : ¬ (Value.slice a0 L k0).ownBlock = some w1.heap.size := fun e => by have h2 := (vr _ e).2.2; have := hg1.size; omega
      have hEn : es.length + 1 ≤ 900000 := by
        have h1 : (es ++ [y]).length ≤ ns.length := Mv.len_sub _ _ hrg1.nodup fun k hk => H0.out.2.2.1 k (by have := (hrg1.mem hk).2; rw [sf_some] at this; exact this)
        have := H0.out.2.2.2.2.1
        simp at h1; omega
      have HY := Lib.hid (And.intro bY (And.intro rgY (And.intro owY (And.intro hlt1 (And.intro hEn vr)))))
      unfold ek kv at hen
      unfold ek
      unfold kv at hY cA nd ⊢
      clear bY qY rgY owY hlt1 hEn vr hL hg1 hs1 hrg1 hny hfy hFy hwy b1 bA hrs p hrg hyn
      go_wp2_with fail
      rw [← hY]
      have hwJ2 := Lib.hid hwJ
      generalize w1.heap.size = J at *
      clear hY hen hwJ
      generalize nb y = ny at *
      refine begin' 12 (fun Z => Fr (fun k => (Value.slice a0 L k0).ownBlock = some k) Y Z) hmix (Fr.refl _ Y).drew (fun hS0 => ?_)
      refine Ht.takeD 8 (i := 0) ⟨some 13, _, _, _, _, _⟩ (.slice a0 L k0) rfl (by kernel_rfl) (by kernel_rfl) (by decide) (by kernel_rfl) (by kernel_rfl) (by kernel_rfl) hS0 (Or.inl ⟨by rfl, by (intro X hX; go_simp)⟩) ?_
      simp only [Act.put, List.setIfInBounds_toArray, List.set_cons_zero, List.set_cons_succ]
      refine Ht.takeD 8 (i := 1) ⟨some 14, _, _, _, _, _⟩ (.pointer (some ⟨gb, 0, none⟩)) rfl (by kernel_rfl) (by kernel_rfl) (by decide) (by kernel_rfl) (by kernel_rfl) (by kernel_rfl) hS0 (Or.inl ⟨by rfl, by (intro X hX; go_simp)⟩) ?_
      simp only [Act.put, List.setIfInBounds_toArray, List.set_cons_zero, List.set_cons_succ]
      refine Ht.takeD 8 (i := 2) ⟨some 15, _, _, _, _, _⟩ (.pointer (some ⟨gb, 0, none⟩)) rfl (by kernel_rfl) (by kernel_rfl) (by decide) (by kernel_rfl) (by kernel_rfl) (by kernel_rfl) hS0 (Or.inl ⟨by rfl, by (intro X hX; go_simp)⟩) ?_
      simp only [Act.put, List.setIfInBounds_toArray, List.set_cons_zero, List.set_cons_succ]
      refine Ht.takeD 8 (i := 3) ⟨some 16, _, _, _, _, _⟩ (.pointer (some ⟨gb, 0, none⟩)) rfl (by kernel_rfl) (by kernel_rfl) (by decide) (by kernel_rfl) (by kernel_rfl) (by kernel_rfl) hS0 (Or.inl ⟨by rfl, by (intro X hX; go_simp)⟩) ?_
      simp only [Act.put, List.setIfInBounds_toArray, List.set_cons_zero, List.set_cons_succ]
      refine Ht.takeD 8 (i := 4) ⟨some 17, _, _, _, _, _⟩ (.map mv) rfl (by kernel_rfl) (by kernel_rfl) (by decide) (by kernel_rfl) (by kernel_rfl) (by kernel_rfl) hS0 (Or.inl ⟨by rfl, by (intro X hX; have := hX.cell c0 ng; go_simp)⟩) ?_
      simp only [Act.put, List.setIfInBounds_toArray, List.set_cons_zero, List.set_cons_succ]
      refine Ht.takeD 8 (i := 5) ⟨some 18, _, _, _, _, _⟩ (.agg #[.int .i64 y.1, .bool y.2]) rfl (by kernel_rfl) (by kernel_rfl) (by decide) (by kernel_rfl) (by kernel_rfl) (by kernel_rfl) hS0 (Or.inl ⟨by rfl, by (intro X hX; have := And.intro (hX.cell cA.1 nJ) (hX.cell cA.2 nJ); go_simp)⟩) ?_
      simp only [Act.put, List.setIfInBounds_toArray, List.set_cons_zero, List.set_cons_succ]
      refine Ht.takeD 8 (i := 6) ⟨some 19, _, _, _, _, _⟩ (.pointer (some ⟨ny, 0, none⟩)) rfl (by kernel_rfl) (by kernel_rfl) (by decide) (by kernel_rfl) (by kernel_rfl) (by kernel_rfl) hS0 (Or.inl ⟨by rfl, by (intro X hX; have := lk X hX; go_simp)⟩) ?_
      simp only [Act.put, List.setIfInBounds_toArray, List.set_cons_zero, List.set_cons_succ]
      refine Ht.takeD 8 (i := 7) ⟨some 20, _, _, _, _, _⟩ (.pointer (some ⟨ny, 0, none⟩)) rfl (by kernel_rfl) (by kernel_rfl) (by decide) (by kernel_rfl) (by kernel_rfl) (by kernel_rfl) hS0 (Or.inl ⟨by rfl, by (intro X hX; go_simp)⟩) ?_
      simp only [Act.put, List.setIfInBounds_toArray, List.set_cons_zero, List.set_cons_succ]
      refine Ht.takeD 8 (i := 8) ⟨some 21, _, _, _, _, _⟩ (.pointer (some ⟨ny, 0, none⟩)) rfl (by kernel_rfl) (by kernel_rfl) (by decide) (by kernel_rfl) (by kernel_rfl) (by kernel_rfl) hS0 (Or.inl ⟨by rfl, by (intro X hX; go_simp)⟩) ?_
      simp only [Act.put, List.setIfInBounds_toArray, List.set_cons_zero, List.set_cons_succ]
      refine Ht.takeD 8 (i := 9) ⟨some 22, _, _, _, _, _⟩ (.int .i64 y.1) rfl (by kernel_rfl) (by kernel_rfl) (by decide) (by kernel_rfl) (by kernel_rfl) (by kernel_rfl) hS0 (Or.inl ⟨by rfl, by (intro X hX; have := hX.cell nd nn; go_simp)⟩) ?_
      simp only [Act.put, List.setIfInBounds_toArray, List.set_cons_zero, List.set_cons_succ]
      have bU : Below Y.heap.size Y (Y.drew.alloc (.cells #[.int .i64 y.1] 3)) := (Below.refl _ Y).drew.alloc (Nat.le_refl _) _
      have cU : (Y.drew.alloc (.cells #[.int .i64 y.1] 3)).cell? ⟨Y.heap.size, 0, none⟩ = some (.int .i64 y.1) := by
        have h := (MapKept.heap_alloc Y.drew (.cells #[.int .i64 y.1] 3)).1
        exact (cell_of_row _ _ 0 _ _ _ h).trans rfl
      obtain ⟨U, hU⟩ : ∃ U, U = Y.drew.alloc (.cells #[.int .i64 y.1] 3) := ⟨_, rfl⟩
      rw [← hU] at bU cU
      obtain ⟨bY, rgY, owY, hlt1, hEn, vr⟩ := HY.out
      have owU : U.ownsRow (w.heap.size + 1) 3 1 (.slice a0 L k0) (es.map (·.1)).length ((es.map (·.1)).map kv) := own_kept owY fun b hb => bU.block b (owY.lt b hb).2
      have sY : w.heap.size + 1 ≤ Y.heap.size := by have := rgY.lt; omega
      obtain ⟨v9, w9, hra, hv9, gZ, hb9⟩ := push_k y.1 owU (by simp; omega) ⟨Y.heap.size, 0, none⟩ cU (Nat.le_trans sY bU.size) 25
      have f9 : Fr (fun k => (Value.slice a0 L k0).ownBlock = some k) Y w9 := (Fr.of_below bU).trans (Fr.grownN (S := fun k => (Value.slice a0 L k0).ownBlock = some k) gZ (fun b e => .inl e)) (fun x e => .inl e)
      obtain ⟨a9, d9, rfl⟩ := own_shape hv9
      have b9 : Below w.heap.size w w9 := (bY.trans (bU.mono bY.size)).grown gZ (Nat.le_trans bY.size bU.size) (fun j hj => by have := (vr j hj).2.1; omega)
      have hP9 : Ri S w gb mv ns E nb ob ub fb F w9 (es ++ [y]) cnt1 (.slice a9 (es.map (·.1) ++ [y.1]).length d9) := by
        refine ⟨HQ.out.below b9 (Nat.le_refl _), rgY.kept (f9.block _ (Nat.lt_of_lt_of_le H0.out.2.2.2.2.2.1 bY.size) (fun e => ?_)) (f9.block _ rgY.lt (fun e => (vr _ e).1 rfl)), ?_, b9⟩
        · have h1 := (vr _ e).2.1
          have h2 := H0.out.2.2.2.2.2.1
          omega
        · rw [show (es ++ [y]).map (·.1) = es.map (·.1) ++ [y.1] by simp]; exact hv9
      have HP9 := Lib.hid (And.intro hP9 hlt1)
      clear hP9 hv9 hb9 b9 bY rgY owY hlt1 hEn vr owU sY cU
      obtain ⟨L9, hL9⟩ : ∃ x, x = (es.map (·.1) ++ [y.1]).length := ⟨_, rfl⟩
      rw [← hL9] at hra HP9
      clear hL9
      refine Ht.step (i := 10) ⟨some 23, _, _, _, _, _⟩ rfl (by kernel_rfl) (by rfl) (fun K hK => ?_)
      go_simp
      refine hK _ _ (fun hn => (by rw [hU] at bU; exact Fr.of_below bU)) (fun hnx => ?_)
      clear hK K hnx
      try simp only [Act.put, List.setIfInBounds_toArray, List.set_cons_zero, List.set_cons_succ]
      refine Ht.step (i := 11) ⟨some 24, _, _, _, _, _⟩ rfl (by kernel_rfl) (by rfl) (fun K hK => ?_)
      change Oper.wp _ _ _ (Y.drew.alloc (.cells #[.int .i64 y.1] 3)) _ _
      rw [← hU]
      clear hU
      refine wp_app _ _ rfl rfl rfl hra ?_
      refine hK _ _ (fun hn => f9) (fun hnx => ?_)
      clear hK K hnx
      try simp only [Act.put, List.setIfInBounds_toArray, List.set_cons_zero, List.set_cons_succ]
      refine Ht.step (i := 12) ⟨some 5, _, _, _, _, _⟩ rfl (by kernel_rfl) (by rfl) (fun K hK => ?_)
      go_simp
      refine hK _ _ (fun hn => absurd rfl hn) (fun hnx => ?_)
      clear hK K hnx
      try simp only [Act.put, List.setIfInBounds_toArray, List.set_cons_zero, List.set_cons_succ]
      refine done (by kernel_rfl) ?_
      clear hS0 hra f9 gZ bU lk c0 nd cA
      go_wp2_with fail
      go_roundw
      case rel => exact ⟨_, _, HP9.out.1⟩
      case measure => rw [HP9.out.1.rg.left_eq, HL.out]; exact HP9.out.2
end
end Go.Proofs.Ytmlmacplkfnhkaa.DgA

