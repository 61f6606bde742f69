
/- a scheduler's image -/
import Derived.Test.YtcodjknhnhdkfaaDoorIm8
namespace Go.Proofs.YtcodjknhnhdkfaaDoor.Im
open Go.RowKit Go.Lib Wn Rf By Cm
set_option linter.unusedVariables false
set_option linter.unusedSectionVars false
set_option maxRecDepth 20000
/-- an image's bytes -/
def imgB (now : Int) (each order : Nat) (js : List Jb) : List UInt8 := Sp.zz now ++ (uvarint each ++ (uvarint order ++ (uvarint js.length ++ js.flatMap jobB)))
/-- two rows alike, one by one -/
def Alike (l m : List Jb) : Prop := l.length = m.length ∧ ∀ (i : Nat) (x y : Jb), l[i]? = some x → m[i]? = some y → Like x y
theorem Alike.cons {x y : Jb} {l m : List Jb} (h : Alike (x :: l) (y :: m)) : Like x y ∧ Alike l m :=
  ⟨h.2 0 x y rfl rfl, by have := h.1; simpa using this, fun i a b ha hb => h.2 (i + 1) a b (by simpa using ha) (by simpa using hb)⟩
theorem Alike.bytes : ∀ {l m : List Jb}, Alike l m → m.flatMap jobB = l.flatMap jobB
  | [], [], _ => rfl
  | [], y :: m, h => by have := h.1; simp at this
  | x :: l, [], h => by have := h.1; simp at this
  | x :: l, y :: m, h => by
    simp only [List.flatMap_cons]
    rw [h.cons.1.bytes, h.cons.2.bytes]
theorem Alike.ok : ∀ {l m : List Jb}, Alike l m → (∀ x ∈ l, x.wf ∧ x.med) → ∀ y ∈ m, y.wf ∧ y.med
  | [], [], _, _, y, hy => by simp at hy
  | [], y :: m, h, _, _, _ => by have := h.1; simp at this
  | x :: l, [], _, _, y, hy => by simp at hy
  | x :: l, y :: m, h, k, z, hz => by
    rcases List.mem_cons.1 hz with rfl | hz
    · exact ⟨h.cons.1.wf (k x (by simp)).1, h.cons.1.med (k x (by simp)).2⟩
    · exact h.cons.2.ok (fun a ha => k a (by simp [ha])) z hz
theorem Ga.alike {B : Nat} {w : World} {v : Value} {js ls : List Jb} (h : Ga B w v js.length js ls) : Alike js ls := ⟨h.len.symm, h.like⟩
theorem Ga.js {B k : Nat} {w : World} {a : Option Addr} {c : Nat} {js ls : List Jb} (h : Ga B w (.slice a k c) k js ls) : Js w a k ls ∧ Ahd w a ls := by
  have hsh : (k = 0 ∧ a = none ∧ ls = []) ∨ ∃ g cur, a = some ⟨g, 0, none⟩ ∧ w.heap[g]? = some (.cells cur 52 (0, 0)) ∧ cur.toList.take (k * 21) = jcs ls := by
    rcases h.own.2 with ⟨h1, h2⟩ | ⟨g, cap', cur, h1, h2, h3, h4, h5, h6, h7⟩
    · have e : k = 0 := h2
      cases h1
      exact .inl ⟨e, rfl, List.eq_nil_of_length_eq_zero (h.len.trans e)⟩
    · exact .inr ⟨g, cur, by cases h1; rfl, h3, h7⟩
  refine ⟨⟨h.len, fun e => ?_, ?_, fun j hj => (h.d j hj).1⟩, fun b o e => ?_, fun j hj => (h.d j hj).2.typed⟩
  · rcases hsh with ⟨h1, _⟩ | ⟨g, cur, h1, _⟩
    · exact h1
    · rw [h1] at e; cases e
  · rcases hsh with ⟨h1, _⟩ | ⟨g, cur, h1, h2, h3⟩
    · exact .inl h1
    · refine .inr ⟨g, h1, fun i hi k' v hv => ?_⟩
      have hk : k' < 21 := by have := (List.getElem?_eq_some_iff.1 hv).1; rw [Jb.len] at this; exact this
      have e := jcs_get ls i hi k' v hv
      rw [← h3, List.getElem?_take_of_lt (by have := h.len; omega), Array.getElem?_toList] at e
      rw [cell_of_row w g _ cur _ _ h2]
      exact e
  · rcases hsh with ⟨_, h1, _⟩ | ⟨g, cur, h1, h2, _⟩
    · rw [h1] at e; cases e
    · rw [h1] at e
      obtain ⟨rfl, rfl⟩ : g = b ∧ 0 = o := by simpa using e
      exact ⟨cur, h2⟩
section
variable {w : World} {sb mb wb : Nat} {jb : K → Nat} {now : Int} {each : Nat} {order : Nat} {js : List Jb}
set_option maxHeartbeats 4000000 in
theorem Of_any (h : Sq w sb mb wb jb now ((each : Nat) : Int) order js) (hf : ∀ j ∈ js, j.wf ∧ j.med) (hnow : Sp.W64 now) (heach : each ≤ 100000) (hord : U64 order) (hlen : (js.flatMap jobB).length ≤ 300000) :
    Calls Tryd.prog 7 #[.pointer (some ⟨sb, 0, none⟩)] w fun e w' => ∃ a n c, e = .returned (.slice a n c) ∧ IsB w' a n c (imgB now each order js) ∧ Below w.heap.size w w' := by
  obtain ⟨V, hV⟩ : ∃ V, V = w.alloc (.cells #[.slice none 0 0] 40) := ⟨_, rfl⟩
  have hbV : Below w.heap.size w V := by rw [hV]; exact (Below.refl _ _).alloc (Nat.le_refl _) _
  have hzV : V.heap.size = w.heap.size + 1 := by rw [hV]; simp
  have hwV : Wr (w.heap.size + 1) V w.heap.size [] := by rw [hV]; exact wr_new w _
  have hwe : IntKind.u64.wrap ((each : Nat) : Int) = ((each : Nat) : Int) := by rw [IntKind.wrap_u64]; omega
  have H := Lib.hid (And.intro h (And.intro hf (And.intro hnow (And.intro hord (And.intro hlen (And.intro hbV hzV))))))
  have hsb := World.block_lt_of_cell? w _ h.cell.1
  have hno := now_any (h.old hbV)
  have HW := Lib.hid hwV
  clear h hf hnow hord hlen hbV hzV hwV hsb
  go_enter Tryd.func7, Tryd.ntmps7
  go_wp2_with fail
  rw [← hV]
  have HV := Lib.hid hV
  clear hV
  refine hno.mono ?_
  rintro e w1 ⟨rfl, rfl⟩
  have hc := int_w (w.heap.size + 1) w.heap.size now [] w1 H.out.2.2.1 (Nat.lt_succ_self _) (Nat.le_of_eq H.out.2.2.2.2.2.2.symm) HW.out (by simp)
  clear hno
  go_wp2_with fail
  refine hc.mono ?_
  rintro e w2 ⟨rfl, hw2, hf2⟩
  clear hc
  obtain ⟨M1, hM1⟩ : ∃ M, M = [] ++ Sp.zz now := ⟨_, rfl⟩
  rw [← hM1] at hw2
  have g1 : M1.length ≤ 10 := by rw [hM1]; exact Sp.zz_len H.out.2.2.1
  have b2 : Below w.heap.size w w2 := H.out.2.2.2.2.2.1.trans (hf2.below (Nat.le_succ _) (Nat.le_refl _))
  have z2 : w.heap.size + 1 ≤ w2.heap.size := Nat.le_trans (Nat.le_of_eq H.out.2.2.2.2.2.2.symm) hf2.size
  have he := each_any (H.out.1.old b2)
  have H2 := Lib.hid (And.intro hw2 (And.intro hM1 (And.intro b2 z2)))
  clear hw2 hM1 b2 z2 hf2
  go_wp2_with fail
  refine he.mono ?_
  rintro e w3 ⟨rfl, rfl⟩
  have hc := num_w (w.heap.size + 1) w.heap.size each M1 w3 (by unfold U64; omega) (Nat.lt_succ_self _) H2.out.2.2.2 H2.out.1 (by omega)
  clear he
  go_wp2_with fail
  refine hc.mono ?_
  rintro e w4 ⟨rfl, hw4, hf4⟩
  clear hc
  obtain ⟨M2, hM2⟩ : ∃ M, M = M1 ++ uvarint each := ⟨_, rfl⟩
  rw [← hM2] at hw4
  have g2 : M2.length ≤ 20 := by
    have : (uvarint each).length ≤ 10 := uvarint_length64 (show U64 each by unfold U64; omega)
    rw [hM2, List.length_append]; omega
  have b4 : Below w.heap.size w w4 := H2.out.2.2.1.trans (hf4.below (Nat.le_succ _) (Nat.le_refl _))
  have z4 : w.heap.size + 1 ≤ w4.heap.size := Nat.le_trans H2.out.2.2.2 hf4.size
  have ho := order_any (H.out.1.old b4)
  have H4 := Lib.hid (And.intro hw4 (And.intro hM2 (And.intro b4 z4)))
  clear hw4 hM2 b4 z4 hf4
  go_wp2_with fail
  refine ho.mono ?_
  rintro e w5 ⟨rfl, rfl⟩
  have hc := num_w (w.heap.size + 1) w.heap.size order M2 w5 H.out.2.2.2.1 (Nat.lt_succ_self _) H4.out.2.2.2 H4.out.1 (by omega)
  clear ho
  go_wp2_with fail
  refine hc.mono ?_
  rintro e w6 ⟨rfl, hw6, hf6⟩
  clear hc
  obtain ⟨M3, hM3⟩ : ∃ M, M = M2 ++ uvarint order := ⟨_, rfl⟩
  rw [← hM3] at hw6
  have g3 : M3.length ≤ 30 := by
    have : (uvarint order).length ≤ 10 := uvarint_length64 H.out.2.2.2.1
    rw [hM3, List.length_append]; omega
  have b6 : Below w.heap.size w w6 := H4.out.2.2.1.trans (hf6.below (Nat.le_succ _) (Nat.le_refl _))
  have z6 : w.heap.size + 1 ≤ w6.heap.size := Nat.le_trans H4.out.2.2.2 hf6.size
  have hj := Jobs_any (H.out.1.old b6)
  have H6 := Lib.hid (And.intro hw6 (And.intro hM3 (And.intro b6 z6)))
  clear hw6 hM3 b6 z6 hf6
  go_wp2_with fail
  refine hj.mono ?_
  rintro e w7 ⟨rfl, v0, ls, hbx, hga, hb7⟩
  have hal := hga.alike
  have hlen := hal.1
  rw [hlen] at hga
  have hcl := collect_any w7 w6.heap.size (w6.heap.size + 1) (cell_of_one hbx) hga (by have := H.out.1.few; omega) (fun j hj => by
    obtain ⟨i, hi, e⟩ := List.getElem_of_mem hj
    have hi2 : i < js.length := by omega
    have h1 := hal.2 i js[i] j (List.getElem?_eq_getElem hi2) (by rw [← e]; exact List.getElem?_eq_getElem hi)
    rw [h1.n]
    exact (H.out.1.job _ (List.getElem_mem hi2)).2.2.2)
  have H7 := Lib.hid (And.intro hal (And.intro hlen hb7))
  clear hj hbx hga hb7 hal hlen
  go_wp2_with fail
  refine hcl.mono ?_
  rintro e w8 ⟨v, zs, rfl, hga, hb8⟩
  obtain ⟨a, c, rfl⟩ := hga.shape
  have hal := hga.alike
  obtain ⟨hJs, hAh⟩ := hga.js
  have b68 : Below w6.heap.size w6 w8 := H7.out.2.2.trans (hb8.mono H7.out.2.2.size)
  have hw8 : Wr (w.heap.size + 1) w8 w.heap.size M3 := H6.out.1.below b68 (by have := H6.out.2.2.2; omega) (fun k hk => hk)
  have hbytes : zs.flatMap jobB = js.flatMap jobB := hal.bytes.trans H7.out.1.bytes
  have hp := put_j (w.heap.size + 1) w.heap.size a ls.length c zs M3 w8 hJs hAh (hal.ok (H7.out.1.ok H.out.2.1)) (Nat.lt_succ_self _) (by have := b68.size; have := H6.out.2.2.2; omega) hw8 (by rw [hbytes]; have := H.out.2.2.2.2.1; omega) (by have := H.out.1.few; have := H7.out.2.1; omega)
  rw [hbytes] at hp
  have H8 := Lib.hid (And.intro b68 hw8)
  clear hga hb8 hal hJs hAh b68 hw8 hbytes hcl
  go_wp2_with fail
  refine hp.mono ?_
  rintro e w9 ⟨rfl, hw9, hf9⟩
  clear hp
  obtain ⟨M4, hM4⟩ : ∃ M, M = M3 ++ (uvarint ls.length ++ js.flatMap jobB) := ⟨_, rfl⟩
  rw [← hM4] at hw9
  have hM : imgB now each order js = M4 := by
    unfold imgB
    rw [hM4, ← H7.out.2.1, H6.out.2.1, H4.out.2.1, H2.out.2.1]
    simp only [List.nil_append, List.append_assoc]
  have hl4 : M4.length ≤ 400000 := by
    have : (uvarint ls.length).length ≤ 10 := uvarint_length64 (show U64 ls.length by unfold U64; have := H.out.1.few; have := H7.out.2.1; omega)
    have := H.out.2.2.2.2.1
    rw [hM4]
    simp only [List.length_append]
    omega
  have hbt := bytes_any _ _ M4 w9 hw9 (by omega)
  have b9 : Below w.heap.size w w9 := H6.out.2.2.1.trans ((H8.out.1.mono (by have := H6.out.2.2.2; omega)).trans (hf9.below (Nat.le_succ _) (Nat.le_refl _)))
  have H9 := Lib.hid (And.intro hM b9)
  clear hw9 hf9 hM4 hM hl4 b9
  go_wp2_with fail
  refine hbt.mono ?_
  rintro e w10 ⟨v', rfl, hown, hb10⟩
  obtain ⟨a', c', rfl, hib⟩ := isB_own hown
  have HZ := Lib.hid (And.intro hib (H9.out.2.trans (hb10.mono H9.out.2.size)))
  clear hown hib hb10 hbt
  go_wp2_with fail
  go_ret
  rw [H9.out.1]
  exact ⟨_, _, _, rfl, HZ.out⟩
end
end Go.Proofs.YtcodjknhnhdkfaaDoor.Im
