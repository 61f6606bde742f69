
/- the document's answer for an expression: of a text that is right -/
import Derived.Test.YtheaimlfngaaoaaDoorRc4
namespace Go.Proofs.YtheaimlfngaaoaaDoor.Cn
open Go.RowKit Go.Lib
set_option linter.unusedVariables false
set_option linter.unusedSimpArgs false

theorem info61 : (Tryd.prog.info? 61).map (fun i => (i.zero, i.size, i.bytes)) = some (some (.map none), 1, 8) := by kernel_rfl
abbrev maps (l : List Nat) : List Value := l.map fun b => .map (some b)
/-- what lies while an expression is read: the texts, the maps of the fields ahead -/
structure Pm (w : World) (ts : List L) (g5 c5 : Nat) (v6 : Value) (ms : List Nat) (W : World) : Prop where
  row : W.ownsRow w.heap.size 9 1 (.slice (some ⟨g5, 0, none⟩) 5 c5) 5 (strs ts)
  out : W.ownsRow w.heap.size 61 1 v6 ms.length (maps ms)
  maps : ∀ (j b : Nat) (t : L), ms[j]? = some b → ts[j]? = some t → Mb W b 10000 (fp j (sp 44 t)) ∧ w.heap.size ≤ b
  bel : Below w.heap.size w W
theorem Pm.old {w : World} {ts : List L} {g5 c5 : Nat} {v6 : Value} {ms : List Nat} {W W' : World} (h : Pm w ts g5 c5 v6 ms W) (hb : Below W.heap.size W W') : Pm w ts g5 c5 v6 ms W' :=
  ⟨h.row.kept (grown_of (b := W.heap.size) hb) (.inr fun e => by have h1 := (h.row.lt g5 rfl).2; have h2 : g5 = W.heap.size := Option.some.inj e; omega),
   h.out.kept (grown_of (b := W.heap.size) hb) (by
     cases hv : v6.ownBlock with
     | none => exact .inl rfl
     | some g => exact .inr fun e => by have h1 := (h.out.lt g hv).2; have h2 : g = W.heap.size := Option.some.inj e; omega),
   fun j b t h1 h2 => ⟨(h.maps j b t h1 h2).1.old hb, (h.maps j b t h1 h2).2⟩, h.bel.trans (hb.mono h.bel.size)⟩
theorem Pm.grown {w : World} {ts : List L} {g5 c5 : Nat} {v6 : Value} {ms : List Nat} {W W' : World} {b : Nat} (h : Pm w ts g5 c5 v6 ms W) (hg : W.grownBy W' (some b)) (hm : ∃ es clock, W.heap[b]? = some (.map es clock)) (hb : w.heap.size ≤ b) (hn : b ∉ ms) (hl : ms.length ≤ ts.length) : Pm w ts g5 c5 v6 ms W' :=
  ⟨row_kept h.row hg hm, row_kept h.out hg hm, fun j b' t h1 h2 => by
    obtain ⟨h3, h4⟩ := h.maps j b' t h1 h2
    exact ⟨h3.kept (hg.block b' h3.lt (fun e => hn (by cases e; exact List.mem_of_getElem? h1))), h4⟩, grown_below h.bel hg h.bel.size hb⟩
theorem cells_differ {w : World} {B B' : Nat} {v v' : Value} {n n' : Nat} {xs xs' : List Value} (h : w.ownsRow B 9 1 v n xs) (k : w.ownsRow B' 61 1 v' n' xs') : v.ownBlock = none ∨ v.ownBlock ≠ v'.ownBlock := by
  rcases h.2 with ⟨rfl, _⟩ | ⟨g, cap, cur, rfl, _, hg, _⟩
  · exact .inl rfl
  · refine .inr fun e => ?_
    rcases k.2 with ⟨rfl, _⟩ | ⟨g', cap', cur', rfl, _, hg', _⟩
    · cases e
    · have h2 : g = g' := Option.some.inj e
      subst h2
      rw [hg] at hg'
      have h3 := (Obj.cells.inj (Option.some.inj hg')).2.1
      revert h3; decide
theorem map_apart {w : World} {B b n : Nat} {v : Value} {m : Nat} {xs : List Value} {e : TypeId} {p : Nat → Bool} (h : Mb w b n p) (k : w.ownsRow B e 1 v m xs) : some b ≠ v.ownBlock := by
  intro e2
  obtain ⟨es, clock, hm⟩ := h.at
  rcases k.2 with ⟨rfl, _⟩ | ⟨g', cap', cur', rfl, _, hg', _⟩
  · cases e2
  · have h2 : b = g' := Option.some.inj e2
    subst h2
    rw [hg'] at hm; cases hm
theorem Pm.push {w : World} {ts : List L} {g5 c5 : Nat} {v6 v' : Value} {ms : List Nat} {W W7 : World} {b : Nat} {o : Obj} {t : L} (h : Pm w ts g5 c5 v6 ms W) (ho : W7.ownsRow w.heap.size 61 1 v' (ms.length + 1) (Cn.maps ms ++ [.map (some b)]))
    (hg : (W.alloc o).grownBy W7 v6.ownBlock) (hb : Mb W b 10000 (fp ms.length (sp 44 t))) (ht : ts[ms.length]? = some t) (hB : w.heap.size ≤ b) : Pm w ts g5 c5 v' (ms ++ [b]) W7 := by
  have h1 := h.old ((Below.refl W.heap.size W).alloc (Nat.le_refl _) o)
  have hb1 := hb.old ((Below.refl W.heap.size W).alloc (Nat.le_refl _) o)
  refine ⟨h1.row.kept hg (cells_differ h1.row h1.out), ?_, ?_, h1.bel.grown hg h1.bel.size (fun g e => (h1.out.lt g e).1)⟩
  · have e1 : (ms ++ [b]).length = ms.length + 1 := by simp
    have e2 : Cn.maps (ms ++ [b]) = Cn.maps ms ++ [.map (some b)] := by simp [Cn.maps]
    rw [e1, e2]; exact ho
  · intro j b' t' hj ht'
    by_cases hjl : j < ms.length
    · rw [List.getElem?_append_left hjl] at hj
      obtain ⟨h3, h4⟩ := h1.maps j b' t' hj ht'
      exact ⟨h3.kept (hg.block b' h3.lt (map_apart h3 h1.out)), h4⟩
    · have hjm : j = ms.length := by
        have := (List.getElem?_eq_some_iff.1 hj).1
        simp at this; omega
      subst hjm
      rw [ht] at ht'
      obtain rfl := Option.some.inj ht'
      have : b' = b := by simpa using hj.symm
      subst this
      exact ⟨hb1.kept (hg.block b' hb1.lt (map_apart hb1 h1.out)), hB⟩
/-- what is told of a text that is right -/
def TellsE (ts : List L) (w : World) (e : Ending) (W : World) : Prop :=
  ∃ v6 g5 c5 ms, e = .returned (.tuple #[v6, .slice (some ⟨g5, 0, none⟩) 5 c5, .int .i64 0]) ∧ ms.length = 5 ∧ Pm w ts g5 c5 v6 ms W
theorem errs_get {ts : List L} : ∀ {i : Nat}, errs i ts = 0 → ∀ (j : Nat) (t : L), ts[j]? = some t → errF (fds (i + j)) (sp 44 t) = 0 := by
  induction ts with
  | nil => intro i _ j t h; simp at h
  | cons x ts ih =>
    intro i h j t ht
    rw [errs] at h
    by_cases hx : errF (fds i) (sp 44 x) = 0
    · rw [if_pos hx] at h
      cases j with
      | zero =>
        simp at ht; subst ht; exact hx
      | succ j =>
        have := ih h j t (by simpa using ht)
        rwa [show i + (j + 1) = i + 1 + j by omega]
    · rw [if_neg hx] at h; exact absurd h hx
set_option maxRecDepth 20000 in
set_option maxHeartbeats 16000000 in
theorem rparse_any (s : L) (hs : parseE s = 0) (w : World) :
    Calls Tryd.prog 9 #[S s] w (TellsE (sp 32 s) w) := by
  have hP := hs
  unfold parseE at hP
  have h128 : ¬ 128 < s.length := fun x => by rw [if_pos x] at hP; cases hP
  rw [if_neg h128] at hP
  have h5 : (sp 32 s).length = 5 := Decidable.byContradiction fun x => by rw [if_neg x] at hP; cases hP
  rw [if_pos h5] at hP
  have herr := errs_get hP
  have hlen : ∀ t ∈ sp 32 s, t.length ≤ 128 := fun t ht => by have := (sp_mem_len ht).1; omega
  have hspl := rsplit_any s (by omega) 32 w
  rw [h5] at hspl
  generalize sp 32 s = ts at h5 herr hlen hspl
  have hz := size_S s
  have hsI : ((s.length : Nat) : Int) ≤ 128 := by omega
  obtain ⟨i0, hi0, hz0, hz1, hz2⟩ := info_parts info61
  have HS := Lib.hid hspl
  have HE := Lib.hid (And.intro herr (And.intro hlen h5))
  have hmm := @run_makeMap Tryd.prog
  clear hspl herr hlen h5 hP hs h128
  go_enter Tryd.func9, Tryd.ntmps9
  go_wp2_with fail
  refine HS.out.mono ?_
  rintro e w1 ⟨⟨v5, rfl, hown⟩, hb1⟩
  obtain ⟨g5, c5, rfl⟩ : ∃ g c, v5 = .slice (some ⟨g, 0, none⟩) 5 c := by
    rcases hown.2 with ⟨rfl, h9⟩ | ⟨g, cap, cur, rfl, _⟩
    · omega
    · exact ⟨_, _, rfl⟩
  have H1 := Lib.hid (show Pm w ts g5 c5 (.slice none 0 0) [] w1 from ⟨hown, World.ownsRow_nil _ _ _ _, fun j b t h1 _ => by simp at h1, hb1⟩)
  clear hown hb1
  go_wp2_with fail
  go_loopw [26, 6] (fun x v wr => ∃ (i : Nat) (ms : List Nat), x = .int .i64 (i : Nat) ∧ i ≤ 5 ∧ ms.length = i ∧ Pm w ts g5 c5 v ms wr) (fun x _ _ => 5 - (RowKit.intOf x).toNat)
  case atStart => exact ⟨0, [], rfl, Nat.zero_le _, rfl, H1.out⟩
  case round =>
    obtain ⟨i, ms, rfl, hi, hml, hpm⟩ := hrel
    have HP := Lib.hid (And.intro hpm hml)
    clear hpm hml
    by_cases hlt : i < 5
    · have hltI : ((i : Nat) : Int) < 5 := by omega
      obtain ⟨t, ht⟩ : ∃ t, ts[i]? = some t := by rw [List.getElem?_eq_getElem (by rw [HE.out.2.2]; exact hlt)]; exact ⟨_, rfl⟩
      have hcell : wr.cell? ⟨g5, i, none⟩ = some (S t) := row_at HP.out.1.row (by rw [List.getElem?_map, ht]; rfl)
      have htl := HE.out.2.1 t (List.mem_of_getElem? ht)
      have hte : errF (fds i) (sp 44 t) = 0 := by have := HE.out.1 i t ht; rwa [Nat.zero_add] at this
      have hsp := fun W => rsplit_any t (by omega) 44 W
      have HT := Lib.hid (And.intro ht (And.intro htl (And.intro hte (And.intro hsp hlt))))
      clear ht htl hte hsp hlt
      go_wp2_with fail
      refine (HT.out.2.2.2.1 _).mono ?_
      rintro e w3 ⟨⟨v33, rfl, hown3⟩, hb3⟩
      have hal : Below wr.heap.size wr (wr.alloc (.map #[] 0)) := (Below.refl _ _).alloc (Nat.le_refl _) _
      have hnb : wr.heap.size ∉ ms := fun hm => by
        obtain ⟨j, hj⟩ := List.getElem?_of_mem hm
        have hjl := (List.getElem?_eq_some_iff.1 hj).1
        rw [HP.out.2] at hjl
        have := (HP.out.1.maps j _ _ hj (List.getElem?_eq_getElem (by rw [HE.out.2.2]; omega))).1.lt
        omega
      have H3 := Lib.hid (And.intro ((HP.out.1.old hal).old hb3) (And.intro ((Mb.made wr).old hb3) (And.intro hown3 (And.intro hnb HP.out.1.bel.size))))
      clear hal hb3 hnb
      obtain ⟨n1, hn1⟩ : ∃ n, n = (sp 44 t).length := ⟨_, rfl⟩
      have hn1l : n1 ≤ 129 := by
        have h1 := sp_length 44 t
        have h2 : t.count 44 ≤ t.length := List.count_le_length
        have := HT.out.2.1
        omega
      obtain ⟨ao, cp, rfl⟩ : ∃ ao cp, v33 = .slice ao n1 cp := by
        rcases hown3.2 with ⟨rfl, h9⟩ | ⟨g, cap, cur, rfl, _⟩
        · exact ⟨_, _, by rw [hn1, h9]⟩
        · exact ⟨_, _, by rw [hn1]⟩
      have HN1 := Lib.hid hn1
      clear hn1 hown3
      go_wp2_with fail
      obtain ⟨b, hbb⟩ : ∃ b, b = wr.heap.size := ⟨_, rfl⟩
      rw [← hbb] at H3 ⊢
      clear hbb
      go_loopw [35] (fun x wq => ∃ k : Nat, x = .int .i64 (k : Nat) ∧ k ≤ n1 ∧ w3.grownBy wq (some b) ∧ Mb wq b (60 * k) (fp i ((sp 44 t).take k))) (fun x _ => 200 - (RowKit.intOf x).toNat)
      case atStart => exact ⟨0, rfl, Nat.zero_le _, World.grownBy.refl _ _, H3.out.2.1.congr fun z => (fp_zero i z).symm⟩
      case round =>
        obtain ⟨k, rfl, hk, hgr, hmb⟩ := hrel
        have HQ := Lib.hid (And.intro hgr hmb)
        clear hgr hmb
        by_cases hlt : k < n1
        · have hltI : ((k : Nat) : Int) < ((n1 : Nat) : Int) := by omega
          obtain ⟨p, hp⟩ : ∃ p, (sp 44 t)[k]? = some p := by rw [List.getElem?_eq_getElem (by rw [← HN1.out]; exact hlt)]; exact ⟨_, rfl⟩
          have hrow := row_kept H3.out.2.2.1 HQ.out.1 H3.out.2.1.at
          obtain ⟨g33, rfl⟩ : ∃ g, ao = some ⟨g, 0, none⟩ := by
            rcases hrow.2 with ⟨h1, h9⟩ | ⟨g, cap, cur, h1, _⟩
            · rw [← HN1.out] at h9; omega
            · cases h1; exact ⟨_, rfl⟩
          have hcell2 : wr.cell? ⟨g33, k, none⟩ = some (S p) := row_at (n := n1) (by have := hrow; rwa [← HN1.out] at this) (by rw [List.getElem?_map, hp]; rfl)
          have hpl := (sp_mem_len (List.mem_of_getElem? hp)).1
          have hpe := field_in HT.out.2.2.1 p (List.mem_of_getElem? hp)
          have hpt := rpart_any i HT.out.2.2.2.2 p (by have := HT.out.2.1; omega) hpe wr
          obtain ⟨hr1, hr2, hr3, _⟩ := part_in hpe
          have hhi := (fds_ok i).hi
          have HPt := Lib.hid (And.intro hpt (And.intro hp (And.intro (Nat.le_trans hr3 hhi) hrow)))
          clear hpl hpe hpt hr1 hr2 hr3 hhi hp hrow
          go_wp2_with fail
          refine HPt.out.1.mono ?_
          rintro e w4 ⟨⟨v12, kk, rfl, hown4, hkk, hmem⟩, hb4⟩
          obtain ⟨a4, c4, rfl⟩ : ∃ ao cp, v12 = .slice ao kk cp := by
            rcases hown4.2 with ⟨rfl, h9⟩ | ⟨g, cap, cur, rfl, _⟩
            · exact ⟨_, _, by rw [h9]⟩
            · exact ⟨_, _, rfl⟩
          have hl3 : (vals (readT (fds i) p).1.1 (readT (fds i) p).1.2.2 kk).length = kk := by unfold vals; simp
          obtain ⟨vl, hvl⟩ : ∃ l, l = vals (readT (fds i) p).1.1 (readT (fds i) p).1.2.2 kk := ⟨_, rfl⟩
          rw [← hvl] at hown4 hmem hl3
          have hv59 : ∀ x ∈ vl, x ≤ 59 := fun x hx => by
            have h1 := (hmem x).1 hx
            have h2 := HPt.out.2.2.1
            simp only [inP, Bool.and_eq_true, decide_eq_true_eq] at h1
            omega
          have H4 := Lib.hid (And.intro hown4 (And.intro hmem (And.intro hb4 (And.intro hl3 hv59))))
          have hmb4 := HQ.out.2.old hb4
          have H5 := Lib.hid hmb4
          clear hown4 hmem hb4 hl3 hvl hv59 hmb4
          go_wp2_with fail
          go_loopw [50] (fun x wq => ∃ q : Nat, x = .int .i64 (q : Nat) ∧ q ≤ kk ∧ w4.grownBy wq (some b) ∧ Mb wq b (60 * k + q) (fun z => fp i ((sp 44 t).take k) z || (vl.take q).any fun x => decide (fx i x = z))) (fun x _ => 200 - (RowKit.intOf x).toNat)
          case atStart => exact ⟨0, rfl, Nat.zero_le _, World.grownBy.refl _ _, H5.out.congr fun z => by simp⟩
          case round =>
            obtain ⟨q, rfl, hq, hgr, hmb⟩ := hrel
            have HR := Lib.hid (And.intro hgr hmb)
            clear hgr hmb
            by_cases hlq : q < kk
            · have hlqI : ((q : Nat) : Int) < ((kk : Nat) : Int) := by omega
              obtain ⟨x, hx⟩ : ∃ x, vl[q]? = some x := by rw [List.getElem?_eq_getElem (by rw [H4.out.2.2.2.1]; exact hlq)]; exact ⟨_, rfl⟩
              have hrow4 := row_kept H4.out.1 HR.out.1 H5.out.at
              obtain ⟨g4, rfl⟩ : ∃ g, a4 = some ⟨g, 0, none⟩ := by
                rcases hrow4.2 with ⟨h1, h9⟩ | ⟨g, cap, cur, h1, _⟩
                · omega
                · cases h1; exact ⟨_, rfl⟩
              have hcell3 : wr.cell? ⟨g4, q, none⟩ = some (.int .i64 (x : Nat)) := row_at hrow4 (by rw [List.getElem?_map, hx]; rfl)
              have hx59 := H4.out.2.2.2.2 x (List.mem_of_getElem? hx)
              obtain ⟨w5, hr5, hm5, hg5⟩ := HR.out.2.put (i := fx i x) (by omega) (by unfold fx; split <;> omega)
              have hbel5 : ∀ z, (fp i ((sp 44 t).take k) z || (vl.take q).any (fun x => decide (fx i x = z)) || decide (z = fx i x)) = (fp i ((sp 44 t).take k) z || (vl.take (q + 1)).any fun x => decide (fx i x = z)) := fun z => by
                rw [List.take_add_one, hx]
                simp only [Option.toList, List.any_append, List.any_cons, List.any_nil, Bool.or_false, Bool.or_assoc]
                rw [decide_eq_decide.2 (eq_comm (a := z) (b := fx i x))]
              have HY := Lib.hid (And.intro (HR.out.1.trans hg5) (hm5.congr hbel5))
              clear hm5 hg5 hbel5 hrow4 hx
              by_cases hi4 : i = 4
              · by_cases hx7 : x = 7
                · have hfx : fx i x = 0 := by unfold fx; rw [if_pos ⟨hi4, hx7⟩]
                  rw [hfx] at hr5
                  have hr6 : (Instr.mapUpdate 61 (.map (some b)) (.int .i64 0) (.bool true)).run Tryd.prog wr = .ok () w5 := hr5
                  have m4 : (((i : Nat) : Int) == 4) = true := by simp; omega
                  have m7 : (((x : Nat) : Int) == 7) = true := by simp; omega
                  clear hfx hi4 hx7 hr5
                  go_wp2_with fail
                  exact ⟨⟨q + 1, by simp, by omega, HY.out.1, HY.out.2⟩, by simp [RowKit.intOf]; omega⟩
                · have hfx : fx i x = x := by unfold fx; rw [if_neg (fun h => hx7 h.2)]
                  rw [hfx] at hr5
                  have m4 : (((i : Nat) : Int) == 4) = true := by simp; omega
                  have m7 : (((x : Nat) : Int) == 7) = false := by simp; omega
                  clear hfx hi4 hx7
                  go_wp2_with fail
                  exact ⟨⟨q + 1, by simp, by omega, HY.out.1, HY.out.2⟩, by simp [RowKit.intOf]; omega⟩
              · have hfx : fx i x = x := by unfold fx; rw [if_neg (fun h => hi4 h.1)]
                rw [hfx] at hr5
                have m4 : (((i : Nat) : Int) == 4) = false := by simp; omega
                clear hfx hi4
                go_wp2_with fail
                exact ⟨⟨q + 1, by simp, by omega, HY.out.1, HY.out.2⟩, by simp [RowKit.intOf]; omega⟩
            · have hqk : q = kk := by omega
              subst hqk
              have htk : (sp 44 t).take (k + 1) = (sp 44 t).take k ++ [p] := by rw [List.take_add_one, HPt.out.2.1]; rfl
              have hvt : vl.take q = vl := by rw [← H4.out.2.2.2.1, List.take_length]
              have hm9 := HR.out.2
              rw [hvt] at hm9
              have hfin : Mb wr b (60 * (k + 1)) (fp i ((sp 44 t).take (k + 1))) := (hm9.mono (by omega)).congr fun z => by rw [htk, fp_next i _ p vl H4.out.2.1 z]
              have HF := Lib.hid (And.intro (HQ.out.1.trans ((grown_of H4.out.2.2.1).trans HR.out.1)) hfin)
              clear hvt hm9 hfin htk hlq
              go_wp2_with fail
              exact ⟨⟨k + 1, by simp, by omega, HF.out.1, HF.out.2⟩, by simp [RowKit.intOf]; omega⟩
        · have hkn : k = n1 := by omega
          have hm9 := HQ.out.2
          rw [hkn, HN1.out, List.take_length] at hm9
          have hm10 : Mb wr b 10000 (fp ms.length (sp 44 t)) := by rw [HP.out.2]; exact hm9.mono (by rw [← HN1.out]; omega)
          have hpm9 := H3.out.1.grown HQ.out.1 H3.out.2.1.at H3.out.2.2.2.2 H3.out.2.2.2.1 (by rw [HP.out.2, HE.out.2.2]; omega)
          have hown9 := hpm9.out
          have hlI : ¬ ((k : Nat) : Int) < ((n1 : Nat) : Int) := by omega
          have HM := Lib.hid (And.intro hm10 (And.intro hpm9 (And.intro hpm9.bel.size (show ts[ms.length]? = some t by rw [HP.out.2]; exact HT.out.1))))
          have hml5 : ms.length ≤ 5 := by rw [HP.out.2]; exact hi
          clear hm9 hm10 hpm9 hkn hlt
          go_wp2_with (at_builtin; refine wpList_append_own _ rfl _ _ 30 rfl w.heap.size 61 i0 (.map none) 1 8 Tryd.underlying30 hi0 hz0 hz1 hz2 rfl (by decide) _ _ _ rfl (hown9.alloc _) ⟨wr.heap.size, 0, none⟩ 1 1 [.map (some b)] rfl rfl ?c1 ?c2 ?c3 ?c4 ?c5 ?_)
          case c2 => rfl
          case c3 => have : maxLen = 9223372036854775807 := rfl; omega
          case c4 => omega
          case c5 => have := HM.out.2.2.1; first | omega | (simp; omega)
          intro v' w9 hown' hgrow _
          obtain ⟨a9, c9, rfl⟩ : ∃ ao cp, v' = .slice ao (ms.length + 1) cp := by
            rcases hown'.2 with ⟨rfl, h9⟩ | ⟨g, cap, cur, rfl, _⟩
            · omega
            · exact ⟨_, _, rfl⟩
          have hnew := HM.out.2.1.push hown' hgrow HM.out.1 HM.out.2.2.2 H3.out.2.2.2.2
          have HW := Lib.hid hnew
          clear hown' hgrow hnew hown9
          go_wp2_with fail
          exact ⟨⟨i + 1, ms ++ [b], by simp, by have := HT.out.2.2.2.2; omega, by rw [List.length_append, HP.out.2]; rfl, HW.out⟩, by have := HT.out.2.2.2.2; simp [RowKit.intOf]; omega⟩
    · have hi5 : i = 5 := by omega
      subst hi5
      obtain ⟨ao, cp, rfl⟩ : ∃ ao cp, u6 = .slice ao 5 cp := by
        have := HP.out.1.out
        rw [HP.out.2] at this
        rcases this.2 with ⟨rfl, h9⟩ | ⟨g, cap, cur, rfl, _⟩
        · omega
        · exact ⟨_, _, rfl⟩
      go_wp2_with fail
      go_ret3
      exact ⟨_, g5, c5, ms, rfl, HP.out.2, HP.out.1⟩
end Go.Proofs.YtheaimlfngaaoaaDoor.Cn
