
/- HeapMerges, walked -/
import Derived.Test.YtpeapbhhlfbolaaHpTC
import Derived.Test.YtpeapbhhlfbolaaHpV
namespace Go.Proofs.Ytpeapbhhlfbolaa.HpC
open Go.RowKit Go.Lib Go.Sort Hp
set_option linter.unusedVariables false
set_option maxRecDepth 20000
/-- numbers that lie in a row -/
def InU (W : World) (a : Option Addr) (n c : Nat) (l : List Int) : Prop :=
  l.length = n ∧ n ≤ c ∧ c ≤ 9223372036854775807 ∧ (∀ x ∈ l, 0 ≤ x ∧ x < 65536) ∧ (n = 0 ∨ ∃ b o, a = some ⟨b, o, none⟩ ∧ ∀ i, i < n → W.cell? ⟨b, o + i, none⟩ = some (.int .u16 (l.getD i 0)))
theorem wrap_up {m : Nat} (h : m ≤ 1000000) : wrap64 (((m : Nat) : Int) + 1) = ((m + 1 : Nat) : Int) := by unfold wrap64; omega
def Kr (m : List (K × Int)) : Prop := ∀ p ∈ m, p.2 = p.1.tmod 7
theorem kr_put {k : Int} {m : List (K × Int)} (h : Kr m) : Kr (put k (k.tmod 7) m) := by
  intro p hp
  rcases List.mem_cons.1 hp with rfl | hp
  · rfl
  · exact h p (mem_cut.1 hp).1
theorem kr_cut {k : Int} {m : List (K × Int)} (h : Kr m) : Kr (cut k m) := fun p hp => h p (mem_cut.1 hp).1
theorem kr_nil : Kr [] := fun p hp => by simp at hp
/-- the keys of m are those of l -/
def Ks (m : List (K × Int)) (l : List Int) : Prop := ∀ q, q ∈ m.map (·.1) ↔ q ∈ l
theorem ks_put {k r : Int} {m : List (K × Int)} {l : List Int} (h : Ks m l) : Ks (put k r m) (l ++ [k]) := fun q => by
  rw [put_key, h q, List.mem_append, List.mem_singleton]
  exact Or.comm
theorem kr_perm {m m' : List (K × Int)} (h : Kr m) (h' : Kr m') (n : (m.map (·.1)).Nodup) (n' : (m'.map (·.1)).Nodup) (e : ∀ q, q ∈ m.map (·.1) ↔ q ∈ m'.map (·.1)) : m.Perm m' := by
  refine perm_of_mem (nodup_of_keys n) (nodup_of_keys n') fun p => ?_
  constructor
  · intro hp
    obtain ⟨p', hp', e1⟩ := List.mem_map.1 ((e p.1).1 (List.mem_map.2 ⟨p, hp, rfl⟩))
    have : p' = p := Prod.ext e1 (by rw [h' p' hp', h p hp, e1])
    rw [← this]; exact hp'
  · intro hp
    obtain ⟨p', hp', e1⟩ := List.mem_map.1 ((e p.1).2 (List.mem_map.2 ⟨p, hp, rfl⟩))
    have : p' = p := Prod.ext e1 (by rw [h p' hp', h' p hp, e1])
    rw [← this]; exact hp'
theorem take_next (l : List Int) {k : Nat} (h : k < l.length) : l.take (k + 1) = l.take k ++ [l.getD k 0] := by
  rw [List.take_add_one, List.getD_eq_getElem?_getD, List.getElem?_eq_getElem h]; rfl
theorem getD_in (l : List Int) {k : Nat} (h : k < l.length) : l.getD k 0 ∈ l := by
  rw [List.getD_eq_getElem?_getD, List.getElem?_eq_getElem h]; exact List.getElem_mem h
/-- both heaps have what came in so far -/
structure L1 (w : World) (x y z : Nat) (l : List Int) (k : Nat) (wr : World) : Prop where
  t : ∃ m1 m3, T3 w.heap.size wr x y z m1 [] m3 ∧ Kr m1 ∧ Kr m3 ∧ Ks m1 (l.take k) ∧ Ks m3 (l.take k) ∧ m1.length ≤ k ∧ m3.length ≤ k
  b : Below w.heap.size w wr
/-- both have what came in first, one and the other what came in then -/
structure L2 (w : World) (x y z : Nat) (l l' : List Int) (k : Nat) (wr : World) : Prop where
  t : ∃ m1 m2 m3, T3 w.heap.size wr x y z m1 m2 m3 ∧ Kr m1 ∧ Kr m2 ∧ Kr m3 ∧ Ks m1 l ∧ Ks m2 (l'.take k) ∧ Ks m3 (l ++ l'.take k) ∧ m1.length ≤ 60 ∧ m2.length ≤ k ∧ m3.length ≤ 60 + k
  b : Below w.heap.size w wr
structure L3 (w : World) (x y z : Nat) (wr : World) : Prop where
  t : ∃ m1 m2 m3, T3 w.heap.size wr x y z m1 m2 m3 ∧ Kr m1 ∧ Kr m2 ∧ Kr m3 ∧ (∀ q, q ∈ m3.map (·.1) ↔ q ∈ m1.map (·.1) ∨ q ∈ m2.map (·.1)) ∧ m1.length + m2.length ≤ 120 ∧ m3.length ≤ 120
  b : Below w.heap.size w wr
structure L4 (w : World) (x y z : Nat) (wr : World) : Prop where
  t : ∃ m1 m2 m3, T3 w.heap.size wr x y z m1 m2 m3 ∧ m1.Perm m3 ∧ m1.length ≤ 120
  b : Below w.heap.size w wr
set_option maxHeartbeats 4000000 in
theorem merges_any (w : World) (a : Option Addr) (n c : Nat) (l : List Int) (a' : Option Addr) (n' c' : Nat) (l' : List Int) (hi : InU w a n c l) (hi' : InU w a' n' c' l') :
    Calls Try.prog 5 #[.slice a n c, .slice a' n' c'] w fun e w' => e = .returned (.bool true) ∧ Below w.heap.size w w' := by
  have HLV := Lib.hid (fun W => HpV.lives_any W)
  have HI := Lib.hid (And.intro hi hi')
  have hn1 := hi.2.1
  have hn2 := hi.2.2.1
  have hn3 := hi'.2.1
  have hn4 := hi'.2.2.1
  clear hi hi'
  by_cases h60 : n ≤ 60 ∧ n' ≤ 60
  · obtain ⟨h1, h2⟩ := h60
    have h1x : ¬ ((n : Nat) : Int) > 60 := by omega
    have h2x : ¬ ((n' : Nat) : Int) > 60 := by omega
    have HNN := Lib.hid (And.intro h1 h2)
    clear h1 h2
    go_enter Try.func5, Try.ntmps5
    go_wp2_with fail
    refine (HLV.out _).mono ?_
    rintro e w1 ⟨rfl, b1⟩
    have HB1 := Lib.hid b1
    clear b1
    go_wp2_with fail
    refine (new_v _).mono ?_
    rintro e w2 ⟨rfl, v1, b2⟩
    have HB2 := Lib.hid (And.intro v1 b2)
    clear v1 b2
    go_wp2_with fail
    refine (new_v _).mono ?_
    rintro e w3 ⟨rfl, v2, b3⟩
    have HB3 := Lib.hid (And.intro v2 b3)
    clear v2 b3
    go_wp2_with fail
    refine (new_v _).mono ?_
    rintro e w4 ⟨rfl, v3, b4⟩
    have ht : T3 w.heap.size w4 w1.heap.size w2.heap.size w3.heap.size [] [] [] ∧ Below w.heap.size w w4 := by
      have z1 := HB1.out.size
      have z2 := HB2.out.2.size
      have z3 := HB3.out.2.size
      have p1 := HB2.out.1.own
      have q1 : w1.heap.size < w2.heap.size := HB2.out.1.size _ rfl
      have q2 : w2.heap.size < w3.heap.size := HB3.out.1.size _ rfl
      have q3 : w3.heap.size < w4.heap.size := v3.size _ rfl
      exact ⟨⟨_, _, _, (HB2.out.1.old HB3.out.2).old b4, HB3.out.1.old b4, v3, fun k hk e => by omega, fun k hk e => by omega, fun k hk e => by omega, fun k hk => by omega, fun k hk => by omega, fun k hk => by omega⟩,
        ((HB1.out.trans (HB2.out.2.mono z1)).trans (HB3.out.2.mono (by omega))).trans (b4.mono (by omega))⟩
    have hl1 : L1 w w1.heap.size w2.heap.size w3.heap.size l 0 w4 := ⟨⟨[], [], ht.1, kr_nil, kr_nil, fun q => by simp, fun q => by simp, Nat.le_refl _, Nat.le_refl _⟩, ht.2⟩
    have HL1 := Lib.hid hl1
    clear ht hl1 v3 b4
    obtain ⟨x, hx⟩ : ∃ x, x = w1.heap.size := ⟨_, rfl⟩
    obtain ⟨y, hy⟩ : ∃ x, x = w2.heap.size := ⟨_, rfl⟩
    obtain ⟨z, hz⟩ : ∃ x, x = w3.heap.size := ⟨_, rfl⟩
    rw [← hx, ← hy, ← hz] at HL1 ⊢
    clear hx hy hz HB1 HB2 HB3
    go_wp2_with fail
    go_loopw [36] (fun i wr => ∃ k : Nat, i = .int .i64 ((k : Nat) : Int) ∧ k ≤ n ∧ L1 w x y z l k wr) (fun i _ => n - (RowKit.intOf i).toNat)
    case atStart => exact ⟨0, rfl, Nat.zero_le _, HL1.out⟩
    case round =>
      obtain ⟨k, rfl, hk, hl⟩ := hrel
      by_cases hlt : k < n
      · have hkx : ((k : Nat) : Int) < ((n : Nat) : Int) := by omega
        obtain ⟨b, o, rfl, hcells⟩ : ∃ b o, a = some ⟨b, o, none⟩ ∧ ∀ i, i < n → w.cell? ⟨b, o + i, none⟩ = some (.int .u16 (l.getD i 0)) := by
          rcases HI.out.1.2.2.2.2 with h | h
          · omega
          · exact h
        have hll := HI.out.1.1
        have hc := hcells k hlt
        have hcr := (hl.b.cell (World.block_lt_of_cell? _ _ hc)).trans hc
        obtain ⟨v, hv⟩ : ∃ v, v = l.getD k 0 := ⟨_, rfl⟩
        rw [← hv] at hcr
        have hvb : 0 ≤ v ∧ v < 65536 := by rw [hv]; exact HI.out.1.2.2.2.1 _ (getD_in l (by omega))
        have HV := Lib.hid (And.intro hv (And.intro hvb (And.intro hlt hll)))
        have HL := Lib.hid hl
        clear hcells hc hv hvb hl hll hlt
        -- ROUND1
        have hp1 := fun m1 (X : World) (m3 : List (K × Int)) (h : T3 w.heap.size X x y z m1 [] m3) (hb : w.heap.size ≤ X.heap.size) (hn : m1.length < 1000000) => h.put hb (k := v) HV.out.2.1 (v.tmod 7) hn
        have hp3 := fun m1 (X : World) (m3 : List (K × Int)) (h : T3 w.heap.size X z x y m3 m1 []) (hb : w.heap.size ≤ X.heap.size) (hn : m3.length < 1000000) => h.put hb (k := v) HV.out.2.1 (v.tmod 7) hn
        have HP := Lib.hid (And.intro hp1 hp3)
        clear hp1 hp3
        unfold ek er at HP
        go_wp2_with fail
        obtain ⟨m1, m3, t, g⟩ := HL.out.t
        refine (HP.out.1 m1 _ m3 t HL.out.b.size (by have := HV.out.2.2.1; have := HNN.out.1; omega)).mono ?_
        rintro e w5 ⟨⟨b5, rfl⟩, t5, bb5⟩
        have HX := Lib.hid (And.intro g (And.intro t5 (HL.out.b.trans bb5)))
        clear g t t5 bb5
        go_wp2_with fail
        refine (HP.out.2 _ _ _ HX.out.2.1.rot.rot HX.out.2.2.size (by have := HX.out.1.2.2.2.2.2; have := HV.out.2.2.1; have := HNN.out.1; omega)).mono ?_
        rintro e w6 ⟨⟨b6, rfl⟩, t6, bb6⟩
        have hfin : L1 w x y z l (k + 1) w6 := by
          obtain ⟨g1, g2, g3, g4, g5, g6⟩ := HX.out.1
          refine ⟨⟨_, _, t6.rot, kr_put g1, kr_put g2, ?_, ?_, Nat.le_trans put_len (by omega), Nat.le_trans put_len (by omega)⟩, HX.out.2.2.trans bb6⟩
          · rw [take_next l (by rw [HV.out.2.2.2]; exact HV.out.2.2.1), ← HV.out.1]; exact ks_put g3
          · rw [take_next l (by rw [HV.out.2.2.2]; exact HV.out.2.2.1), ← HV.out.1]; exact ks_put g4
        have HF := Lib.hid hfin
        clear hfin t6 bb6
        go_wp2_with fail
        exact ⟨⟨k + 1, rfl, HV.out.2.2.1, HF.out⟩, by have := HV.out.2.2.1; simp [RowKit.intOf]; omega⟩
      · obtain rfl : k = n := by omega
        have hkx : ¬ ((k : Nat) : Int) < ((k : Nat) : Int) := by omega
        have hl2 : L2 w x y z l l' 0 wr := by
          obtain ⟨m1, m3, t, g1, g2, g3, g4, g5, g6⟩ := hl.t
          have h0 := HI.out.1.1
          have h1 := HNN.out.1
          rw [List.take_of_length_le (by omega)] at g3 g4
          exact ⟨⟨m1, [], m3, t, g1, kr_nil, g2, g3, fun q => by simp, fun q => by simpa using g4 q, by omega, Nat.le_refl _, by omega⟩, hl.b⟩
        have HL2 := Lib.hid hl2
        clear hl2 hl hlt hk
        go_wp2_with fail
        go_loopw [53] (fun i wr => ∃ k : Nat, i = .int .i64 ((k : Nat) : Int) ∧ k ≤ n' ∧ L2 w x y z l l' k wr) (fun i _ => n' - (RowKit.intOf i).toNat)
        case atStart => exact ⟨0, rfl, Nat.zero_le _, HL2.out⟩
        case round =>
          obtain ⟨k2, rfl, hk, hl⟩ := hrel
          by_cases hlt : k2 < n'
          · have hkx2 : ((k2 : Nat) : Int) < ((n' : Nat) : Int) := by omega
            obtain ⟨b, o, rfl, hcells⟩ : ∃ b o, a' = some ⟨b, o, none⟩ ∧ ∀ i, i < n' → w.cell? ⟨b, o + i, none⟩ = some (.int .u16 (l'.getD i 0)) := by
              rcases HI.out.2.2.2.2.2 with h | h
              · omega
              · exact h
            have hll := HI.out.2.1
            have hc := hcells k2 hlt
            have hcr := (hl.b.cell (World.block_lt_of_cell? _ _ hc)).trans hc
            obtain ⟨v, hv⟩ : ∃ v, v = l'.getD k2 0 := ⟨_, rfl⟩
            rw [← hv] at hcr
            have hvb : 0 ≤ v ∧ v < 65536 := by rw [hv]; exact HI.out.2.2.2.2.1 _ (getD_in l' (by omega))
            have HV := Lib.hid (And.intro hv (And.intro hvb (And.intro hlt hll)))
            have HL := Lib.hid hl
            clear hcells hc hv hvb hl hll hlt
            have hp1 := fun m1 m2 (X : World) (m3 : List (K × Int)) (h : T3 w.heap.size X y z x m2 m3 m1) (hb : w.heap.size ≤ X.heap.size) (hn : m2.length < 1000000) => h.put hb (k := v) HV.out.2.1 (v.tmod 7) hn
            have hp3 := fun m1 m2 (X : World) (m3 : List (K × Int)) (h : T3 w.heap.size X z x y m3 m1 m2) (hb : w.heap.size ≤ X.heap.size) (hn : m3.length < 1000000) => h.put hb (k := v) HV.out.2.1 (v.tmod 7) hn
            have HP := Lib.hid (And.intro hp1 hp3)
            clear hp1 hp3
            unfold ek er at HP
            go_wp2_with fail
            obtain ⟨m1, m2, m3, t, g⟩ := HL.out.t
            refine (HP.out.1 m1 m2 _ m3 t.rot HL.out.b.size (by have := g.2.2.2.2.2.2.2.1; have := HV.out.2.2.1; have := HNN.out.2; omega)).mono ?_
            rintro e w5 ⟨⟨b5, rfl⟩, t5, bb5⟩
            have HX := Lib.hid (And.intro g (And.intro t5 (HL.out.b.trans bb5)))
            clear g t t5 bb5
            go_wp2_with fail
            refine (HP.out.2 _ _ _ _ HX.out.2.1.rot HX.out.2.2.size (by have := HX.out.1.2.2.2.2.2.2.2.2; have := HV.out.2.2.1; have := HNN.out.2; omega)).mono ?_
            rintro e w6 ⟨⟨b6, rfl⟩, t6, bb6⟩
            have hfin : L2 w x y z l l' (k2 + 1) w6 := by
              obtain ⟨g1, g2, g3, g4, g5, g6, g7, g8, g9⟩ := HX.out.1
              refine ⟨⟨_, _, _, t6.rot, g1, kr_put g2, kr_put g3, g4, ?_, ?_, g7, Nat.le_trans put_len (by omega), Nat.le_trans put_len (by omega)⟩, HX.out.2.2.trans bb6⟩
              · rw [take_next l' (by rw [HV.out.2.2.2]; exact HV.out.2.2.1), ← HV.out.1]; exact ks_put g5
              · rw [take_next l' (by rw [HV.out.2.2.2]; exact HV.out.2.2.1), ← HV.out.1, ← List.append_assoc]; exact ks_put g6
            have HF := Lib.hid hfin
            clear hfin t6 bb6
            go_wp2_with fail
            exact ⟨⟨k2 + 1, rfl, HV.out.2.2.1, HF.out⟩, by have := HV.out.2.2.1; simp [RowKit.intOf]; omega⟩
          · obtain rfl : k2 = n' := by omega
            have hkx2 : ¬ ((k2 : Nat) : Int) < ((k2 : Nat) : Int) := by omega
            have hl3 : L3 w x y z wr := by
              obtain ⟨m1, m2, m3, t, g1, g2, g3, g4, g5, g6, g7, g8, g9⟩ := hl.t
              have h0 := HI.out.2.1
              have h1 := HNN.out.2
              rw [List.take_of_length_le (by omega)] at g5 g6
              exact ⟨⟨m1, m2, m3, t, g1, g2, g3, fun q => by rw [g6 q, g4 q, g5 q, List.mem_append], by omega, by omega⟩, hl.b⟩
            have HL3 := Lib.hid hl3
            clear hl3 hl hlt hk
            go_wp2_with fail
            go_loopw [] (fun wr => L3 w x y z wr) (fun wr => lenAt y wr)
            case atStart => exact HL3.out
            case round =>
              obtain ⟨m1, m2, m3, t, g⟩ := hrel.t
              have hlen := t.rot.len
              have hla := t.rot.lenAt
              have HL := Lib.hid (And.intro hrel.b (And.intro t (And.intro g hla)))
              by_cases hm : m2 = []
              · subst hm
                clear hrel t g hla
                go_wp2_with fail
                refine hlen.mono ?_
                rintro e w5 ⟨rfl, rfl⟩
                clear hlen
                have hl4 : L4 w x y z w5 := by
                  obtain ⟨g1, g2, g3, g4, g5, g6⟩ := HL.out.2.2.1
                  have t := HL.out.2.1
                  exact ⟨⟨m1, [], m3, t, kr_perm g1 g3 t.nodup t.rot.rot.nodup fun q => by rw [g4 q]; simp, by simpa using g5⟩, HL.out.1⟩
                have HL4 := Lib.hid hl4
                clear hl4 HL
                go_wp2_with fail
                go_loopw [] (fun wr => L4 w x y z wr) (fun wr => lenAt z wr)
                case atStart => exact HL4.out
                case round =>
                  obtain ⟨m1, m2, m3, t, g⟩ := hrel.t
                  have hlen := t.rot.rot.len
                  have hla := t.rot.rot.lenAt
                  have HL := Lib.hid (And.intro hrel.b (And.intro t (And.intro g hla)))
                  by_cases hm : m3 = []
                  · subst hm
                    have hm1 : m1 = [] := g.1.eq_nil
                    subst hm1
                    have hlen1 := t.len
                    clear hrel t g hla
                    go_wp2_with fail
                    refine hlen.mono ?_
                    rintro e w6 ⟨rfl, rfl⟩
                    clear hlen
                    go_wp2_with fail
                    refine hlen1.mono ?_
                    rintro e w6 ⟨rfl, rfl⟩
                    go_wp2_with fail
                    go_ret
                    exact ⟨by simp, HL.out.1⟩
                  · have hpos : 0 < m3.length := List.length_pos_iff.2 hm
                    have hm1 : m1 ≠ [] := fun e => hm (by have := g.1; rw [e] at this; exact this.symm.eq_nil)
                    have hp := t.pop hrel.b.size hm1 (by have := g.2; omega)
                    have HP := Lib.hid (And.intro hp (And.intro hpos hm))
                    have hgt : ((m3.length : Nat) : Int) > 0 := by omega
                    clear hrel t g hla hm hpos hp hm1
                    go_wp2_with fail
                    refine hlen.mono ?_
                    rintro e w6 ⟨rfl, rfl⟩
                    clear hlen
                    go_wp2_with fail
                    refine HP.out.1.mono ?_
                    rintro e w7 ⟨⟨p, r⟩, hp, rfl, t6, bb6⟩
                    have hbw : Below w7.heap.size w7 (w7.alloc (.cells #[.int .u16 p, .int .u16 r] 68)) := (Below.refl _ _).alloc (Nat.le_refl _) _
                    have bb7 := (HL.out.1.trans bb6).trans (hbw.mono (HL.out.1.trans bb6).size)
                    have hpop := t6.rot.rot.pop_at hbw (HL.out.1.trans bb6).size HP.out.2.2 (by have := HL.out.2.2.1.1.length_eq; have := HL.out.2.2.1.2; omega)
                    have hbx : (w7.alloc (.cells #[.int .u16 p, .int .u16 r] 68)).cell? ⟨w7.heap.size, 0, none⟩ = some (.int .u16 p) ∧ (w7.alloc (.cells #[.int .u16 p, .int .u16 r] 68)).cell? ⟨w7.heap.size, 1, none⟩ = some (.int .u16 r) := box2 w7 _ _ _
                    have hz6 : (w7.alloc (.cells #[.int .u16 p, .int .u16 r] 68)).heap.size = w7.heap.size + 1 := by simp
                    have HX := Lib.hid (And.intro hpop (And.intro hp (And.intro bb7 (And.intro hbw (And.intro hbx hz6)))))
                    clear t6 bb6 hbw bb7 hpop hp hbx hz6
                    unfold item ek er
                    go_wp2_with fail
                    refine HX.out.1.mono ?_
                    rintro e w8 ⟨⟨p', r'⟩, hp', rfl, t8, bb8, hk8⟩
                    have hpe : (p, r) = (p', r') := (HX.out.2.1.perm HL.out.2.2.1.1).one hp'
                    obtain ⟨rfl, rfl⟩ := Prod.mk.inj hpe
                    obtain ⟨Z, hZ⟩ : ∃ Z, Z = w7.alloc (.cells #[.int .u16 p, .int .u16 r] 68) := ⟨_, rfl⟩
                    have k8 : w8.heap[w7.heap.size]? = (w7.alloc (.cells #[.int .u16 p, .int .u16 r] 68)).heap[w7.heap.size]? := hk8 _ (Nat.le_refl _) (by rw [HX.out.2.2.2.2.2]; omega)
                    have c1 : w8.cell? ⟨w7.heap.size, 0, none⟩ = some (.int .u16 p) := by rw [← HX.out.2.2.2.2.1.1]; unfold World.cell?; rw [k8]
                    have c2 : w8.cell? ⟨w7.heap.size, 1, none⟩ = some (.int .u16 r) := by rw [← HX.out.2.2.2.2.1.2]; unfold World.cell?; rw [k8]
                    have hlt8 : w7.heap.size < w8.heap.size := World.block_lt_of_cell? _ _ c1
                    have hbw : Below w8.heap.size w8 (w8.alloc (.cells #[.int .u16 p, .int .u16 r] 68)) := (Below.refl _ _).alloc (Nat.le_refl _) _
                    have hfin : L4 w x y z (w8.alloc (.cells #[.int .u16 p, .int .u16 r] 68)) ∧ lenAt z (w8.alloc (.cells #[.int .u16 p, .int .u16 r] 68)) < lenAt z w6 := by
                      have t9 := (t8.old hbw).rot
                      have bb9 := HX.out.2.2.1.trans bb8
                      refine ⟨⟨⟨_, _, _, t9, cut_perm HL.out.2.2.1.1, Nat.le_trans cut_len HL.out.2.2.1.2⟩, bb9.trans (hbw.mono bb9.size)⟩, ?_⟩
                      rw [t9.rot.rot.lenAt, HL.out.2.2.2]
                      exact cut_less (List.mem_map.2 ⟨_, hp'.1, rfl⟩)
                    have HF := Lib.hid hfin
                    clear hfin t8 bb8 hk8 hbw k8 hp' hpe hZ
                    unfold item ek er
                    go_wp2_with fail
                    exact HF.out
              · have hpos : 0 < m2.length := List.length_pos_iff.2 hm
                have hp := t.rot.pop hrel.b.size hm (by have := g.2.2.2.2.1; omega)
                have HP := Lib.hid (And.intro hp hpos)
                have hgt : ((m2.length : Nat) : Int) > 0 := by omega
                clear hrel t g hla hm hpos hp
                go_wp2_with fail
                refine hlen.mono ?_
                rintro e w5 ⟨rfl, rfl⟩
                clear hlen
                go_wp2_with fail
                refine HP.out.1.mono ?_
                rintro e w6 ⟨⟨p, r⟩, hp, rfl, t6, bb6⟩
                have hbw : Below w6.heap.size w6 (w6.alloc (.cells #[.int .u16 p, .int .u16 r] 68)) := (Below.refl _ _).alloc (Nat.le_refl _) _
                have hwk : wk p := HL.out.2.1.rot.keys _ hp.1
                have t7 := (t6.old hbw).rot.rot
                have bb7 := (HL.out.1.trans bb6).trans (hbw.mono (HL.out.1.trans bb6).size)
                have hput := t7.put bb7.size hwk r (by have := HL.out.2.2.1.2.2.2.2.1; omega)
                have HX := Lib.hid (And.intro hput (And.intro hp (And.intro bb7 hbw)))
                clear t6 bb6 hbw hwk t7 bb7 hput hp
                unfold ek er at HX
                unfold item ek er
                go_wp2_with fail
                refine HX.out.1.mono ?_
                rintro e w8 ⟨⟨b8, rfl⟩, t8, bb8⟩
                have hfin : L3 w x y z w8 ∧ lenAt y w8 < lenAt y w5 := by
                  obtain ⟨g1, g2, g3, g4, g5, g6⟩ := HL.out.2.2.1
                  have hr : r = p.tmod 7 := g2 _ HX.out.2.1.1
                  have hpk : p ∈ m2.map (·.1) := List.mem_map.2 ⟨_, HX.out.2.1.1, rfl⟩
                  have hcl := cut_less hpk
                  have hpl := put_len (k := p) (r := r) (m := m1)
                  refine ⟨⟨⟨_, _, _, t8, by rw [hr]; exact kr_put g1, kr_cut g2, g3, fun q => ?_, by omega, g6⟩, HX.out.2.2.1.trans bb8⟩, ?_⟩
                  · rw [g4 q, put_key, cut_key]
                    by_cases e : q = p
                    · subst e
                      simp [hpk]
                    · simp [e]
                  · rw [t8.rot.lenAt, HL.out.2.2.2]; exact hcl
                have HF := Lib.hid hfin
                clear hfin t8 bb8
                go_wp2_with fail
                exact HF.out
  · by_cases h1 : n ≤ 60
    · have h2 : ¬ n' ≤ 60 := fun h => h60 ⟨h1, h⟩
      have h1x : ¬ ((n : Nat) : Int) > 60 := by omega
      have h2x : ((n' : Nat) : Int) > 60 := by omega
      clear h1 h2 h60
      go_enter Try.func5, Try.ntmps5
      go_wp2_with fail
      refine (HLV.out _).mono ?_
      rintro e w1 ⟨rfl, b1⟩
      have HB1 := Lib.hid b1
      clear b1
      go_wp2_with fail
      refine (HLV.out _).mono ?_
      rintro e w2 ⟨rfl, b2⟩
      have HB2 := Lib.hid b2
      clear b2
      go_wp2_with fail
      go_ret
      exact ⟨by simp, HB1.out.trans (HB2.out.mono HB1.out.size)⟩
    · have h1x : ((n : Nat) : Int) > 60 := by omega
      clear h1 h60
      go_enter Try.func5, Try.ntmps5
      go_wp2_with fail
      refine (HLV.out _).mono ?_
      rintro e w1 ⟨rfl, b1⟩
      have HB1 := Lib.hid b1
      clear b1
      go_wp2_with fail
      refine (HLV.out _).mono ?_
      rintro e w2 ⟨rfl, b2⟩
      have HB2 := Lib.hid b2
      clear b2
      go_wp2_with fail
      go_ret
      exact ⟨by simp, HB1.out.trans (HB2.out.mono HB1.out.size)⟩
end Go.Proofs.Ytpeapbhhlfbolaa.HpC
