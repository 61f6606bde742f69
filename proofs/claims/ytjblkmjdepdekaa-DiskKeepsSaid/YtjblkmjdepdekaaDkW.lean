
/- disks: what DiskKeeps' inner function leaves: the acts' writings, and a map of their texts -/
import Derived.Test.YtjblkmjdepdekaaDkG
namespace Go.Proofs.Ytjblkmjdepdekaa.Dk
open Go.RowKit Go.Lib Go.Proofs.Ytjblkmjdepdekaa.By Go.Proofs.Ytjblkmjdepdekaa.Ht
open Go.ChangeMaps Go.MapKept
open Go.Maps (Keyed)

/-- what was written to a sector -/
def txt (X : List Wr) (i : Nat) : List (List UInt8) := (X.filter fun x => x.1 == i).map (·.2)
theorem txt_snoc (X : List Wr) (k : Nat) (t : List UInt8) : txt (X ++ [(k, t)]) = fun j => if j = k then txt X k ++ [t] else txt X j := by
  funext j
  unfold txt
  rw [List.filter_append, List.map_append]
  by_cases e : j = k
  · subst e; simp
  · have : (k == j) = false := by simp; omega
    simp [this, e]
section
variable {w w' : World} {B bd gs cs gn cn n : Nat} {vw : Value} {F G : List UInt8} {W : List Wr} {dn : Bool} {b m base : Nat} {vs : Nat → Value} {L : Nat → List (List UInt8)}
theorem Grp.apart (g : Grp w b m base vs L) (h : IsDk w B bd gs cs gn cn vw n F G W dn) : ∀ k, Foot bd gs gn vw k → k ≠ b ∧ ∀ i, (vs i).ownBlock ≠ some k := fun k hk => by
  constructor
  · rintro rfl
    obtain ⟨D, ⟨es, clock, h1, _⟩, _⟩ := g.map
    rcases hk with rfl | rfl | rfl | hk
    · have := h.blk; rw [h1] at this; simp at this
    · obtain ⟨c, hc⟩ := own_type (g := k) h.os rfl; rw [h1] at hc; simp at hc
    · obtain ⟨c, hc⟩ := own_type (g := k) h.on rfl; rw [h1] at hc; simp at hc
    · obtain ⟨c, hc⟩ := own_type h.ow hk.symm; rw [h1] at hc; simp at hc
  · intro i hi
    obtain ⟨c, hc⟩ := own_type (g.own i) hi
    exact h.not_foot hc (by decide) (by decide) (by decide) hk
theorem Grp.disk (g : Grp w b m base vs L) (h : IsDk w B bd gs cs gn cn vw n F G W dn) (hf : Fr (Foot bd gs gn vw) w w') : Grp w' b m base vs L := by
  have hb : b < w.heap.size := by obtain ⟨D, hm, _⟩ := g.map; exact hm.lt
  exact g.kept (hf.block b hb fun hk => (g.apart h b hk).1 rfl) fun i k hk => hf.block k ((g.own i).lt k hk).2 fun hk2 => (g.apart h k hk2).2 i hk
theorem Fr.on {p q : Nat → Prop} {a b c : World} (h : Fr p a b) (k : Fr q b c) (hq : ∀ i, i < a.heap.size → q i → p i) : Fr p a c :=
  ⟨k.os.trans h.os, k.tape.trans h.tape, k.output.trans h.output, Nat.le_trans h.size k.size, fun i h1 h2 => (k.block i (Nat.lt_of_lt_of_le h1 h.size) (fun h3 => h2 (hq i h1 h3))).trans (h.block i h1 h2)⟩
end
theorem wp_enter {P : Program} {o : Oper} {a : Act} {w : World} {K : Act → World → Prop} {Q : Exit → Act → World → Prop} (f : FuncId) (args : Array Value) (hr : (execOp a.eval o).run P w = .ok (.enter f args) w) {R : Ending → World → Prop} (hc : Calls P f args w R)
    (h : ∀ e w', R e w' → ∃ v, e = .returned v ∧ K (a.put o.dst v) w') : Oper.wp P o a w K Q := by
  unfold Oper.wp
  rw [hr]
  exact hc.mono fun e w' hR => by obtain ⟨v, rfl, hk⟩ := h e w' hR; exact hk
theorem fill_str {t : List UInt8} {Z : Array Value} (hZ : Z.size = 1) : Instr.fill (fun i => some (i * 1, 1)) Z [(0, strV t)] = some #[strV t] := by
  have := Great.fill_whole (s := 1) (by decide) [strV t] Z (by intro v hv; obtain rfl := List.mem_singleton.1 hv; rfl) (by simp [hZ])
  simpa [strV, Value.cells] using this
theorem wp_mapUpdate {P : Program} {o : Oper} {a : Act} {w : World} {K : Act → World → Prop} {Q : Exit → Act → World → Prop} (t : TypeId) (m x v : Operand) (hop : o.op = Op.mapUpdate t m x v) (mv kv vv : Value) (h1 : a.eval m = mv) (h2 : a.eval x = kv) (h3 : a.eval v = vv)
    {w2 : World} (hr : (Instr.mapUpdate t mv kv vv).run P w = .ok () w2) (h : K (a.put o.dst undef) w2) : Oper.wp P o a w K Q := by
  unfold Oper.wp
  simp [execOp, hop, h1, h2, h3, hr, Result.andThen]
  exact h
theorem Fr.grown {a b : World} {row : Option Nat} (h : a.grownBy b row) : Fr (fun k => some k = row) a b := ⟨h.os, h.tape, h.output, h.size, fun k h1 h2 => h.block k h1 h2⟩
theorem zeroStrs : ∀ w : World, (zeroValue 34).run Try.prog w = .ok (.slice none 0 0) w := fun w => by go_simp
theorem info9 : (Try.prog.info? 9).map (fun i => (i.zero, i.size, i.bytes)) = some (some (.string ⟨#[]⟩), 1, 16) := by kernel_rfl
theorem act_cells {w : World} {b : Nat} {v0 v1 v2 v3 v4 : Value} {t : TypeId} (h : w.heap[b]? = some (.cells #[v0, v1, v2, v3, v4] t (0, 0))) :
    w.cell? ⟨b, 0, none⟩ = some v0 ∧ w.cell? ⟨b, 1, none⟩ = some v1 ∧ w.cell? ⟨b, 2, none⟩ = some v2 ∧ w.cell? ⟨b, 3, none⟩ = some v3 ∧ w.cell? ⟨b, 4, none⟩ = some v4 := by
  refine ⟨?_, ?_, ?_, ?_, ?_⟩ <;> simp [World.cell?, h]
theorem str_of {w : World} {a : Option Addr} {len cap : Nat} {l : List UInt8} (h : IsB w a len cap l) : (convert 30 9 (.slice a len cap)).run Try.prog w = .ok (.string ⟨l.toArray⟩) w := by
  obtain ⟨rfl, ⟨rfl, h0, rfl⟩ | ⟨x, rfl, _, _, hcs⟩⟩ := h
  · obtain rfl : l = [] := List.length_eq_zero_iff.1 h0
    exact run_convert_nil_bytes w 30 9 5 0 Try.underlying30 Try.underlying5 Try.underlying9
  · exact run_convert_bytes_back w 30 9 5 x cap l Try.underlying30 Try.underlying5 Try.underlying9 (fun j hj => hcs j _ (by simp [byteCells, hj]))
def Rel (w : World) (B bd gs cs gn cn : Nat) (vw : Value) (F : List UInt8) (W : List Wr) (b base k : Nat) (wr : World) : Prop :=
  ∃ n vs X vw', n ≤ k ∧ X.length ≤ k ∧ IsDk wr B bd gs cs gn cn vw' 8 F (ov F (W ++ X)) (W ++ X) false ∧ Grp wr b n base vs (txt X) ∧ (vw'.ownBlock = vw.ownBlock ∨ ∃ g, vw'.ownBlock = some g ∧ w.heap.size ≤ g) ∧ Fr (Foot bd gs gn vw) w wr
set_option maxRecDepth 20000 in
set_option maxHeartbeats 4000000 in
theorem map_any {w : World} {B bd gs cs gn cn : Nat} {vw : Value} {F : List UInt8} {W : List Wr} {q : Nat} (h : IsDk w B bd gs cs gn cn vw 8 F (ov F W) W false)
    (hq : w.heap[q]? = some (.cells #[.pointer (some ⟨bd, 0, none⟩)] 25 (0, 0))) (a : Option Addr) (cap : Nat) (L : List Act4) (hL : ∀ X, Below B w X → IsActs X a L) (hc : L.length ≤ cap ∧ cap ≤ 9223372036854775807) (h60 : L.length ≤ 60) (hW : W.length ≤ 60) :
    Calls Try.prog 6 #[.slice a L.length cap, .pointer (some ⟨q, 0, none⟩)] w fun e w' => e = .returned (.map (some w.heap.size)) ∧ Rel w B bd gs cs gn cn vw F W w.heap.size (w.heap.size + 1) L.length w' := by
  have hmm := @run_makeMap Try.prog
  have HI := Lib.hid hL
  have HQ := Lib.hid hq
  have h0 : Rel w B bd gs cs gn cn vw F W w.heap.size (w.heap.size + 1) 0 (w.alloc (.map #[] 0)) := by
    have hb : Below w.heap.size w (w.alloc (.map #[] 0)) := (Below.refl _ _).alloc (Nat.le_refl _) _
    exact ⟨0, _, [], vw, Nat.le_refl _, Nat.le_refl _, by simpa using h.old hb, Grp.made w, .inl rfl, Fr.of hb⟩
  have H0 := Lib.hid (And.intro h h0)
  have HB := Lib.hid (And.intro h60 hW)
  clear hL hq h h0 h60 hW
  go_enter Try.func6, Try.ntmps6
  go_wp2_with fail
  go_loopw [10] (fun kv wr => ∃ k : Nat, k ≤ L.length ∧ kv = .int .i64 k ∧ Rel w B bd gs cs gn cn vw F W w.heap.size (w.heap.size + 1) k wr) (fun kv _ => L.length - (intOf kv).toNat)
  case atStart => exact ⟨0, Nat.zero_le _, rfl, H0.out.2⟩
  case round =>
    obtain ⟨k, hk, rfl, hrel⟩ := hrel
    by_cases hlt : k < L.length
    · obtain ⟨n, vs, X, vw', hn, hX, hdk, hgr, hvw, hfr⟩ := hrel
      obtain ⟨x, hx⟩ : ∃ x, x = L[k] := ⟨_, rfl⟩
      obtain ⟨b, o, rfl, hact⟩ : ∃ b o, a = some ⟨b, o, none⟩ ∧ ActAt wr b o k x := by
        rcases HI.out wr (H0.out.1.below hfr) with h0 | ⟨b, o, e, h⟩
        · rw [h0] at hlt; simp at hlt
        · exact ⟨b, o, e, by rw [hx]; exact h k hlt⟩
      obtain ⟨⟨c0, c1, c2, c3, c4⟩, hib, hat⟩ := hact
      obtain ⟨C, hC⟩ : ∃ C : Array Value, C = #[.int .i64 x.k, .int .i64 x.at', .int .i64 x.n, .slice x.a x.l.length x.cap, .int .u64 (x.keep : Nat)] := ⟨_, rfl⟩
      have hal : Below wr.heap.size wr (wr.alloc (.cells C 32)) := (Below.refl _ _).alloc (Nat.le_refl _) _
      have hq2 : wr.heap[q]? = some (.cells #[.pointer (some ⟨bd, 0, none⟩)] 25 (0, 0)) := (hfr.block q (lt_of_block HQ.out) (H0.out.1.not_foot HQ.out (by decide) (by decide) (by decide))).trans HQ.out
      have hqa := (hal.block q (lt_of_block hq2)).trans hq2
      have hcq := cell_of_one hqa
      have hlm := hib.le
      unfold maxLen at hlm
      have HK := Lib.hid (And.intro (hdk.old hal) (And.intro (hgr.old hal) (And.intro (hib.old hal) (And.intro (heap_alloc_new wr (.cells C 32)) (And.intro (hfr.on (Fr.of hal) (q := Foot bd gs gn vw) (fun _ _ hk => hk)) (And.intro hvw (And.intro hn (And.intro hX hat))))))))
      have HC := Lib.hid (And.intro hC hx)
      have hkc : (k : Int) < (L.length : Int) := by omega
      rw [hC] at hcq
      clear hdk hgr hib hat hx hfr hvw hn hX hal hq2 hqa hC
      by_cases hl : x.l.length ≤ 64
      · have hlI : (x.l.length : Int) ≤ 64 := by omega
        go_wp2_with fail
        rw [← HC.out.1]
        refine (write_any HK.out.1 x.at' HK.out.2.2.2.2.2.2.2.2 x.a x.l.length x.cap x.l hl HK.out.2.2.1 (by simp; have := HK.out.2.2.2.2.2.2.2.1; have := HB.out; omega)).mono ?_
        rintro e w1 ⟨e0, vw2, W', rfl, hd', hor, hv2, hf'⟩
        have hg1 := HK.out.2.1.disk HK.out.1 hf'
        have hfr1 := HK.out.2.2.2.2.1.on hf' (fun j hj hf => by
          rcases hf with hf | hf | hf | hf
          · exact .inl hf
          · exact .inr (.inl hf)
          · exact .inr (.inr (.inl hf))
          · rcases HK.out.2.2.2.2.2.1 with hv | ⟨g, hv, hlt⟩
            · exact .inr (.inr (.inr (hf.trans hv)))
            · rw [hv] at hf; simp at hf; omega)
        have hv3 : vw2.ownBlock = vw.ownBlock ∨ ∃ g, vw2.ownBlock = some g ∧ w.heap.size ≤ g := by
          have hz : w.heap.size ≤ (wr.alloc (.cells C 32)).heap.size := HK.out.2.2.2.2.1.size
          rcases hv2 with hv | ⟨g, hv, hlt⟩
          · rw [hv]; exact HK.out.2.2.2.2.2.1
          · exact .inr ⟨g, hv, Nat.le_trans hz hlt⟩
        have hqa1 : w1.heap[wr.heap.size]? = some (.cells C 32 (0, 0)) := (hf'.block _ (by simp) (HK.out.1.not_foot HK.out.2.2.2.1 (by decide) (by decide) (by decide))).trans HK.out.2.2.2.1
        rcases hor with ⟨rfl, rfl⟩ | ⟨i, hi, hi8, rfl, rfl⟩
        · have HR := Lib.hid (And.intro hd' (And.intro hg1 (And.intro hfr1 hv3)))
          clear hd' hg1 hfr1 hv2 hv3 hqa1 hf'
          go_wp2_with fail
          go_roundw
          case rel => exact ⟨k + 1, by omega, by go_num, n, vs, X, vw2, by have := HK.out.2.2.2.2.2.2.1; omega, by have := HK.out.2.2.2.2.2.2.2.1; omega, HR.out.1, HR.out.2.1, HR.out.2.2.2, HR.out.2.2.1⟩
          case measure => simp [intOf]; omega
        · have hIB : ∀ Y, Below B w Y → IsB Y x.a x.l.length x.cap x.l := fun Y hY => by
            rcases HI.out Y hY with h0 | ⟨b', o', e, h⟩
            · rw [h0] at hlt; simp at hlt
            · have := (h k hlt).2.1
              rwa [← HC.out.2] at this
          have hLK : ∀ Y, Y.heap[w.heap.size]? = w1.heap[w.heap.size]? → (Instr.lookup 29 (.map (some w.heap.size)) (.int .i64 (i : Nat)) false).run Try.prog Y = .ok (vs i) Y := fun Y hY => hg1.look' hY zeroStrs (by omega)
          have HIB := Lib.hid hIB
          have HLK := Lib.hid hLK
          have HKI := Lib.hid (show i ≤ 1000000 by omega)
          have HR := Lib.hid (And.intro hd' (And.intro hg1 (And.intro hfr1 (And.intro hv3 (And.intro hi hi8)))))
          have hmix : Try.prog.follows .mixedOrders = true := by kernel_rfl
          have hS1 : w1.heap[wr.heap.size]? = some (.cells #[.int .i64 x.k, .int .i64 (i : Nat), .int .i64 x.n, .slice x.a x.l.length x.cap, .int .u64 (x.keep : Nat)] 32 (0, 0)) ∧ Grp w1 w.heap.size n (w.heap.size + 1) vs (txt X) ∧ Below B w w1 := by
            rw [HC.out.1, hi] at hqa1
            exact ⟨hqa1, hg1, H0.out.1.below hfr1⟩
          clear hd' hg1 hfr1 hv2 hv3 hqa1 hf' hIB hLK hi hi8
          go_wp2_with fail
          refine begin' 13 (fun Y => Y.heap[wr.heap.size]? = some (.cells #[.int .i64 x.k, .int .i64 (i : Nat), .int .i64 x.n, .slice x.a x.l.length x.cap, .int .u64 (x.keep : Nat)] 32 (0, 0)) ∧ Y.heap[w.heap.size]? = w1.heap[w.heap.size]? ∧ Below B w Y) hmix ⟨hS1.1, rfl, hS1.2.2.drew⟩ (fun hS0 => ?_)
          refine Ht.take (i := 0) ⟨some 27, _, _, _, _, _⟩ (.map (some w.heap.size)) rfl (by kernel_rfl) (by kernel_rfl) (by decide) (by kernel_rfl) (by kernel_rfl) (by kernel_rfl) hS0 (Or.inl ⟨by rfl, by (intro X hX; go_simp)⟩) ?_
          simp only [Act.put, List.setIfInBounds_toArray, List.set_cons_zero, List.set_cons_succ]
          refine Ht.take (i := 1) ⟨some 28, _, _, _, _, _⟩ (.pointer (some ⟨wr.heap.size, 1, none⟩)) rfl (by kernel_rfl) (by kernel_rfl) (by decide) (by kernel_rfl) (by kernel_rfl) (by kernel_rfl) hS0 (Or.inl ⟨by rfl, by (intro X hX; go_simp)⟩) ?_
          simp only [Act.put, List.setIfInBounds_toArray, List.set_cons_zero, List.set_cons_succ]
          refine Ht.take (i := 2) ⟨some 29, _, _, _, _, _⟩ (.int .i64 (i : Nat)) rfl (by kernel_rfl) (by kernel_rfl) (by decide) (by kernel_rfl) (by kernel_rfl) (by kernel_rfl) hS0 (Or.inl ⟨by rfl, by (intro X hX; have := (act_cells hX.1).2.1; go_simp)⟩) ?_
          simp only [Act.put, List.setIfInBounds_toArray, List.set_cons_zero, List.set_cons_succ]
          refine Ht.take (i := 3) ⟨some 30, _, _, _, _, _⟩ (.map (some w.heap.size)) rfl (by kernel_rfl) (by kernel_rfl) (by decide) (by kernel_rfl) (by kernel_rfl) (by kernel_rfl) hS0 (Or.inl ⟨by rfl, by (intro X hX; go_simp)⟩) ?_
          simp only [Act.put, List.setIfInBounds_toArray, List.set_cons_zero, List.set_cons_succ]
          refine Ht.take (i := 4) ⟨some 31, _, _, _, _, _⟩ (.pointer (some ⟨wr.heap.size, 1, none⟩)) rfl (by kernel_rfl) (by kernel_rfl) (by decide) (by kernel_rfl) (by kernel_rfl) (by kernel_rfl) hS0 (Or.inl ⟨by rfl, by (intro X hX; go_simp)⟩) ?_
          simp only [Act.put, List.setIfInBounds_toArray, List.set_cons_zero, List.set_cons_succ]
          refine Ht.take (i := 5) ⟨some 32, _, _, _, _, _⟩ (.int .i64 (i : Nat)) rfl (by kernel_rfl) (by kernel_rfl) (by decide) (by kernel_rfl) (by kernel_rfl) (by kernel_rfl) hS0 (Or.inl ⟨by rfl, by (intro X hX; have := (act_cells hX.1).2.1; go_simp)⟩) ?_
          simp only [Act.put, List.setIfInBounds_toArray, List.set_cons_zero, List.set_cons_succ]
          refine Ht.take (i := 6) ⟨some 33, _, _, _, _, _⟩ (vs i) rfl (by kernel_rfl) (by kernel_rfl) (by decide) (by kernel_rfl) (by kernel_rfl) (by kernel_rfl) hS0 (Or.inl ⟨by rfl, by (intro X hX; have := HLK.out X hX.2.1; go_simp)⟩) ?_
          simp only [Act.put, List.setIfInBounds_toArray, List.set_cons_zero, List.set_cons_succ]
          refine Ht.take (i := 7) ⟨some 34, _, _, _, _, _⟩ (.pointer (some ⟨wr.heap.size, 3, none⟩)) rfl (by kernel_rfl) (by kernel_rfl) (by decide) (by kernel_rfl) (by kernel_rfl) (by kernel_rfl) hS0 (Or.inl ⟨by rfl, by (intro X hX; go_simp)⟩) ?_
          simp only [Act.put, List.setIfInBounds_toArray, List.set_cons_zero, List.set_cons_succ]
          refine Ht.take (i := 8) ⟨some 35, _, _, _, _, _⟩ (.slice x.a x.l.length x.cap) rfl (by kernel_rfl) (by kernel_rfl) (by decide) (by kernel_rfl) (by kernel_rfl) (by kernel_rfl) hS0 (Or.inl ⟨by rfl, by (intro X hX; have := (act_cells hX.1).2.2.2.1; go_simp)⟩) ?_
          simp only [Act.put, List.setIfInBounds_toArray, List.set_cons_zero, List.set_cons_succ]
          refine Ht.take (i := 9) ⟨some 36, _, _, _, _, _⟩ (.string ⟨x.l.toArray⟩) rfl (by kernel_rfl) (by kernel_rfl) (by decide) (by kernel_rfl) (by kernel_rfl) (by kernel_rfl) hS0 (Or.inl ⟨by rfl, by (intro X hX; have := str_of (HIB.out X hX.2.2); go_simp)⟩) ?_
          simp only [Act.put, List.setIfInBounds_toArray, List.set_cons_zero, List.set_cons_succ]
          refine Ht.step (i := 10) ⟨some 37, _, _, _, _, _⟩ rfl (by kernel_rfl) (by rfl) (fun K hK => ?_)
          refine wp_enter 8 #[.string ⟨x.l.toArray⟩] (by have hen := fun args w => enters_of (P := Try.prog) Try.func8 (by kernel_rfl) rfl args w; go_simp) (full_any x.l hl _) ?_
          rintro e W1 ⟨rfl, rfl⟩
          refine ⟨_, rfl, hK _ _ (fun _ => hS0) (fun _ => ?_)⟩
          clear hK K
          simp only [Act.put, List.setIfInBounds_toArray, List.set_cons_zero, List.set_cons_succ]
          refine Ht.step (i := 11) ⟨some 38, _, _, _, _, _⟩ rfl (by kernel_rfl) (by rfl) (fun K hK => ?_)
          obtain ⟨iw, hiw, hiw0, hiw1, hiw2⟩ := info_parts info9
          refine wp_buildSlice 34 9 1 _ rfl #[strV (full x.l)] iw _ Try.underlying34 hiw hiw0 (by rw [hiw1]; decide) (by rw [hiw1]; decide) ?fill ?_
          case fill =>
            rw [hiw1]
            simp only [Array.toList_map, List.map_cons, List.map_nil]
            exact fill_str (by rw [Array.size_map, Array.size_range])
          simp only [Act.put, List.setIfInBounds_toArray, List.set_cons_zero, List.set_cons_succ]
          have hb4 : Below w1.heap.size w1 (w1.drew.alloc (.cells #[strV (full x.l)] 9)) := (Below.refl _ w1).drew.alloc (by simp) _
          have hz1 : w.heap.size + 1 ≤ w1.heap.size := by
            obtain ⟨D, hm, _⟩ := hS1.2.1.map
            exact hm.lt
          have hBw : B ≤ w.heap.size := Nat.le_trans H0.out.1.hb (Nat.le_of_lt (lt_of_block H0.out.1.blk))
          have hg4 := hS1.2.1.old hb4
          have hS4 : (w1.drew.alloc (.cells #[strV (full x.l)] 9)).heap[wr.heap.size]? = some (.cells #[.int .i64 x.k, .int .i64 (i : Nat), .int .i64 x.n, .slice x.a x.l.length x.cap, .int .u64 (x.keep : Nat)] 32 (0, 0)) ∧ (w1.drew.alloc (.cells #[strV (full x.l)] 9)).heap[w.heap.size]? = w1.heap[w.heap.size]? ∧ Below B w (w1.drew.alloc (.cells #[strV (full x.l)] 9)) :=
            ⟨(hb4.block _ (lt_of_block hS1.1)).trans hS1.1, hb4.block _ hz1, hS1.2.2.trans (hb4.mono (by omega))⟩
          refine hK _ _ (fun _ => hS4) (fun _ => ?_)
          clear hK K
          have hlen : (txt X i).length ≤ 60 := by
            have := HK.out.2.2.2.2.2.2.2.1
            have := HB.out
            have := List.length_filter_le (fun x : Wr => x.1 == i) X
            simp only [txt, List.length_map]
            omega
          refine Ht.step (i := 12) ⟨some 39, _, _, _, _, _⟩ rfl (by kernel_rfl) (by rfl) (fun K hK => ?_)
          refine Ao.wp_append_own_new _ _ _ 34 rfl (w.heap.size + 1) 9 iw _ 1 16 Try.underlying34 hiw hiw0 hiw1 hiw2 (by rfl) (by decide) (vs i) (txt X i).length ((txt X i).map strV) rfl (hg4.own i) ⟨w1.drew.heap.size, 0, none⟩ 1 1 [strV (full x.l)] rfl rfl (cell_one_new _ _ _) (by simp [strV, Value.oneCell']) ?n1 ?n2 ?n3 ?_
          case n1 => unfold maxLen; omega
          case n2 => omega
          case n3 => simp; omega
          intro v5 W5 hown5 hg5 hnew5
          simp only [Act.put, List.setIfInBounds_toArray, List.set_cons_zero, List.set_cons_succ]
          have hrow : ∀ k, some k = (vs i).ownBlock → w.heap.size + 1 ≤ k := fun k hk => ((hg4.own i).lt k hk.symm).1
          have hS5 : W5.heap[wr.heap.size]? = some (.cells #[.int .i64 x.k, .int .i64 (i : Nat), .int .i64 x.n, .slice x.a x.l.length x.cap, .int .u64 (x.keep : Nat)] 32 (0, 0)) ∧ W5.heap[w.heap.size]? = w1.heap[w.heap.size]? ∧ Below B w W5 := by
            refine ⟨(hg5.block _ (lt_of_block hS4.1) (fun e => ?_)).trans hS4.1, (hg5.block _ (Nat.lt_of_lt_of_le hz1 hb4.size) (fun e => ?_)).trans hS4.2.1, hS4.2.2.grown hg5 (Nat.le_trans hBw hS4.2.2.size) (fun j hj => by have := hrow j hj.symm; omega)⟩
            · obtain ⟨c, hc⟩ := own_type (hg4.own i) e.symm
              rw [hS4.1] at hc; simp at hc
            · have := hrow _ e; omega
          refine hK _ _ (fun _ => hS5) (fun _ => ?_)
          clear hK K
          refine Ht.step (i := 13) ⟨none, _, _, _, _, _⟩ rfl (by kernel_rfl) (by rfl) (fun K hK => ?_)
          have hn1 := HK.out.2.2.2.2.2.2.1
          obtain ⟨W6, hr6, hg6, ht6⟩ := hg4.put (by have := HB.out; omega) HKI.out hg5 hown5 hnew5
          refine wp_mapUpdate 29 _ _ _ rfl _ _ _ rfl rfl rfl hr6 ?_
          refine hK _ _ (fun h => absurd rfl h) (fun _ => ?_)
          clear hK K
          refine done (by kernel_rfl) ?_
          dsimp only [Act.put]
          have hap := hS1.2.1.apart HR.out.1
          have hdk6 : IsDk W6 B bd gs cs gn cn vw2 8 F (ov F (W ++ (X ++ [(i, full x.l)]))) (W ++ (X ++ [(i, full x.l)])) false := by
            rw [← List.append_assoc]
            exact HR.out.1.other fun j hj hf => by
              have h1 := hap j hf
              have hz4 := hb4.size
              exact (ht6.block j (Nat.lt_of_lt_of_le (Nat.lt_of_lt_of_le hj hz4) hg5.size) (fun e => h1.1 (Option.some.inj e))).trans ((hg5.block j (Nat.lt_of_lt_of_le hj hz4) (fun e => h1.2 i e.symm)).trans (hb4.block j hj))
          have hfr6 := ((HR.out.2.2.1.on (Fr.of (p := fun _ => False) hb4) (fun _ _ h => h.elim)).on (Fr.grown hg5) (fun j hj e => by have := hrow j e; omega)).on (Fr.grown ht6) (fun j hj e => by cases e; omega)
          rw [← txt_snoc] at hg6
          have H6 := Lib.hid (And.intro hdk6 (And.intro hg6 (And.intro hfr6 HR.out.2.2.2.1)))
          clear hdk6 hg6 hfr6 hap hr6 ht6 hS5 hS4 hg4 hown5 hg5 hnew5 hrow hlen hb4 hz1 hBw hiw hiw0 hiw1 hiw2 hS0 hS1 hmix hn1
          go_wp2_with fail
          go_roundw
          case rel => exact ⟨k + 1, by omega, by go_num, n + 1, _, X ++ [(i, full x.l)], vw2, by have := HK.out.2.2.2.2.2.2.1; omega, by have := HK.out.2.2.2.2.2.2.2.1; simp; omega, H6.out.1, H6.out.2.1, H6.out.2.2.2, H6.out.2.2.1⟩
          case measure => simp [intOf]; omega
      · have hlI : ¬ (x.l.length : Int) ≤ 64 := by omega
        go_wp2_with fail
        rw [← HC.out.1]
        go_roundw
        case rel => exact ⟨k + 1, by omega, by go_num, n, vs, X, vw', by have := HK.out.2.2.2.2.2.2.1; omega, by have := HK.out.2.2.2.2.2.2.2.1; omega, HK.out.1, HK.out.2.1, HK.out.2.2.2.2.2.1, HK.out.2.2.2.2.1⟩
        case measure => simp [intOf]; omega
    · obtain rfl : k = L.length := by omega
      have HR := Lib.hid hrel
      clear hrel
      go_wp2_with fail
      go_ret
      exact ⟨rfl, HR.out⟩
end Go.Proofs.Ytjblkmjdepdekaa.Dk
