
/- rows of jobs that are written: Put -/
import Derived.Test.YtcodjknhnhdkfaaDoorIm2
import Derived.Deep.WholeRow
namespace Go.Proofs.YtcodjknhnhdkfaaDoor.Im
open Go.RowKit Go.Lib Wn Rf By Cm
set_option linter.unusedVariables false
set_option maxRecDepth 20000
/-- a row of jobs that may be read -/
structure Js (w : World) (a : Option Addr) (n : Nat) (ls : List Jb) : Prop where
  len : ls.length = n
  none : a = .none → n = 0
  at' : n = 0 ∨ ∃ b, a = some ⟨b, 0, .none⟩ ∧ ∀ i (h : i < ls.length), w.rangeAt b (i * 21) ls[i].cs
  ds : ∀ j ∈ ls, Jd w j
theorem range_old {w w' : World} {b o : Nat} {vs : List Value} {N : Nat} (h : w.rangeAt b o vs) (hb : Below N w w') (hN : b < N) : w'.rangeAt b o vs := fun j v hj => (hb.cell (p := ⟨b, o + j, none⟩) hN).trans (h j v hj)
theorem range_lt {w : World} {b o : Nat} {vs : List Value} (h : w.rangeAt b o vs) (hl : 0 < vs.length) : b < w.heap.size :=
  World.block_lt_of_cell? w _ (h 0 vs[0] (List.getElem?_eq_getElem hl))
theorem Js.old {w w' : World} {a : Option Addr} {n : Nat} {ls : List Jb} (h : Js w a n ls) (hb : Below w.heap.size w w') : Js w' a n ls where
  len := h.len
  none := h.none
  at' := h.at'.imp_right fun ⟨b, h1, h2⟩ => ⟨b, h1, fun i hi => range_old (h2 i hi) hb (range_lt (h2 i hi) (by rw [Jb.len]; omega))⟩
  ds j hj := (h.ds j hj).old hb
theorem sc_job (W : World) (C : Array Value) (hl : C.size = 21) (h1 : ∀ v ∈ C.toList, v.oneCell' = true) : (storeCells ⟨W.heap.size, 0, none⟩ C.toList).run Tryd.prog (W.alloc (.cells jobZ.toArray 52)) = .ok () (W.alloc (.cells C 52)) := by
  have := run_storeCells_from (P := Tryd.prog) W.heap.size 52 C.toList 0 jobZ.toArray (W.alloc (.cells jobZ.toArray 52)) (heap_alloc_new W _) (by rw [Nat.zero_add, Array.length_toList, hl]; rfl) h1
  rw [this]
  simp only [List.take_zero, List.nil_append, Array.toArray_toList, World.setRow_alloc_new]
theorem putJF_idle (p q : Addr) (w : World) :
    CallsD Tryd.prog 29 #[.pointer (some p), .pointer (some q)] .returning w fun e u' w' => e = .returned (.tuple #[]) ∧ u' = .returning ∧ w' = w := by
  refine callsD_of_wpS Tryd.func29 rfl fun c₀ cs hu => ?_
  apply wpS_seq
  apply wpS_region
  simp [wpOpsS, go_sem, recoverD, hu, Tryd.ntmps29, Exit.thenS]
  refine wpS_cond (t := false) (by simp [Act.eval, Array.replicate]) ?_
  simp only [Bool.false_eq_true, if_false]
  refine wpS_of_wp (wp_skip ?_)
  cases c₀
  simp_all [bodyPostS, results, Tryd.results29]
/-- a row of jobs lies in a block of jobs, their Deps in blocks of texts -/
def Ahd (w : World) (a : Option Addr) (ls : List Jb) : Prop := (∀ b o, a = some ⟨b, o, none⟩ → ∃ cur, w.heap[b]? = some (.cells cur 52 (0, 0))) ∧ ∀ j ∈ ls, Typed w j
theorem fr_str {B pb : Nat} {w w' : World} {bs : List UInt8} (hf : Fr B pb w w') (hw : Wr B w pb bs) {b : Nat} {cur : Array Value} {t : TypeId} (hc : w.heap[b]? = some (.cells cur t (0, 0))) (h1 : t ≠ 5) (h2 : t ≠ 40) : w'.heap[b]? = w.heap[b]? := hf.more b (lt_of_block hc) (by
  rintro rfl
  obtain ⟨v, hp, _⟩ := hw
  rw [hp] at hc
  simp only [Option.some.injEq, Obj.cells.injEq] at hc
  exact h2 hc.2.1.symm) (by rw [hc]; intro cur q; simp only [Option.some.injEq, Obj.cells.injEq] at q; exact h1 q.2.1)
theorem dp_fr {B pb : Nat} {w w' : World} {bs : List UInt8} {j : Jb} (h : Jd w j) (hf : Fr B pb w w') (hw : Wr B w pb bs) (ha : Typed w j) : Jd w' j ∧ Typed w' j := by
  have hk : ∀ b cur, w.heap[b]? = some (Obj.cells cur 9 (0, 0)) → w'.heap[b]? = w.heap[b]? := fun b cur hc => fr_str hf hw hc (by decide) (by decide)
  refine ⟨⟨h.1, h.2.1, ?_⟩, fun h0 b o e => by obtain ⟨cur, hc⟩ := ha h0 b o e; exact ⟨cur, (hk b cur hc).trans hc⟩⟩
  rcases h.2.2 with h0 | ⟨b, o, h1, h2⟩
  · exact .inl h0
  · by_cases h0 : j.sp.n = 0
    · exact .inl h0
    · obtain ⟨cur, hc⟩ := ha (by omega) b o h1
      exact .inr ⟨b, o, h1, fun i hi => (World.cell?_of_block (w := w) (a := ⟨b, o + i, none⟩) (hk b cur hc)).trans (h2 i hi)⟩
set_option maxHeartbeats 2000000 in
theorem put_j (B pb : Nat) (a : Option Addr) (n c : Nat) (ls : List Jb) (bs : List UInt8) (w : World) (hd : Js w a n ls) (ha : Ahd w a ls) (hx : ∀ j ∈ ls, j.wf ∧ j.med) (hpb : pb < B) (hB : B ≤ w.heap.size) (hw : Wr B w pb bs)
    (hlen : bs.length + (ls.flatMap jobB).length ≤ 400000) (hn : n ≤ 1000000) :
    Calls Tryd.prog 17 #[.pointer (some ⟨pb, 0, none⟩), .slice a n c, .func (.func 20) #[] #[]] w (Put1 B pb (bs ++ (uvarint n ++ ls.flatMap jobB)) w) := by
  have hmf : ∀ (fn : Fn) (first cap : Array Value) (w : World), (Instr.makeFunc fn first cap).run Tryd.prog w = .ok (.func fn first cap) w := fun _ _ _ _ => rfl
  have hu : U64 n := by unfold U64; omega
  have hul := uvarint_length64 hu
  obtain ⟨v0, hp0, hown0⟩ := id hw
  obtain ⟨ao, cp, hao⟩ := own_shape hown0
  subst hao
  have hc0 := cell_of_one hp0
  have hsz := lt_of_block hp0
  obtain ⟨V, hV⟩ : ∃ V, V = (w.alloc (.cells #[.pointer (some ⟨pb, 0, none⟩)] 38)).alloc (.cells #[.int .i64 bs.length] 3) := ⟨_, rfl⟩
  have hb : Below w.heap.size w V := by rw [hV]; exact ((Below.refl _ _).alloc (Nat.le_refl _) _).alloc (by simp) _
  have h3 : V.heap[w.heap.size]? = some (.cells #[.pointer (some ⟨pb, 0, none⟩)] 38 (0, 0)) := by rw [hV]; exact ((Below.refl (w.heap.size + 1) _).alloc (by simp) _ |>.block _ (by omega)).trans (heap_alloc_new w _)
  have hsV : V.heap.size = w.heap.size + 2 := by rw [hV]; simp
  have hwV : Wr B V pb bs := hw.below hb hsz (fun k hk => hk)
  have hdV := hd.old hb
  have haV : Ahd V a ls := ⟨fun b o e => by obtain ⟨cur, hc⟩ := ha.1 b o e; exact ⟨cur, Sp.old2 hb hc⟩, fun j hj => (ha.2 j hj).old hb⟩
  have H0 := Lib.hid (num_w B pb n bs V hu hpb (by omega) hwV (by omega))
  have HF0 : Fr B pb w V := Fr.ofBelow hb hB
  have HX := Lib.hid (And.intro hdV (And.intro haV (And.intro hx (And.intro HF0 (And.intro hb (And.intro h3 (And.intro hsV hwV)))))))
  clear hd hdV ha haV hwV hp0 hown0 hw hb HF0 h3
  have hwr : IntKind.u64.wrap (n : Int) = n := by rw [IntKind.wrap_u64]; omega
  go_enter_defers Tryd.func17, Tryd.ntmps17
  go_wp2_with fail
  rw [← hV]
  have HV := Lib.hid hV
  clear hV
  refine H0.out.mono ?_
  rintro e w1 ⟨rfl, hw1, hf1⟩
  have hlt1 := hf1.size
  have b3 : w1.heap[w.heap.size]? = some (.cells #[.pointer (some ⟨pb, 0, none⟩)] 38 (0, 0)) := by
    rw [hf1.more w.heap.size (by omega) (by omega) (fun cur q => by rw [HX.out.2.2.2.2.2.1] at q; simp at q)]
    exact HX.out.2.2.2.2.2.1
  have H1 := Lib.hid (And.intro hw1 hf1)
  clear hw1 hf1 hlt1 b3 H0
  go_wp2_with fail
  go_loopw [24] (fun s24 wr => ∃ k : Nat, s24 = .int .i64 k ∧ k ≤ n ∧ Wr B wr pb (bs ++ (uvarint n ++ (ls.take k).flatMap jobB)) ∧ Fr B pb V wr) (fun s24 _ => n - (RowKit.intOf s24).toNat)
  case atStart => exact ⟨0, rfl, Nat.zero_le _, by simpa using H1.out.1, H1.out.2⟩
  case round =>
    obtain ⟨k, rfl, hk, hwk, hfk⟩ := hrel
    have hB' : B ≤ wr.heap.size := by have := hfk.size; omega
    have b3 : wr.heap[w.heap.size]? = some (.cells #[.pointer (some ⟨pb, 0, none⟩)] 38 (0, 0)) := by
      rw [hfk.more w.heap.size (by omega) (by omega) (fun cur q => by rw [HX.out.2.2.2.2.2.1] at q; simp at q)]
      exact HX.out.2.2.2.2.2.1
    have hw24 : w.heap.size < wr.heap.size := lt_of_block b3
    by_cases hlt : k < n
    · have hkl : k < ls.length := by rw [HX.out.1.len]; exact hlt
      rcases HX.out.1.at' with h0 | ⟨b, rfl, hcell⟩
      · omega
      obtain ⟨curb, hcurb⟩ := HX.out.2.1.1 b 0 rfl
      have hbk := fr_str hfk HX.out.2.2.2.2.2.2.2 hcurb (by decide) (by decide)
      obtain ⟨x, hx'⟩ : ∃ x, x = ls[k] := ⟨_, rfl⟩
      have hxm : x ∈ ls := by rw [hx']; exact List.getElem_mem _
      obtain ⟨C, hC⟩ : ∃ C, C = x.cs.toArray := ⟨_, rfl⟩
      have hCl : C.toList = x.cs := by rw [hC]
      have hrg : wr.rangeAt b (k * 21) C.toList := fun i v hv => by
        rw [World.cell?_of_block (w := V) (a := ⟨b, k * 21 + i, none⟩) hbk]
        exact hcell k hkl i v (by rw [← hx', ← hCl]; exact hv)
      obtain ⟨Y, hY⟩ : ∃ Y, Y = wr.alloc (.cells C 52) := ⟨_, rfl⟩
      have hbY : Below wr.heap.size wr Y := by rw [hY]; exact (Below.refl _ _).alloc (Nat.le_refl _) _
      have hYx : Y.heap[wr.heap.size]? = some (.cells C 52 (0, 0)) := by rw [hY]; exact heap_alloc_new wr _
      have hsc := sc_job wr C (by rw [hC]; rfl) (by rw [hCl]; exact x.one)
      rw [← hY] at hsc
      unfold jobZ at hsc
      have hrY : (wr.alloc (.cells C 52)).rangeAt wr.heap.size 0 C.toList := by rw [← hY]; exact range_of (by rw [hYx])
      have hinf : (Tryd.prog.info? 52).map (·.size) = some C.toList.length := by rw [hCl]; exact info_job
      have hpw : pb < wr.heap.size := by omega
      have hwY : Wr B Y pb (bs ++ (uvarint n ++ (ls.take k).flatMap jobB)) := hwk.below hbY hpw (fun i hi => hi)
      have hfY : Fr B pb wr Y := Fr.ofBelow hbY hB'
      have hlk : (bs ++ (uvarint n ++ (ls.take k).flatMap jobB)).length ≤ 500000 := by
        have := flat_take jobB ls k
        simp only [List.length_append]
        omega
      have c3 := cell_of_one b3
      have hCs : C.size = 21 := by rw [hC]; rfl
      have hJd := dp_fr (HX.out.1.ds x hxm) (hfk.trans hfY) HX.out.2.2.2.2.2.2.2 (HX.out.2.1.2 x hxm)
      have HE := Lib.hid (putJob_any B pb x _ Y hJd.1 hJd.2 (HX.out.2.2.1 x hxm).1 (HX.out.2.2.1 x hxm).2 hpb (by have := hbY.size; omega) hwY hlk)
      have HK := Lib.hid (And.intro (hfk.trans hfY) hx')
      have HCC := Lib.hid hC
      rw [← hC] at HE
      clear hwk hlk hfk hx' hcell hcurb hbk hB' hwY hfY hJd hC hCl hxm hbY hYx b3
      go_wp2_with (first | (refine wpList_load_mid rfl 52 _ rfl b (k * 21) rfl C.toList _ hrg Tryd.underlying52 rfl hinf ?_) | (refine wpList_load_mid rfl 52 _ rfl wr.heap.size 0 rfl C.toList _ hrY Tryd.underlying52 rfl hinf ?_))
      rw [← hY]
      have HYY := Lib.hid hY
      clear hY hsc hrY hrg
      refine HE.out.mono ?_
      rintro e w2 ⟨rfl, hw2, hf2⟩
      have H2 := Lib.hid (And.intro hw2 hf2)
      clear hw2 hf2 HE
      go_wp2_with fail
      go_roundw
      case rel =>
        refine ⟨k + 1, rfl, hlt, ?_, HK.out.1.trans H2.out.2⟩
        rw [flat_succ jobB hkl, ← List.append_assoc (uvarint n), ← List.append_assoc bs, ← HK.out.2]
        exact H2.out.1
      case measure => simp only [RowKit.intOf]; omega
    · have hkn : k = n := by omega
      subst hkn
      have hto : ls.take k = ls := by rw [List.take_of_length_le]; have := HX.out.1.len; omega
      rw [hto] at hwk
      have HZ := Lib.hid (And.intro hwk (HX.out.2.2.2.1.trans hfk))
      clear hwk hfk b3
      go_wp2_with fail
      refine leaves_cons (f := 29) (args := #[.pointer (some ⟨w.heap.size, 0, none⟩), .pointer (some ⟨w.heap.size + 1, 0, none⟩)]) (by simp) (by simp [go_sem]) ?_
      refine (putJF_idle ⟨w.heap.size, 0, none⟩ ⟨w.heap.size + 1, 0, none⟩ _).mono ?_
      rintro e u' w'' ⟨rfl, rfl, rfl⟩
      simp [Leaves, settle, results, Tryd.results17, go_sem]
      exact ⟨rfl, HZ.out⟩
end Go.Proofs.YtcodjknhnhdkfaaDoor.Im
