
/- WheelTwice, walked -/
import Derived.Test.YtcafiehlhdoibaaWh20
import Derived.Test.YtcafiehlhdoibaaWh21
namespace Go.Proofs.Ytcafiehlhdoibaa.Wh
open Go.RowKit Go.Lib Go.Sort Go.Maps Hp Ht
set_option linter.unusedVariables false
set_option maxRecDepth 20000
set_option maxHeartbeats 8000000 in
theorem twice_any (w : World) (now : Int) (hnow : 0 ≤ now ∧ now < 4294967296) (a : Option Addr) (n c : Nat) (l : List Int) (hi : WhP.InU w a n c l) (s : Int) (hs : 0 ≤ s ∧ s < 4294967296) (t : Int) (ht : 0 ≤ t ∧ t < 4294967296) :
    Calls Try.prog 6 #[.int .u32 now, .slice a n c, .int .u32 s, .int .u32 t] w fun e w' => e = .returned (.bool true) ∧ Below w.heap.size w w' := by
  have hLV := fun W => lives_any W
  by_cases hbig : 60 < n
  · have hb2 : (60 : Int) < ((n : Nat) : Int) := by omega
    clear hi hbig hnow hs ht
    go_enter Try.func6, Try.ntmps6
    go_wp2_with fail
    refine (hLV _).mono ?_
    rintro e w1 ⟨rfl, b1⟩
    go_wp2_with fail
    refine (hLV _).mono ?_
    rintro e w2 ⟨rfl, b2⟩
    go_wp2_with fail
    go_ret
    exact ⟨by simp, b1.trans (b2.mono b1.size)⟩
  · have hn1 : ((n : Nat) : Int) ≤ 60 := by omega
    have HI := Lib.hid (And.intro hi (And.intro hnow (And.intro hs ht)))
    have hw1 : IntKind.i64.wrap now = now := by rw [IntWalk.i64_in]; omega
    have hw2 : wrap64 now = now := by unfold wrap64; omega
    have hs1 : IntKind.i64.wrap s = s := by rw [IntWalk.i64_in]; omega
    have hs2 : wrap64 s = s := by unfold wrap64; omega
    have ht1 : IntKind.i64.wrap t = t := by rw [IntWalk.i64_in]; omega
    have ht2 : wrap64 t = t := by unfold wrap64; omega
    have hq1 : wrap64 (now + s) = now + s := by unfold wrap64; omega
    have hq2 : wrap64 (now + s + t) = now + s + t := by unfold wrap64; omega
    clear hi hbig
    go_enter Try.func6, Try.ntmps6
    go_wp2_with fail
    refine (hLV _).mono ?_
    rintro e w1 ⟨rfl, b1⟩
    have hN := new_ow w1 (now := now) (most := 100) ⟨hnow.1, by unfold MT; omega⟩ (by decide) (by decide)
    go_wp2_with fail
    refine hN.mono ?_
    rintro e w2 ⟨wb, rfl, o2, b2⟩
    have H2 := Lib.hid (And.intro (o2.base b1.size) (b1.trans (b2.mono b1.size)))
    clear b1 o2 b2 hN hLV
    go_wp2_with fail
    go_loopw [36] (fun cv wr => ∃ j : Nat, cv = .int .i64 ((j : Nat) : Int) ∧ j ≤ n ∧ Ow w.heap.size (fun _ => False) wr wb now 100 (ms now l j) ∧ Below w.heap.size w wr) (fun cv _ => n - (RowKit.intOf cv).toNat)
    case atStart => exact ⟨0, rfl, Nat.zero_le _, H2.out.1, H2.out.2⟩
    case round =>
      obtain ⟨j, hcv, hjn, ho, hb⟩ := hrel
      subst hcv
      by_cases hjx : j < n
      · obtain ⟨hi, hnw, _⟩ := HI.out
        obtain ⟨b, o, ha, hcell⟩ : ∃ b o, a = some ⟨b, o, none⟩ ∧ w.cell? ⟨b, o + j, none⟩ = some (.int .u32 (l.getD j 0)) := by
          rcases hi.2.2.2.2.2 with h | ⟨b, o, e, h⟩
          · omega
          · exact ⟨b, o, e, h j hjx⟩
        subst ha
        have hc := (hb.cell (World.block_lt_of_cell? _ _ hcell)).trans hcell
        have hxb : 0 ≤ l.getD j 0 ∧ l.getD j 0 < 4294967296 := by
          rw [List.getD_eq_getElem?_getD]
          cases e : l[j]? with
          | none => simp
          | some x => exact hi.2.2.2.1 x (List.mem_of_getElem? e)
        have hms := ms_succ now l j
        obtain ⟨x, hx⟩ : ∃ x, x = l.getD j 0 := ⟨_, rfl⟩
        rw [← hx] at hc hxb hms
        have hx1 : IntKind.i64.wrap x = x := by rw [IntWalk.i64_in]; omega
        have hx3 : wrap64 x = x := by unfold wrap64; omega
        have hx2 : wrap64 (now + x) = now + x := by unfold wrap64; omega
        have hjc : ((j : Nat) : Int) < ((n : Nat) : Int) := by omega
        have hj0 : (0 : Int) ≤ ((j : Nat) : Int) := by omega
        have hj4 : ((j : Nat) : Int) ≤ 1000000 := by omega
        obtain ⟨q1, q2, A1, A2, e1, e2, e3, e4, e5, e6, e7, e8, e9, e10, hcv⟩ := name_cv j (by omega)
        have hcw := hcv wr
        have hjl : (ms now l j).length = j := ms_len now l j
        have bA : Below wr.heap.size wr (wr.alloc (.cells #[.int .u8 A1, .int .u8 A2] 5)) := (Below.refl _ _).alloc (Nat.le_refl _) _
        have hA := (ho.below bA).add (Nat.le_trans hb.size bA.size) (fun y e => e.elim) (ls_fm (ms_nodup now l j (by omega))) (k := nm j) (t := now + x) (nm_ne j) (nm_wk j) ⟨by omega, by unfold MT; omega⟩ (fm_none (ms_fresh now l j (by omega))) (by omega) (by omega)
        rw [← hms] at hA
        have HO := Lib.hid (And.intro (hb.trans (bA.mono hb.size)) hjx)
        obtain ⟨kk, hkk⟩ : ∃ kk, kk = nm j := ⟨_, rfl⟩
        rw [← hkk] at hcw
        have HK := Lib.hid hkk
        unfold ek at hA
        rw [← hkk] at hA
        clear ho hb hms hxb hcell hi hnw hx hjn hjx hcv hjl bA hkk
        go_wp2_with fail
        refine hA.mono ?_
        rintro e w5 ⟨rfl, o5, f5⟩
        have H5 := Lib.hid (And.intro o5 (f5.below HO.out.1 HO.out.1.size))
        clear o5 f5 hA hcw
        go_wp2_with fail
        go_roundw
        case rel => exact ⟨j + 1, by simp, HO.out.2, H5.out.1, H5.out.2⟩
        case measure => have := HO.out.2; simp [RowKit.intOf]; omega
      · have hje : n = j := by omega
        subst hje
        obtain ⟨hi, hnw, hsw, htw⟩ := HI.out
        obtain ⟨M, hM⟩ : ∃ M, M = ms now l n := ⟨_, rfl⟩
        rw [← hM] at ho
        have hMl : M.length ≤ 60 := by rw [hM, ms_len]; omega
        have hC := ho.copy (by omega)
        have HB := Lib.hid (And.intro hb (And.intro hMl (And.intro hnw (And.intro hsw htw))))
        clear hb hMl hnw hsw htw hi hM ho hjx hjn H2
        go_wp2_with fail
        refine hC.mono ?_
        rintro e Y ⟨vb, rfl, oy, vy, bY⟩
        obtain ⟨hb, hMl, hnw, hsw, htw⟩ := HB.out
        have hT1 := oy.turn (Nat.le_trans hb.size bY.size) (fun x e => by rcases e with e | e; exact e.elim; exact e.2) (by omega) (to := now + s) ⟨by omega, by unfold MT; omega⟩ (by omega)
        have HY := Lib.hid (And.intro vy (And.intro bY (hb.trans (bY.mono hb.size))))
        clear hb hMl hnw hsw htw oy vy bY hC
        go_wp2_with fail
        refine hT1.mono ?_
        rintro e Y1 ⟨v1, x1, rfl, p1, s1, r1, n1, o1, f1⟩
        obtain ⟨hb, hMl, hnw, hsw, htw⟩ := HB.out
        obtain ⟨vy, bY, bwY⟩ := HY.out
        have hT2 := o1.turn (Nat.le_trans bwY.size f1.size) (fun x e => by
          rcases e with (e | e) | e
          · exact e.elim
          · exact Nat.lt_of_lt_of_le e.2 f1.size
          · exact (n1 x e).2) (by have := List.length_filter_le (fun p : K × Int => decide (now + s < p.2)) M; omega) (to := now + s + t) ⟨by omega, by unfold MT; omega⟩ (by omega)
        have H1 := Lib.hid (And.intro p1 (And.intro s1 (And.intro r1 (And.intro n1 f1))))
        clear hb hMl hnw hsw htw vy bY bwY p1 s1 r1 n1 o1 f1 hT1
        go_wp2_with fail
        refine hT2.mono ?_
        rintro e Y2 ⟨v2, x2, rfl, p2, s2, r2, n2, o2, f2⟩
        obtain ⟨hb, hMl, hnw, hsw, htw⟩ := HB.out
        obtain ⟨vy, bY, bwY⟩ := HY.out
        obtain ⟨p1, s1, r1, n1, f1⟩ := H1.out
        -- the copy is as it was
        have vy0 : Ow wr.heap.size (fun x => Y.heap.size ≤ x) Y vb now 100 M := vy.to fun x _ _ h1 h2 => by omega
        have vy1 := vy0.keep f1 fun x h1 h2 _ h3 => h3.2 (.inr ⟨h1, by omega⟩)
        have vy2 := vy1.keep f2 fun x h1 h2 _ h3 => h3.2 (.inl (.inr ⟨h1, by omega⟩))
        have z1 := f1.size
        have z2 := f2.size
        have z0 := bY.size
        have vy3 : Ow wr.heap.size (fun x => x < Y2.heap.size ∧ ¬ (wr.heap.size ≤ x ∧ x < Y.heap.size)) Y2 vb now 100 M := vy2.to fun x h1 h2 h3 h4 => h4.2 ⟨h1, by omega⟩
        have hT3 := vy3.turn (by omega) (fun x e => e.1) (by omega) (to := now + s + t) ⟨by omega, by unfold MT; omega⟩ (by omega)
        have r12 := r1.kept' fun x hx => f2.kept (.inr hx) (n1 x hx).2
        have bw2 : Below w.heap.size w Y2 := f2.below (f1.below bwY bwY.size) (by have := bwY.size; omega)
        have H2 := Lib.hid (And.intro p2 (And.intro s2 (And.intro r2 (And.intro n2 (And.intro o2 (And.intro r12 (And.intro bw2 (And.intro z0 (And.intro z1 z2)))))))))
        clear hb hMl hnw hsw htw vy bY bwY p1 s1 r1 n1 f1 p2 s2 r2 n2 o2 f2 vy0 vy1 vy2 vy3 z0 z1 z2 r12 bw2 hT2
        go_wp2_with fail
        refine hT3.mono ?_
        rintro e Y3 ⟨v3, x3, rfl, p3, s3, r3, n3, o3, f3⟩
        obtain ⟨hb, hMl, hnw, hsw, htw⟩ := HB.out
        obtain ⟨p1, s1, r1, n1, f1⟩ := H1.out
        obtain ⟨p2, s2, r2, n2, o2, r12, bw2, z0, z1, z2⟩ := H2.out
        have z3 := f3.size
        have r13 := r12.kept' fun x hx => f3.kept (by have := n1 x hx; exact ⟨by omega, by omega⟩) (by have := n1 x hx; omega)
        have r23 := r2.kept' fun x hx => f3.kept (by have := n2 x hx; exact ⟨by omega, by omega⟩) (n2 x hx).2
        have o23 := o2.keep f3 fun x h1 h2 h3 h4 => h4.2 ⟨h3, fun h5 => h2 (.inl (.inl (.inr h5)))⟩
        have hz := srt_join (by omega) p1 p2 p3 s1 s2 s3
        have hu : (Y3.alloc (.cells #[] 42)).ownsRow Y3.heap.size 42 2 (.slice (some ⟨Y3.heap.size, 0, none⟩) 0 0) 0 [] := World.ownsRow_made Y3 #[] 0 (Nat.le_refl _) (Nat.zero_le _) rfl
        have b9 : Below Y3.heap.size Y3 (Y3.alloc (.cells #[] 42)) := (Below.refl _ _).alloc (Nat.le_refl _) _
        have hsb : ∀ x, Sb v1 x → x < Y3.heap.size := fun x hx => by have := n1 x hx; omega
        have hsb2 : ∀ x, Sb v2 x → x < Y3.heap.size := fun x hx => by have := n2 x hx; omega
        have l1 : x1.length ≤ 60 := by have h1 := p1.length_eq; have h2 := List.length_filter_le (fun p : K × Int => decide (p.2 ≤ now + s)) M; omega
        have l3 : x3.length ≤ 60 := by have h1 := p3.length_eq; have h2 := List.length_filter_le (fun p : K × Int => decide (p.2 ≤ now + s + t)) M; omega
        have l12 : x3.length = x1.length + x2.length := by rw [hz, List.length_append]
        obtain ⟨v5, X5, run5, own5, b5⟩ := run_push_all (Y3.alloc (.cells #[] 42)) (B := Y3.heap.size) (u := .slice (some ⟨Y3.heap.size, 0, none⟩) 0 0) (l0 := []) hu (r13.kept' fun x hx => b9.block x (hsb x hx)) b9.size (by simp) (by omega) 29
        obtain ⟨v6, X6, run6, own6, b6⟩ := run_push_all X5 own5 (r23.kept' fun x hx => (b5.block x (hsb2 x hx)).trans (b9.block x (hsb2 x hx))) (Nat.le_trans b9.size b5.size) (by simp; omega) (by omega) 29
        have b96 : Below Y3.heap.size Y3 X6 := (b9.trans b5).trans b6
        have hS := same_any X6 (va := v6) (vb := v3) (l := x3) (by rw [hz]; exact src_own own6) (r3.kept' fun x hx => b96.block x (n3 x hx).2) (by omega)
        have hW := fun d => ((o23.below b96).below (Y := X6.drewN d) ⟨rfl, rfl, rfl, Nat.le_refl _, fun _ _ => rfl⟩).len
        have hV := fun d => ((o3.below b96).below (Y := X6.drewN d) ⟨rfl, rfl, rfl, Nat.le_refl _, fun _ _ => rfl⟩).len
        rw [left_same M (by omega)] at hW
        have bw3 : Below w.heap.size w Y3 := Fo.below (B := w.heap.size) (N := fun x => x < Y2.heap.size ∧ ¬ (wr.heap.size ≤ x ∧ x < Y.heap.size)) (f3.mono fun x _ h => ⟨Nat.le_trans hb.size h.1, h.2⟩) bw2 bw2.size
        have bwX : Below w.heap.size w X6 := bw3.trans (b96.mono bw3.size)
        have HE := Lib.hid bwX
        generalize (M.filter fun p => decide (now + s + t < p.2)).length = k9 at *
        clear hb hMl hnw hsw htw p1 s1 r1 n1 f1 p2 s2 r2 n2 o2 r12 bw2 z0 z1 z2 p3 s3 r3 n3 o3 f3 z3 r13 r23 o23 hz hu b9 hsb hsb2 l1 l3 l12 own5 b5 own6 b6 b96 bw3 bwX hT3
        go_wp2_with (at_builtin; first | (refine BigFrame.wpList_want (by rfl) fun _ hK => wp_append' _ _ _ rfl rfl rfl run5 (hK _ _ ?_); clear hK) | (refine BigFrame.wpList_want (by rfl) fun _ hK => wp_append' _ _ _ rfl rfl rfl run6 (hK _ _ ?_); clear hK))
        refine hS.mono ?_
        rintro e X7 ⟨rfl, d, rfl⟩
        have hWd := hW d
        have hVd := hV d
        clear hW hV hS run5 run6
        go_wp2_with fail
        refine hWd.mono ?_
        rintro e X8 ⟨rfl, rfl⟩
        go_wp2_with fail
        refine hVd.mono ?_
        rintro e X8 ⟨rfl, rfl⟩
        go_wp2_with fail
        go_ret
        have h9 := HE.out
        exact ⟨by simp, ⟨h9.os, h9.tape, h9.output, h9.size, h9.block⟩⟩
end Go.Proofs.Ytcafiehlhdoibaa.Wh
