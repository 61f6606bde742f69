
/- WalRoom (P5.1) -/
import Derived.Test.YtjblkmjdepdekaaDoorWalB
import Derived.Test.YtjblkmjdepdekaaDoorMoLaid
import Derived.WalkKit
import Derived.ProofKit
import Derived.OpenShut
import Derived.Below
import Derived.ChangeOld
import Derived.ShutString
/- logs: what WalRoom's walk wants -/
namespace Go.Proofs.YtjblkmjdepdekaaDoor.Wl
open Go.RowKit Go.Lib Go.Joins Go.Proofs.YtjblkmjdepdekaaDoor.By Go.Proofs.YtjblkmjdepdekaaDoor.Dk Go.Proofs.YtjblkmjdepdekaaDoor.Oc Go.Proofs.YtjblkmjdepdekaaDoor.Ht Go.Proofs.YtjblkmjdepdekaaDoor.Cr Go.Proofs.YtjblkmjdepdekaaDoor.Fm
attribute [local go_sem] Oper.semAt_some

section
variable {w : World} {B bl bd gs cs gn cn : Nat} {vw : Value} {n hf t : Nat} {F : List UInt8} {W : List Wr} {base apps : List Rc} {lo : Nat} {last : List UInt8}
/-- Room over a log -/
theorem room_x (h : Lgx w B bl bd gs cs gn cn vw n hf t F W base apps lo last) : Calls Tryd.prog 26 #[.pointer (some ⟨bl, 0, none⟩)] w fun e w' => e = .returned (.int .i64 ((55 * (n / 2) - (cat 0 (chR base apps)).length : Nat) : Int)) ∧ Below w.heap.size w w' :=
  (room_any h.lg h.dk h.pl.cl).mono fun e w' ⟨he, q, hq⟩ => ⟨he, by subst hq; exact (Below.refl w.heap.size w).trans ⟨rfl, rfl, rfl, Nat.le_refl _, fun _ _ => rfl⟩⟩
/-- one more record of the same kind -/
theorem room_step {k : Nat} {x : Rc} : (cat 0 (chR base (List.replicate (k + 1) x))).length = (cat 0 (chR base (List.replicate k x))).length + (fb 0 x.1 x.2).length := by
  have e : List.replicate (k + 1) x = List.replicate k x ++ [x] := by rw [List.replicate_succ']
  rw [e, (chR_app base _ x).1, List.length_append, fb_len, fb_len]
/-- a record's variable -/
structure Vr (w : World) (q g m : Nat) : Prop where
  c : w.heap[q]? = some (.cells #[.int .u8 3, .slice (some ⟨g, 0, none⟩) m m] 34 (0, 0))
  b : Blk w g m (List.replicate m 0)
theorem Vr.old {w w' : World} {q g m : Nat} (h : Vr w q g m) (hb : Below w.heap.size w w') : Vr w' q g m :=
  ⟨heap_old hb h.c, h.b.same (hb.block _ h.b.lt)⟩
theorem Vr.isB {w : World} {q g m : Nat} (h : Vr w q g m) (hm : m ≤ 1000000) : IsB w (some ⟨g, 0, none⟩) (List.replicate m (0 : UInt8)).length m (List.replicate m 0) := h.b.isB (by unfold maxLen; omega)
theorem Vr.fr {w' : World} {q g m : Nat} (h : Vr w q g m) (hx : Lgx w B bl bd gs cs gn cn vw n hf t F W base apps lo last) (hf' : Fr (fun k => Foot bd gs gn vw k ∨ k = bl) w w') : Vr w' q g m := by
  have hne : ∀ b C t, w.heap[b]? = some (.cells C t (0, 0)) → t ≠ 73 → b ≠ bl := fun b C t h1 h2 e => by
    subst e; rw [hx.lg.blk] at h1; simp at h1; exact h2 h1.2.symm
  obtain ⟨cur, h1, h2⟩ := h.b
  refine ⟨(hf'.block q (lt_of_block h.c) ?_).trans h.c, cur, (hf'.block g (lt_of_block h1) ?_).trans h1, h2⟩
  · rintro (h3 | h3)
    · exact hx.dk.not_foot h.c (by decide) (by decide) (by decide) h3
    · exact hne q _ _ h.c (by decide) h3
  · rintro (h3 | h3)
    · exact hx.dk.not_foot h1 (by decide) (by decide) (by decide) h3
    · exact hne g _ _ h1 (by decide) h3
end
theorem room_r {w : World} {B bl bd gs cs gn cn : Nat} {vw : Value} {n hf t : Nat} {F : List UInt8} {W : List Wr} {base apps : List Rc} {lo : Nat} {last : List UInt8} {R : Nat} (h : Lgx w B bl bd gs cs gn cn vw n hf t F W base apps lo last) (hR : R = 55 * (n / 2) - (cat 0 (chR base apps)).length) : Calls Tryd.prog 26 #[.pointer (some ⟨bl, 0, none⟩)] w fun e w' => e = .returned (.int .i64 (R : Nat)) ∧ Below w.heap.size w w' := by
  rw [hR]; exact room_x h
theorem append_r {w : World} {B bl bd gs cs gn cn : Nat} {vw : Value} {n hf t : Nat} {F : List UInt8} {W : List Wr} {base : List Rc} {lo : Nat} {last : List UInt8} {R q g m k fz : Nat} (h : Lgx w B bl bd gs cs gn cn vw n hf t F W base (List.replicate k (3, List.replicate m 0)) lo last) (hR : R = 55 * (n / 2) - (cat 0 (chR base (List.replicate k (3, List.replicate m 0)))).length)
    (hv : Vr w q g m) (hm : m < 100) (hf' : fz = (fb 0 3 (List.replicate m (0 : UInt8))).length) (hW : W.length ≤ 900000) (hn : Nibs w) :
    Calls Tryd.prog 11 #[.pointer (some ⟨bl, 0, none⟩), .agg #[.int .u8 3, .slice (some ⟨g, 0, none⟩) m m]] w fun e w' =>
      (R < fz ∧ e = .returned (.int .i64 6) ∧ Below w.heap.size w w') ∨
      (fz ≤ R ∧ e = .returned (.int .i64 0) ∧ ∃ vw' W' last', Lgx w' B bl bd gs cs gn cn vw' n hf t F W' base (List.replicate (k + 1) (3, List.replicate m 0)) lo last' ∧ W'.length ≤ W.length + 2100 ∧ Vr w' q g m ∧ Fr (fun k => Foot bd gs gn vw k ∨ k = bl) w w') := by
  have h0 := append_x h 3 (some ⟨g, 0, none⟩) m (List.replicate m 0) (hv.isB (by omega)) (by decide) (by rw [List.length_replicate]; omega) hW hn
  rw [List.length_replicate, fb_len] at h0
  rw [fb_len] at hf'
  refine h0.mono ?_
  rintro e w' (⟨h1, h2, h3⟩ | ⟨h1, h2, vw', W', last', h3, h4, _, h5⟩)
  · exact .inl ⟨by omega, h2, h3⟩
  · rw [← List.replicate_succ'] at h3
    exact .inr ⟨by omega, h2, vw', W', last', h3, h4, hv.fr h h5, h5⟩
theorem rem61 (s : Int) (h : (Lit.int .u8 s).wf = true) : ∃ n : Nat, 4 ≤ n ∧ n ≤ 64 ∧ wrap64 (4 + wrap64 (s.tmod 61)) = (n : Int) := by
  have h0 : 0 ≤ s ∧ s ≤ 255 := by simpa [Lit.wf, IntKind.min, IntKind.max, IntKind.signed, IntKind.bits] using h
  have h1 : s.tmod 61 = s % 61 := Int.tmod_eq_emod_of_nonneg h0.1
  refine ⟨(4 + s % 61).toNat, by omega, by omega, ?_⟩
  rw [h1]; unfold wrap64; omega
theorem rem100 (z : Int) (h : (Lit.int .u8 z).wf = true) : ∃ m : Nat, m < 100 ∧ (wrap64 z).tmod 100 = (m : Int) := by
  have h0 : 0 ≤ z ∧ z ≤ 255 := by simpa [Lit.wf, IntKind.min, IntKind.max, IntKind.signed, IntKind.bits] using h
  have h2 : wrap64 z = z := by unfold wrap64; omega
  have h1 : z.tmod 100 = z % 100 := Int.tmod_eq_emod_of_nonneg h0.1
  refine ⟨(z % 100).toNat, by omega, ?_⟩
  rw [h2, h1]; omega
end Go.Proofs.YtjblkmjdepdekaaDoor.Wl

/- logs: the walk of WalRoom -/
namespace Go.Proofs.YtjblkmjdepdekaaDoor.Wl
open Go.RowKit Go.Lib Go.Joins Go.Proofs.YtjblkmjdepdekaaDoor.By Go.Proofs.YtjblkmjdepdekaaDoor.Dk Go.Proofs.YtjblkmjdepdekaaDoor.Oc Go.Proofs.YtjblkmjdepdekaaDoor.Ht Go.Proofs.YtjblkmjdepdekaaDoor.Cr Go.Proofs.YtjblkmjdepdekaaDoor.Fm
attribute [local go_sem] Oper.semAt_some

set_option maxRecDepth 20000 in
set_option maxHeartbeats 8000000 in
theorem room_walk (s z : Int) (hs : (Lit.int .u8 s).wf = true) (hz : (Lit.int .u8 z).wf = true) (w : World) (hn : Nibs w) : Calls Tryd.prog 5 #[.int .u8 s, .int .u8 z] w fun e w' => e = .returned (.bool true) ∧ Below w.heap.size w w' := by
  have HLV := Lib.hid (lives05_any w hn)
  have HN := Lib.hid hn
  obtain ⟨n, hn4, hn64, hnI⟩ := rem61 s hs
  obtain ⟨m, hm, hmI⟩ := rem100 z hz
  clear hn hs hz
  go_enter Tryd.func5, Tryd.ntmps5
  go_wp2_with fail
  refine HLV.out.mono ?_
  rintro e w0 ⟨rfl, hb0⟩
  have HB0 := Lib.hid hb0
  clear hb0
  go_wp2_with fail
  refine (new_any n w0 ⟨by omega, by omega⟩).mono ?_
  rintro e w1 ⟨bd, gs, gn, rfl, hd1, hb1⟩
  have HD1 := Lib.hid (And.intro hd1 (And.intro hb1.size (HB0.out.trans (hb1.mono HB0.out.size))))
  clear hd1 hb1
  go_wp2_with fail
  refine (format_x (F := List.replicate (64 * n) 0) (W := []) HD1.out.1 hn4 (by show lat (List.replicate (64 * n) 0) n + 1 < _; rw [lat_zero]; decide) (by decide) (HN.out.old HD1.out.2.2)).mono ?_
  rintro e w2 ⟨bl, F2, last2, hbl, rfl, hx2, hf2⟩
  rw [show ov (List.replicate (64 * n) 0) [] = List.replicate (64 * n) 0 from rfl, lat_zero] at hx2
  have hb2 : Below w.heap.size w w2 := Fr.below' HD1.out.2.2 hf2 (fun k hk => Nat.le_trans HB0.out.size (HD1.out.1.foot_ge k hk))
  have hblw : w0.heap.size ≤ bl := Nat.le_trans HD1.out.2.1 hbl
  have HD2 := Lib.hid (And.intro hx2 (And.intro hb2 hblw))
  clear hx2 hb2 hf2 hbl hblw
  go_wp2_with fail
  refine (room_x HD2.out.1).mono ?_
  rintro e w3 ⟨rfl, hb3⟩
  have HD3 := Lib.hid (And.intro (HD2.out.1.old hb3) (HD2.out.2.1.trans (hb3.mono HD2.out.2.1.size)))
  clear hb3
  have hmk := run_makeBytes w3 (n := m) (by omega)
  go_wp2_with fail
  obtain ⟨w4, hw4⟩ : ∃ X, X = (w3.alloc (.cells (madeCells #[.int .u8 0] m) 5)).alloc (.cells #[.int .u8 3, .slice (some ⟨w3.heap.size, 0, none⟩) m m] 34) := ⟨_, rfl⟩
  have hb4 : Below w3.heap.size w3 w4 := by rw [hw4]; exact ((Below.refl _ _).alloc (Nat.le_refl _) _).alloc (by simp) _
  have hv4 : Vr w4 (w3.heap.size + 1) w3.heap.size m := by
    rw [hw4]
    refine ⟨?_, Blk.made.same ?_⟩
    · have := heap_alloc_new (w3.alloc (.cells (madeCells #[.int .u8 0] m) 5)) (.cells #[.int .u8 3, .slice (some ⟨w3.heap.size, 0, none⟩) m m] 34)
      simpa using this
    · exact ((Below.refl _ _).alloc (Nat.le_refl _) _).block _ (by simp)
  -- LOOP
  rw [← hw4]
  obtain ⟨q, hq⟩ : ∃ q, q = w3.heap.size + 1 := ⟨_, rfl⟩
  obtain ⟨g, hg⟩ : ∃ g, g = w3.heap.size := ⟨_, rfl⟩
  rw [← hq, ← hg] at hv4 ⊢
  obtain ⟨fz, hfz⟩ : ∃ z, z = (fb 0 3 (List.replicate m (0 : UInt8))).length := ⟨_, rfl⟩
  have hf1 : 1 ≤ fz := by rw [hfz, fb_len]; omega
  have HFZ := Lib.hid hfz
  have HQ := Lib.hid (And.intro hv4 (And.intro (HD3.out.1.old hb4) (HD3.out.2.trans (hb4.mono HD3.out.2.size))))
  have hmix : Tryd.prog.follows .mixedOrders = true := by kernel_rfl
  have HSZ : ∀ Y : World, Vr Y q g m → Nibs Y → Calls Tryd.prog 27 #[.agg #[.int .u8 3, .slice (some ⟨g, 0, none⟩) m m]] Y fun e w' => e = .returned (.int .i64 (fz : Nat)) ∧ Below Y.heap.size Y w' := fun Y hv hn => by
    rw [hfz]
    have := size_any 3 (some ⟨g, 0, none⟩) m m (List.replicate m 0) Y (by have := hv.isB (by omega); rwa [List.length_replicate] at this) (by omega) hn
    exact this
  obtain ⟨R0, hR0⟩ : ∃ R, R = 55 * (n / 2) - (cat 0 (chR [] [])).length := ⟨_, rfl⟩
  rw [← hR0]
  have HR0 := Lib.hid hR0
  clear hw4 hb4 hv4 hmk hq hg hfz hR0
  go_loopw [12] (fun kv wr => ∃ k : Nat, kv = .int .i64 k ∧ Vr wr q g m ∧ Below w.heap.size w wr ∧ ∃ vw W last, W.length ≤ 2100 * k ∧ Lgx wr w0.heap.size bl bd gs n gn n vw n 0 1 F2 W [] (List.replicate k (3, List.replicate m 0)) (cat 0 (chR [] [])).length last) (fun kv _ => 2000 - (intOf kv).toNat)
  case atStart => exact ⟨0, rfl, HQ.out.1, HQ.out.2.2, _, [], _, by simp, HQ.out.2.1⟩
  case round =>
    obtain ⟨k, rfl, hv, hb, vw, W, last, hW, hx⟩ := hrel
    have hcl := hx.pl.cl
    have hk1 : k + 1 ≤ (cat 0 (chR [] (List.replicate k (3, List.replicate m 0)))).length := by
      have := len_cat 0 (chR [] (List.replicate k ((3 : UInt8), List.replicate m (0 : UInt8))))
      simpa [chR] using this
    have hk6 : k * fz + 1 ≤ (cat 0 (chR [] (List.replicate k (3, List.replicate m 0)))).length := by
      rw [HFZ.out]
      clear hx hv hb hW hcl hk1
      induction k with
      | zero => rw [Nat.zero_mul]; have := len_cat 0 (chR [] (List.replicate 0 ((3 : UInt8), List.replicate m (0 : UInt8)))); simpa [chR] using this
      | succ k ih => rw [room_step, Nat.succ_mul]; simp only at ih ⊢; omega
    have hf6 : 6 ≤ fz := by rw [HFZ.out, fb_len, hd_len]; omega
    have hk3 : k ≤ 400 := by
      have : k * 6 ≤ k * fz := Nat.mul_le_mul_left k hf6
      omega
    obtain ⟨Z, hZ⟩ : ∃ Z, Z = (cat 0 (chR [] (List.replicate k ((3 : UInt8), List.replicate m (0 : UInt8))))).length := ⟨_, rfl⟩
    rw [← hZ] at hcl hk1
    clear hk6 hf6
    obtain ⟨R, hRe⟩ : ∃ R, R = 55 * (n / 2) - Z := ⟨_, rfl⟩
    have hRZ : R = 55 * (n / 2) - (cat 0 (chR [] (List.replicate k ((3 : UInt8), List.replicate m (0 : UInt8))))).length := by rw [← hZ]; exact hRe
    have HRZ := Lib.hid hRZ
    have hR := room_r (w := wr.drew) (hx.old (Below.refl wr.heap.size wr).drew) hRZ
    have HR := Lib.hid hR
    have HX := Lib.hid (And.intro hx (And.intro hv (And.intro hb (And.intro hW (And.intro hZ hRe)))))
    have hS0' : wr.drew.heap[q]? = some (.cells #[.int .u8 3, .slice (some ⟨g, 0, none⟩) m m] 34 (0, 0)) := hv.c
    have hRl : R ≤ 2000 := by omega
    clear hx hv hb hW hZ hRe hR hcl hk1 hRZ
    by_cases hge : fz ≤ R
    · have hgI : (fz : Int) ≤ (R : Int) := by omega
      go_wp2_with fail
      refine begin' 5 (fun X => X.heap[q]? = some (.cells #[.int .u8 3, .slice (some ⟨g, 0, none⟩) m m] 34 (0, 0))) hmix hS0' (fun hS0 => ?_)
      refine Ht.takeN (i := 0) ⟨some 43, _, _, _, _, _⟩ (.pointer (some ⟨bl, 0, none⟩)) rfl (Nat.le_refl 5) (by kernel_rfl) (by kernel_rfl) (by kernel_rfl) (by kernel_rfl) hS0 (Or.inl ⟨by rfl, by (intro X hX; go_simp)⟩) ?_
      simp only [Act.put, List.setIfInBounds_toArray, List.set_cons_zero, List.set_cons_succ]
      refine Ht.takeN (i := 2) ⟨some 45, _, _, _, _, _⟩ (.agg #[.int .u8 3, .slice (some ⟨g, 0, none⟩) m m]) rfl (Nat.le_refl 5) (by kernel_rfl) (by kernel_rfl) (by kernel_rfl) (by kernel_rfl) hS0 (Or.inl ⟨by rfl, by (intro X hX; have := two_cells hX; go_simp)⟩) ?_
      simp only [Act.put, List.setIfInBounds_toArray, List.set_cons_zero, List.set_cons_succ]
      refine Ht.step (i := 1) ⟨some 44, _, _, _, _, _⟩ rfl (by kernel_rfl) (by rfl) (fun K hK => ?_)
      refine Ht.enter 26 #[.pointer (some ⟨bl, 0, none⟩)] (by have hen := fun args w => enters_of (P := Tryd.prog) Tryd.func26 (by kernel_rfl) rfl args w; go_simp) (HR.out) ?_
      rintro e Y1 ⟨rfl, hY1⟩
      have hS1 := heap_old hY1 hS0
      have HY1 := Lib.hid hY1
      clear hY1
      refine ⟨_, rfl, hK _ _ (fun _ => hS1) (fun _ => ?_)⟩
      clear hK K
      simp only [Act.put, List.setIfInBounds_toArray, List.set_cons_zero, List.set_cons_succ]
      refine Ht.step (i := 3) ⟨some 46, _, _, _, _, _⟩ rfl (by kernel_rfl) (by rfl) (fun K hK => ?_)
      refine Ht.enter 27 #[.agg #[.int .u8 3, .slice (some ⟨g, 0, none⟩) m m]] (by have hen := fun args w => enters_of (P := Tryd.prog) Tryd.func27 (by kernel_rfl) rfl args w; go_simp) (HSZ Y1 ((HX.out.2.1.old (Below.refl wr.heap.size wr).drew).old HY1.out) ((HN.out.old HX.out.2.2.1.drew).old (w' := Y1) (HY1.out.mono (Nat.le_refl _)))) ?_
      rintro e Y2 ⟨rfl, hY2⟩
      have hS2 := heap_old hY2 hS1
      have HB2 := Lib.hid (HX.out.2.2.1.drew.trans ((HY1.out.mono HX.out.2.2.1.size).trans (hY2.mono (Nat.le_trans HX.out.2.2.1.size HY1.out.size))))
      have HL2 := Lib.hid (((HX.out.1.old (Below.refl wr.heap.size wr).drew).old HY1.out).old hY2)
      have HV2 := Lib.hid (((HX.out.2.1.old (Below.refl wr.heap.size wr).drew).old HY1.out).old hY2)
      clear hY2
      refine ⟨_, rfl, hK _ _ (fun _ => hS2) (fun _ => ?_)⟩
      clear hK K
      simp only [Act.put, List.setIfInBounds_toArray, List.set_cons_zero, List.set_cons_succ]
      refine Ht.takeN (i := 4) ⟨some 47, _, _, _, _, _⟩ (.bool true) rfl (Nat.le_refl 5) (by kernel_rfl) (by kernel_rfl) (by kernel_rfl) (by kernel_rfl) hS2 (Or.inl ⟨by rfl, by (intro X hX; go_simp)⟩) ?_
      simp only [Act.put, List.setIfInBounds_toArray, List.set_cons_zero, List.set_cons_succ]
      refine done (by kernel_rfl) ?_
      go_wp2_with fail
      refine (room_r HL2.out HRZ.out).mono ?_
      rintro e Y3 ⟨rfl, hY3⟩
      have hS3 : Y3.drew.heap[q]? = some (.cells #[.int .u8 3, .slice (some ⟨g, 0, none⟩) m m] 34 (0, 0)) := heap_old hY3.drew hS2
      have HL3 := Lib.hid (HL2.out.old hY3)
      have HV3 := Lib.hid (HV2.out.old hY3)
      have HB3 := Lib.hid (HB2.out.trans (hY3.mono HB2.out.size))
      clear hY3 hS0 hS1 hS2 hS0' HR HY1 HB2 HL2 HV2
      have hsub : IntKind.i64.wrap ((R : Int) - (fz : Int)) = ((R - fz : Nat) : Int) := by rw [IntKind.wrap_i64]; omega
      go_wp2_with fail
      refine begin' 13 (fun X => X.heap[q]? = some (.cells #[.int .u8 3, .slice (some ⟨g, 0, none⟩) m m] 34 (0, 0))) hmix hS3 (fun hS4 => ?_)
      refine Ht.takeN (i := 0) ⟨some 50, _, _, _, _, _⟩ (.pointer (some ⟨bl, 0, none⟩)) rfl (Nat.le_refl 13) (by kernel_rfl) (by kernel_rfl) (by kernel_rfl) (by kernel_rfl) hS4 (Or.inl ⟨by rfl, by (intro X hX; go_simp)⟩) ?_
      simp only [Act.put, List.setIfInBounds_toArray, List.set_cons_zero, List.set_cons_succ]
      refine Ht.takeN (i := 1) ⟨some 51, _, _, _, _, _⟩ (.agg #[.int .u8 3, .slice (some ⟨g, 0, none⟩) m m]) rfl (Nat.le_refl 13) (by kernel_rfl) (by kernel_rfl) (by kernel_rfl) (by kernel_rfl) hS4 (Or.inl ⟨by rfl, by (intro X hX; have := two_cells hX; go_simp)⟩) ?_
      simp only [Act.put, List.setIfInBounds_toArray, List.set_cons_zero, List.set_cons_succ]
      refine Ht.step (i := 2) ⟨some 52, _, _, _, _, _⟩ rfl (by kernel_rfl) (by rfl) (fun K hK => ?_)
      refine Ht.enter 11 #[.pointer (some ⟨bl, 0, none⟩), .agg #[.int .u8 3, .slice (some ⟨g, 0, none⟩) m m]] (by have hen := fun args w => enters_of (P := Tryd.prog) Tryd.func11 (by kernel_rfl) rfl args w; go_simp) (append_r (HL3.out.old (Below.refl Y3.heap.size Y3).drew) HRZ.out (HV3.out.old (Below.refl Y3.heap.size Y3).drew) hm HFZ.out (by have := HX.out.2.2.2.1; omega) (HN.out.old HB3.out.drew)) ?_
      rintro e Y5 (⟨hlt, _⟩ | ⟨_, rfl, vw5, W5, last5, hx5, hW5, hv5, hf5⟩)
      · omega
      have hS5 := hv5.c
      have HB5 := Lib.hid (Fr.below' HB3.out.drew hf5 (fun k hk => Nat.le_trans HB0.out.size (HL3.out.ge HD2.out.2.2 k hk)))
      have H5 := Lib.hid (And.intro hx5 (And.intro hW5 hv5))
      clear hx5 hW5 hv5 hf5
      refine ⟨_, rfl, hK _ _ (fun _ => hS5) (fun _ => ?_)⟩
      clear hK K
      simp only [Act.put, List.setIfInBounds_toArray, List.set_cons_zero, List.set_cons_succ]
      refine Ht.takeN (i := 3) ⟨some 53, _, _, _, _, _⟩ (.bool false) rfl (Nat.le_refl 13) (by kernel_rfl) (by kernel_rfl) (by kernel_rfl) (by kernel_rfl) hS5 (Or.inl ⟨by rfl, by (intro X hX; go_simp)⟩) ?_
      simp only [Act.put, List.setIfInBounds_toArray, List.set_cons_zero, List.set_cons_succ]
      refine Ht.takeN (i := 4) ⟨some 54, _, _, _, _, _⟩ (.bool false) rfl (Nat.le_refl 13) (by kernel_rfl) (by kernel_rfl) (by kernel_rfl) (by kernel_rfl) hS5 (Or.inl ⟨by rfl, by (intro X hX; go_simp)⟩) ?_
      simp only [Act.put, List.setIfInBounds_toArray, List.set_cons_zero, List.set_cons_succ]
      refine Ht.takeN (i := 5) ⟨some 55, _, _, _, _, _⟩ (.pointer (some ⟨bl, 0, none⟩)) rfl (Nat.le_refl 13) (by kernel_rfl) (by kernel_rfl) (by kernel_rfl) (by kernel_rfl) hS5 (Or.inl ⟨by rfl, by (intro X hX; go_simp)⟩) ?_
      simp only [Act.put, List.setIfInBounds_toArray, List.set_cons_zero, List.set_cons_succ]
      refine Ht.takeN (i := 7) ⟨some 57, _, _, _, _, _⟩ (.int .i64 (R : Nat)) rfl (Nat.le_refl 13) (by kernel_rfl) (by kernel_rfl) (by kernel_rfl) (by kernel_rfl) hS5 (Or.inl ⟨by rfl, by (intro X hX; go_simp)⟩) ?_
      simp only [Act.put, List.setIfInBounds_toArray, List.set_cons_zero, List.set_cons_succ]
      refine Ht.takeN (i := 8) ⟨some 58, _, _, _, _, _⟩ (.agg #[.int .u8 3, .slice (some ⟨g, 0, none⟩) m m]) rfl (Nat.le_refl 13) (by kernel_rfl) (by kernel_rfl) (by kernel_rfl) (by kernel_rfl) hS5 (Or.inl ⟨by rfl, by (intro X hX; have := two_cells hX; go_simp)⟩) ?_
      simp only [Act.put, List.setIfInBounds_toArray, List.set_cons_zero, List.set_cons_succ]
      refine Ht.step (i := 6) ⟨some 56, _, _, _, _, _⟩ rfl (by kernel_rfl) (by rfl) (fun K hK => ?_)
      refine Ht.enter 26 #[.pointer (some ⟨bl, 0, none⟩)] (by have hen := fun args w => enters_of (P := Tryd.prog) Tryd.func26 (by kernel_rfl) rfl args w; go_simp) (room_r (R := R - fz) H5.out.1 (by rw [room_step, ← HX.out.2.2.2.2.1, ← HFZ.out, HX.out.2.2.2.2.2]; omega)) ?_
      rintro e Y6 ⟨rfl, hY6⟩
      have hS6 := heap_old hY6 hS5
      have H6 := Lib.hid (And.intro (H5.out.1.old hY6) (And.intro (H5.out.2.2.old hY6) (HB5.out.trans (hY6.mono HB5.out.size))))
      clear hY6
      refine ⟨_, rfl, hK _ _ (fun _ => hS6) (fun _ => ?_)⟩
      clear hK K
      simp only [Act.put, List.setIfInBounds_toArray, List.set_cons_zero, List.set_cons_succ]
      refine Ht.step (i := 9) ⟨some 59, _, _, _, _, _⟩ rfl (by kernel_rfl) (by rfl) (fun K hK => ?_)
      refine Ht.enter 27 #[.agg #[.int .u8 3, .slice (some ⟨g, 0, none⟩) m m]] (by have hen := fun args w => enters_of (P := Tryd.prog) Tryd.func27 (by kernel_rfl) rfl args w; go_simp) (HSZ Y6 H6.out.2.1 (HN.out.old H6.out.2.2)) ?_
      rintro e Y7 ⟨rfl, hY7⟩
      have hS7 := heap_old hY7 hS6
      have H7 := Lib.hid (And.intro (H6.out.1.old hY7) (And.intro (H6.out.2.1.old hY7) (H6.out.2.2.trans (hY7.mono H6.out.2.2.size))))
      clear hY7
      refine ⟨_, rfl, hK _ _ (fun _ => hS7) (fun _ => ?_)⟩
      clear hK K
      simp only [Act.put, List.setIfInBounds_toArray, List.set_cons_zero, List.set_cons_succ]
      refine Ht.takeN (i := 10) ⟨some 60, _, _, _, _, _⟩ (.int .i64 ((R - fz : Nat) : Int)) rfl (Nat.le_refl 13) (by kernel_rfl) (by kernel_rfl) (by kernel_rfl) (by kernel_rfl) hS7 (Or.inl ⟨by rfl, by (intro X hX; go_simp)⟩) ?_
      simp only [Act.put, List.setIfInBounds_toArray, List.set_cons_zero, List.set_cons_succ]
      refine Ht.takeN (i := 11) ⟨some 61, _, _, _, _, _⟩ (.bool false) rfl (Nat.le_refl 13) (by kernel_rfl) (by kernel_rfl) (by kernel_rfl) (by kernel_rfl) hS7 (Or.inl ⟨by rfl, by (intro X hX; go_simp)⟩) ?_
      simp only [Act.put, List.setIfInBounds_toArray, List.set_cons_zero, List.set_cons_succ]
      refine Ht.takeN (i := 12) ⟨some 62, _, _, _, _, _⟩ (.bool false) rfl (Nat.le_refl 13) (by kernel_rfl) (by kernel_rfl) (by kernel_rfl) (by kernel_rfl) hS7 (Or.inl ⟨by rfl, by (intro X hX; go_simp)⟩) ?_
      simp only [Act.put, List.setIfInBounds_toArray, List.set_cons_zero, List.set_cons_succ]
      refine done (by kernel_rfl) ?_
      go_wp2_with fail
      go_roundw
      case rel => exact ⟨k + 1, by go_num, H7.out.2.1, H7.out.2.2, _, _, _, by have := HX.out.2.2.2.1; have := H5.out.2.1; omega, H7.out.1⟩
      case measure => simp [intOf]; omega
    · have hgI : ¬ (fz : Int) ≤ (R : Int) := by omega
      go_wp2_with fail
      refine begin' 5 (fun X => X.heap[q]? = some (.cells #[.int .u8 3, .slice (some ⟨g, 0, none⟩) m m] 34 (0, 0))) hmix hS0' (fun hS0 => ?_)
      refine Ht.takeN (i := 0) ⟨some 43, _, _, _, _, _⟩ (.pointer (some ⟨bl, 0, none⟩)) rfl (Nat.le_refl 5) (by kernel_rfl) (by kernel_rfl) (by kernel_rfl) (by kernel_rfl) hS0 (Or.inl ⟨by rfl, by (intro X hX; go_simp)⟩) ?_
      simp only [Act.put, List.setIfInBounds_toArray, List.set_cons_zero, List.set_cons_succ]
      refine Ht.takeN (i := 2) ⟨some 45, _, _, _, _, _⟩ (.agg #[.int .u8 3, .slice (some ⟨g, 0, none⟩) m m]) rfl (Nat.le_refl 5) (by kernel_rfl) (by kernel_rfl) (by kernel_rfl) (by kernel_rfl) hS0 (Or.inl ⟨by rfl, by (intro X hX; have := two_cells hX; go_simp)⟩) ?_
      simp only [Act.put, List.setIfInBounds_toArray, List.set_cons_zero, List.set_cons_succ]
      refine Ht.step (i := 1) ⟨some 44, _, _, _, _, _⟩ rfl (by kernel_rfl) (by rfl) (fun K hK => ?_)
      refine Ht.enter 26 #[.pointer (some ⟨bl, 0, none⟩)] (by have hen := fun args w => enters_of (P := Tryd.prog) Tryd.func26 (by kernel_rfl) rfl args w; go_simp) (HR.out) ?_
      rintro e Y1 ⟨rfl, hY1⟩
      have hS1 := heap_old hY1 hS0
      have HY1 := Lib.hid hY1
      clear hY1
      refine ⟨_, rfl, hK _ _ (fun _ => hS1) (fun _ => ?_)⟩
      clear hK K
      simp only [Act.put, List.setIfInBounds_toArray, List.set_cons_zero, List.set_cons_succ]
      refine Ht.step (i := 3) ⟨some 46, _, _, _, _, _⟩ rfl (by kernel_rfl) (by rfl) (fun K hK => ?_)
      refine Ht.enter 27 #[.agg #[.int .u8 3, .slice (some ⟨g, 0, none⟩) m m]] (by have hen := fun args w => enters_of (P := Tryd.prog) Tryd.func27 (by kernel_rfl) rfl args w; go_simp) (HSZ Y1 ((HX.out.2.1.old (Below.refl wr.heap.size wr).drew).old HY1.out) ((HN.out.old HX.out.2.2.1.drew).old (w' := Y1) (HY1.out.mono (Nat.le_refl _)))) ?_
      rintro e Y2 ⟨rfl, hY2⟩
      have hS2 := heap_old hY2 hS1
      have HB2 := Lib.hid (HX.out.2.2.1.drew.trans ((HY1.out.mono HX.out.2.2.1.size).trans (hY2.mono (Nat.le_trans HX.out.2.2.1.size HY1.out.size))))
      have HL2 := Lib.hid (((HX.out.1.old (Below.refl wr.heap.size wr).drew).old HY1.out).old hY2)
      have HV2 := Lib.hid (((HX.out.2.1.old (Below.refl wr.heap.size wr).drew).old HY1.out).old hY2)
      clear hY2
      refine ⟨_, rfl, hK _ _ (fun _ => hS2) (fun _ => ?_)⟩
      clear hK K
      simp only [Act.put, List.setIfInBounds_toArray, List.set_cons_zero, List.set_cons_succ]
      refine Ht.takeN (i := 4) ⟨some 47, _, _, _, _, _⟩ (.bool false) rfl (Nat.le_refl 5) (by kernel_rfl) (by kernel_rfl) (by kernel_rfl) (by kernel_rfl) hS2 (Or.inl ⟨by rfl, by (intro X hX; go_simp)⟩) ?_
      simp only [Act.put, List.setIfInBounds_toArray, List.set_cons_zero, List.set_cons_succ]
      refine done (by kernel_rfl) ?_
      have hS2c := two_cells hS2
      clear hS0 hS1 hS0' HR HY1 hS2
      have hW9 : W.length ≤ 900000 := by have := HX.out.2.2.2.1; omega
      go_wp2_with fail
      refine (append_r HL2.out HRZ.out HV2.out hm HFZ.out hW9 (HN.out.old HB2.out)).mono ?_
      rintro e Y3 (⟨_, rfl, hY3⟩ | ⟨hle, _⟩)
      rotate_left
      · omega
      have HL3 := Lib.hid (HL2.out.old hY3)
      have HB3 := Lib.hid (HB2.out.trans (hY3.mono HB2.out.size))
      clear hY3 hS2c HL2 HB2 HV2
      go_wp2_with fail
      refine (sync_x HL3.out (by omega)).mono ?_
      rintro e Y4 ⟨rfl, hx4, hf4⟩
      obtain ⟨F4, hF4⟩ : ∃ F, F = ov F2 W := ⟨_, rfl⟩
      rw [← hF4] at hx4
      have HL4 := Lib.hid (And.intro hx4 (Fr.below' HB3.out hf4 (fun k hk => Nat.le_trans HB0.out.size (HL3.out.dk.foot_ge k hk))))
      clear hx4 hf4 hF4
      go_wp2_with fail
      refine (copy_any HL4.out.1.dk (by decide)).mono ?_
      rintro e Y5 ⟨bd', gs', cs', gn', cn', vw', rfl, hd5, hb5⟩
      have HD5 := Lib.hid (And.intro hd5 hb5)
      clear hd5 hb5
      go_wp2_with fail
      refine (open_x (W := []) HD5.out.1 HL4.out.1.pl HL4.out.1.o1 (by decide) (by decide) (HN.out.old (HL4.out.2.trans (HD5.out.2.mono HL4.out.2.size)))).mono ?_
      rintro e Y6 ⟨k', hk', hj, rv, bl2, v, F6, last6, hrv, hbl2, rfl, hrs, hx6, hf6⟩
      obtain rfl : k' = k := by
        have h1 : (List.replicate k ((3 : UInt8), List.replicate m (0 : UInt8))).length = k := List.length_replicate
        rw [h1] at hk' hj
        refine Nat.le_antisymm hk' (hj k (Nat.le_refl k) ?_)
        rw [List.take_of_length_le (by omega)]
        exact Nat.le_refl _
      have hrl : rv.length = k' := by
        have := congrArg List.length hrv
        simpa using this
      obtain ⟨a2, c2, rfl, _⟩ := hrs.shape
      rw [hrl]
      have HB6 := Lib.hid (HD5.out.2.trans (hf6.below HD5.out.2.size HD5.out.1.foot_ge))
      have HL6 := Lib.hid (And.intro (HL4.out.1.old HB6.out) (HL4.out.2.trans (HB6.out.mono HL4.out.2.size)))
      clear hk' hj hrv hbl2 hrs hx6 hf6 hrl
      go_wp2_with fail
      refine (rewrite_x HL6.out.1 (by decide) none 0 [] (.inl rfl) (fun _ => ⟨rfl, rfl⟩) (by simp) (by simp) (by simp) (by simp) (HN.out.old HL6.out.2) (by simp)).mono ?_
      rintro e Y7 (⟨hlt, _⟩ | ⟨rfl, F7, last7, hx7, hf7⟩)
      · have := HD2.out.1.pl.cl
        simp only [List.map_nil] at hlt
        omega
      have HL7 := Lib.hid (And.intro hx7 (Fr.below' HL6.out.2 hf7 (fun k hk => Nat.le_trans HB0.out.size (HL6.out.1.ge HD2.out.2.2 k hk))))
      clear hx7 hf7
      go_wp2_with fail
      refine (room_r HL7.out.1 HR0.out).mono ?_
      rintro e Y8 ⟨rfl, hY8⟩
      have HL8 := Lib.hid (And.intro (HL7.out.1.old hY8) (HL7.out.2.trans (hY8.mono HL7.out.2.size)))
      clear hY8
      have hmk := run_makeBytes Y8 (n := 1025) (by decide)
      obtain ⟨Y9, hY9⟩ : ∃ Y, Y = Y8.alloc (.cells (madeCells #[.int .u8 0] 1025) 5) := ⟨_, rfl⟩
      have hb9 : Below Y8.heap.size Y8 Y9 := by rw [hY9]; exact (Below.refl _ _).alloc (Nat.le_refl _) _
      have hi9 : IsB Y9 (some ⟨Y8.heap.size, 0, none⟩) (List.replicate 1025 (0 : UInt8)).length 1025 (List.replicate 1025 0) := by rw [hY9]; exact Blk.made.isB (by unfold maxLen; omega)
      rw [← hY9, show ((1025 : Nat) : Int) = 1025 from rfl] at hmk
      go_wp2_with fail
      have hal := append_long (HL8.out.1.old hb9).lg (HL8.out.1.old hb9).dk 3 (some ⟨Y8.heap.size, 0, none⟩) 1025 (List.replicate 1025 0) hi9 (by decide) (by rw [List.length_replicate]; decide) (HN.out.old (HL8.out.2.trans (hb9.mono HL8.out.2.size)))
      rw [List.length_replicate] at hal
      rw [← hY9]
      refine hal.mono ?_
      rintro e Y10 ⟨rfl, hY10⟩
      have HZ := Lib.hid ((HL8.out.2.trans (hb9.mono HL8.out.2.size)).trans (hY10.mono (Nat.le_trans HL8.out.2.size hb9.size)))
      clear hmk hY9 hb9 hi9 hal hY10
      go_wp2_with fail
      go_ret
      exact ⟨rfl, HZ.out⟩
end Go.Proofs.YtjblkmjdepdekaaDoor.Wl

/- WalRoom (P5.1): so many bytes of frames go in as is told, one more is refused and changes nothing, a log that is rewritten with none has room again: the call returns true for any two bytes, and the arguments read as before. The table of package crc is tied to the program's text. -/
namespace Go.Proofs.YtjblkmjdepdekaaDoor.walRoom
open Go.ChangeShapes Go.WideShapes Go.ChangeAt Go.RowKit
open Go.ChangeMaps (open_string shut_string)
set_option linter.unusedVariables false

theorem own : ownKnob Tryd.prog.godebug = none := by kernel_rfl

theorem walk (a0 : Int) (a1 : Int) (w0 : (Lit.int .u8 a0).wf = true) (w1 : (Lit.int .u8 a1).wf = true) (w : World) (hn : Cr.Nibs w) :
    Calls Tryd.prog 5 #[.int .u8 a0, .int .u8 a1] w fun e w' => e = .returned (.bool true) ∧ Below w.heap.size w w' := by
  exact Wl.room_walk a0 a1 w0 w1 w hn

set_option maxRecDepth 100000 in
theorem lifted (os : Os) (started : os.Started) (H : Type) (enc : TypeId × Value → H) :
    ReturnsInHanded {} Tryd.checked os 5 .any (fun w args => (Rows.walRoomSpec.pre enc Tryd.prog Tryd.f5 [] false w args ∧ laidMetH Tryd.prog Cr.laidL w) ∧ sizedMet enc Tryd.prog Tryd.f5 (OpenSpec.ofChange Rows.walRoomSpec) false w args) (Rows.walRoomSpec.post enc Tryd.prog Tryd.f5 false true false false) := by
  refine returnsInHanded_of_change_and (C := Tryd.checked) (X := fun w _ => laidMetH Tryd.prog Cr.laidL w) (fun _ _ _ hh h => h.of_heap hh) own started (by kernel_rfl) Tryd.func5
    (ChangeSpec.witness_shaped (enc := enc) (C := Tryd.checked) (os := os) (X := fun w _ => laidMetH Tryd.prog Cr.laidL w) false (World.laidAll Tryd.prog os Cr.laidL) #[.int .u8 0, .int .u8 0] 8 (World.laidAll_os _ _ _) (World.shaped_of_ZipB (by kernel_rfl) (by kernel_rfl)) (by kernel_rfl) (by kernel_rfl) (by kernel_rfl) (Cr.met_laid _ _)) ?_
  intro W base args ds gs before hval0 hW hcnd _ hL _
  have hval : ∀ (j : Nat) t v, Tryd.f5.params[j]? = some t → args[j]? = some v → Value.okWide Tryd.prog W .any base t v := hval0
  have hW' := hW
  obtain ⟨p, q, hA0, hV, rfl, hfz, hnd⟩ := hW
  have hA : DataW.TrodAll enc Tryd.prog W 0 (fun _ => true) true Tryd.f5.params.toList args.toList ds p := hA0
  rw [Tryd.params5] at hA hval
  obtain ⟨v0, vs0, d0, ds0, p0, q0, hargs, rfl, rfl, h0, r0⟩ := trodAll_cons hA
  obtain ⟨v1, vs1, d1, ds1, p1, q1, rfl, rfl, rfl, h1, r1⟩ := trodAll_cons r0
  obtain ⟨rfl, rfl, rfl⟩ := trodAll_nil r1
  obtain rfl : args = #[v0, v1] := by cases args; simp_all
  obtain ⟨rfl, rfl⟩ := trodVars_none hV
  obtain ⟨a0, rfl, rfl, rfl, w0⟩ := open_int Tryd.underlying5 (hval 0 5 v0 rfl rfl) h0
  obtain ⟨a1, rfl, rfl, rfl, w1⟩ := open_int Tryd.underlying5 (hval 1 5 v1 rfl rfl) h1
  clear hA0 hval0
  simp only [List.append_nil] at hW'
  refine (walk a0 a1 w0 w1 W (Cr.nibs_of hL)).mono fun e W' ⟨he, bel⟩ => ?_
  subst he
  exact ⟨_, rfl, _, _, _, [], _, [], hW', trodAll_mk1 (shut_bool Tryd.underlying4 _), (trodAll_cons_mk (shut_int Tryd.underlying5 w0) (trodAll_cons_mk (shut_int Tryd.underlying5 w1) trodAll_mk0)), rfl, bel.frame _, fun h => by cases h⟩

theorem over : Rows.walRoomRow.holds Tryd.pinned (OpenSpec.ofChange Rows.walRoomSpec) :=
  OpenClaim.holds_of_wide 5 Tryd.f5 rfl rfl rfl rfl rfl rfl rfl ⟨rfl, rfl, rfl, rfl, rfl⟩ rfl rfl rfl rfl rfl (by kernel_rfl) Tryd.func5 (by kernel_rfl)
    (of_decide_eq_true (by kernel_rfl)) (by unfold Func.isWrapper; first | (rw [if_pos (by decide +kernel)]; kernel_rfl) | (rw [if_neg (by decide +kernel)]; exact ⟨rfl, rfl⟩))
    (fun os started H enc _ => lifted os started H enc)

theorem proved : Rows.WalRoomCardSaid :=
  Claim7.holds_tied_plain_at .later [] [.data] true _ false over (fun _ h => by cases h) (by kernel_rfl) (fun _ h => by cases h) walRoom_row_tie rfl ⟨rfl, rfl⟩ (by kernel_rfl) rfl
    (fun f fn hf hfn => by
      obtain rfl : f = 5 := Option.some.inj ((show Tryd.prog.funcNamed "compline/complinelaw05.WalRoom" = some 5 by kernel_rfl).symm.trans hf) |>.symm
      obtain rfl : fn = Tryd.f5 := (Option.some.inj (Tryd.func5.symm.trans hfn)).symm
      exact ⟨by kernel_rfl, fun j t ht => by
        rw [Tryd.params5] at ht
        have hm : t ∈ [5] := by simpa using Array.mem_of_getElem? ht
        have hall : ([5].all fun u => !Tryd.prog.wantsStandIn u) = true := by kernel_rfl
        exact (show Tryd.prog.wantsStandIn t = false by simpa using List.all_eq_true.1 hall t hm)⟩)
    (by kernel_rfl)
#print axioms proved
end Go.Proofs.YtjblkmjdepdekaaDoor.walRoom
