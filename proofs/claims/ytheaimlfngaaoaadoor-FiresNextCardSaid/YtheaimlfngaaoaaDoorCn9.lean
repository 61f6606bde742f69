
/- expressions: is a tick named; the chapter's example -/
import Derived.Test.YtheaimlfngaaoaaDoorCn8
import Derived.Test.YtheaimlfngaaoaaDoorCa3
namespace Go.Proofs.YtheaimlfngaaoaaDoor.Cn
open Go.RowKit Go.Lib Go.Proofs.YtheaimlfngaaoaaDoor.Ht
set_option linter.unusedVariables false

/-- what is told of a tick -/
def AtIs (e : Ex) (t : Int) (b : Bool) : Prop :=
  ((t < 0 ∨ 1099511627776 < t) ∧ b = false) ∨ ((0 ≤ t ∧ t ≤ 1099511627776) ∧ ∃ y mo d wd h mi, Ca.IsM t y mo d wd h mi ∧ b = namesB e mo d wd h mi)
theorem isM_in {t y mo d wd h mi : Int} (i : Ca.IsM t y mo d wd h mi) : Ca.I64 mo ∧ Ca.I64 d ∧ Ca.I64 wd ∧ Ca.I64 h ∧ Ca.I64 mi := by
  have h1 := i.m1; have h2 := i.m2; have h3 := i.d1; have h4 := i.d2; have h5 := Ca.dm_le y mo; have h6 := i.wd; have h7 := i.h; have h8 := i.mi
  unfold Ca.I64
  omega
theorem AtIs.same {e : Ex} {t : Int} {b c : Bool} (h : AtIs e t b) (k : AtIs e t c) : b = c := by
  rcases h with ⟨h1, rfl⟩ | ⟨h1, y, mo, d, wd, hh, mi, hi, rfl⟩ <;> rcases k with ⟨k1, rfl⟩ | ⟨k1, y', mo', d', wd', hh', mi', hj, rfl⟩
  · rfl
  · omega
  · omega
  · obtain ⟨rfl, rfl, rfl, rfl, rfl, rfl⟩ := hi.same hj; rfl
theorem cell_new (w : World) (C : Array Value) (t : TypeId) : Below w.heap.size w (w.alloc (.cells C t)) ∧ (w.alloc (.cells C t)).heap[w.heap.size]? = some (.cells C t (0, 0)) ∧ (w.alloc (.cells C t)).heap.size = w.heap.size + 1 :=
  ⟨(Below.refl _ _).alloc (Nat.le_refl _) _, heap_alloc_new w _, by simp⟩
set_option maxRecDepth 20000 in
set_option maxHeartbeats 4000000 in
theorem at_any (e : Ex) (he : ExOk e) (t : Int) (ht : Ca.I64 t) (w : World) :
    Calls Tryd.prog 14 #[exv e, .int .i64 t] w fun r w' => (∃ b, r = .returned (.bool b) ∧ AtIs e t b) ∧ Below w.heap.size w w' := by
  have hN := fun y mo d wd h mi (i : Ca.IsM t y mo d wd h mi) W => names_any e he y mo d wd h mi (isM_in i).1 (isM_in i).2.1 (isM_in i).2.2.1 (isM_in i).2.2.2.1 (isM_in i).2.2.2.2 W
  have HN := Lib.hid hN
  clear hN
  obtain ⟨P, hP⟩ : ∃ P : Bool → Prop, P = AtIs e t := ⟨_, rfl⟩
  have HP := Lib.hid hP
  show Calls Tryd.prog 14 #[exv e, .int .i64 t] w fun r w' => (∃ b, r = .returned (.bool b) ∧ AtIs e t b) ∧ Below w.heap.size w w'
  rw [← hP]
  clear hP he
  obtain ⟨V, hV⟩ : ∃ V, V = w.alloc (.cells (exC e) 26) := ⟨_, rfl⟩
  obtain ⟨b1, b2, b3⟩ := cell_new w (exC e) 26
  rw [← hV] at b1 b2 b3
  have HV := Lib.hid (And.intro hV (And.intro b1 (And.intro b2 b3)))
  clear hV b1 b2 b3
  by_cases ho : t < 0 ∨ 1099511627776 < t
  · have hf := Ca.Of_out t V ht ho
    have HF := Lib.hid (And.intro hf ho)
    clear hf ho ht
    go_enter Tryd.func14, Tryd.ntmps14
    go_wp2_with fail
    rw [← HV.out.1]
    refine HF.out.1.mono ?_
    rintro r w1 ⟨rfl, hb⟩
    go_wp2_with fail
    go_ret
    exact ⟨⟨false, rfl, by rw [HP.out]; exact .inl ⟨HF.out.2, rfl⟩⟩, (HV.out.2.1.trans (hb.mono HV.out.2.1.size)).alloc (by have := hb.size; have := HV.out.2.1.size; omega) _⟩
  · have h0 : 0 ≤ t ∧ t ≤ 1099511627776 := by omega
    have hf := Ca.Of_in t V h0.1 h0.2
    have HF := Lib.hid (And.intro hf h0)
    clear hf ho ht h0
    go_enter Tryd.func14, Tryd.ntmps14
    go_wp2_with fail
    rw [← HV.out.1]
    refine HF.out.1.mono ?_
    rintro r w1 ⟨y, mo, d, wd, h, mi, rfl, hi, hb⟩
    obtain ⟨⟨c0, c1, c2, c3, c4, c5, c6⟩, _⟩ := seven (old_blk hb HV.out.2.2.1)
    have hlt : w.heap.size < w1.heap.size := by have := hb.size; have := HV.out.2.2.2; omega
    have HB := Lib.hid (And.intro hi hb)
    clear hi hb
    go_wp2_with fail
    refine (HN.out y mo d wd h mi HB.out.1 _).mono ?_
    rintro r w3 ⟨rfl, hb3⟩
    generalize hR : namesB e mo d wd h mi = R
    go_wp2_with fail
    go_ret
    refine ⟨⟨R, rfl, by rw [HP.out]; exact .inr ⟨HF.out.2, y, mo, d, wd, h, mi, HB.out.1, hR.symm⟩⟩, ?_⟩
    have h2 := HB.out.2.alloc HB.out.2.size (.cells (Ca.momC y mo d wd h mi) 38)
    exact HV.out.2.1.trans ((h2.trans (hb3.mono h2.size)).mono HV.out.2.1.size)
theorem ex_lives : parseE [48, 32, 49, 50, 32, 49, 32, 42, 32, 109, 111, 110] = 0 ∧ parseV [48, 32, 49, 50, 32, 49, 32, 42, 32, 109, 111, 110] = ⟨1, 4096, 2, 8190, 2, false, false⟩ := by
  constructor
  · decide +kernel
  · kernel_rfl
theorem at720 : AtIs ⟨1, 4096, 2, 8190, 2, false, false⟩ 720 true := .inr ⟨by decide, 2000, 1, 1, 6, 12, 0, ⟨by decide, by decide, by decide, by decide, by decide, by decide, by decide, by decide, by decide⟩, by decide +kernel⟩
theorem at721 : AtIs ⟨1, 4096, 2, 8190, 2, false, false⟩ 721 false := .inr ⟨by decide, 2000, 1, 1, 6, 12, 1, ⟨by decide, by decide, by decide, by decide, by decide, by decide, by decide, by decide, by decide⟩, by decide +kernel⟩
theorem at2160 : AtIs ⟨1, 4096, 2, 8190, 2, false, false⟩ 2160 false := .inr ⟨by decide, 2000, 1, 2, 0, 12, 0, ⟨by decide, by decide, by decide, by decide, by decide, by decide, by decide, by decide, by decide⟩, by decide +kernel⟩
theorem at3600 : AtIs ⟨1, 4096, 2, 8190, 2, false, false⟩ 3600 true := .inr ⟨by decide, 2000, 1, 3, 1, 12, 0, ⟨by decide, by decide, by decide, by decide, by decide, by decide, by decide, by decide, by decide⟩, by decide +kernel⟩
theorem at_known {e : Ex} (he : ExOk e) {t : Int} {b : Bool} (h : AtIs e t b) (ht : Ca.I64 t) (w : World) :
    Calls Tryd.prog 14 #[exv e, .int .i64 t] w fun r w' => r = .returned (.bool b) ∧ Below w.heap.size w w' := by
  refine (at_any e he t ht w).mono ?_
  rintro r w' ⟨⟨c, rfl, hc⟩, hb⟩
  exact ⟨by rw [hc.same h], hb⟩
end Go.Proofs.YtheaimlfngaaoaaDoor.Cn
