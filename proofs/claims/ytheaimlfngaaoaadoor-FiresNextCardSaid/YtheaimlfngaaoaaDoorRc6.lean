
/- the document's answer for an expression: is a moment named -/
import Derived.Test.YtheaimlfngaaoaaDoorRc5
import Derived.BigQuiet
namespace Go.Proofs.YtheaimlfngaaoaaDoor.Cn
open Go.RowKit Go.Lib
set_option linter.unusedVariables false

/-- is a moment named, by values field by field -/
def namedR (P : Nat → Nat → Bool) (t2 t4 : L) (mo d wd h mi : Nat) : Bool :=
  P 0 mi && (P 1 h && (P 3 mo && (if t2 = [42] then P 4 wd else if t4 = [42] then P 2 d else P 2 d || P 4 wd)))
set_option maxRecDepth 20000 in
set_option maxHeartbeats 16000000 in
theorem named_any (ts : List L) (h5 : ts.length = 5) (w0 w : World) (g5 c5 : Nat) (v6 : Value) (ms : List Nat) (hms : ms.length = 5) (hpm : Pm w0 ts g5 c5 v6 ms w) (y : Int) (mo d wd h mi : Nat) (hmo : mo ≤ 12) (hd : d ≤ 31) (hwd : wd ≤ 6) (hh : h ≤ 23) (hmi : mi ≤ 59) :
    Calls Tryd.prog 11 #[v6, .slice (some ⟨g5, 0, none⟩) 5 c5, Ca.mom y mo d wd h mi] w fun e w' => e = .returned (.bool (namedR (fun j => fp j (sp 44 (ts.getD j []))) (ts.getD 2 []) (ts.getD 4 []) mo d wd h mi)) ∧ Below w.heap.size w w' := by
  obtain ⟨t0, t1, t2, t3, t4, rfl⟩ := five_of h5
  obtain ⟨b0, b1, b2, b3, b4, rfl⟩ := five_of hms
  obtain ⟨g6, c6, rfl⟩ : ∃ g c, v6 = .slice (some ⟨g, 0, none⟩) 5 c := by
    rcases hpm.out.2 with ⟨rfl, h9⟩ | ⟨g, cap, cur, rfl, _⟩
    · cases h9
    · exact ⟨_, _, rfl⟩
  have m0 := (hpm.maps 0 b0 t0 rfl rfl).1
  have m1 := (hpm.maps 1 b1 t1 rfl rfl).1
  have m2 := (hpm.maps 2 b2 t2 rfl rfl).1
  have m3 := (hpm.maps 3 b3 t3 rfl rfl).1
  have m4 := (hpm.maps 4 b4 t4 rfl rfl).1
  obtain ⟨V, hV⟩ : ∃ V, V = w.alloc (.cells (Ca.momC y mo d wd h mi) 38) := ⟨_, rfl⟩
  obtain ⟨n1, n2, n3⟩ := cell_new w (Ca.momC y mo d wd h mi) 38
  rw [← hV] at n1 n2 n3
  have hp2 := hpm.old n1
  have r0 := row_at (n := 5) hp2.out (k := 0) rfl
  have r1 := row_at (n := 5) hp2.out (k := 1) rfl
  have r2 := row_at (n := 5) hp2.out (k := 2) rfl
  have r3 := row_at (n := 5) hp2.out (k := 3) rfl
  have r4 := row_at (n := 5) hp2.out (k := 4) rfl
  have s2 := row_at (n := 5) hp2.row (k := 2) rfl
  have s4 := row_at (n := 5) hp2.row (k := 4) rfl
  obtain ⟨⟨c0, c1, c2, c3, c4, c5'⟩, _⟩ := Ca.mom_cells n2
  have l0 := fun k => (m0.old n1).look (Y := V.drewN k) rfl (i := mi) (by omega)
  have l1 := fun k => (m1.old n1).look (Y := V.drewN k) rfl (i := h) (by omega)
  have l3 := fun k => (m3.old n1).look (Y := V.drewN k) rfl (i := mo) (by omega)
  have L2 : ∀ Y : World, Y.heap = V.heap → (Instr.lookup 61 (.map (some b2)) (.int .i64 (d : Nat)) false).run Tryd.prog Y = .ok (.bool (fp 2 (sp 44 t2) d)) Y := fun Y hY => (m2.old n1).look (by rw [hY]) (by omega)
  have L4 : ∀ Y : World, Y.heap = V.heap → (Instr.lookup 61 (.map (some b4)) (.int .i64 (wd : Nat)) false).run Tryd.prog Y = .ok (.bool (fp 4 (sp 44 t4) wd)) Y := fun Y hY => (m4.old n1).look (by rw [hY]) (by omega)
  have hR : namedR (fun j => fp j (sp 44 ([t0, t1, t2, t3, t4].getD j []))) ([t0, t1, t2, t3, t4].getD 2 []) ([t0, t1, t2, t3, t4].getD 4 []) mo d wd h mi = (fp 0 (sp 44 t0) mi && (fp 1 (sp 44 t1) h && (fp 3 (sp 44 t3) mo && (if t2 = [42] then fp 4 (sp 44 t4) wd else if t4 = [42] then fp 2 (sp 44 t2) d else fp 2 (sp 44 t2) d || fp 4 (sp 44 t4) wd)))) := rfl
  rw [hR]
  generalize fp 0 (sp 44 t0) mi = B0 at l0 ⊢
  generalize fp 1 (sp 44 t1) h = B1 at l1 ⊢
  generalize fp 3 (sp 44 t3) mo = B3 at l3 ⊢
  generalize fp 4 (sp 44 t4) wd = B4 at L4 ⊢
  generalize fp 2 (sp 44 t2) d = B2 at L2 ⊢
  obtain ⟨R, hR2⟩ : ∃ R, R = (B0 && (B1 && (B3 && (if t2 = [42] then B4 else if t4 = [42] then B2 else B2 || B4)))) := ⟨_, rfl⟩
  rw [← hR2]
  have HR := Lib.hid hR2
  have HM := Lib.hid (And.intro L2 L4)
  have HV := Lib.hid (And.intro hV n1)
  clear hR hR2 hV n1 n2 n3 hp2 hpm m0 m1 m2 m3 m4 h5 hms hmo hd hwd hh hmi
  go_enter Tryd.func11, Tryd.ntmps11
  go_wp2_with fail
  rw [← HV.out.1]
  cases B0
  · go_quiet (fail)
    go_wp2_with fail
    go_ret
    exact ⟨by rw [HR.out]; rfl, below_drewN HV.out.2 _⟩
  cases B1
  · go_quiet (fail)
    go_wp2_with fail
    go_ret
    exact ⟨by rw [HR.out]; rfl, below_drewN HV.out.2 _⟩
  cases B3
  · go_quiet (fail)
    go_wp2_with fail
    go_ret
    exact ⟨by rw [HR.out]; rfl, below_drewN HV.out.2 _⟩
  go_quiet (fail)
  clear l0 l1 l3
  obtain ⟨V2, hV2⟩ : ∃ V2, V2 = V.drewN nq := ⟨_, rfl⟩
  have r2' : V2.cell? ⟨g6, 2, none⟩ = some (.map (some b2)) := by rw [hV2]; exact r2
  have r4' : V2.cell? ⟨g6, 4, none⟩ = some (.map (some b4)) := by rw [hV2]; exact r4
  have s2' : V2.cell? ⟨g5, 2, none⟩ = some (S t2) := by rw [hV2]; exact s2
  have s4' : V2.cell? ⟨g5, 4, none⟩ = some (S t4) := by rw [hV2]; exact s4
  have c2' : V2.cell? ⟨w.heap.size, 2, none⟩ = some (.int .i64 (d : Nat)) := by rw [hV2]; exact c2
  have c3' : V2.cell? ⟨w.heap.size, 3, none⟩ = some (.int .i64 (wd : Nat)) := by rw [hV2]; exact c3
  have l2 := fun k => HM.out.1 (V2.drewN k) (by rw [hV2]; rfl)
  have l4 := fun k => HM.out.2 (V2.drewN k) (by rw [hV2]; rfl)
  have hbel : Below w.heap.size w V2 := by rw [hV2]; exact below_drewN HV.out.2 _
  have HB := Lib.hid hbel
  rw [← hV2]
  clear hV2 hbel r0 r1 r2 r3 r4 s2 s4 c0 c1 c2 c3 c4 c5' HV HM
  by_cases h2 : t2 = [42]
  · subst h2
    go_wp2_with fail
    go_quiet (fail)
    go_wp2_with fail
    go_ret
    exact ⟨by rw [HR.out]; rfl, below_drewN HB.out _⟩
  · have h2b : (t2 == [42]) = false := by simpa using h2
    by_cases h4 : t4 = [42]
    · subst h4
      have HR2 : R = B2 := by rw [HR.out, if_neg h2]; rfl
      clear h2
      go_wp2_with fail
      go_quiet (fail)
      go_wp2_with fail
      go_ret
      exact ⟨by rw [HR2]; rfl, below_drewN HB.out _⟩
    · have h4b : (t4 == [42]) = false := by simpa using h4
      have HR2 := Lib.hid (show R = (B2 || B4) by rw [HR.out, if_neg h2, if_neg h4]; rfl)
      clear h2 h4 HR
      cases B2
      · go_wp2_with fail
        go_quiet (fail)
        go_wp2_with fail
        go_ret
        exact ⟨by rw [HR2.out]; rfl, below_drewN HB.out _⟩
      · go_wp2_with fail
        go_quiet (fail)
        go_wp2_with fail
        go_ret
        exact ⟨by rw [HR2.out]; rfl, below_drewN HB.out _⟩
end Go.Proofs.YtheaimlfngaaoaaDoor.Cn
