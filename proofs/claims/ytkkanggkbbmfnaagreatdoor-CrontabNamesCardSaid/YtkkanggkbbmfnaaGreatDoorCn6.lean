
/- expressions: what lies ahead of Parse -/
import Derived.Test.YtkkanggkbbmfnaaGreatDoorCn5
namespace Go.Proofs.YtkkanggkbbmfnaaGreatDoor.Cn
open Go.RowKit Go.Lib Go.Proofs.YtkkanggkbbmfnaaGreatDoor.Rg Go.Proofs.YtkkanggkbbmfnaaGreatDoor.Ht
set_option linter.unusedVariables false

/-- the table of fields, cell by cell -/
def fldC : Array Value := #[.int .i64 0, .int .i64 59, S [], .int .i64 0, .int .i64 23, S [], .int .i64 1, .int .i64 31, S [], .int .i64 1, .int .i64 12, S (fds 3).nm, .int .i64 0, .int .i64 7, S (fds 4).nm]
/-- what the package's and the library's variables hold -/
structure Gl (w : World) : Prop where
  mx : Mx w
  fld : ∀ (k : Nat) (v : Value), fldC[k]? = some v → w.cell? ⟨0, k, none⟩ = some v
theorem Gl.old {w w' : World} (h : Gl w) (hb : Below w.heap.size w w') : Gl w' :=
  ⟨h.mx.old hb, fun k v hk => (hb.cell (World.block_lt_of_cell? _ _ (h.fld k v hk))).trans (h.fld k v hk)⟩
theorem Gl.drewN {w : World} (h : Gl w) (n : Nat) : Gl (w.drewN n) := h.old (below_drewN (Below.refl _ _) n)
/-- the table as a value -/
def fldV : Value := .agg #[fdv (fds 0), fdv (fds 1), fdv (fds 2), fdv (fds 3), fdv (fds 4)]
/-- a text, cut at blanks -/
theorem split_any (s : L) (c : UInt8) (w : World) (hs : s.length ≤ 1000) (hm : Mx w) :
    Calls Tryz.prog 39 #[S s, .string ⟨#[c]⟩] w fun e w' => e = .returned (.slice (some ⟨w.heap.size, 0, none⟩) (sp c s).length (sp c s).length) ∧ w' = w.alloc (.cells ((sp c s).map fun l => S l).toArray 9) := by
  obtain ⟨m, hm⟩ := hm
  have h := Tryz.strings_Split ⟨s.toArray⟩ ⟨#[c]⟩ m w (by rw [size_S]; omega) hm (Nat.le_refl 1)
  have e1 : countB ⟨s.toArray⟩ ⟨#[c]⟩ = s.count c := by
    show count s [c] = _
    exact count_one c s
  have e2 : splitB ⟨#[c]⟩ 0 (countB ⟨s.toArray⟩ ⟨#[c]⟩) ⟨s.toArray⟩ = (sp c s).map (fun l => (⟨l.toArray⟩ : ByteArray)) := by
    have h2 := splitB_data ⟨#[c]⟩ 0 (countB ⟨s.toArray⟩ ⟨#[c]⟩) ⟨s.toArray⟩
    have h3 : splitK [c] 0 (countB ⟨s.toArray⟩ ⟨#[c]⟩) s = sp c s := by rw [e1]; exact splitK_sp c _ s rfl
    have h4 : (splitB ⟨#[c]⟩ 0 (countB ⟨s.toArray⟩ ⟨#[c]⟩) ⟨s.toArray⟩).map (·.data.toList) = sp c s := h2.trans h3
    rw [← h4, List.map_map]
    refine (List.map_id _).symm.trans (List.map_congr_left fun x _ => ?_)
    show x = ⟨x.data.toList.toArray⟩
    cases x; simp
  rw [e2, e1] at h
  rw [sp_length]
  refine h.mono fun e w' ⟨h1, h2⟩ => ⟨h1, ?_⟩
  rw [h2, List.map_map]
  rfl
abbrev u (n : Nat) : Value := .int .u64 (n : Nat)
/-- an expression's value, and its cells -/
abbrev exC (e : Ex) : Array Value := #[u e.a, u e.b, u e.c, u e.d, u e.e, .bool e.x, .bool e.y]
abbrev exv (e : Ex) : Value := .agg (exC e)
theorem seven {w : World} {b : Nat} {v0 v1 v2 v3 v4 v5 v6 : Value} {t : TypeId} (h : w.heap[b]? = some (.cells #[v0, v1, v2, v3, v4, v5, v6] t (0, 0))) :
    (w.cell? ⟨b, 0, none⟩ = some v0 ∧ w.cell? ⟨b, 1, none⟩ = some v1 ∧ w.cell? ⟨b, 2, none⟩ = some v2 ∧ w.cell? ⟨b, 3, none⟩ = some v3 ∧ w.cell? ⟨b, 4, none⟩ = some v4 ∧ w.cell? ⟨b, 5, none⟩ = some v5 ∧ w.cell? ⟨b, 6, none⟩ = some v6) ∧
    w.frozen? ⟨b, 0, none⟩ = false ∧ w.frozen? ⟨b, 1, none⟩ = false ∧ w.frozen? ⟨b, 2, none⟩ = false ∧ w.frozen? ⟨b, 3, none⟩ = false ∧ w.frozen? ⟨b, 4, none⟩ = false ∧ w.frozen? ⟨b, 5, none⟩ = false ∧ w.frozen? ⟨b, 6, none⟩ = false := by
  refine ⟨⟨?_, ?_, ?_, ?_, ?_, ?_, ?_⟩, ?_, ?_, ?_, ?_, ?_, ?_, ?_⟩ <;> simp [World.cell?, World.frozen?, h]
theorem five {w : World} {b : Nat} {v0 v1 v2 v3 v4 : Value} {t : TypeId} (h : w.heap[b]? = some (.cells #[v0, v1, v2, v3, v4] t (0, 0))) :
    (w.cell? ⟨b, 0, none⟩ = some v0 ∧ w.cell? ⟨b, 1, none⟩ = some v1 ∧ w.cell? ⟨b, 2, none⟩ = some v2 ∧ w.cell? ⟨b, 3, none⟩ = some v3 ∧ w.cell? ⟨b, 4, none⟩ = some v4) ∧
    ∀ k, w.frozen? ⟨b, k, none⟩ = false := by
  refine ⟨⟨?_, ?_, ?_, ?_, ?_⟩, fun k => ?_⟩ <;> simp [World.cell?, World.frozen?, h]
/-- the fields' values so far -/
def av (ts : List L) (m j : Nat) : Nat := if j < m then fv j (ts.getD j []) else 0
abbrev avC (ts : List L) (m : Nat) : Array Value := #[u (av ts m 0), u (av ts m 1), u (av ts m 2), u (av ts m 3), u (av ts m 4)]
theorem avC_zero (ts : List L) : avC ts 0 = #[u 0, u 0, u 0, u 0, u 0] := by simp [av]
theorem avC_next (ts : List L) {m : Nat} (h : m < 5) : (avC ts m).setIfInBounds m (u (fv m (ts.getD m []))) = avC ts (m + 1) := by
  have : m = 0 ∨ m = 1 ∨ m = 2 ∨ m = 3 ∨ m = 4 := by omega
  rcases this with rfl | rfl | rfl | rfl | rfl <;> simp [av]
/-- the errors of the fields from the m-th one on -/
theorem errs_drop (ts : List L) : ∀ (k i : Nat), (∀ j, j < k → ∀ t, ts[j]? = some t → errF (fds (i + j)) (sp 44 t) = 0) → errs i ts = errs (i + k) (ts.drop k)
  | 0, i, _ => rfl
  | k + 1, i, h => by
    cases ts with
    | nil => rfl
    | cons t ts =>
      have h0 := h 0 (Nat.succ_pos k) t rfl
      rw [Nat.add_zero] at h0
      rw [errs, if_pos h0, List.drop_succ_cons, errs_drop ts k (i + 1) (fun j hj t' ht => by have := h (j + 1) (by omega) t' ht; rwa [show i + (j + 1) = i + 1 + j by omega] at this)]
      congr 1; omega
theorem errs_at {ts : List L} {m : Nat} {t : L} (h : ∀ j, j < m → ∀ t, ts[j]? = some t → errF (fds j) (sp 44 t) = 0) (ht : ts[m]? = some t) (he : errF (fds m) (sp 44 t) ≠ 0) : errs 0 ts = errF (fds m) (sp 44 t) := by
  rw [errs_drop ts m 0 (by simpa using h), Nat.zero_add]
  obtain ⟨hl, hg⟩ := List.getElem?_eq_some_iff.1 ht
  rw [List.drop_eq_getElem_cons hl, hg, errs, if_neg he]
theorem errs_ok {ts : List L} (h : ∀ j, j < ts.length → ∀ t, ts[j]? = some t → errF (fds j) (sp 44 t) = 0) : errs 0 ts = 0 := by
  rw [errs_drop ts ts.length 0 (by simpa using h), List.drop_length]; rfl
end Go.Proofs.YtkkanggkbbmfnaaGreatDoor.Cn
