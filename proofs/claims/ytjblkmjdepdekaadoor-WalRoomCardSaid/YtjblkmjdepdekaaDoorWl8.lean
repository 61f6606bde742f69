
/- logs in memory; Room, Turn, sectors, Sync, seals -/
import Derived.Test.YtjblkmjdepdekaaDoorWl7
import Derived.Test.YtjblkmjdepdekaaDoorHc
namespace Go.Proofs.YtjblkmjdepdekaaDoor.Wl
open Go.RowKit Go.Lib Go.Joins Go.Proofs.YtjblkmjdepdekaaDoor.By Go.Proofs.YtjblkmjdepdekaaDoor.Dk Go.Proofs.YtjblkmjdepdekaaDoor.Oc Go.Proofs.YtjblkmjdepdekaaDoor.Rg Go.Proofs.YtjblkmjdepdekaaDoor.Ht Go.Proofs.YtjblkmjdepdekaaDoor.Cr Go.Proofs.YtjblkmjdepdekaaDoor.Fm

/-- a log's cells -/
def lgc (bd hf t z s : Nat) (last : List UInt8) : List Value := [.pointer (some ⟨bd, 0, none⟩), .int .i64 (hf : Nat), .int .u64 (t : Nat), .int .i64 (z : Nat), .int .u32 (s : Nat)] ++ byteCells last
structure IsLg (w : World) (bl bd hf t z s : Nat) (last : List UInt8) : Prop where
  blk : w.heap[bl]? = some (.cells (lgc bd hf t z s last).toArray 73 (0, 0))
  len : last.length = 55
  hf1 : hf ≤ 1
  ut : U64 t
  us : U32 s
theorem lgc_len {bd hf t z s : Nat} {last : List UInt8} (h : last.length = 55) : (lgc bd hf t z s last).length = 60 := by simp [lgc, byteCells, h]
section
variable {w w' : World} {bl bd hf t z s : Nat} {last : List UInt8}
theorem IsLg.cells (h : IsLg w bl bd hf t z s last) : w.cell? ⟨bl, 0, none⟩ = some (.pointer (some ⟨bd, 0, none⟩)) ∧ w.cell? ⟨bl, 1, none⟩ = some (.int .i64 (hf : Nat)) ∧ w.cell? ⟨bl, 2, none⟩ = some (.int .u64 (t : Nat)) ∧ w.cell? ⟨bl, 3, none⟩ = some (.int .i64 (z : Nat)) ∧ w.cell? ⟨bl, 4, none⟩ = some (.int .u32 (s : Nat)) := by
  refine ⟨?_, ?_, ?_, ?_, ?_⟩ <;> (rw [cell_of_block h.blk]; simp [lgc])
theorem IsLg.free (h : IsLg w bl bd hf t z s last) (k : Nat) : w.frozen? ⟨bl, k, none⟩ = false := unfrozen_of_block h.blk k
theorem IsLg.lastB (h : IsLg w bl bd hf t z s last) : IsB w (some ⟨bl, 5, none⟩) 55 55 last :=
  ⟨h.len, .inr ⟨_, rfl, Nat.le_refl _, by unfold maxLen; omega, fun j u hu => by
    rw [add_lit, cell_of_block h.blk]
    have : (lgc bd hf t z s last)[5 + j]? = some u := by
      unfold lgc
      rw [List.getElem?_append_right (by simp)]
      simpa using hu
    simpa using this⟩⟩
theorem IsLg.same (h : IsLg w bl bd hf t z s last) (hb : w'.heap[bl]? = w.heap[bl]?) : IsLg w' bl bd hf t z s last := ⟨hb.trans h.blk, h.len, h.hf1, h.ut, h.us⟩
theorem IsLg.old (h : IsLg w bl bd hf t z s last) (hb : Below w.heap.size w w') : IsLg w' bl bd hf t z s last := h.same (hb.block _ (lt_of_block h.blk))
/-- a log is none of a disk's blocks -/
theorem IsLg.apart {B gs cs gn cn n : Nat} {vw : Value} {F G : List UInt8} {W : List Wr} {dn : Bool} {bd' : Nat} (h : IsLg w bl bd hf t z s last) (hd : IsDk w B bd' gs cs gn cn vw n F G W dn) : ¬ Foot bd' gs gn vw bl :=
  hd.not_foot h.blk (by decide) (by decide) (by decide)
theorem IsLg.fr {B gs cs gn cn n : Nat} {vw : Value} {F G : List UInt8} {W : List Wr} {dn : Bool} {bd' : Nat} (h : IsLg w bl bd hf t z s last) (hd : IsDk w B bd' gs cs gn cn vw n F G W dn) (hf' : Fr (Foot bd' gs gn vw) w w') : IsLg w' bl bd hf t z s last :=
  h.same (hf'.block _ (lt_of_block h.blk) (h.apart hd))
variable {B gs cs gn cn n : Nat} {vw : Value} {F G : List UInt8} {W : List Wr} {dn : Bool}
theorem sectors_any (h : IsLg w bl bd hf t z s last) (hd : IsDk w B bd gs cs gn cn vw n F G W dn) : Calls Tryd.prog 44 #[.pointer (some ⟨bl, 0, none⟩)] w fun e w' => e = .returned (.int .i64 ((n / 2 : Nat) : Int)) ∧ w = w' := by
  obtain ⟨c0, _⟩ := h.cells
  have h1 := len_any hd
  have hn := hd.n2
  have e2 : wrap64 ((n : Int) / 2) = ((n / 2 : Nat) : Int) := by unfold wrap64; omega
  clear h hd hn
  go_enter Tryd.func44, Tryd.ntmps44
  go_wp2_with (go_at_call 22; (with_reducible refine h1.mono ?_); rintro e w' ⟨rfl, rfl⟩)
  go_ret
  exact ⟨by first | rfl | (rw [← e2]; rfl), rfl⟩
theorem turn_any (h : IsLg w bl bd hf t z s last) : Calls Tryd.prog 13 #[.pointer (some ⟨bl, 0, none⟩)] w fun e w' => e = .returned (.int .u64 (t : Nat)) ∧ w = w' := by
  obtain ⟨_, _, c2, _⟩ := h.cells
  clear h
  go_enter Tryd.func13, Tryd.ntmps13
  go_wp2_with fail
  go_ret
  exact ⟨rfl, rfl⟩
theorem turn_nil (w : World) : Calls Tryd.prog 13 #[.pointer none] w fun e w' => e = .returned (.int .u64 0) ∧ w = w' := by
  go_enter Tryd.func13, Tryd.ntmps13
  go_wp2_with fail
  go_ret
  exact ⟨rfl, rfl⟩
theorem room_nil (w : World) : Calls Tryd.prog 26 #[.pointer none] w fun e w' => e = .returned (.int .i64 0) ∧ w = w' := by
  go_enter Tryd.func26, Tryd.ntmps26
  go_wp2_with fail
  go_ret
  exact ⟨rfl, rfl⟩
theorem wsync_nil (w : World) : Calls Tryd.prog 12 #[.pointer none] w fun e w' => e = .returned (.int .i64 1) ∧ w = w' := by
  go_enter Tryd.func12, Tryd.ntmps12
  go_wp2_with fail
  go_ret
  exact ⟨rfl, rfl⟩
theorem wsync_any (h : IsLg w bl bd hf t z s last) (hd : IsDk w B bd gs cs gn cn vw n F G W false) (hWl : W.length ≤ 1000000) : Calls Tryd.prog 12 #[.pointer (some ⟨bl, 0, none⟩)] w fun e w' =>
    e = .returned (.int .i64 0) ∧ IsDk w' B bd gs cs gn cn (.slice none 0 0) n (syncF G F W) G [] false ∧ Fr (Foot bd gs gn vw) w w' := by
  obtain ⟨c0, _⟩ := h.cells
  have h1 := Lib.hid (sync_ok hd hWl)
  clear h hd
  go_enter Tryd.func12, Tryd.ntmps12
  go_wp2_with fail
  refine h1.out.mono ?_
  rintro e w' ⟨rfl, hd2, hf2⟩
  have HF := Lib.hid (And.intro hd2 hf2)
  clear hd2 hf2
  go_wp2_with fail
  go_ret
  exact ⟨rfl, HF.out⟩
set_option maxRecDepth 20000 in
set_option maxHeartbeats 2000000 in
theorem room_any (h : IsLg w bl bd hf t z s last) (hd : IsDk w B bd gs cs gn cn vw n F G W dn) (hz : z ≤ 55 * (n / 2)) : Calls Tryd.prog 26 #[.pointer (some ⟨bl, 0, none⟩)] w fun e w' => e = .returned (.int .i64 ((55 * (n / 2) - z : Nat) : Int)) ∧ ∃ q, w' = w.drewN q := by
  have hs := fun q => sectors_any (show IsLg (w.drewN q) bl bd hf t z s last from h.same rfl) (show IsDk (w.drewN q) B bd gs cs gn cn vw n F G W dn from hd.other fun _ _ _ => rfl)
  obtain ⟨_, _, _, c3, _⟩ := h.cells
  have hn := hd.n2
  obtain ⟨m, hm⟩ : ∃ m, m = n / 2 := ⟨_, rfl⟩
  rw [← hm] at hs hz ⊢
  have z1 : IntKind.i64.wrap ((m : Int) * 55) = (m : Int) * 55 := IntWalk.i64_in _ (by omega)
  have z2 : IntKind.i64.wrap ((m : Int) * 55 - (z : Int)) = ((55 * m - z : Nat) : Int) := by rw [IntKind.wrap_i64]; omega
  have HS := Lib.hid hs
  have hc : ∀ q, (w.drewN q).cell? ⟨bl, 3, none⟩ = some (.int .i64 (z : Nat)) := fun q => c3
  clear h hd hs hn hm
  go_enter Tryd.func26, Tryd.ntmps26
  go_wp2_with fail
  have q1 : ∀ q, Calls Tryd.prog 44 #[.pointer (some ⟨bl, 0, none⟩)] (w.drewN q) fun e w' => e = .returned (.int .i64 (m : Nat)) ∧ w' = w.drewN q := fun q => (HS.out q).mono fun _ _ h => ⟨h.1, h.2.symm⟩
  go_quiet ((go_at_call 44; exact Calls.quiet_of_same (q1 _)))
  go_wp2_with fail
  go_ret
  exact ⟨rfl, nq, rfl⟩
theorem seals_any (k : UInt8) (v : Value) (w : World) : Calls Tryd.prog 31 #[.agg #[.int .u8 (k.toNat : Nat), v]] w fun e w' => e = .returned (.bool (decide (k = 255))) ∧ Below w.heap.size w w' := by
  by_cases hk : k = 255
  · subst hk
    go_enter Tryd.func31, Tryd.ntmps31
    go_wp2_with fail
    go_ret
    exact ⟨rfl, (Below.refl _ _).alloc (Nat.le_refl _) _⟩
  · have hk0 : ¬ (k.toNat : Int) = 255 := fun h => hk (UInt8.toNat_inj.1 (show k.toNat = 255 by omega))
    have hkd : decide (k = 255) = false := by simp [hk]
    rw [hkd]
    clear hk hkd
    go_enter Tryd.func31, Tryd.ntmps31
    go_wp2_with fail
    go_ret
    exact ⟨by simp [hk0], (Below.refl _ _).alloc (Nat.le_refl _) _⟩
end
end Go.Proofs.YtjblkmjdepdekaaDoor.Wl
