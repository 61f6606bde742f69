
/- logs: a sector's turn is read; a sector is made -/
import Derived.Test.YtjblkmjdepdekaaDoorWl0
namespace Go.Proofs.YtjblkmjdepdekaaDoor.Wl
open Go.RowKit Go.Lib Go.Joins Go.Proofs.YtjblkmjdepdekaaDoor.By Go.Proofs.YtjblkmjdepdekaaDoor.Dk Go.Proofs.YtjblkmjdepdekaaDoor.Oc

theorem pow_8 (k : Nat) : (2 : Int) ^ (8 * k) = ((256 ^ k : Nat) : Int) := by
  have h : (2 : Nat) ^ (8 * k) = 256 ^ k := by rw [Nat.pow_mul]
  rw [← h]; simp
theorem orbits {k X c : Nat} (hk : k < 8) (hX : X < 256 ^ k) (hc : c < 256) :
    bits .or .u64 (X : Int) (IntKind.u64.wrap (IntKind.u64.wrap (c : Int) * 2 ^ (8 * k))) = ((X + c * 256 ^ k : Nat) : Int) := by
  have hP : 256 ^ k ≤ 256 ^ 7 := Nat.pow_le_pow_right (by decide) (by omega)
  have hlt : c * 256 ^ k < 18446744073709551616 := Nat.lt_of_le_of_lt (Nat.mul_le_mul (show c ≤ 255 by omega) hP) (by decide)
  have hXl : X < 18446744073709551616 := Nat.lt_of_lt_of_le hX (Nat.le_trans hP (by decide))
  have e1 : IntKind.u64.wrap (c : Int) = (c : Int) := u64_wrap_id _ (by omega) (by omega)
  rw [e1, pow_8, ← Int.natCast_mul, u64_wrap_id _ (by omega) (by omega)]
  rw [bits_join_low .u64 64 (by decide) wraps_u64 (8 * k) (X : Int) ((c * 256 ^ k : Nat) : Int) (by omega) (by rw [pow_8]; omega) (by omega) (by omega) (by rw [pow_8, ← Int.natCast_emod, Nat.mul_mod_left]; rfl) (by omega)]
  omega
theorem orbits0 {X c : Nat} (hX : X < 256 ^ 0) (hc : c < 256) : bits .or .u64 (X : Int) (IntKind.u64.wrap (IntKind.u64.wrap (c : Int))) = ((X + c * 256 ^ 0 : Nat) : Int) := by
  have := orbits (k := 0) (by omega) hX hc
  simpa using this
theorem unl_step {s : List UInt8} {k : Nat} (h : k < s.length) : unl (s.take (k + 1)) = unl (s.take k) + s[k].toNat * 256 ^ k := by
  rw [List.take_succ_eq_append_getElem h, unl_snoc, List.length_take, Nat.min_eq_left (by omega)]
theorem unl_take {s : List UInt8} {k : Nat} (h : k ≤ s.length) : unl (s.take k) < 256 ^ k := by
  have := unl_lt (s.take k); rwa [List.length_take, Nat.min_eq_left h] at this
set_option maxRecDepth 20000 in
set_option maxHeartbeats 2000000 in
theorem turnOf_any (a : Option Addr) (len cap : Nat) (s : List UInt8) (w : World) (hs : IsB w a len cap s) (h8 : 8 ≤ s.length) :
    Calls Tryd.prog 46 #[.slice a len cap] w fun e w' => e = .returned (.int .u64 (trn s : Nat)) ∧ w = w' := by
  obtain rfl : s.length = len := hs.1
  have HS := Lib.hid hs
  have hl := hs.le
  unfold maxLen at hl
  have h8I : (8 : Int) ≤ (s.length : Int) := by omega
  clear hs
  go_enter Tryd.func46, Tryd.ntmps46
  go_wp2_with fail
  go_loop [3, 5] (fun x v => ∃ k : Nat, k ≤ 8 ∧ v = .int .i64 k ∧ x = .int .u64 (unl (s.take k) : Nat)) (fun _ v => 8 - (intOf v).toNat)
  case atStart => exact ⟨0, Nat.zero_le _, rfl, rfl⟩
  case round =>
    obtain ⟨k, hk, rfl, rfl⟩ := hrel
    by_cases hlt : k < 8
    · obtain ⟨x, rfl, hc⟩ := HS.out.at (k := k) (by omega)
      have hkI : (k : Int) < 8 := by omega
      have hk0 : (0 : Int) ≤ (k : Int) := by omega
      have hkl : (k : Int) < (s.length : Int) := by omega
      go_wp2_with fail
      go_round
      case rel => exact ⟨k + 1, by omega, by go_num, by rw [orbits hlt (unl_take (by omega)) (UInt8.toNat_lt _), unl_step (by omega)]⟩
      case measure => simp [intOf]; omega
    · obtain rfl : k = 8 := by omega
      go_wp2_with fail
      go_ret
      exact ⟨rfl, rfl⟩
/-- an array of 64 bytes that lies in a block -/
def A64 (w : World) (q : Nat) (l : List UInt8) : Prop := w.heap[q]? = some (.cells (byteCells l).toArray 78 (0, 0))
theorem splice_bytes (X l : List UInt8) (o : Nat) : splice (byteCells X) o (byteCells l) = byteCells (X.take o ++ l ++ X.drop (o + l.length)) := by
  unfold splice byteCells; simp
/-- bytes are copied into a block, from some cell on -/
theorem copy_at (W : World) {g o dl dc len cap : Nat} {t : TypeId} {Yl : List Value} {a : Option Addr} {l : List UInt8} (hg : W.heap[g]? = some (.cells Yl.toArray t (0, 0))) (ho : o + dl ≤ Yl.length) (hb : IsB W a len cap l) :
    ∃ W', (Builtin.copy_ #[32, 32] 3 #[.slice (some ⟨g, o, none⟩) dl dc, .slice a len cap]).run Tryd.prog W = .ok (goInt (Nat.min len dl)) W' ∧ W'.heap[g]? = some (.cells (splice Yl o (byteCells (l.take dl))).toArray t (0, 0)) ∧
      (∀ B, B ≤ g → Below B W W') ∧ ∀ k, k ≠ g → W'.heap[k]? = W.heap[k]? := by
  obtain ⟨i0, hi, hz0, hz1, hz2⟩ := info_parts info5
  obtain ⟨rfl, h2 | ⟨x, rfl, h3, h4, h5⟩⟩ := hb
  · obtain ⟨rfl, h3, rfl⟩ := h2
    have hl0 : l = [] := List.eq_nil_of_length_eq_zero h3
    subst hl0
    refine ⟨W, ?_, ?_, fun B _ => Below.refl _ _, fun _ _ => rfl⟩
    · have := run_copy_none (P := Tryd.prog) W 32 32 3 5 (some ⟨g, o, none⟩) none dl dc 0 0 Tryd.underlying32 (by simp [hi, hz1]) (by simp)
      simpa using this
    · rw [hg]; unfold splice; simp [byteCells]
  · have hr := run_copy_row (P := Tryd.prog) W 32 32 3 5 g o dl dc x l.length cap Yl.toArray t (byteCells (l.take dl)) Tryd.underlying32 (by simp [hi, hz1]) hg (by simp only [byteCells, List.length_map, List.length_take]; exact Nat.min_comm _ _) (fun j u hu => h5 j u (by
      simp only [byteCells, List.map_take, List.getElem?_take] at hu ⊢
      split at hu
      · exact hu
      · cases hu)) (by simp [byteCells]; omega) (bytes_one _)
    refine ⟨W.setRow g (splice Yl o (byteCells (l.take dl))).toArray, ?_, setRow_heap W g Yl.toArray _ t (0, 0) hg, fun B hB => below_setRow (Below.refl _ _) hB _, fun k hk => setRow_other W g k _ hk⟩
    have e : (byteCells (l.take dl)).length = Nat.min l.length dl := by simp only [byteCells, List.length_map, List.length_take]; exact Nat.min_comm _ _
    rw [← e]
    simpa [splice, byteCells] using hr
theorem byte_at (t k : Nat) : (t : Int) / 2 ^ (8 * k) % 256 = ((UInt8.ofNat (t / 256 ^ k % 256)).toNat : Nat) := by
  rw [pow_8, UInt8.toNat_ofNat']
  have : t / 256 ^ k % 256 % 2 ^ 8 = t / 256 ^ k % 256 := Nat.mod_mod _ _
  rw [this]; simp
theorem lel_set (t : Nat) {k : Nat} (hk : k < 8) : (lel k t ++ List.replicate (64 - k) 0).set k (UInt8.ofNat (t / 256 ^ k % 256)) = lel (k + 1) t ++ List.replicate (64 - (k + 1)) 0 := by
  rw [lel_snoc, List.set_append_right _ _ (by rw [lel_len]; exact Nat.le_refl _), lel_len, Nat.sub_self, show 64 - k = (64 - (k + 1)) + 1 by omega, List.replicate_succ, List.set_cons_zero, List.append_assoc]
  rfl
theorem sec_list (t : Nat) {b : List UInt8} (h : b.length ≤ 55) : ((lel 8 t ++ List.replicate (64 - 8) 0).set 8 (UInt8.ofNat b.length)).take 9 ++ b ++ ((lel 8 t ++ List.replicate (64 - 8) 0).set 8 (UInt8.ofNat b.length)).drop (9 + b.length) = secB t b := by
  have e : (lel 8 t ++ List.replicate (64 - 8) 0).set 8 (UInt8.ofNat b.length) = (lel 8 t ++ [UInt8.ofNat b.length]) ++ List.replicate 55 0 := by
    rw [List.set_append_right _ _ (by rw [lel_len]; exact Nat.le_refl _), lel_len, List.append_assoc]; rfl
  have l9 : (lel 8 t ++ [UInt8.ofNat b.length]).length = 9 := by simp [lel_len]
  rw [e, List.take_left' l9, ← List.drop_drop, List.drop_left' l9, List.drop_replicate]
  unfold secB full
  simp only [List.append_assoc, List.cons_append, List.nil_append, List.length_append, List.length_cons, lel_len]
  rw [show 64 - (8 + (b.length + 1)) = 55 - b.length by omega]
theorem IsB.of_cells {w : World} {q cap : Nat} {l : List UInt8} {t : TypeId} {fr : Nat × Nat} (h : w.heap[q]? = some (.cells (byteCells l).toArray t fr)) (hc : l.length ≤ cap) (hm : cap ≤ maxLen) : IsB w (some ⟨q, 0, none⟩) l.length cap l :=
  ⟨rfl, .inr ⟨_, rfl, hc, hm, fun j u hu => by rw [add_lit, Nat.zero_add, cell_of_block h]; simpa using hu⟩⟩
theorem zero_arr64 : ∀ w, (zeroValue 78).run Tryd.prog w = .ok (.agg (byteCells (List.replicate 64 0)).toArray) w := fun w => by kernel_rfl
theorem A64.set {w : World} {q : Nat} {l : List UInt8} (h : A64 w q l) (k : Nat) (c : UInt8) {v : Int} (hv : v = (c.toNat : Nat)) : A64 (w.setCell ⟨q, k, none⟩ (.int .u8 v)) q (l.set k c) := by
  subst hv
  have := block_setCell h (i := k) (.int .u8 (c.toNat : Nat))
  unfold A64
  rw [this]
  simp [byteCells, List.map_set]
theorem A64.cell {w : World} {q : Nat} {l : List UInt8} (h : A64 w q l) {k : Nat} (hk : k < l.length) : w.cell? ⟨q, k, none⟩ = some (.int .u8 (l[k].toNat : Nat)) := by
  rw [cell_of_block h]; simp [byteCells, hk]
theorem A64.free {w : World} {q : Nat} {l : List UInt8} (h : A64 w q l) (k : Nat) : w.frozen? ⟨q, k, none⟩ = false := unfrozen_of_block h k
set_option maxRecDepth 20000 in
set_option maxHeartbeats 2000000 in
theorem sector_any (t : Nat) (a : Option Addr) (len cap : Nat) (b : List UInt8) (w : World) (ht : U64 t) (hb : IsB w a len cap b) (hl : b.length ≤ 55) :
    Calls Tryd.prog 52 #[.int .u64 (t : Nat), .slice a len cap] w fun e w' => e = .returned (.slice (some ⟨w.heap.size, 0, none⟩) 64 64) ∧ IsB w' (some ⟨w.heap.size, 0, none⟩) 64 64 (secB t b) ∧ Below w.heap.size w w' := by
  obtain rfl : b.length = len := hb.1
  have HS := Lib.hid hb
  have HT := Lib.hid ht
  have hlI : (b.length : Int) ≤ 55 := by omega
  clear hb ht
  go_enter Tryd.func52, Tryd.ntmps52
  have hz64 := zero_arr64
  obtain ⟨Z, hZ⟩ : ∃ Z, Z = (byteCells (List.replicate 64 0)).toArray := ⟨_, rfl⟩
  rw [← hZ] at hz64
  have h0 : A64 (w.alloc (.cells Z 78)) w.heap.size (lel 0 t ++ List.replicate (64 - 0) 0) := by
    rw [hZ]; exact heap_alloc_new w _
  have H0 := Lib.hid h0
  have hb0 : Below w.heap.size w (w.alloc (.cells Z 78)) := (Below.refl _ _).alloc (Nat.le_refl _) _
  have HB0 := Lib.hid hb0
  clear hZ h0 hb0
  go_wp2_with fail
  go_loopw [7] (fun v wr => ∃ k : Nat, k ≤ 8 ∧ v = .int .i64 k ∧ A64 wr w.heap.size (lel k t ++ List.replicate (64 - k) 0) ∧ Below w.heap.size w wr) (fun v _ => 8 - (intOf v).toNat)
  case atStart => exact ⟨0, Nat.zero_le _, rfl, H0.out, HB0.out⟩
  case round =>
    obtain ⟨k, hk, rfl, ha, hbw⟩ := hrel
    have hlen : (lel k t ++ List.replicate (64 - k) 0).length = 64 := by simp [lel_len]; omega
    by_cases hlt : k < 8
    · have hkI : (k : Int) < 8 := by omega
      have hk0 : (0 : Int) ≤ (k : Int) := by omega
      obtain ⟨c0, hc⟩ : ∃ v, wr.cell? ⟨w.heap.size, k, none⟩ = some v := ⟨_, ha.cell (k := k) (by omega)⟩
      have hf := ha.free k
      have HA := Lib.hid (And.intro ha hbw)
      clear ha hbw hlen
      go_wp2_with fail
      go_roundw
      case rel =>
        refine ⟨k + 1, by omega, by go_num, ?_, HA.out.2.setCell (p := ⟨w.heap.size, k, none⟩) (Nat.le_refl _) _⟩
        rw [← lel_set t hlt]
        exact HA.out.1.set k _ (byte_at t k)
      case measure => simp [intOf]; omega
    · obtain rfl : k = 8 := by omega
      have hfr := ha.free 8
      obtain ⟨c0, hc⟩ : ∃ v, wr.cell? ⟨w.heap.size, 8, none⟩ = some v := ⟨_, ha.cell (k := 8) (by omega)⟩
      have ha2 := ha.set 8 (UInt8.ofNat b.length) (v := (b.length : Nat)) (by rw [UInt8.toNat_ofNat']; omega)
      have hbw2 : Below w.heap.size w (wr.setCell ⟨w.heap.size, 8, none⟩ (.int .u8 (b.length : Nat))) := hbw.setCell (p := ⟨w.heap.size, 8, none⟩) (Nat.le_refl _) _
      obtain ⟨W3, hcp, hg3, hb3, _⟩ := copy_at (o := 9) (dl := 55) (dc := 55) _ ha2 (by simp [byteCells, lel_len]) (HS.out.old hbw2)
      have HA := Lib.hid (And.intro hg3 (hbw2.trans (hb3 _ (Nat.le_refl _))))
      have hl0 : (0 : Int) ≤ (b.length : Int) := by omega
      clear ha hbw hlen ha2 hbw2 hg3 hb3
      go_wp2_with fail
      go_ret
      refine ⟨rfl, ?_, HA.out.2⟩
      have h3 := HA.out.1
      rw [splice_bytes, (List.take_of_length_le hl : b.take 55 = b), sec_list t hl] at h3
      have := IsB.of_cells (l := secB t b) (cap := 64) h3 (by rw [secB_len hl]; exact Nat.le_refl _) (by unfold maxLen; omega)
      rwa [secB_len hl] at this
end Go.Proofs.YtjblkmjdepdekaaDoor.Wl
