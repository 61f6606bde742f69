
/- disks: what DiskKeeps calls: a text that is filled; a function that keeps by bits -/
import Derived.Test.YtjblkmjdepdekaaDkB
import Derived.Laws.BitsAllLaws
namespace Go.Proofs.Ytjblkmjdepdekaa.Dk
open Go.RowKit Go.Lib Go.Proofs.Ytjblkmjdepdekaa.By Go.Proofs.Ytjblkmjdepdekaa.Ht

theorem size_l (l : List UInt8) : (⟨l.toArray⟩ : ByteArray).size = l.length := rfl
theorem app_zero (l : List UInt8) : (⟨l.toArray⟩ : ByteArray) ++ ⟨#[0]⟩ = ⟨(l ++ [0]).toArray⟩ := by
  apply ByteArray.ext
  simp [ByteArray.data_append]
theorem fill_step (l : List UInt8) {k : Nat} (h : l.length + k < 64) : full (l ++ List.replicate k 0) = full l ∧ (l ++ List.replicate k 0) ++ [0] = l ++ List.replicate (k + 1) 0 := by
  constructor
  · unfold full
    rw [List.append_assoc, List.length_append, List.length_replicate, List.replicate_append_replicate]
    congr 2; omega
  · rw [List.append_assoc, List.replicate_succ']
def szOf (v : Value) : Nat := match v with | .string s => 64 - s.size | _ => 0
set_option maxHeartbeats 1000000 in
theorem full_any (l : List UInt8) (hl : l.length ≤ 64) (w : World) : Calls Try.prog 8 #[.string ⟨l.toArray⟩] w fun e w' => e = .returned (.string ⟨(full l).toArray⟩) ∧ w = w' := by
  go_enter Try.func8, Try.ntmps8
  go_wp2_with fail
  go_loop [0] (fun v => ∃ k : Nat, l.length + k ≤ 64 ∧ v = .string ⟨(l ++ List.replicate k 0).toArray⟩) (fun v => szOf v)
  case atStart => exact ⟨0, by omega, by simp⟩
  case round =>
    obtain ⟨k, hk, rfl⟩ := hrel
    have hsz := size_l (l ++ List.replicate k 0)
    have hap := app_zero (l ++ List.replicate k 0)
    rw [List.length_append, List.length_replicate] at hsz
    obtain ⟨t, ht⟩ : ∃ t, t = (⟨(l ++ List.replicate k 0).toArray⟩ : ByteArray) := ⟨_, rfl⟩
    rw [← ht] at hsz hap ⊢
    have HT := Lib.hid (And.intro ht hsz)
    by_cases hlt : l.length + k < 64
    · rw [(fill_step l hlt).2] at hap
      obtain ⟨t2, ht2⟩ : ∃ t, t = (⟨(l ++ List.replicate (k + 1) 0).toArray⟩ : ByteArray) := ⟨_, rfl⟩
      have hz2 := size_l (l ++ List.replicate (k + 1) 0)
      rw [← ht2] at hap hz2
      have HT2 := Lib.hid (And.intro ht2 hz2)
      have e1 : ((t.size : Nat) : Int) < 64 := by omega
      clear ht hsz ht2 hz2
      go_wp2_with fail
      go_round
      case rel => exact ⟨k + 1, by omega, by rw [HT2.out.1]⟩
      case measure =>
        have q1 := HT.out.2
        have q2 := HT2.out.2
        rw [List.length_append, List.length_replicate] at q2
        show 64 - t2.size < 64 - t.size
        omega
    · have e1 : ¬ ((t.size : Nat) : Int) < 64 := by omega
      have hfull : full l = l ++ List.replicate k 0 := by unfold full; congr 2; omega
      have HFU := Lib.hid hfull
      clear ht hsz hap hfull
      go_wp2_with fail
      rw [HFU.out, ← HT.out.1]
      go_ret
      exact ⟨rfl, rfl⟩
/-- whether a bit of 64 says so -/
def keepB (m i : Nat) : Bool := bits .and .u64 ((m : Int) / 2 ^ (i % 64)) 1 == 1
set_option maxHeartbeats 1000000 in
theorem keep_fn (m i q : Nat) (hi : i ≤ 1000000) (w : World) (hc : w.cell? ⟨q, 0, none⟩ = some (.int .u64 (m : Nat))) :
    Calls Try.prog 11 #[.int .i64 (i : Nat), .pointer (some ⟨q, 0, none⟩)] w fun e w' => e = .returned (.bool (keepB m i)) ∧ w' = w := by
  obtain ⟨r, hr⟩ : ∃ r, r = i % 64 := ⟨_, rfl⟩
  have h1 : (i : Int) % 64 = (r : Int) := by omega
  have hr64 : (r : Int) < 64 := by omega
  have HRR := Lib.hid hr
  clear hr
  go_enter Try.func11, Try.ntmps11
  go_wp2_with fail
  have hk : keepB m i = (bits .and .u64 ((m : Int) / 2 ^ r) 1 == 1) := by unfold keepB; rw [← HRR.out]
  rw [hk]
  go_ret
  exact ⟨rfl, rfl⟩
theorem asks_keep (m q : Nat) : Asks (.func (.func 11) #[] #[.pointer (some ⟨q, 0, none⟩)]) (keepB m) (fun w => w.cell? ⟨q, 0, none⟩ = some (.int .u64 (m : Nat))) :=
  asks_fn ⟨⟨_, _, rfl, enters_of Try.func11 (by kernel_rfl) rfl, fun _ => by kernel_rfl, fun i w hi hp => keep_fn m i q hi w hp⟩⟩
end Go.Proofs.Ytjblkmjdepdekaa.Dk
