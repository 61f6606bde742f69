
/- the sum's contract: More alone -/
import Derived.Test.YtcodjknhnhdkfaaDoorBy
import Derived.Test.YtcodjknhnhdkfaaDoorCrM
import Derived.Lib.SlBytesConst
namespace Go.Proofs.YtcodjknhnhdkfaaDoor.Cr
open Go.RowKit Go.Lib Go.Proofs.YtcodjknhnhdkfaaDoor.By

/-- the table lies where it was laid -/
def Nibs (w : World) : Prop := ∀ i, i < 16 → w.cell? ⟨0, i, none⟩ = some (.int .u32 (nib i : Nat))
theorem Nibs.old {w w' : World} (h : Nibs w) (hb : Below w.heap.size w w') : Nibs w' := fun i hi => (hb.cell (World.block_lt_of_cell? w _ (h i hi))).trans (h i hi)

theorem xor32 {a b : Nat} (ha : U32 a) (hb : U32 b) : bits .xor .u32 (a : Int) (b : Int) = ((a ^^^ b : Nat) : Int) := u32_xor_nat a b ha hb
theorem and15 {a : Nat} (ha : U32 a) : bits .and .u32 (a : Int) 15 = ((a % 16 : Nat) : Int) := by
  have h := u32_and_nat a 15 ha (by decide)
  rw [show a &&& 15 = a % 16 from Nat.and_two_pow_sub_one_eq_mod a 4] at h
  exact h
theorem not32 {a : Nat} (ha : U32 a) : bits .xor .u32 IntKind.u32.max (a : Int) = ((tn a : Nat) : Int) := by
  have h := u32_xor_nat 4294967295 a (by decide) ha
  rw [← tn_xor ha] at h
  exact h
theorem ret_int {k : IntKind} {a b : Int} (h : a = b) : Ending.returned (.int k a) = .returned (.int k b) := by rw [h]
theorem take_snoc {l : List UInt8} {k : Nat} (h : k < l.length) : l.take (k + 1) = l.take k ++ [l[k]] := by rw [List.take_succ_eq_append_getElem h]
theorem run_take {l : List UInt8} {k : Nat} (s : Nat) (h : k < l.length) : run s (l.take (k + 1)) = upd (run s (l.take k)) l[k] := by rw [take_snoc h, run_snoc]

set_option maxHeartbeats 1000000 in
theorem more_any (s : Nat) (a : Option Addr) (len cap : Nat) (l : List UInt8) (w : World) (hs : U32 s) (hl : IsB w a len cap l) (hn : Nibs w) :
    Calls Tryd.prog 36 #[.int .u32 s, .slice a len cap] w fun e w' => e = .returned (.int .u32 (more s l : Nat)) ∧ w = w' := by
  have hm := hl.le
  unfold maxLen at hm
  obtain rfl : l.length = len := hl.1
  have HL := Lib.hid hl
  have HN := Lib.hid hn
  have e0 := not32 hs
  have hts := tn_u32 s
  obtain ⟨t, ht⟩ : ∃ t, t = tn s := ⟨_, rfl⟩
  have HM : Hid (more s l = tn (run t l)) := by subst ht; exact rfl
  rw [← ht] at e0 hts
  have HT := Lib.hid hts
  clear hl hn ht hs hts
  go_enter Tryd.func36, Tryd.ntmps36
  go_wp2
  clear e0
  go_loop [0, 11] (fun u i => ∃ k r : Nat, k ≤ l.length ∧ i = .int .i64 k ∧ u = .int .u32 r ∧ U32 r ∧ r = run t (l.take k)) (fun _ i => l.length - (intOf i).toNat)
  case atStart => exact ⟨0, t, by omega, rfl, rfl, HT.out, rfl⟩
  case round =>
    obtain ⟨k, r, hk, rfl, rfl, hr, he⟩ := hrel
    by_cases hlt : k < l.length
    · obtain ⟨x, hx, hc⟩ := HL.out.at hlt
      subst hx
      have hstep := run_take t hlt
      rw [← he] at hstep
      obtain ⟨c, hcc⟩ : ∃ c, c = l[k] := ⟨_, rfl⟩
      rw [← hcc] at hc hstep
      have hb := c.toNat_lt
      have hcu : U32 c.toNat := U32.byte c
      have h1 := xor32 hr hcu
      have u1 := hr.xor hcu
      obtain ⟨r1, hr1⟩ : ∃ r1, r1 = r ^^^ c.toNat := ⟨_, rfl⟩
      rw [← hr1] at h1 u1
      have h2 := and15 u1
      have h3 : bits .xor .u32 ((r1 : Int) / 16) ((nib (r1 % 16) : Nat) : Int) = (((r1 / 16) ^^^ nib (r1 % 16) : Nat) : Int) := xor32 (u1.div 16) (nib_u32 _)
      rw [← four] at h3
      have n1 := HN.out (r1 % 16) (by omega)
      have u2 := u1.it 4
      obtain ⟨r2, hr2⟩ : ∃ r2, r2 = it 4 r1 := ⟨_, rfl⟩
      rw [← hr2] at h3 u2
      have h4 := and15 u2
      have h5 : bits .xor .u32 ((r2 : Int) / 16) ((nib (r2 % 16) : Nat) : Int) = (((r2 / 16) ^^^ nib (r2 % 16) : Nat) : Int) := xor32 (u2.div 16) (nib_u32 _)
      rw [← four] at h5
      have n2 := HN.out (r2 % 16) (by omega)
      have u3 := u2.it 4
      obtain ⟨r3, hr3⟩ : ∃ r3, r3 = it 4 r2 := ⟨_, rfl⟩
      rw [← hr3] at h5 u3
      have HE : Hid (r3 = run t (l.take (k + 1))) := by rw [hstep, upd_four, ← hr1, ← hr2, ← hr3]; exact rfl
      have HU := Lib.hid u3
      clear he hstep hcc hr hcu u1 u2 u3 hr1 hr2 hr3
      go_wp2
      go_round
      case rel => exact ⟨k + 1, r3, by omega, by go_num, rfl, HU.out, HE.out⟩
      case measure => simp [intOf]; omega
    · obtain rfl : k = l.length := by omega
      have h6 := not32 hr
      have HE : Hid (tn r = more s l) := by rw [HM.out, he, List.take_length]; exact rfl
      have HR : Hid (U32 r) := hr
      clear he hr
      go_wp2
      go_ret
      exact ⟨ret_int (by rw [HE.out]), rfl⟩

theorem isB_nil (w : World) : IsB w none 0 0 [] := ⟨rfl, .inl ⟨rfl, rfl, rfl⟩⟩
end Go.Proofs.YtcodjknhnhdkfaaDoor.Cr
