
/- the document's numbers and texts as bytes (without a writer) -/
import Derived.Test.YtfidmjpjfigmcaaBy
import Derived.WalkKit
import Derived.ProofKit
import Derived.OneCell
import Derived.WalkSpells
import Derived.Lib.Varint
import Derived.Lib.VarintMem
import Derived.Lib.Zigzag
import Derived.Lib.Hide
import Derived.Lib.BufferRead
import Derived.Laws.IdiomStrings
import Derived.Lib.AppendStr
import Derived.Deep.RegionHeld3
import Derived.Deep.RegionWith
namespace Go.Proofs.Ytfidmjpjfigmcaa.Rf
open Go.RowKit Go.Lib Go.Proofs.Ytfidmjpjfigmcaa.By
def U64 (n : Nat) : Prop := n < 18446744073709551616
theorem U64.div {n : Nat} (h : U64 n) (k : Nat) : U64 (n / k) := by unfold U64 at *; exact Nat.lt_of_le_of_lt (Nat.div_le_self _ _) h
/-- 'string(b)' -/
theorem str_of {w : World} {a : Option Addr} {len cap : Nat} {l : List UInt8} (h : IsB w a len cap l) : (convert 22 9 (.slice a len cap)).run Try.prog w = .ok (.string ⟨l.toArray⟩) w := by
  obtain ⟨rfl, ⟨rfl, h0, rfl⟩ | ⟨x, rfl, _, _, hcs⟩⟩ := h
  · obtain rfl : l = [] := List.length_eq_zero_iff.1 h0
    exact run_convert_nil_bytes w 22 9 5 0 Try.underlying22 Try.underlying5 Try.underlying9
  · exact run_convert_bytes_back w 22 9 5 x cap l Try.underlying22 Try.underlying5 Try.underlying9 (fun j hj => hcs j _ (by simp [byteCells, hj]))

theorem isB_one (w : World) (c : UInt8) : IsB (w.alloc (.cells #[.int .u8 c.toNat] 5)) (some ⟨w.heap.size, 0, none⟩) 1 1 [c] :=
  ⟨rfl, .inr ⟨_, rfl, by simp, by simp [maxLen], fun j u hu => by
    match j, hu with
    | 0, hu => simp [byteCells] at hu; subst hu; simp [Addr.add]⟩⟩
/-- a text's bytes -/
def textB (s : ByteArray) : List UInt8 := uvarint s.size ++ s.data.toList

/-! ### the document's -/
theorem bytes_app (a b : List UInt8) : (⟨a.toArray⟩ : ByteArray) ++ ⟨b.toArray⟩ = ⟨(a ++ b).toArray⟩ := by
  apply ByteArray.ext
  simp [ByteArray.data_append]
theorem bytes_size (l : List UInt8) : (⟨l.toArray⟩ : ByteArray).size = l.length := by
  show l.toArray.size = _; simp
theorem bytes_cons (c : UInt8) (r : List UInt8) : (⟨#[c]⟩ : ByteArray) ++ ⟨r.toArray⟩ = ⟨(c :: r).toArray⟩ := bytes_app [c] r

set_option maxRecDepth 20000 in
theorem ref_small (x : Nat) (w : World) (hb : x < 128) :
    Calls Try.prog 23 #[.int .u64 x] w fun e w' => e = .returned (.string ⟨(uvarint x).toArray⟩) ∧ Below w.heap.size w w' := by
  have e1 : uvarint x = [x.toUInt8] := uvarint_small hb
  rw [e1]
  have hib := isB_one w x.toUInt8
  rw [toUInt8_toNat (by omega)] at hib
  have hcv := str_of hib
  clear e1 hib
  go_enter Try.func23, Try.ntmps23
  go_wp2_with fail
  go_ret
  exact ⟨rfl, (Below.refl _ _).alloc (Nat.le_refl _) _⟩

set_option maxRecDepth 20000 in
set_option maxHeartbeats 2000000 in
theorem ref_num (k : Nat) : ∀ (x : Nat) (w : World), x ≤ k → U64 x →
    Calls Try.prog 23 #[.int .u64 x] w fun e w' => e = .returned (.string ⟨(uvarint x).toArray⟩) ∧ Below w.heap.size w w' := by
  induction k with
  | zero => intro x w hk _; exact ref_small x w (by omega)
  | succ k ih =>
    intro x w hk hx
    by_cases hb : x < 128
    · exact ref_small x w hb
    · have e1 : uvarint x = (x % 128 + 128).toUInt8 :: uvarint (x / 128) := uvarint_big (by omega)
      have hcall : ∀ u : World, Hid (Calls Try.prog 23 #[.int .u64 ((x : Int) / 128)] u fun e w' => e = .returned (.string ⟨(uvarint (x / 128)).toArray⟩) ∧ Below u.heap.size u w') := fun u => by
        have := ih (x / 128) u (by omega) (hx.div _)
        rwa [Int.natCast_ediv] at this
      obtain ⟨c, hc⟩ : ∃ c, c = (x % 128 + 128).toUInt8 := ⟨_, rfl⟩
      have hcn : (c.toNat : Int) = (x : Int) % 128 + 128 := by rw [hc, toUInt8_toNat (by omega)]; omega
      have hcv : ∀ (U : World) (b : Nat), U.cell? ⟨b, 0, none⟩ = some (.int .u8 ((x : Int) % 128 + 128)) → (convert 22 9 (.slice (some ⟨b, 0, none⟩) 1 1)).run Try.prog U = .ok (.string ⟨#[c]⟩) U := fun U b h =>
        str_of (l := [c]) ⟨rfl, .inr ⟨_, rfl, by simp, by simp [maxLen], fun j u hu => by
          match j, hu with
          | 0, hu => simp [byteCells] at hu; subst hu; rw [hcn]; simpa [Addr.add] using h⟩⟩
      have hV : IntKind.u8.wrap (IntKind.u64.wrap ((x : Int).tmod 128 + 128)) = (x : Int) % 128 + 128 := by
        rw [Int.tmod_eq_emod_of_nonneg (by omega), IntKind.wrap_u64, IntKind.wrap_u8]; omega
      have hQ : IntKind.u64.wrap ((x : Int) / 128) = (x : Int) / 128 := by unfold U64 at hx; rw [IntKind.wrap_u64]; omega
      have hlen := uvarint_length64 (hx.div 128)
      have hge : 128 ≤ x := by omega
      obtain ⟨r, hr⟩ : ∃ r, r = uvarint (x / 128) := ⟨_, rfl⟩
      rw [← hr] at e1 hcall hlen
      rw [← hc] at e1
      rw [e1]
      clear ih hb hk hcn hc hx hr e1
      go_enter Try.func23, Try.ntmps23
      go_wp2_with fail
      go_region_with (first | (go_at_call 23; go_must (refine (hcall _).out.mono ?_; rintro e w' ⟨rfl, hb'⟩; have hk : ∀ b, b < _ → w'.cell? ⟨b, 0, none⟩ = _ := fun b h => hb'.cell (p := ⟨b, 0, none⟩) h)))
      all_goals
        go_wp2_with fail
        go_ret
        refine ⟨congrArg (fun z => Ending.returned (.string z)) (bytes_cons c r), ?_⟩
        first
          | exact (((Below.refl _ _).alloc (Nat.le_refl _) _).drew).trans (hb'.mono (by simp))
          | exact ((Below.refl _ _).drew.trans (hb'.mono (by simp))).alloc (by simpa using hb'.size) _

theorem ref_num' (x : Nat) (w : World) (h : U64 x) : Calls Try.prog 23 #[.int .u64 x] w fun e w' => e = .returned (.string ⟨(uvarint x).toArray⟩) ∧ Below w.heap.size w w' := ref_num x x w (Nat.le_refl _) h

theorem ref_text (s : ByteArray) (w : World) (hs : s.size ≤ 1000000000) :
    Calls Try.prog 43 #[.string s] w fun e w' => e = .returned (.string ⟨(textB s).toArray⟩) ∧ Below w.heap.size w w' := by
  have hu : U64 s.size := by unfold U64; omega
  have hl := uvarint_length64 hu
  have H := Lib.hid (ref_num' s.size w hu)
  have e : (⟨(uvarint s.size).toArray⟩ : ByteArray) ++ s = ⟨(textB s).toArray⟩ := bytes_app (uvarint s.size) s.data.toList
  have hsz : (⟨(uvarint s.size).toArray⟩ : ByteArray).size = (uvarint s.size).length := bytes_size _
  clear hu
  go_enter Try.func43, Try.ntmps43
  go_wp2_with (go_at_call 23; refine H.out.mono ?_; rintro e w' ⟨rfl, hb'⟩)
  go_ret
  exact ⟨rfl, hb'⟩
theorem zig_u64 {x : Int} (hx : (Lit.int .i64 x).wf = true) : U64 (zigzag x) := by
  have hb : -9223372036854775808 ≤ x ∧ x ≤ 9223372036854775807 := by simpa [Lit.wf, IntKind.min, IntKind.max, IntKind.signed, IntKind.bits] using hx
  exact zigzag_lt hb.1 hb.2
theorem ref_int (x : Int) (w : World) (hx : (Lit.int .i64 x).wf = true) :
    Calls Try.prog 44 #[.int .i64 x] w fun e w' => e = .returned (.string ⟨(uvarint (zigzag x)).toArray⟩) ∧ Below w.heap.size w w' := by
  have hb : -9223372036854775808 ≤ x ∧ x ≤ 9223372036854775807 := by simpa [Lit.wf, IntKind.min, IntKind.max, IntKind.signed, IntKind.bits] using hx
  have H := Lib.hid (ref_num' (zigzag x) w (zig_u64 hx))
  by_cases h0 : x < 0
  · have e : IntKind.u64.wrap (IntKind.u64.wrap (2 * IntKind.u64.wrap (wrap64 (-wrap64 (x + 1)))) + 1) = ((zigzag x : Nat) : Int) := by
      unfold zigzag wrap64; rw [if_neg (by omega)]; simp only [IntKind.wrap_u64]; omega
    rw [← e] at H
    clear hb e
    go_enter Try.func44, Try.ntmps44
    go_wp2_with (go_at_call 23; refine H.out.mono ?_; rintro e w' ⟨rfl, hb⟩)
    go_ret
    exact ⟨rfl, hb⟩
  · have e : ((zigzag x : Nat) : Int) = 2 * x := by
      rw [zigzag_nonneg (by omega)]; omega
    rw [e] at H
    clear e
    go_enter Try.func44, Try.ntmps44
    go_wp2_with (go_at_call 23; refine H.out.mono ?_; rintro e w' ⟨rfl, hb'⟩)
    go_ret
    exact ⟨rfl, hb'⟩

end Go.Proofs.Ytfidmjpjfigmcaa.Rf
