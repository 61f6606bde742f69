
/- CrontabNames holds for every spec, number and text: the n-th instance of a template may be, is like it, and its name tells both; other names tell none; the tables and the two errors of the library that are read are as the texts lay them; no other condition -/
import Derived.Test.YtkkanggkbbmfnaaGreatDoorSp8
import Derived.Lib.AtoiTie
import Derived.Lib.ItoaMem
import Derived.Lib.LastIndexByte
import Derived.Test.YtkkanggkbbmfnaaGreatDoorLib2
import Derived.Test.YtkkanggkbbmfnaaGreatDoorCn2
import Derived.Test.YtkkanggkbbmfnaaGreatDoorCa1
import Derived.Lib.SmallJoins
import Derived.OwnWalk
import Derived.BigQuiet
import Derived.Test.YtkkanggkbbmfnaaGreatDoorCtQ
import Derived.Test.YtkkanggkbbmfnaaGreatDoorSp3
import Derived.Test.YtkkanggkbbmfnaaGreatDoorHs
import Derived.Test.YtkkanggkbbmfnaaGreatDoorRy
import Derived.Maps.OwnIn
import Derived.Test.YtkkanggkbbmfnaaGreatDoorHr
import Derived.Test.YtkkanggkbbmfnaaGreatDoorCtR
import Derived.Test.YtkkanggkbbmfnaaGreatDoorHd
import Derived.Shelf.Abstract
import Derived.Deep.DeepCutAuto
import Derived.Deep.CutBlock
import Derived.RegionTactic
import Derived.Test.YtkkanggkbbmfnaaGreatDoorCnLaid
import Derived.Test.YtkkanggkbbmfnaaGreatDoorCnTw
import Derived.Lib.LaidTab
import Derived.Stop.LaidErr
import Derived.LaidMore
import Derived.Test.YtkkanggkbbmfnaaGreatDoorSpPa
import Derived.Test.YtkkanggkbbmfnaaGreatDoorSh
import Derived.WalkKit
import Derived.ProofKit
import Derived.OpenShut
import Derived.ShutString
import Derived.ChangeOld
import Derived.Below
/- crontab: an instance's name (mathematics) -/
namespace Go.Proofs.YtkkanggkbbmfnaaGreatDoor.Ct
open Go.RowKit Go.Lib
open Sp (nmB laB fiB laL Spc chkE)
set_option linter.unusedVariables false
set_option linter.unusedSimpArgs false

/-- a digit -/
def dgB (b : UInt8) : Bool := decide (48 ≤ b.toNat) && decide (b.toNat ≤ 57)
theorem dg_iff {b : UInt8} : dgB b = true ↔ 48 ≤ b.toNat ∧ b.toNat ≤ 57 := by unfold dgB; simp
/-- what digits say -/
def valN (l : List UInt8) (a : Nat) : Nat := l.foldl (fun a b => a * 10 + (b.toNat - 48)) a
theorem valN_snoc (l : List UInt8) (b : UInt8) (a : Nat) : valN (l ++ [b]) a = valN l a * 10 + (b.toNat - 48) := by unfold valN; rw [List.foldl_append]; rfl
theorem valN_cons (l : List UInt8) (b : UInt8) (a : Nat) : valN (b :: l) a = valN l (a * 10 + (b.toNat - 48)) := by unfold valN; rw [List.foldl_cons]
/-- as the law counts: any bytes -/
def valI (l : List UInt8) : Int := l.foldl (fun a b => a * 10 + (b.toNat : Int) - 48) 0
theorem valI_snoc (l : List UInt8) (b : UInt8) : valI (l ++ [b]) = valI l * 10 + (b.toNat : Int) - 48 := by unfold valI; rw [List.foldl_append]; rfl
theorem valI_bd (r : List UInt8) : -(24 * (10 ^ r.length : Nat) - 24 : Int) ≤ valI r.reverse ∧ valI r.reverse ≤ (24 * (10 ^ r.length : Nat) - 24 : Int) := by
  induction r with
  | nil => exact ⟨by decide, by decide⟩
  | cons b r ih =>
    rw [List.reverse_cons, valI_snoc, List.length_cons, Nat.pow_succ]
    have hb : b.toNat < 256 := b.toNat_lt
    generalize (10 ^ r.length : Nat) = P at ih ⊢
    omega
theorem valI_le {l : List UInt8} (h : l.length ≤ 6) : -24000000 ≤ valI l ∧ valI l ≤ 24000000 := by
  have h1 := valI_bd l.reverse
  rw [List.reverse_reverse, List.length_reverse] at h1
  have h2 : 10 ^ l.length ≤ 10 ^ 6 := Nat.pow_le_pow_right (by decide) h
  generalize (10 ^ l.length : Nat) = P at h1 h2
  omega
theorem valI_N (r : List UInt8) (h : r.all dgB = true) : valI r.reverse = (valN r.reverse 0 : Nat) := by
  induction r with
  | nil => rfl
  | cons b r ih =>
    rw [List.all_cons, Bool.and_eq_true] at h
    have hb := dg_iff.1 h.1
    rw [List.reverse_cons, valI_snoc, valN_snoc, ih h.2]
    omega
theorem valI_val {l : List UInt8} (h : l.all dgB = true) : valI l = (valN l 0 : Nat) := by
  have := valI_N l.reverse (by rw [List.all_reverse]; exact h)
  rwa [List.reverse_reverse] at this
/-- the way a number is written -/
def numOk (d : List UInt8) : Bool := decide (1 ≤ d.length) && decide (d.length ≤ 6) && d.all dgB && decide (d.head? ≠ some 48)
theorem num_iff {d : List UInt8} : numOk d = true ↔ 1 ≤ d.length ∧ d.length ≤ 6 ∧ d.all dgB = true ∧ d.head? ≠ some 48 := by
  unfold numOk; simp only [Bool.and_eq_true, decide_eq_true_eq]; constructor
  · rintro ⟨⟨⟨a, b⟩, c⟩, d⟩; exact ⟨a, b, c, d⟩
  · rintro ⟨a, b, c, d⟩; exact ⟨⟨⟨a, b⟩, c⟩, d⟩
theorem u8dig {k : Nat} (h : k < 10) : (UInt8.ofNat (48 + k)).toNat = 48 + k := by rw [UInt8.toNat_ofNat']; omega
theorem dec_val (u : Nat) : valN (decDigits u) 0 = u := by
  induction u using Nat.strongRecOn with
  | _ u ih =>
    rw [decDigits]
    split
    · rename_i h; show 0 * 10 + ((UInt8.ofNat (48 + u)).toNat - 48) = u; rw [u8dig h]; omega
    · rename_i h; rw [valN_snoc, ih _ (by omega), u8dig (Nat.mod_lt _ (by decide))]; omega
theorem dec_all (u : Nat) : (decDigits u).all dgB = true := by
  induction u using Nat.strongRecOn with
  | _ u ih =>
    rw [decDigits]
    split
    · rename_i h; rw [List.all_cons, dg_iff.2 (by rw [u8dig h]; omega)]; rfl
    · rename_i h; rw [List.all_append, ih _ (by omega), List.all_cons, dg_iff.2 (by rw [u8dig (Nat.mod_lt _ (by decide))]; omega)]; rfl
theorem dec_ne (u : Nat) : 1 ≤ (decDigits u).length := by rw [decDigits_length]; exact nDigits_pos u
theorem dec_head (u : Nat) (h1 : 1 ≤ u) : (decDigits u).head? ≠ some 48 := by
  induction u using Nat.strongRecOn with
  | _ u ih =>
    rw [decDigits]
    split
    · rename_i h
      intro e
      have e2 : UInt8.ofNat (48 + u) = 48 := by simpa using e
      have := u8dig h
      rw [e2] at this
      have h48 : (48 : UInt8).toNat = 48 := rfl
      omega
    · rename_i h
      have h2 := ih (u / 10) (by omega) (by omega)
      have h3 := dec_ne (u / 10)
      rw [List.head?_append]
      cases hd : (decDigits (u / 10)) with
      | nil => rw [hd] at h3; simp at h3
      | cons a l => rw [hd] at h2; simpa using h2
theorem dec_len : ∀ (k u : Nat), u < 10 ^ (k + 1) → nDigits u ≤ k + 1
  | 0, u, h => by rw [nDigits_small (by simpa using h)]; omega
  | k + 1, u, h => by
    by_cases h9 : u < 10
    · rw [nDigits_small h9]; omega
    · rw [nDigits_big h9]
      have := dec_len k (u / 10) (by rw [Nat.pow_succ] at h; omega)
      omega
theorem dec_ok {v : Nat} (h1 : 1 ≤ v) (h2 : v ≤ 999999) : numOk (decDigits v) = true :=
  num_iff.2 ⟨dec_ne v, by rw [decDigits_length]; exact dec_len 5 v (by omega), dec_all v, dec_head v h1⟩
theorem dec_back (r : List UInt8) (hne : r ≠ []) (h : r.all dgB = true) (hh : r.reverse.head? ≠ some 48) : decDigits (valN r.reverse 0) = r.reverse ∧ 1 ≤ valN r.reverse 0 := by
  induction r with
  | nil => exact absurd rfl hne
  | cons b r ih =>
    rw [List.all_cons, Bool.and_eq_true] at h
    have hb := dg_iff.1 h.1
    rw [List.reverse_cons, valN_snoc]
    rw [List.reverse_cons] at hh
    have hbb : UInt8.ofNat (48 + (b.toNat - 48)) = b := by
      apply UInt8.toNat_inj.1
      rw [u8dig (by omega)]; omega
    cases r with
    | nil =>
      have h48 : b ≠ 48 := fun e => hh (by rw [e]; rfl)
      have h3 : b.toNat ≠ 48 := fun e => h48 (UInt8.toNat_inj.1 e)
      have hv : valN ([] : List UInt8).reverse 0 = 0 := rfl
      rw [hv]
      refine ⟨?_, by omega⟩
      rw [decDigits, dif_pos (by omega)]
      simpa using hbb
    | cons c r =>
      have hne2 : (c :: r).reverse ≠ [] := by simp
      obtain ⟨h1, h2⟩ := ih (by simp) h.2 (by
        intro e
        apply hh
        rw [List.head?_append, e]; rfl)
      refine ⟨?_, by omega⟩
      rw [decDigits, dif_neg (by omega)]
      rw [show (valN (c :: r).reverse 0 * 10 + (b.toNat - 48)) / 10 = valN (c :: r).reverse 0 by omega, show (valN (c :: r).reverse 0 * 10 + (b.toNat - 48)) % 10 = b.toNat - 48 by omega, h1, hbb]
theorem num_val {d : List UInt8} (h : numOk d = true) : decDigits (valN d 0) = d ∧ 1 ≤ valN d 0 ∧ valN d 0 ≤ 999999 := by
  obtain ⟨h1, h2, h3, h4⟩ := num_iff.1 h
  obtain ⟨a, b⟩ := dec_back d.reverse (by intro e; rw [List.reverse_eq_nil_iff] at e; rw [e] at h1; simp at h1) (by rw [List.all_reverse]; exact h3) (by rw [List.reverse_reverse]; exact h4)
  rw [List.reverse_reverse] at a b
  have h5 := lt_pow_nDigits (valN d 0)
  rw [← decDigits_length, a] at h5
  have h6 : 10 ^ d.length ≤ 10 ^ 6 := Nat.pow_le_pow_right (by decide) h2
  exact ⟨a, b, by omega⟩
theorem num_dec {d : List UInt8} {v : Nat} (h1 : 1 ≤ v) (h2 : v ≤ 999999) (h : decDigits v = d) : numOk d = true ∧ valN d 0 = v := by
  subst h; exact ⟨dec_ok h1 h2, dec_val v⟩
theorem decFrom_val : ∀ (l : List UInt8) (a : Nat), l.all dgB = true → decFrom a l = some (valN l a)
  | [], a, _ => rfl
  | b :: l, a, h => by
    rw [List.all_cons, Bool.and_eq_true] at h
    have hb := dg_iff.1 h.1
    unfold decFrom digitVal
    rw [if_pos hb]
    exact decFrom_val l _ h.2
theorem num_atoi {d : List UInt8} (h : numOk d = true) : atoiAll d = .ok ((valN d 0 : Nat) : Int) := by
  obtain ⟨h1, h2, h3, h4⟩ := num_iff.1 h
  rw [atoiAll_short d (by omega)]
  cases d with
  | nil => simp at h1
  | cons b r =>
    have hb := dg_iff.1 (by rw [List.all_cons, Bool.and_eq_true] at h3; exact h3.1)
    have e1 : (b == 45) = false := by simp; intro e; rw [e] at hb; simp at hb
    have e2 : (b == 43) = false := by simp; intro e; rw [e] at hb; simp at hb
    unfold atoi
    simp only [e1, e2, Bool.false_eq_true, if_false]
    unfold decNat
    rw [decFrom_val _ 0 h3]
    rfl
/-! ### the name -/
/-- the last mark -/
def dotI (s : ByteArray) : Int := lastIndexByte s 46
abbrev pre (s : ByteArray) (k : Nat) : ByteArray := s.extract 0 k
abbrev post (s : ByteArray) (k : Nat) : ByteArray := s.extract k s.size
/-- does it tell an instance -/
def ofB (s : ByteArray) : Bool := decide (0 ≤ dotI s) && decide (dotI s ≤ 16) && nmB (pre s (dotI s).toNat).data.toList && numOk (post s ((dotI s).toNat + 1)).data.toList
def ofT (s : ByteArray) : ByteArray := if ofB s = true then pre s (dotI s).toNat else ⟨#[]⟩
def ofN (s : ByteArray) : Int := if ofB s = true then ((valN (post s ((dotI s).toNat + 1)).data.toList 0 : Nat) : Int) else 0
theorem dot_lt (s : ByteArray) : -1 ≤ dotI s ∧ dotI s < s.size := by
  unfold dotI
  rcases lastIndexByte_spec s 46 with ⟨h, _⟩ | ⟨i, h1, h2, _⟩
  · rw [h]; omega
  · rw [h2]; omega
/-- an instance's name tells both -/
theorem size_app (a b : ByteArray) : (a ++ b).size = a.size + b.size := ByteArray.size_append
theorem list_app (a b : ByteArray) : (a ++ b).data.toList = a.data.toList ++ b.data.toList := by simp
theorem dot_of {m : ByteArray} {d : List UInt8} (hd : d.all dgB = true) : dotI (m ++ ⟨#[46]⟩ ++ ⟨d.toArray⟩) = m.size := by
  have hl : (m ++ ⟨#[46]⟩ ++ ⟨d.toArray⟩ : ByteArray).data.toList = m.data.toList ++ 46 :: d := by rw [list_app, list_app]; simp
  have hz : (m ++ ⟨#[46]⟩ ++ ⟨d.toArray⟩ : ByteArray).size = m.size + 1 + d.length := by rw [size_app, size_app]; rfl
  generalize (m ++ ⟨#[46]⟩ ++ ⟨d.toArray⟩ : ByteArray) = s at hl hz
  have hml : m.data.toList.length = m.size := Array.length_toList
  have hg : ∀ j, s.data[j]! = (s.data.toList[j]?).getD default := fun j => by rw [Array.getElem!_eq_getD, Array.getD_eq_getD_getElem?, Array.getElem?_toList]
  have hat : s.data[m.size]! = 46 := by rw [hg, hl, ← hml]; simp
  have hbe : ∀ j, m.size < j → j < s.size → ((s.data[j]!).toNat : Int) ≠ 46 := fun j h1 h2 => by
    rw [hg, hl]
    obtain ⟨k, rfl⟩ : ∃ k, j = m.size + (k + 1) := ⟨j - m.size - 1, by omega⟩
    have hk : k < d.length := by omega
    rw [List.getElem?_append_right (by omega), hml, Nat.add_sub_cancel_left, List.getElem?_cons_succ, List.getElem?_eq_getElem hk]
    have := dg_iff.1 (List.all_eq_true.1 hd _ (List.getElem_mem hk))
    simp only [Option.getD_some]
    omega
  unfold dotI
  rcases lastIndexByte_spec s 46 with ⟨_, h⟩ | ⟨i, h1, h2, h3, h4⟩
  · exact absurd (by rw [hat]; rfl) (h m.size (by omega))
  · rw [h2]
    rcases Nat.lt_trichotomy i m.size with h | h | h
    · exact absurd (by rw [hat]; rfl) (h4 m.size h (by omega))
    · rw [h]
    · exact absurd h3 (hbe i h h1)
theorem pre_of (m : ByteArray) (d : List UInt8) : pre (m ++ ⟨#[46]⟩ ++ ⟨d.toArray⟩) m.size = m := by
  apply ByteArray.ext
  apply Array.toList_inj.1
  have hml : m.data.toList.length = m.size := Array.length_toList
  unfold pre
  rw [ByteArray.data_extract, Array.toList_extract, list_app, list_app, List.extract_eq_take_drop, ← hml, Nat.sub_zero, List.drop_zero, List.append_assoc, List.take_left]
theorem post_of (m : ByteArray) (d : List UInt8) : (post (m ++ ⟨#[46]⟩ ++ ⟨d.toArray⟩) (m.size + 1)).data.toList = d := by
  have hz : (m ++ ⟨#[46]⟩ ++ ⟨d.toArray⟩ : ByteArray).size = m.size + 1 + d.length := by rw [size_app, size_app]; rfl
  have hml : m.data.toList.length = m.size := Array.length_toList
  unfold post
  rw [hz, ByteArray.data_extract, Array.toList_extract, list_app, list_app, List.extract_eq_take_drop, Nat.add_sub_cancel_left, List.drop_left' (by rw [List.length_append, hml]; rfl)]
  exact List.take_length
theorem of_of {m : ByteArray} {v : Nat} (h1 : 1 ≤ v) (h2 : v ≤ 999999) (hm : m.size ≤ 16) (hn : nmB m.data.toList = true) :
    ofB (m ++ ⟨#[46]⟩ ++ ⟨(decDigits v).toArray⟩) = true ∧ ofT (m ++ ⟨#[46]⟩ ++ ⟨(decDigits v).toArray⟩) = m ∧ ofN (m ++ ⟨#[46]⟩ ++ ⟨(decDigits v).toArray⟩) = v := by
  have hd := dot_of (m := m) (dec_all v)
  have hb : ofB (m ++ ⟨#[46]⟩ ++ ⟨(decDigits v).toArray⟩) = true := by
    unfold ofB
    rw [hd, Int.toNat_natCast, pre_of, post_of, hn, dec_ok h1 h2]
    simp; omega
  refine ⟨hb, ?_, ?_⟩
  · unfold ofT; rw [if_pos hb, hd, Int.toNat_natCast, pre_of]
  · unfold ofN; rw [if_pos hb, hd, Int.toNat_natCast, post_of, dec_val]
/-- .. and may be a name -/
theorem nm_of {m : ByteArray} {v : Nat} (h2 : v ≤ 999999) (hm : m.size ≤ 16) (hn : nmB m.data.toList = true) : nmB (m ++ ⟨#[46]⟩ ++ ⟨(decDigits v).toArray⟩).data.toList = true := by
  have hml : m.data.toList.length = m.size := Array.length_toList
  rw [list_app, list_app]
  cases hl : m.data.toList with
  | nil => rw [hl] at hn; cases hn
  | cons c r =>
    rw [hl] at hn hml
    unfold nmB at hn
    simp only [Bool.and_eq_true, decide_eq_true_eq] at hn
    obtain ⟨⟨g1, g2⟩, g3⟩ := hn
    have hd6 : (decDigits v).length ≤ 6 := by rw [decDigits_length]; exact dec_len 5 v (by omega)
    have e : c :: r ++ (⟨#[46]⟩ : ByteArray).data.toList ++ (⟨(decDigits v).toArray⟩ : ByteArray).data.toList = c :: (r ++ 46 :: decDigits v) := by simp
    rw [e]
    unfold nmB
    simp only [Bool.and_eq_true, decide_eq_true_eq]
    simp at hml
    refine ⟨⟨by simp; omega, g2⟩, ?_⟩
    unfold laL at g3 ⊢
    rw [List.all_append, g3, List.all_cons, Bool.true_and, Bool.and_eq_true]
    refine ⟨by decide, List.all_eq_true.2 fun b hb => ?_⟩
    have := dg_iff.1 (List.all_eq_true.1 (dec_all v) b hb)
    unfold laB
    simp; omega
/-- what a template has -/
theorem tpl_nm {x : Spc} (h1 : chkE x = 0) (h2 : x.cr.toList.isEmpty = false) : x.nm.size ≤ 16 ∧ nmB x.nm.data.toList = true := by
  unfold chkE at h1
  split at h1
  · cases h1
  · rename_i h0
    split at h1
    · cases h1
    · rw [h2, if_neg (by simp)] at h1
      unfold Sp.chkT at h1
      split at h1
      · rename_i h5; exact absurd h1 h5
      · split at h1
        · cases h1
        · split at h1
          · cases h1
          · rename_i h7
            refine ⟨by omega, ?_⟩
            cases hn : nmB x.nm.data.toList with
            | true => rfl
            | false => rw [hn] at h0; simp at h0
/-- the instance may be -/
theorem inst_ok {x : Spc} {s : ByteArray} {a : Option Addr} {c : Nat} (h1 : chkE x = 0) (hs : nmB s.data.toList = true) : chkE { x with nm := s, cr := ⟨#[]⟩, ct := 0, a := a, c := c } = 0 := by
  unfold chkE at h1
  split at h1
  · cases h1
  · rename_i h0
    split at h1
    · cases h1
    · rename_i h6
      have he : (⟨#[]⟩ : ByteArray).toList.isEmpty = true := by rw [ByteArray.toList_eq]; rfl
      unfold chkE
      rw [if_neg, if_neg, if_pos he, if_neg (by simp)]
      · intro h
        apply h6
        unfold Sp.inbB at h ⊢
        simp only [Bool.and_eq_false_imp, Bool.and_eq_true, decide_eq_true_eq] at h ⊢
        intro h8
        exact h ⟨⟨⟨h8.1.1.1, by decide⟩, by decide⟩, h8.2⟩
      · intro h
        apply h0
        rw [hs] at h
        cases hn : nmB x.nm.data.toList with
        | true => exact h
        | false => simp
end Go.Proofs.YtkkanggkbbmfnaaGreatDoor.Ct

/- crontab: Of -/
namespace Go.Proofs.YtkkanggkbbmfnaaGreatDoor.Ct
open Go.RowKit Go.Lib Go.Proofs.YtkkanggkbbmfnaaGreatDoor.Cn
open Sp (nmB Spc chkE)
set_option linter.unusedVariables false
set_option linter.unusedSimpArgs false
set_option maxRecDepth 20000

/-- the library's: the table of powers, the two errors -/
structure Tz (w : World) : Prop where
  tab : TabIs Tryz.prog w "internal/strconv.uint64pow10" .u64 pow10Tab
  sx : ∃ ev, w.cell? ⟨2, 0, none⟩ = some ev ∧ (ev = .nilIface ∨ ∃ te pe, ev = .iface te pe)
  rg : ∃ ev, w.cell? ⟨3, 0, none⟩ = some ev ∧ (ev = .nilIface ∨ ∃ te pe, ev = .iface te pe)
theorem Tz.old {w w' : World} (h : Tz w) (hb : Below w.heap.size w w') : Tz w' := by
  obtain ⟨a, ⟨u, h1, h2⟩, v, h3, h4⟩ := h
  exact ⟨Joins.tab_stays (show Tryz.prog.globalNamed "internal/strconv.uint64pow10" = some 4 by kernel_rfl) a hb (Nat.le_refl _),
    ⟨u, (hb.cell (World.block_lt_of_cell? _ _ h1)).trans h1, h2⟩, v, (hb.cell (World.block_lt_of_cell? _ _ h3)).trans h3, h4⟩
def nuB (n : Int) : Bool := decide (1 ≤ n) && decide (n ≤ 999999)
theorem isNumber_any (n : Int) (w : World) : Calls Tryz.prog 14 #[.int .i64 n] w fun e w' => e = .returned (.bool (nuB n)) ∧ w' = w := by
  unfold nuB
  by_cases h1 : 1 ≤ n
  · by_cases h2 : n ≤ 999999
    · rw [show (decide (1 ≤ n) && decide (n ≤ 999999)) = true by simp [h1, h2]]
      go_enter Tryz.func14, Tryz.ntmps14
      go_wp2
      go_ret
      exact ⟨rfl, rfl⟩
    · rw [show (decide (1 ≤ n) && decide (n ≤ 999999)) = false by simp [h2]]
      go_enter Tryz.func14, Tryz.ntmps14
      go_wp2
      go_ret
      exact ⟨rfl, rfl⟩
  · rw [show (decide (1 ≤ n) && decide (n ≤ 999999)) = false by simp [h1]]
    go_enter Tryz.func14, Tryz.ntmps14
    go_wp2
    go_ret
    exact ⟨rfl, rfl⟩
theorem below_grow {w w' : World} {k : Nat} {os : Array Obj} (h : w' = Sort.grow (w.drewN k) os) : Below w.heap.size w w' := by
  subst h
  exact ⟨rfl, rfl, rfl, by simp, fun j hj => Sort.heap_grow_old (w.drewN k) os hj⟩
theorem below_world {w w' : World} {t5 : TypeId} (h : w' = w ∨ ∃ t, w' = Lib.bytesWorld w t5 t) : Below w.heap.size w w' := by
  rcases h with rfl | ⟨t, rfl⟩
  · exact Below.refl _ _
  · exact Lib.bytesWorld_below w t5 t
theorem itoa_num (v : Nat) (w : World) (h2 : v ≤ 999999) (ht : Tz w) :
    Calls Tryz.prog 16 #[.int .i64 (v : Nat)] w fun e w' => e = .returned (.string ⟨(decDigits v).toArray⟩) ∧ Below w.heap.size w w' := by
  refine (Tryz.strconv_Itoa (v : Nat) (by omega) (by omega) w ht.tab).mono ?_
  rintro e w' ⟨rfl, k, os, hw⟩
  exact ⟨by rw [itoa_nonneg], below_grow hw⟩
theorem last_any (s : ByteArray) (hs : s.size ≤ 100) (w : World) : Calls Tryz.prog 17 #[.string s, .string ⟨#[46]⟩] w fun e w' => e = .returned (.int .i64 (dotI s)) ∧ w' = w :=
  Tryz.strings_LastIndex_one s ⟨#[46]⟩ rfl (by omega) w
theorem of_no {s : ByteArray} (h : ofB s = false) : ofT s = ⟨#[]⟩ ∧ ofN s = 0 := by unfold ofT ofN; rw [h]; exact ⟨rfl, rfl⟩
set_option maxHeartbeats 4000000 in
theorem Of_any (s : ByteArray) (hs : s.size ≤ 100) (w : World) (hz : Tz w) :
    Calls Tryz.prog 7 #[.string s] w fun e w' => e = .returned (.tuple #[.string (ofT s), .int .i64 (ofN s), .bool (ofB s)]) ∧ Below w.heap.size w w' := by
  have hd := dot_lt s
  have hL := last_any s hs w
  have hN := fun k W => Sp.name_any (pre s k) (by unfold pre; rw [ByteArray.size_extract]; omega) W
  obtain ⟨B, hB⟩ : ∃ B, B = ofB s := ⟨_, rfl⟩
  have hBd := hB
  unfold ofB at hBd
  have hT : ofT s = if B = true then pre s (dotI s).toNat else ⟨#[]⟩ := by rw [hB]; rfl
  have hV : ofN s = if B = true then ((valN (post s ((dotI s).toNat + 1)).data.toList 0 : Nat) : Int) else 0 := by rw [hB]; rfl
  rw [hT, hV, ← hB]
  clear hT hV hB
  obtain ⟨D, hD⟩ : ∃ D, D = dotI s := ⟨_, rfl⟩
  rw [← hD] at hd hL hBd ⊢
  clear hD
  have HL := Lib.hid (And.intro hL hN)
  have HZ := Lib.hid hz
  clear hL hN hz
  by_cases h0 : D < 0
  · obtain rfl : B = false := by rw [hBd]; simp; omega
    clear hBd
    go_enter Tryz.func7, Tryz.ntmps7
    go_wp2_with fail
    refine HL.out.1.mono ?_
    rintro e w1 ⟨rfl, rfl⟩
    go_wp2_with fail
    refine bodyPost_ret (results_tmp3 rfl _ _ _) rfl ?_
    exact ⟨rfl, Below.refl _ _⟩
  by_cases h16 : 16 < D
  · obtain rfl : B = false := by rw [hBd]; simp; omega
    clear hBd
    go_enter Tryz.func7, Tryz.ntmps7
    go_wp2_with fail
    refine HL.out.1.mono ?_
    rintro e w1 ⟨rfl, rfl⟩
    go_wp2_with fail
    refine bodyPost_ret (results_tmp3 rfl _ _ _) rfl ?_
    exact ⟨rfl, Below.refl _ _⟩
  obtain ⟨k, rfl⟩ : ∃ k : Nat, D = (k : Nat) := ⟨D.toNat, by omega⟩
  rw [Int.toNat_natCast] at hBd ⊢
  have hk : k ≤ 16 ∧ k < s.size := by omega
  obtain ⟨nb, hnb⟩ : ∃ b, b = nmB (pre s k).data.toList := ⟨_, rfl⟩
  have HN := Lib.hid (fun W => HL.out.2 k W)
  rw [← hnb] at HN hBd
  clear h0 h16
  cases nb with
  | false =>
    obtain rfl : B = false := by rw [hBd]; simp
    clear hBd hnb
    go_enter Tryz.func7, Tryz.ntmps7
    go_wp2_with fail
    refine HL.out.1.mono ?_
    rintro e w1 ⟨rfl, rfl⟩
    go_wp2_with fail
    refine (HN.out _).mono ?_
    rintro e w2 ⟨rfl, hb⟩
    have HB := Lib.hid hb
    clear hb
    go_wp2_with fail
    refine bodyPost_ret (results_tmp3 rfl _ _ _) rfl ?_
    exact ⟨rfl, HB.out⟩
  | true =>
    obtain ⟨d, hd2⟩ : ∃ d, d = post s (k + 1) := ⟨_, rfl⟩
    rw [← hd2] at hBd
    have hds : d.size ≤ 100 := by rw [hd2]; unfold post; rw [ByteArray.size_extract]; omega
    have hsl : s.extract (k + 1) s.size = d := hd2.symm
    have hvd : valN (post s (k + 1)).data.toList 0 = valN d.data.toList 0 := by rw [hd2]
    rw [hvd]
    have hB2 : B = numOk d.data.toList := by rw [hBd]; simp; omega
    have hA : numOk d.data.toList = true → atoiAll d.data.toList = .ok ((valN d.data.toList 0 : Nat) : Int) := num_atoi
    clear hBd hnb hvd
    have HD := Lib.hid (And.intro hB2 (And.intro hA hds))
    rcases hat : atoiAll d.data.toList with v | _ | _
    · obtain ⟨nv, hnv⟩ : ∃ b, b = nuB v := ⟨_, rfl⟩
      have HI := fun W => isNumber_any v W
      rw [← hnv] at HI
      cases nv with
      | false =>
        obtain rfl : B = false := by
          rw [hB2]
          cases hn : numOk d.data.toList with
          | false => rfl
          | true =>
            have h1 := hA hn
            rw [hat] at h1
            have h2 := num_val hn
            cases h1
            unfold nuB at hnv
            simp at hnv
            omega
        have HA := Lib.hid (fun W => Tryz.strconv_Atoi_ok d (by omega) v hat W)
        have HI2 := Lib.hid HI
        clear hB2 hA hat hd2 HI hnv hds
        go_enter Tryz.func7, Tryz.ntmps7
        go_wp2_with fail
        refine HL.out.1.mono ?_
        rintro e w1 ⟨rfl, rfl⟩
        go_wp2_with fail
        refine (HN.out _).mono ?_
        rintro e w2 ⟨rfl, hb⟩
        have H2 := Lib.hid hb
        clear hb
        go_wp2_with fail
        refine (HA.out _).mono ?_
        rintro e w3 ⟨rfl, hb⟩
        have H3 := Lib.hid (H2.out.trans ((below_world hb).mono H2.out.size))
        clear hb
        go_wp2_with fail
        refine (HI2.out _).mono ?_
        rintro e w4 ⟨rfl, rfl⟩
        go_wp2_with fail
        refine bodyPost_ret (results_tmp3 rfl _ _ _) rfl ?_
        exact ⟨rfl, H3.out⟩
      | true =>
        obtain ⟨m, rfl⟩ : ∃ m : Nat, v = (m : Nat) := ⟨v.toNat, by unfold nuB at hnv; simp at hnv; omega⟩
        have hm : 1 ≤ m ∧ m ≤ 999999 := by unfold nuB at hnv; simp at hnv; omega
        have HA := Lib.hid (fun W => Tryz.strconv_Atoi_ok d (by omega) (m : Nat) hat W)
        have HI2 := Lib.hid HI
        have HS := Lib.hid (fun W (h : Tz W) => itoa_num m W hm.2 h)
        have hBm : B = true → valN d.data.toList 0 = m := fun hb => by
          have h1 := hA (by rw [← hB2]; exact hb)
          rw [hat] at h1
          have h2 := NumEnd.ok.inj h1
          omega
        by_cases hx : decDigits m = d.data.toList
        · obtain rfl : B = true := by rw [hB2, ← hx]; exact dec_ok hm.1 hm.2
          have hb2 : (⟨(decDigits m).toArray⟩ : ByteArray) = d := by
            apply ByteArray.ext
            apply Array.toList_inj.1
            simpa using hx
          have HX := Lib.hid (hBm rfl)
          rw [hb2] at HS
          clear hB2 hA hat hd2 HI hnv hds hBm hx hb2
          go_enter Tryz.func7, Tryz.ntmps7
          go_wp2_with fail
          refine HL.out.1.mono ?_
          rintro e w1 ⟨rfl, rfl⟩
          go_wp2_with fail
          refine (HN.out _).mono ?_
          rintro e w2 ⟨rfl, hb⟩
          have H2 := Lib.hid hb
          clear hb
          go_wp2_with fail
          refine (HA.out _).mono ?_
          rintro e w3 ⟨rfl, hb⟩
          have H3 := Lib.hid (H2.out.trans ((below_world hb).mono H2.out.size))
          clear hb
          go_wp2_with fail
          refine (HI2.out _).mono ?_
          rintro e w4 ⟨rfl, rfl⟩
          go_wp2_with fail
          refine (HS.out _ (HZ.out.old H3.out)).mono ?_
          rintro e w5 ⟨rfl, hb⟩
          have H5 := Lib.hid (H3.out.trans (hb.mono H3.out.size))
          clear hb
          go_wp2_with fail
          refine bodyPost_ret (results_tmp3 rfl _ _ _) rfl ?_
          exact ⟨by rw [HX.out]; rfl, H5.out⟩
        · obtain rfl : B = false := by
            cases B with
            | false => rfl
            | true =>
              exfalso
              apply hx
              have h1 := (num_val (hB2.symm)).1
              rw [hBm rfl] at h1
              exact h1
          have hne : ((⟨(decDigits m).toArray⟩ : ByteArray).toList == d.toList) = false := by
            rw [beq_eq_false_iff_ne, ByteArray.toList_eq, ByteArray.toList_eq]
            intro e
            apply hx
            rw [← e]
          obtain ⟨d0, hd0⟩ : ∃ d0 : ByteArray, d0 = ⟨(decDigits m).toArray⟩ := ⟨_, rfl⟩
          rw [← hd0] at HS hne
          clear hB2 hA hat hd2 HI hnv hds hBm hx hd0
          go_enter Tryz.func7, Tryz.ntmps7
          go_wp2_with fail
          refine HL.out.1.mono ?_
          rintro e w1 ⟨rfl, rfl⟩
          go_wp2_with fail
          refine (HN.out _).mono ?_
          rintro e w2 ⟨rfl, hb⟩
          have H2 := Lib.hid hb
          clear hb
          go_wp2_with fail
          refine (HA.out _).mono ?_
          rintro e w3 ⟨rfl, hb⟩
          have H3 := Lib.hid (H2.out.trans ((below_world hb).mono H2.out.size))
          clear hb
          go_wp2_with fail
          refine (HI2.out _).mono ?_
          rintro e w4 ⟨rfl, rfl⟩
          go_wp2_with fail
          refine (HS.out _ (HZ.out.old H3.out)).mono ?_
          rintro e w5 ⟨rfl, hb⟩
          have H5 := Lib.hid (H3.out.trans (hb.mono H3.out.size))
          clear hb
          go_wp2_with fail
          refine bodyPost_ret (results_tmp3 rfl _ _ _) rfl ?_
          exact ⟨rfl, H5.out⟩
    · obtain rfl : B = false := by
        rw [hB2]
        cases hn : numOk d.data.toList with
        | false => rfl
        | true => have h1 := hA hn; rw [hat] at h1; cases h1
      have HA0 : ∀ W, Tz W → Calls Tryz.prog 19 #[.string d] W fun e w' => (∃ u te pe, e = .returned (.tuple #[.int .i64 u, .iface te pe])) ∧ Below W.heap.size W w' := fun W h => by
        obtain ⟨ev, h1, h2⟩ := h.sx
        exact (Tryz.strconv_Atoi_syntax d (by omega) hat ev W h1 h2).mono fun e w' ⟨N, h3, _, _, h4⟩ => ⟨⟨_, _, _, h3⟩, h4⟩
      have HA := Lib.hid HA0
      clear HA0 hB2 hA hat hd2 hds
      go_enter Tryz.func7, Tryz.ntmps7
      go_wp2_with fail
      refine HL.out.1.mono ?_
      rintro e w1 ⟨rfl, rfl⟩
      go_wp2_with fail
      refine (HN.out _).mono ?_
      rintro e w2 ⟨rfl, hb⟩
      have H2 := Lib.hid hb
      clear hb
      go_wp2_with fail
      refine (HA.out _ (HZ.out.old H2.out)).mono ?_
      rintro e w3 ⟨⟨u, te, pe, rfl⟩, hb⟩
      have H3 := Lib.hid (H2.out.trans (hb.mono H2.out.size))
      clear hb
      go_wp2_with fail
      refine bodyPost_ret (results_tmp3 rfl _ _ _) rfl ?_
      exact ⟨rfl, H3.out⟩
    · obtain rfl : B = false := by
        rw [hB2]
        cases hn : numOk d.data.toList with
        | false => rfl
        | true => have h1 := hA hn; rw [hat] at h1; cases h1
      have HA0 : ∀ W, Tz W → Calls Tryz.prog 19 #[.string d] W fun e w' => (∃ u te pe, e = .returned (.tuple #[.int .i64 u, .iface te pe])) ∧ Below W.heap.size W w' := fun W h => by
        obtain ⟨ev, h1, h2⟩ := h.rg
        exact (Tryz.strconv_Atoi_range d (by omega) hat ev W h1 h2).mono fun e w' ⟨N, h3, _, _, h4⟩ => ⟨⟨_, _, _, h3⟩, h4⟩
      have HA := Lib.hid HA0
      clear HA0 hB2 hA hat hd2 hds
      go_enter Tryz.func7, Tryz.ntmps7
      go_wp2_with fail
      refine HL.out.1.mono ?_
      rintro e w1 ⟨rfl, rfl⟩
      go_wp2_with fail
      refine (HN.out _).mono ?_
      rintro e w2 ⟨rfl, hb⟩
      have H2 := Lib.hid hb
      clear hb
      go_wp2_with fail
      refine (HA.out _ (HZ.out.old H2.out)).mono ?_
      rintro e w3 ⟨⟨u, te, pe, rfl⟩, hb⟩
      have H3 := Lib.hid (H2.out.trans (hb.mono H2.out.size))
      clear hb
      go_wp2_with fail
      refine bodyPost_ret (results_tmp3 rfl _ _ _) rfl ?_
      exact ⟨rfl, H3.out⟩
end Go.Proofs.YtkkanggkbbmfnaaGreatDoor.Ct

/- crontab: which ticks are told (mathematics); whether a spec is a template, a number a tick; what is refused -/
namespace Go.Proofs.YtkkanggkbbmfnaaGreatDoor.Ct
open Go.RowKit Go.Lib Go.Proofs.YtkkanggkbbmfnaaGreatDoor.Cn Go.Proofs.YtkkanggkbbmfnaaGreatDoor.Rg Go.Proofs.YtkkanggkbbmfnaaGreatDoor.Fi
open Sp (Spc Okc chkE)
set_option linter.unusedVariables false
set_option linter.unusedSimpArgs false
set_option maxRecDepth 20000

/-- named ticks, one behind the other -/
def Chn (X : Ex) : Int → List Int → Int → Prop
  | s, [], e => e = s
  | s, t :: r, e => nx X s t ∧ Chn X t r e
theorem Chn.snoc {X : Ex} : ∀ {l : List Int} {s e t : Int}, Chn X s l e → nx X e t → Chn X s (l ++ [t]) t
  | [], s, e, t, h, n => by obtain rfl : e = s := h; exact ⟨n, rfl⟩
  | y :: l, s, e, t, h, n => ⟨h.1, h.2.snoc n⟩
theorem Chn.ge {X : Ex} : ∀ {l : List Int} {s e : Int}, Chn X s l e → s ≤ e
  | [], s, e, h => by obtain rfl : e = s := h; omega
  | y :: l, s, e, h => by have := h.1.1; have := h.2.ge; omega
theorem Chn.count {X : Ex} : ∀ {l : List Int} {s e : Int}, Chn X s l e → cnt X s e = l.length
  | [], s, e, h => by obtain rfl : e = s := h; rw [cnt_self X (Int.le_refl _)]; rfl
  | y :: l, s, e, h => by
    have h1 := cnt_next X h.1 (Int.le_refl s)
    rw [cnt_self X (Int.le_refl _)] at h1
    rw [cnt_add X (Int.le_of_lt h.1.1) h.2.ge, h1, h.2.count, List.length_cons]; omega
theorem Chn.same {X : Ex} : ∀ {l m : List Int} {s e f : Int}, Chn X s l e → Chn X s m f → l.length = m.length → l = m ∧ e = f
  | [], [], s, e, f, h, g, _ => by obtain rfl : e = s := h; obtain rfl : f = e := g; exact ⟨rfl, rfl⟩
  | x :: l, y :: m, s, e, f, h, g, hl => by
    obtain rfl := nx_same h.1 g.1
    obtain ⟨h1, h2⟩ := h.2.same g.2 (by simpa using hl)
    exact ⟨by rw [h1], h2⟩
theorem Chn.app {X : Ex} : ∀ {l m : List Int} {s e f : Int}, Chn X s l e → Chn X e m f → Chn X s (l ++ m) f
  | [], m, s, e, f, h, g => by obtain rfl : e = s := h; exact g
  | x :: l, m, s, e, f, h, g => ⟨h.1, h.2.app g⟩
/-- a beginning -/
theorem Chn.take {X : Ex} : ∀ {l : List Int} {s e : Int} (k : Nat), Chn X s l e → ∃ f, Chn X s (l.take k) f ∧ f ≤ e
  | [], s, e, k, h => ⟨e, by rw [List.take_nil]; exact h, Int.le_refl _⟩
  | x :: l, s, e, 0, h => ⟨s, rfl, Chn.ge h⟩
  | x :: l, s, e, k + 1, h => by obtain ⟨f, h1, h2⟩ := h.2.take k; exact ⟨f, ⟨h.1, h1⟩, h2⟩
/-- what Due tells: the ticks ts above a, up to t, at most N, and how many more -/
def DueIs (X : Ex) (a t : Int) (N : Nat) (ts : List Int) (m : Nat) : Prop :=
  ∃ e, Chn X a ts e ∧ e ≤ t ∧ ((ts.length < N ∧ BS X t e ∧ m = 0) ∨ (ts.length = N ∧ m = min (cnt X e t) 1048576))
abbrev intsI (l : List Int) : List Value := l.map fun n => .int .i64 n
/-- is it a template that may be -/
noncomputable def tplB (x : Spc) : Bool := !x.cr.toList.isEmpty && decide (chkE x = 0)
theorem isTemplate_any (x : Spc) {w : World} (hk : Okc x w) (hg : Gl w) :
    Calls Tryz.prog 13 #[.agg x.cells] w fun e w' => e = .returned (.bool (tplB x)) ∧ Below w.heap.size w w' := by
  obtain ⟨R, hR⟩ : ∃ R, R = tplB x := ⟨_, rfl⟩
  rw [← hR]
  unfold tplB at hR
  have q := fun W (h : Below w.heap.size w W) => Sp.Check_any x (w := W) (hk.old h) (hg.old h)
  obtain ⟨E, hE⟩ : ∃ E, E = chkE x := ⟨_, rfl⟩
  rw [← hE] at hR q
  obtain ⟨nm, tn, pr, dl, a, n, c, ds, bs, cp, at', ls, cr, ct⟩ := x
  unfold Spc.cells at q ⊢
  simp only at q hR ⊢
  obtain ⟨V, hV⟩ : ∃ V, V = w.alloc (.cells #[.string nm, .string tn, .int .i64 pr, .int .i64 dl, .slice a n c, .int .i64 bs, .int .i64 cp, .int .i64 at', .int .i64 ls, .string cr, .int .i64 ct] 24) := ⟨_, rfl⟩
  have hb1 : Below w.heap.size w V := by rw [hV]; exact (Below.refl _ w).alloc (Nat.le_refl _) _
  have hx0 : V.heap[w.heap.size]? = some (.cells #[.string nm, .string tn, .int .i64 pr, .int .i64 dl, .slice a n c, .int .i64 bs, .int .i64 cp, .int .i64 at', .int .i64 ls, .string cr, .int .i64 ct] 24 (0, 0)) := by rw [hV]; exact (MapKept.heap_alloc w _).1
  obtain ⟨⟨l0, l1, l2, l3, l4, l5, l6, l7, l8, l9, l10⟩, _⟩ := Sp.eleven hx0
  have HQ := Lib.hid (And.intro (q V hb1) (And.intro hb1 hV))
  clear q hb1 hV hx0 hk hg hE
  by_cases hcr : cr.toList.isEmpty = true
  · obtain rfl : R = false := by rw [hR, hcr]; rfl
    clear hR
    go_enter Tryz.func13, Tryz.ntmps13
    go_wp2_with fail
    rw [← HQ.out.2.2]
    go_wp2_with fail
    go_ret
    exact ⟨rfl, HQ.out.2.1⟩
  · have hcr' : cr.toList.isEmpty = false := by simpa using hcr
    by_cases hE0 : E = 0
    · obtain rfl : R = true := by rw [hR, hcr', hE0]; rfl
      have i1 : (((E : Nat) : Int) == 0) = true := by rw [hE0]; rfl
      clear hR hcr hE0
      go_enter Tryz.func13, Tryz.ntmps13
      go_wp2_with fail
      rw [← HQ.out.2.2]
      go_wp2_with fail
      refine HQ.out.1.mono ?_
      rintro e w2 ⟨rfl, hb⟩
      have HB := Lib.hid (HQ.out.2.1.trans (hb.mono HQ.out.2.1.size))
      clear hb
      go_wp2_with fail
      go_ret
      exact ⟨rfl, HB.out⟩
    · obtain rfl : R = false := by rw [hR, decide_eq_false hE0, Bool.and_false]
      have i1 : (((E : Nat) : Int) == 0) = false := by simpa using hE0
      clear hR hcr hE0
      go_enter Tryz.func13, Tryz.ntmps13
      go_wp2_with fail
      rw [← HQ.out.2.2]
      go_wp2_with fail
      refine HQ.out.1.mono ?_
      rintro e w2 ⟨rfl, hb⟩
      have HB := Lib.hid (HQ.out.2.1.trans (hb.mono HQ.out.2.1.size))
      clear hb
      go_wp2_with fail
      go_ret
      exact ⟨rfl, HB.out⟩
/-- a tick -/
def tkB (t : Int) : Bool := decide (0 ≤ t) && decide (t ≤ 1099511627776)
theorem isTick_any (n : Int) (w : World) : Calls Tryz.prog 24 #[.int .i64 n] w fun e w' => e = .returned (.bool (tkB n)) ∧ w' = w := by
  unfold tkB
  by_cases h1 : 0 ≤ n
  · by_cases h2 : n ≤ 1099511627776
    · rw [show (decide (0 ≤ n) && decide (n ≤ 1099511627776)) = true by simp [h1, h2]]
      go_enter Tryz.func24, Tryz.ntmps24
      go_wp2
      go_ret
      exact ⟨rfl, rfl⟩
    · rw [show (decide (0 ≤ n) && decide (n ≤ 1099511627776)) = false by simp [h2]]
      go_enter Tryz.func24, Tryz.ntmps24
      go_wp2
      go_ret
      exact ⟨rfl, rfl⟩
  · rw [show (decide (0 ≤ n) && decide (n ≤ 1099511627776)) = false by simp [h1]]
    go_enter Tryz.func24, Tryz.ntmps24
    go_wp2
    go_ret
    exact ⟨rfl, rfl⟩
end Go.Proofs.YtkkanggkbbmfnaaGreatDoor.Ct

/- crontab: Instance -/
namespace Go.Proofs.YtkkanggkbbmfnaaGreatDoor.Ct
open Go.RowKit Go.Lib Go.Proofs.YtkkanggkbbmfnaaGreatDoor.Cn Go.Proofs.YtkkanggkbbmfnaaGreatDoor.Rg Ht
open Sp (Spc Okc chkE)
set_option linter.unusedVariables false
set_option linter.unusedSimpArgs false
set_option maxRecDepth 20000

theorem results_ct {fn : Func} {p q : Tmp} {ty : TypeId} (h : fn.results = #[.cell p ty, .tmp q]) {tmps : Array Value} {X : World} {b : Addr} {v v2 : Value} (h1 : tmps.getD p undef = .pointer (some b)) (h2 : tmps.getD q undef = v2) (h3 : (loadVar ty b).run Tryz.prog X = .ok v X) :
    (results fn tmps).run Tryz.prog X = .ok (.tuple #[v, v2]) X := by
  have h1' : tmps[p]?.getD undef = .pointer (some b) := by simpa using h1
  have h2' : tmps[q]?.getD undef = v2 := by simpa using h2
  simp only [results, h]
  simp [h1', h2', Result.andThen, asAddr, h3]
/-- eleven cells, stored -/
theorem set11 {w X : World} {B : Nat} {u0 u1 u2 u3 u4 u5 u6 u7 u8 u9 u10 : Value} (v0 v1 v2 v3 v4 v5 v6 v7 v8 v9 v10 : Value) {t : TypeId} (h : w.heap[B]? = some (.cells #[u0, u1, u2, u3, u4, u5, u6, u7, u8, u9, u10] t (0, 0)))
    (hX : X = (((((((((((w.setCell ⟨B, 0, none⟩ (v0)).setCell ⟨B, 1, none⟩ (v1)).setCell ⟨B, 2, none⟩ (v2)).setCell ⟨B, 3, none⟩ (v3)).setCell ⟨B, 4, none⟩ (v4)).setCell ⟨B, 5, none⟩ (v5)).setCell ⟨B, 6, none⟩ (v6)).setCell ⟨B, 7, none⟩ (v7)).setCell ⟨B, 8, none⟩ (v8)).setCell ⟨B, 9, none⟩ (v9)).setCell ⟨B, 10, none⟩ (v10))) : X.heap[B]? = some (.cells #[v0, v1, v2, v3, v4, v5, v6, v7, v8, v9, v10] t (0, 0)) ∧ BelowO (fun k => k = B) w X := by
  refine ⟨?_, ?_⟩
  · have k1 := heap_setCell_same _ _ 0 _ _ v0 h
    have k2 := heap_setCell_same _ _ 1 _ _ v1 k1
    have k3 := heap_setCell_same _ _ 2 _ _ v2 k2
    have k4 := heap_setCell_same _ _ 3 _ _ v3 k3
    have k5 := heap_setCell_same _ _ 4 _ _ v4 k4
    have k6 := heap_setCell_same _ _ 5 _ _ v5 k5
    have k7 := heap_setCell_same _ _ 6 _ _ v6 k6
    have k8 := heap_setCell_same _ _ 7 _ _ v7 k7
    have k9 := heap_setCell_same _ _ 8 _ _ v8 k8
    have k10 := heap_setCell_same _ _ 9 _ _ v9 k9
    have k11 := heap_setCell_same _ _ 10 _ _ v10 k10
    rw [← hX] at k11
    simp only [List.setIfInBounds_toArray, List.set_cons_zero, List.set_cons_succ] at k11
    exact k11
  · rw [hX]
    iterate 11 refine BelowO.set (own := fun k => k = B) ?_ (p := ⟨B, _, none⟩) rfl _
    exact BelowO.of (Below.refl w.heap.size w)
theorem box_blk (w : World) (C : Array Value) (t : TypeId) (C2 : Array Value) (t2 : TypeId) {V : World} (hV : V = (w.alloc (.cells C t)).alloc (.cells C2 t2)) :
    Below w.heap.size w V ∧ V.heap.size = w.heap.size + 2 ∧ V.heap[w.heap.size]? = some (.cells C t (0, 0)) ∧ V.heap[w.heap.size + 1]? = some (.cells C2 t2 (0, 0)) := by
  subst hV
  refine ⟨((Below.refl _ w).alloc (Nat.le_refl _) _).alloc (by simp) _, by simp, ((Below.refl _ _).alloc (Nat.le_refl _) _ |>.block _ (by simp)).trans (MapKept.heap_alloc w _).1, ?_⟩
  have h := (MapKept.heap_alloc (w.alloc (.cells C t)) (.cells C2 t2)).1
  rwa [World.size_alloc] at h
theorem dp_keep {w w' : World} {a : Option Addr} {n L M : Nat} {ds : List ByteArray} (h : Sp.Dp w a n ds) (hn : n = 0 ∨ ∃ g, a = some ⟨g, 0, none⟩ ∧ L < g ∧ g < M) (hk : ∀ g, L < g → g < M → w'.heap[g]? = w.heap[g]?) : Sp.Dp w' a n ds := by
  refine ⟨h.1, h.2.1, ?_⟩
  rcases h.2.2 with h0 | ⟨b, o, h1, h2⟩
  · exact .inl h0
  · rcases hn with h0 | ⟨g, e, hg1, hg2⟩
    · exact .inl h0
    · rw [h1] at e
      obtain ⟨rfl, rfl⟩ : b = g ∧ o = 0 := by cases e; exact ⟨rfl, rfl⟩
      refine .inr ⟨b, 0, h1, fun i hi => ?_⟩
      have h3 := h2 i hi
      unfold World.cell? at h3 ⊢
      simp only [hk b hg1 hg2] at h3 ⊢
      exact h3
def zeroS : Array Value := #[.string ⟨#[]⟩, .string ⟨#[]⟩, .int .i64 0, .int .i64 0, .slice none 0 0, .int .i64 0, .int .i64 0, .int .i64 0, .int .i64 0, .string ⟨#[]⟩, .int .i64 0]
set_option maxHeartbeats 8000000 in
theorem Inst_no (x : Spc) (n0 : Int) {w : World} (hk : Okc x w) (hg : Gl w) (h : tplB x = false ∨ nuB n0 = false) :
    Calls Tryz.prog 6 #[.agg x.cells, .int .i64 n0] w fun e w' => e = .returned (.tuple #[.agg zeroS, .int .i64 1]) ∧ Below w.heap.size w w' := by
  have q := fun W (h : Below w.heap.size w W) => isTemplate_any x (w := W) (hk.old h) (hg.old h)
  have q1 := fun W => isNumber_any n0 W
  generalize tplB x = B at q h
  generalize nuB n0 = B1 at q1 h
  obtain ⟨nm, tn, pr, dl, a, n, c, ds, bs, cp, at', ls, cr, ct⟩ := x
  unfold Spc.cells at q ⊢
  simp only at q ⊢
  obtain ⟨V, hV⟩ : ∃ V, V = (w.alloc (.cells #[.string nm, .string tn, .int .i64 pr, .int .i64 dl, .slice a n c, .int .i64 bs, .int .i64 cp, .int .i64 at', .int .i64 ls, .string cr, .int .i64 ct] 24)).alloc (.cells #[.string ⟨#[]⟩, .string ⟨#[]⟩, .int .i64 0, .int .i64 0, .slice none 0 0, .int .i64 0, .int .i64 0, .int .i64 0, .int .i64 0, .string ⟨#[]⟩, .int .i64 0] 24) := ⟨_, rfl⟩
  obtain ⟨hb1, hsz, hx0, hx00⟩ := box_blk w _ _ _ _ hV
  obtain ⟨⟨l0, l1, l2, l3, l4, l5, l6, l7, l8, l9, l10⟩, _⟩ := Sp.eleven hx0
  have HV := Lib.hid (And.intro hb1 (And.intro hV (And.intro hsz hx00)))
  have HQ := Lib.hid q
  have HQ1 := Lib.hid q1
  clear q q1 hV hk hg hb1 hx0 hx00 hsz
  cases B with
  | false =>
    clear h
    go_enter Tryz.func6, Tryz.ntmps6
    go_wp2_with fail
    rw [← HV.out.2.1]
    refine (HQ.out _ HV.out.1).mono ?_
    rintro e w1 ⟨rfl, hb⟩
    have H1 := Lib.hid (And.intro (HV.out.1.trans (hb.mono HV.out.1.size)) (Sp.old2 hb HV.out.2.2.2))
    have hlt : w.heap.size + 1 < w1.heap.size := by have := hb.size; have := HV.out.2.2.1; omega
    clear hb l0 l1 l2 l3 l4 l5 l6 l7 l8 l9 l10
    obtain ⟨⟨r0, r1, r2, r3, r4, r5, r6, r7, r8, r9, r10⟩, rf⟩ := Sp.eleven H1.out.2
    have z0 := rf 0
    have z1 := rf 1
    have z2 := rf 2
    have z3 := rf 3
    have z4 := rf 4
    have z5 := rf 5
    have z6 := rf 6
    have z7 := rf 7
    have z8 := rf 8
    have z9 := rf 9
    have z10 := rf 10
    go_wp2_with fail
    obtain ⟨X, hX⟩ : ∃ X, X = (((((((((((w1.setCell ⟨w.heap.size + 1, 0, none⟩ (.string ⟨#[]⟩)).setCell ⟨w.heap.size + 1, 1, none⟩ (.string ⟨#[]⟩)).setCell ⟨w.heap.size + 1, 2, none⟩ (.int .i64 0)).setCell ⟨w.heap.size + 1, 3, none⟩ (.int .i64 0)).setCell ⟨w.heap.size + 1, 4, none⟩ (.slice none 0 0)).setCell ⟨w.heap.size + 1, 5, none⟩ (.int .i64 0)).setCell ⟨w.heap.size + 1, 6, none⟩ (.int .i64 0)).setCell ⟨w.heap.size + 1, 7, none⟩ (.int .i64 0)).setCell ⟨w.heap.size + 1, 8, none⟩ (.int .i64 0)).setCell ⟨w.heap.size + 1, 9, none⟩ (.string ⟨#[]⟩)).setCell ⟨w.heap.size + 1, 10, none⟩ (.int .i64 0)) := ⟨_, rfl⟩
    obtain ⟨g1, g2⟩ := set11 _ _ _ _ _ _ _ _ _ _ _ H1.out.2 hX
    rw [← hX]
    clear r0 r1 r2 r3 r4 r5 r6 r7 r8 r9 r10 rf z0 z1 z2 z3 z4 z5 z6 z7 z8 z9 z10 hX
    obtain ⟨⟨l0, l1, l2, l3, l4, l5, l6, l7, l8, l9, l10⟩, _⟩ := Sp.eleven g1
    refine bodyPost_ret (v := .tuple #[.agg #[.string ⟨#[]⟩, .string ⟨#[]⟩, .int .i64 0, .int .i64 0, .slice none 0 0, .int .i64 0, .int .i64 0, .int .i64 0, .int .i64 0, .string ⟨#[]⟩, .int .i64 0], .int .i64 1]) (results_ct (b := ⟨w.heap.size + 1, 0, none⟩) rfl rfl rfl (by go_simp)) rfl ⟨by unfold zeroS; rfl, ?_⟩
    exact H1.out.1.trans (g2.below H1.out.1.size (fun k hk => by omega))
  | true =>
    obtain rfl : B1 = false := h.elim (fun h => by cases h) id
    clear h
    go_enter Tryz.func6, Tryz.ntmps6
    go_wp2_with fail
    rw [← HV.out.2.1]
    refine (HQ.out _ HV.out.1).mono ?_
    rintro e w1 ⟨rfl, hb⟩
    have H1 := Lib.hid (And.intro (HV.out.1.trans (hb.mono HV.out.1.size)) (Sp.old2 hb HV.out.2.2.2))
    have hlt : w.heap.size + 1 < w1.heap.size := by have := hb.size; have := HV.out.2.2.1; omega
    clear hb l0 l1 l2 l3 l4 l5 l6 l7 l8 l9 l10
    obtain ⟨⟨r0, r1, r2, r3, r4, r5, r6, r7, r8, r9, r10⟩, rf⟩ := Sp.eleven H1.out.2
    have z0 := rf 0
    have z1 := rf 1
    have z2 := rf 2
    have z3 := rf 3
    have z4 := rf 4
    have z5 := rf 5
    have z6 := rf 6
    have z7 := rf 7
    have z8 := rf 8
    have z9 := rf 9
    have z10 := rf 10
    go_wp2_with fail
    refine (HQ1.out _).mono ?_
    rintro e w2 ⟨rfl, rfl⟩
    go_wp2_with fail
    obtain ⟨X, hX⟩ : ∃ X, X = (((((((((((w2.setCell ⟨w.heap.size + 1, 0, none⟩ (.string ⟨#[]⟩)).setCell ⟨w.heap.size + 1, 1, none⟩ (.string ⟨#[]⟩)).setCell ⟨w.heap.size + 1, 2, none⟩ (.int .i64 0)).setCell ⟨w.heap.size + 1, 3, none⟩ (.int .i64 0)).setCell ⟨w.heap.size + 1, 4, none⟩ (.slice none 0 0)).setCell ⟨w.heap.size + 1, 5, none⟩ (.int .i64 0)).setCell ⟨w.heap.size + 1, 6, none⟩ (.int .i64 0)).setCell ⟨w.heap.size + 1, 7, none⟩ (.int .i64 0)).setCell ⟨w.heap.size + 1, 8, none⟩ (.int .i64 0)).setCell ⟨w.heap.size + 1, 9, none⟩ (.string ⟨#[]⟩)).setCell ⟨w.heap.size + 1, 10, none⟩ (.int .i64 0)) := ⟨_, rfl⟩
    obtain ⟨g1, g2⟩ := set11 _ _ _ _ _ _ _ _ _ _ _ H1.out.2 hX
    rw [← hX]
    clear r0 r1 r2 r3 r4 r5 r6 r7 r8 r9 r10 rf z0 z1 z2 z3 z4 z5 z6 z7 z8 z9 z10 hX
    obtain ⟨⟨l0, l1, l2, l3, l4, l5, l6, l7, l8, l9, l10⟩, _⟩ := Sp.eleven g1
    refine bodyPost_ret (v := .tuple #[.agg #[.string ⟨#[]⟩, .string ⟨#[]⟩, .int .i64 0, .int .i64 0, .slice none 0 0, .int .i64 0, .int .i64 0, .int .i64 0, .int .i64 0, .string ⟨#[]⟩, .int .i64 0], .int .i64 1]) (results_ct (b := ⟨w.heap.size + 1, 0, none⟩) rfl rfl rfl (by go_simp)) rfl ⟨by unfold zeroS; rfl, ?_⟩
    exact H1.out.1.trans (g2.below H1.out.1.size (fun k hk => by omega))
set_option maxHeartbeats 16000000 in
theorem Inst_ok (x : Spc) (v : Nat) {w : World} (hk : Okc x w) (hg : Gl w) (ht : Tz w) (htp : tplB x = true) (hv : 1 ≤ v ∧ v ≤ 999999) (hnm : x.nm.size ≤ 60) :
    Calls Tryz.prog 6 #[.agg x.cells, .int .i64 (v : Nat)] w fun e w' => ∃ y : Spc, e = .returned (.tuple #[.agg y.cells, .int .i64 0]) ∧
      y = { x with nm := x.nm ++ ⟨#[46]⟩ ++ ⟨(decDigits v).toArray⟩, cr := ⟨#[]⟩, ct := 0, a := y.a, c := y.c } ∧ Sp.Dp w' y.a y.n y.ds ∧ Below w.heap.size w w' := by
  have hmix : Tryz.prog.follows .mixedOrders = true := by kernel_rfl
  have q := fun W (h : Below w.heap.size w W) => isTemplate_any x (w := W) (hk.old h) (hg.old h)
  rw [htp] at q
  have q1 := fun W => isNumber_any (v : Nat) W
  rw [show nuB (v : Nat) = true by unfold nuB; simp; omega] at q1
  have q2 := fun W (h : Below w.heap.size w W) => Sp.Clone_any x (w := W) (hk.old h).d hk.m
  obtain ⟨dd, hdd⟩ : ∃ d : ByteArray, d = ⟨(decDigits v).toArray⟩ := ⟨_, rfl⟩
  have q3 := fun W (h : Tz W) => itoa_num v W hv.2 h
  rw [← hdd] at q3 ⊢
  have hdz : dd.size ≤ 6 := by
    rw [hdd]
    have h1 : (⟨(decDigits v).toArray⟩ : ByteArray).size = (decDigits v).length := rfl
    rw [h1, decDigits_length]; exact dec_len 5 v (by omega)
  obtain ⟨nm, tn, pr, dl, a, n, c, ds, bs, cp, at', ls, cr, ct⟩ := x
  unfold Spc.cells at q q2 ⊢
  simp only at q q2 ⊢
  obtain ⟨V, hV⟩ : ∃ V, V = (w.alloc (.cells #[.string nm, .string tn, .int .i64 pr, .int .i64 dl, .slice a n c, .int .i64 bs, .int .i64 cp, .int .i64 at', .int .i64 ls, .string cr, .int .i64 ct] 24)).alloc (.cells #[.string ⟨#[]⟩, .string ⟨#[]⟩, .int .i64 0, .int .i64 0, .slice none 0 0, .int .i64 0, .int .i64 0, .int .i64 0, .int .i64 0, .string ⟨#[]⟩, .int .i64 0] 24) := ⟨_, rfl⟩
  obtain ⟨hb1, hsz, hx0, hx00⟩ := box_blk w _ _ _ _ hV
  obtain ⟨⟨l0, l1, l2, l3, l4, l5, l6, l7, l8, l9, l10⟩, _⟩ := Sp.eleven hx0
  simp only at hnm
  obtain ⟨s1, hs1⟩ : ∃ s : ByteArray, s = nm ++ ⟨#[46]⟩ := ⟨_, rfl⟩
  obtain ⟨s2, hs2⟩ : ∃ s : ByteArray, s = s1 ++ dd := ⟨_, rfl⟩
  have hz1 : s1.size = nm.size + 1 := by rw [hs1, size_app]; rfl
  have e1 : nm ++ ⟨#[46]⟩ = s1 := hs1.symm
  have e2 : s1 ++ dd = s2 := hs2.symm
  rw [e1, e2]
  have c1 : nm.size + 1 ≤ 9223372036854775807 := by omega
  have c2 : s1.size + dd.size ≤ 9223372036854775807 := by omega
  have HV := Lib.hid (And.intro hb1 (And.intro hV (And.intro hsz hx00)))
  have HQ := Lib.hid (q V hb1)
  have HQ1 := Lib.hid q1
  have HQ2 := Lib.hid q2
  have HQ3 := Lib.hid (And.intro q3 ht)
  have HX0 := Lib.hid hx0
  have HE := Lib.hid (And.intro e1 (And.intro e2 (And.intro c1 c2)))
  clear q q1 q2 q3 hV hk hg hb1 hx0 hx00 hsz ht htp hv hs1 hs2 hz1 e1 e2 c1 c2 hdz hnm hdd
  go_enter Tryz.func6, Tryz.ntmps6
  go_wp2_with fail
  rw [← HV.out.2.1]
  refine HQ.out.mono ?_
  rintro e w1 ⟨rfl, hb⟩
  have H1 := Lib.hid (And.intro (HV.out.1.trans (hb.mono HV.out.1.size)) (Sp.old2 hb HV.out.2.2.2))
  have hlt : w.heap.size + 1 < w1.heap.size := by have := hb.size; have := HV.out.2.2.1; omega
  have HX1 := Lib.hid (Sp.old2 hb HX0.out)
  clear hb l0 l1 l2 l3 l4 l5 l6 l7 l8 l9 l10
  obtain ⟨⟨r0, r1, r2, r3, r4, r5, r6, r7, r8, r9, r10⟩, rf⟩ := Sp.eleven H1.out.2
  have z0 := rf 0
  have z1 := rf 1
  have z2 := rf 2
  have z3 := rf 3
  have z4 := rf 4
  have z5 := rf 5
  have z6 := rf 6
  have z7 := rf 7
  have z8 := rf 8
  have z9 := rf 9
  have z10 := rf 10
  clear r0 r1 r2 r3 r4 r5 r6 r7 r8 r9 r10 rf z0 z1 z2 z3 z4 z5 z6 z7 z8 z9 z10
  obtain ⟨⟨l0, l1, l2, l3, l4, l5, l6, l7, l8, l9, l10⟩, _⟩ := Sp.eleven HX1.out
  go_wp2_with fail
  refine (HQ1.out _).mono ?_
  rintro e w2 ⟨rfl, rfl⟩
  go_wp2_with fail
  refine (HQ2.out _ H1.out.1).mono ?_
  rintro e w3 ⟨y, rfl, hy, hb, hdy, hrow⟩
  obtain ⟨ynm, ytn, ypr, ydl, a2, n2, c2', yds, ybs, ycp, yat, yls, ycr, yct⟩ := y
  simp only [Spc.mk.injEq] at hy hdy hrow
  obtain ⟨rfl, rfl, rfl, rfl, -, rfl, -, rfl, rfl, rfl, rfl, rfl, rfl, rfl⟩ := hy
  dsimp only
  obtain ⟨V3, hV3⟩ : ∃ V, V = w3.alloc (.cells #[.string ynm, .string ytn, .int .i64 ypr, .int .i64 ydl, .slice a2 n2 c2', .int .i64 ybs, .int .i64 ycp, .int .i64 yat, .int .i64 yls, .string ycr, .int .i64 yct] 24) := ⟨_, rfl⟩
  have h3 : Below w3.heap.size w3 V3 := by rw [hV3]; exact (Below.refl _ w3).alloc (Nat.le_refl _) _
  have hx3 : V3.heap[w3.heap.size]? = some (.cells #[.string ynm, .string ytn, .int .i64 ypr, .int .i64 ydl, .slice a2 n2 c2', .int .i64 ybs, .int .i64 ycp, .int .i64 yat, .int .i64 yls, .string ycr, .int .i64 yct] 24 (0, 0)) := by rw [hV3]; exact (MapKept.heap_alloc w3 _).1
  have hx1 := Sp.old2 (hb.trans (h3.mono hb.size)) HX1.out
  have hr1 := Sp.old2 (hb.trans (h3.mono hb.size)) H1.out.2
  have hB3 := H1.out.1.trans ((hb.trans (h3.mono hb.size)).mono H1.out.1.size)
  have hs13 : w.heap.size + 1 < w3.heap.size := by have := hb.size; omega
  have H3 := Lib.hid (And.intro hV3 (And.intro hx3 (And.intro hx1 (And.intro hr1 (And.intro hB3 (hdy.old h3))))))
  have hs21 := H1.out.1.size
  have hrow2 : n2 = 0 ∨ ∃ g, a2 = some ⟨g, 0, none⟩ ∧ w.heap.size + 1 < g ∧ g < w3.heap.size := by
    rcases hrow with h | ⟨g, cur, h1, h2, h3, _⟩
    · exact .inl h
    · exact .inr ⟨g, h1, by omega, (Array.getElem?_eq_some_iff.1 h3).1⟩
  have HS := Lib.hid hs13
  have HRow := Lib.hid hrow2
  clear hV3 h3 hx3 hx1 hr1 hB3 hdy hb hs13 hlt hrow hrow2 hs21 l0 l1 l2 l3 l4 l5 l6 l7 l8 l9 l10
  go_wp2_with fail
  rw [← H3.out.1]
  refine begin' 99 (fun _ => True) hmix trivial (fun _ => ?_)
  refine later [6, 7, 8, 9, 10, 11] (fun X' => Below V3.heap.size V3 X') ((Below.refl V3.heap.size V3).drew) (fun hS0 => ?_)
  refine Ht.takeS 14 (i := 0) ⟨some 18, _, _, _, _, _⟩ (.pointer (some ⟨w.heap.size, 0, none⟩)) rfl (by kernel_rfl) (by kernel_rfl) (by kernel_rfl) (by kernel_rfl) (by kernel_rfl) hS0 (Or.inl ⟨by rfl, by (intro X hX; go_simp)⟩) ?_
  try simp only [Act.put, List.setIfInBounds_toArray, List.set_cons_zero, List.set_cons_succ]
  refine Ht.takeS 14 (i := 1) ⟨some 19, _, _, _, _, _⟩ (.string ynm) rfl (by kernel_rfl) (by kernel_rfl) (by kernel_rfl) (by kernel_rfl) (by kernel_rfl) hS0 (Or.inl ⟨by rfl, by (intro X hX; obtain ⟨⟨l0, l1, l2, l3, l4, l5, l6, l7, l8, l9, l10⟩, _⟩ := Sp.eleven (Sp.old2 hX H3.out.2.2.1); go_simp)⟩) ?_
  try simp only [Act.put, List.setIfInBounds_toArray, List.set_cons_zero, List.set_cons_succ]
  refine Ht.takeS 14 (i := 2) ⟨some 20, _, _, _, _, _⟩ (.string s1) rfl (by kernel_rfl) (by kernel_rfl) (by kernel_rfl) (by kernel_rfl) (by kernel_rfl) hS0 (Or.inl ⟨by rfl, by (intro X hX; have := HE.out.1; have := HE.out.2.2.1; go_simp)⟩) ?_
  try simp only [Act.put, List.setIfInBounds_toArray, List.set_cons_zero, List.set_cons_succ]
  refine Ht.takeS 14 (i := 3) ⟨some 21, _, _, _, _, _⟩ (.int .i64 (v : Nat)) rfl (by kernel_rfl) (by kernel_rfl) (by kernel_rfl) (by kernel_rfl) (by kernel_rfl) hS0 (Or.inl ⟨by rfl, by (intro X hX; go_simp)⟩) ?_
  try simp only [Act.put, List.setIfInBounds_toArray, List.set_cons_zero, List.set_cons_succ]
  refine Ht.stepS (i := 4) ⟨some 22, _, _, _, _, _⟩ rfl (by kernel_rfl) (by rfl) (fun K hK => ?_)
  refine Ht.enter 16 #[.int .i64 (v : Nat)] (by have hen := fun args w => enters_of (P := Tryz.prog) Tryz.func16 (by kernel_rfl) rfl args w; go_simp) (HQ3.out.1 _ (HQ3.out.2.old (H3.out.2.2.2.2.1.trans (hS0.mono H3.out.2.2.2.2.1.size)))) ?_
  rintro e U5 ⟨rfl, hbl⟩
  have hS1 := hS0.trans (hbl.mono hS0.size)
  clear hbl
  refine ⟨_, rfl, hK _ _ (fun hn => hS1) (fun hnx => ?_)⟩
  clear hK K hnx
  try simp only [Act.put, List.setIfInBounds_toArray, List.set_cons_zero, List.set_cons_succ]
  refine Ht.stepS (i := 5) ⟨some 23, _, _, _, _, _⟩ rfl (by kernel_rfl) (by rfl) (fun K hK => ?_)
  have e2 := HE.out.2.1
  have c2 := HE.out.2.2.2
  go_simp
  rw [if_neg (by omega)]
  refine hK _ _ (fun hn => hS1) (fun hnx => ?_)
  clear hK K hnx e2 c2
  try simp only [Act.put, List.setIfInBounds_toArray, List.set_cons_zero, List.set_cons_succ]
  have hx5 := Sp.old2 hS1 H3.out.2.1
  have hr5 := Sp.old2 hS1 H3.out.2.2.2.1
  have H5 := Lib.hid (And.intro hS1 (And.intro hx5 hr5))
  have hlt3 : w3.heap.size < U5.heap.size := (Array.getElem?_eq_some_iff.1 hx5).1
  clear hS0 hS1
  obtain ⟨⟨l0, l1, l2, l3, l4, l5, l6, l7, l8, l9, l10⟩, lf⟩ := Sp.eleven hx5
  clear hx5 hr5
  have z0 := lf 0
  have z9 := lf 9
  have z10 := lf 10
  refine Ht.stepS (i := 6) ⟨some 24, _, _, _, _, _⟩ rfl (by kernel_rfl) (by rfl) (fun K hK => ?_)
  go_simp
  refine hK _ _ (fun hn => absurd (by decide) hn) (fun hnx => ?_)
  clear hK K hnx
  try simp only [Act.put, List.setIfInBounds_toArray, List.set_cons_zero, List.set_cons_succ]
  refine Ht.stepS (i := 7) ⟨none, _, _, _, _, _⟩ rfl (by kernel_rfl) (by rfl) (fun K hK => ?_)
  go_simp
  refine hK _ _ (fun hn => absurd (by decide) hn) (fun hnx => ?_)
  clear hK K hnx
  try simp only [Act.put, List.setIfInBounds_toArray, List.set_cons_zero, List.set_cons_succ]
  refine Ht.stepS (i := 8) ⟨some 25, _, _, _, _, _⟩ rfl (by kernel_rfl) (by rfl) (fun K hK => ?_)
  go_simp
  refine hK _ _ (fun hn => absurd (by decide) hn) (fun hnx => ?_)
  clear hK K hnx
  try simp only [Act.put, List.setIfInBounds_toArray, List.set_cons_zero, List.set_cons_succ]
  refine Ht.stepS (i := 9) ⟨none, _, _, _, _, _⟩ rfl (by kernel_rfl) (by rfl) (fun K hK => ?_)
  go_simp
  refine hK _ _ (fun hn => absurd (by decide) hn) (fun hnx => ?_)
  clear hK K hnx
  try simp only [Act.put, List.setIfInBounds_toArray, List.set_cons_zero, List.set_cons_succ]
  refine Ht.stepS (i := 10) ⟨some 26, _, _, _, _, _⟩ rfl (by kernel_rfl) (by rfl) (fun K hK => ?_)
  go_simp
  refine hK _ _ (fun hn => absurd (by decide) hn) (fun hnx => ?_)
  clear hK K hnx
  try simp only [Act.put, List.setIfInBounds_toArray, List.set_cons_zero, List.set_cons_succ]
  refine Ht.stepS (i := 11) ⟨none, _, _, _, _, _⟩ rfl (by kernel_rfl) (by rfl) (fun K hK => ?_)
  go_simp
  refine hK _ _ (fun hn => absurd (by decide) hn) (fun hnx => ?_)
  clear hK K hnx
  try simp only [Act.put, List.setIfInBounds_toArray, List.set_cons_zero, List.set_cons_succ]
  refine doneS (by kernel_rfl) ?_
  clear l0 l1 l2 l3 l4 l5 l6 l7 l8 l9 l10 lf z0 z9 z10
  obtain ⟨Z, hZ⟩ : ∃ Z, Z = ((U5.setCell ⟨w3.heap.size, 0, none⟩ (.string s2)).setCell ⟨w3.heap.size, 9, none⟩ (.string ⟨#[]⟩)).setCell ⟨w3.heap.size, 10, none⟩ (.int .i64 0) := ⟨_, rfl⟩
  rw [← hZ]
  have k1 := heap_setCell_same _ _ 0 _ _ (.string s2) H5.out.2.1
  have k2 := heap_setCell_same _ _ 9 _ _ (.string ⟨#[]⟩) k1
  have k3 := heap_setCell_same _ _ 10 _ _ (.int .i64 0) k2
  rw [← hZ] at k3
  simp only [List.setIfInBounds_toArray, List.set_cons_zero, List.set_cons_succ] at k3
  have gZ : BelowO (fun k => k = w3.heap.size) U5 Z := by
    rw [hZ]
    exact (((BelowO.of (own := fun k => k = w3.heap.size) (Below.refl U5.heap.size U5)).set (p := ⟨w3.heap.size, 0, none⟩) rfl _).set (p := ⟨w3.heap.size, 9, none⟩) rfl _).set (p := ⟨w3.heap.size, 10, none⟩) rfl _
  have hrZ := (gZ.block (w.heap.size + 1) (by have := HS.out; omega) (by have := HS.out; omega)).trans H5.out.2.2
  have H6 := Lib.hid (And.intro k3 (And.intro gZ hrZ))
  clear k1 k2 hZ
  obtain ⟨⟨l0, l1, l2, l3, l4, l5, l6, l7, l8, l9, l10⟩, _⟩ := Sp.eleven k3
  obtain ⟨⟨r0, r1, r2, r3, r4, r5, r6, r7, r8, r9, r10⟩, rf⟩ := Sp.eleven hrZ
  clear k3 gZ hrZ
  have z0 := rf 0
  have z1 := rf 1
  have z2 := rf 2
  have z3 := rf 3
  have z4 := rf 4
  have z5 := rf 5
  have z6 := rf 6
  have z7 := rf 7
  have z8 := rf 8
  have z9 := rf 9
  have z10 := rf 10
  have hltZ : w.heap.size + 1 < Z.heap.size := by have := H6.out.2.1.size; have := HS.out; omega
  go_wp2_with fail
  obtain ⟨X, hX⟩ : ∃ X, X = (((((((((((Z.setCell ⟨w.heap.size + 1, 0, none⟩ (.string s2)).setCell ⟨w.heap.size + 1, 1, none⟩ (.string ytn)).setCell ⟨w.heap.size + 1, 2, none⟩ (.int .i64 ypr)).setCell ⟨w.heap.size + 1, 3, none⟩ (.int .i64 ydl)).setCell ⟨w.heap.size + 1, 4, none⟩ (.slice a2 n2 c2')).setCell ⟨w.heap.size + 1, 5, none⟩ (.int .i64 ybs)).setCell ⟨w.heap.size + 1, 6, none⟩ (.int .i64 ycp)).setCell ⟨w.heap.size + 1, 7, none⟩ (.int .i64 yat)).setCell ⟨w.heap.size + 1, 8, none⟩ (.int .i64 yls)).setCell ⟨w.heap.size + 1, 9, none⟩ (.string ⟨#[]⟩)).setCell ⟨w.heap.size + 1, 10, none⟩ (.int .i64 0)) := ⟨_, rfl⟩
  obtain ⟨g1, g2⟩ := set11 _ _ _ _ _ _ _ _ _ _ _ H6.out.2.2 hX
  rw [← hX]
  clear l0 l1 l2 l3 l4 l5 l6 l7 l8 l9 l10 r0 r1 r2 r3 r4 r5 r6 r7 r8 r9 r10 rf z0 z1 z2 z3 z4 z5 z6 z7 z8 z9 z10 hX
  obtain ⟨⟨l0, l1, l2, l3, l4, l5, l6, l7, l8, l9, l10⟩, _⟩ := Sp.eleven g1
  have b5 := H3.out.2.2.2.2.1.trans (H5.out.1.mono H3.out.2.2.2.2.1.size)
  have b6 := b5.trans (H6.out.2.1.below b5.size (fun k hk => by have := HS.out; omega))
  have b7 := b6.trans (g2.below b6.size (fun k hk => by omega))
  refine bodyPost_ret (v := .tuple #[.agg #[.string s2, .string ytn, .int .i64 ypr, .int .i64 ydl, .slice a2 n2 c2', .int .i64 ybs, .int .i64 ycp, .int .i64 yat, .int .i64 yls, .string ⟨#[]⟩, .int .i64 0], .int .i64 0]) (results_ct (b := ⟨w.heap.size + 1, 0, none⟩) rfl rfl rfl (by go_simp)) rfl ⟨⟨s2, ytn, ypr, ydl, a2, n2, c2', yds, ybs, ycp, yat, yls, ⟨#[]⟩, 0⟩, rfl, rfl, ?_, b7⟩
  have d5 := H3.out.2.2.2.2.2.old H5.out.1
  refine dp_keep d5 (hn := HRow.out) fun g hg1 hg2 => ?_
  have hU := H5.out.1.size
  have h3s : w3.heap.size < V3.heap.size := (Array.getElem?_eq_some_iff.1 H3.out.2.1).1
  exact (g2.block g (by have := H6.out.2.1.size; omega) (by omega)).trans (H6.out.2.1.block g (by omega) (by omega))
end Go.Proofs.YtkkanggkbbmfnaaGreatDoor.Ct

/- crontab: Due, refused -/
namespace Go.Proofs.YtkkanggkbbmfnaaGreatDoor.Ct
open Go.RowKit Go.Lib Go.Proofs.YtkkanggkbbmfnaaGreatDoor.Cn Go.Proofs.YtkkanggkbbmfnaaGreatDoor.Rg Go.Proofs.YtkkanggkbbmfnaaGreatDoor.Fi
open Sp (Spc Okc chkE)
set_option linter.unusedVariables false
set_option linter.unusedSimpArgs false
set_option maxRecDepth 20000

theorem results_3 {fn : Func} {tmps : Array Value} {r1 r2 r3 b1 b2 b3 : Nat} {X : World} {v1 v2 v3 : Value}
    (hres : fn.results = #[.cell r1 36, .cell r2 3, .cell r3 27]) (ht1 : tmps.getD r1 undef = .pointer (some ⟨b1, 0, none⟩)) (ht2 : tmps.getD r2 undef = .pointer (some ⟨b2, 0, none⟩)) (ht3 : tmps.getD r3 undef = .pointer (some ⟨b3, 0, none⟩))
    (h1 : X.cell? ⟨b1, 0, none⟩ = some v1) (h2 : X.cell? ⟨b2, 0, none⟩ = some v2) (h3 : X.cell? ⟨b3, 0, none⟩ = some v3) : (results fn tmps).run Tryz.prog X = .ok (.tuple #[v1, v2, v3]) X := by
  have e1 : (loadVar 36 ⟨b1, 0, none⟩).run Tryz.prog X = .ok v1 X := by go_simp
  have e2 : (loadVar 3 ⟨b2, 0, none⟩).run Tryz.prog X = .ok v2 X := by go_simp
  have e3 : (loadVar 27 ⟨b3, 0, none⟩).run Tryz.prog X = .ok v3 X := by go_simp
  have ht1' : tmps[r1]?.getD undef = .pointer (some ⟨b1, 0, none⟩) := by simpa using ht1
  have ht2' : tmps[r2]?.getD undef = .pointer (some ⟨b2, 0, none⟩) := by simpa using ht2
  have ht3' : tmps[r3]?.getD undef = .pointer (some ⟨b3, 0, none⟩) := by simpa using ht3
  simp only [results, hres]
  simp [ht1', ht2', ht3', Result.andThen, asAddr, e1, e2, e3]
/-- a spec's block, its tick's, the results' -/
theorem five_new (w : World) (C0 C1 C2 C3 C4 : Array Value) (t0 t1 t2 t3 t4 : TypeId) {V : World} (hV : V = ((((w.alloc (.cells C0 t0)).alloc (.cells C1 t1)).alloc (.cells C2 t2)).alloc (.cells C3 t3)).alloc (.cells C4 t4)) :
    Below w.heap.size w V ∧ V.heap[w.heap.size]? = some (.cells C0 t0 (0, 0)) ∧ V.heap[w.heap.size + 1]? = some (.cells C1 t1 (0, 0)) ∧ V.heap[w.heap.size + 2]? = some (.cells C2 t2 (0, 0)) ∧ V.heap[w.heap.size + 3]? = some (.cells C3 t3 (0, 0)) ∧
      V.heap[w.heap.size + 4]? = some (.cells C4 t4 (0, 0)) ∧ V.heap.size = w.heap.size + 5 := by
  obtain ⟨b1, b2, b3, b4, b5, b6⟩ := four_new w C0 C1 C2 C3 t0 t1 t2 t3 (V := (((w.alloc (.cells C0 t0)).alloc (.cells C1 t1)).alloc (.cells C2 t2)).alloc (.cells C3 t3)) rfl
  obtain ⟨c1, c2, c3⟩ := cell_new ((((w.alloc (.cells C0 t0)).alloc (.cells C1 t1)).alloc (.cells C2 t2)).alloc (.cells C3 t3)) C4 t4
  rw [b6] at c2 c3
  subst hV
  exact ⟨b1.trans (c1.mono (by omega)), old_blk c1 b2, old_blk c1 b3, old_blk c1 b4, old_blk c1 b5, c2, c3⟩
/-- three results, stored -/
theorem three_st {X : World} {B : Nat} {u1 u2 u3 v1 v2 v3 : Value} {t1 t2 t3 : TypeId} (h1 : X.heap[B + 2]? = some (.cells #[u1] t1 (0, 0))) (h2 : X.heap[B + 3]? = some (.cells #[u2] t2 (0, 0))) (h3 : X.heap[B + 4]? = some (.cells #[u3] t3 (0, 0))) {Z : World}
    (hZ : Z = ((X.setCell ⟨B + 2, 0, none⟩ v1).setCell ⟨B + 3, 0, none⟩ v2).setCell ⟨B + 4, 0, none⟩ v3) :
    Z.heap[B + 2]? = some (.cells #[v1] t1 (0, 0)) ∧ Z.heap[B + 3]? = some (.cells #[v2] t2 (0, 0)) ∧ Z.heap[B + 4]? = some (.cells #[v3] t3 (0, 0)) ∧ BelowO (fun k => k = B + 2 ∨ k = B + 3 ∨ k = B + 4) X Z := by
  have ho : BelowO (fun k => k = B + 2 ∨ k = B + 3 ∨ k = B + 4) X Z := by
    rw [hZ]
    exact (((BelowO.of (own := fun k => k = B + 2 ∨ k = B + 3 ∨ k = B + 4) (Below.refl X.heap.size X)).set (p := ⟨B + 2, 0, none⟩) (.inl rfl) v1).set (p := ⟨B + 3, 0, none⟩) (.inr (.inl rfl)) v2).set (p := ⟨B + 4, 0, none⟩) (.inr (.inr rfl)) v3
  refine ⟨?_, ?_, ?_, ho⟩
  · rw [hZ, heap_setCell_other _ _ _ _ (by simp), heap_setCell_other _ _ _ _ (by simp)]; exact one_set h1 v1
  · rw [hZ, heap_setCell_other _ _ _ _ (by simp)]; exact one_set ((heap_setCell_other _ _ _ _ (by simp)).trans h2) v2
  · rw [hZ]; exact one_set ((heap_setCell_other _ _ _ _ (by simp)).trans ((heap_setCell_other _ _ _ _ (by simp)).trans h3)) v3
set_option maxHeartbeats 8000000 in
theorem Due_no (x : Spc) (a t : Int) {w : World} (hk : Okc x w) (hg : Gl w) (E : Nat) (h : (tplB x = false ∧ E = 1) ∨ (tplB x = true ∧ (tkB a = false ∨ tkB t = false ∨ t < a) ∧ E = 3)) :
    Calls Tryz.prog 11 #[.agg x.cells, .int .i64 a, .int .i64 t] w fun e w' => e = .returned (.tuple #[.slice none 0 0, .int .i64 0, .int .i64 (E : Nat)]) ∧ Below w.heap.size w w' := by
  have q := fun W (h : Below w.heap.size w W) => isTemplate_any x (w := W) (hk.old h) (hg.old h)
  have q1 := fun W => isTick_any a W
  have q2 := fun W => isTick_any t W
  generalize tplB x = B at q h
  generalize tkB a = B1 at q1 h
  generalize tkB t = B2 at q2 h
  obtain ⟨nm, tn, pr, dl, ao, n, c, ds, bs, cp, at', ls, cr, ct⟩ := x
  unfold Spc.cells at q ⊢
  simp only at q ⊢
  obtain ⟨V, hV⟩ : ∃ V, V = ((((w.alloc (.cells #[.string nm, .string tn, .int .i64 pr, .int .i64 dl, .slice ao n c, .int .i64 bs, .int .i64 cp, .int .i64 at', .int .i64 ls, .string cr, .int .i64 ct] 24)).alloc (.cells #[.int .i64 t] 2)).alloc (.cells #[.slice none 0 0] 36)).alloc (.cells #[.int .i64 0] 3)).alloc (.cells #[.int .i64 0] 27) := ⟨_, rfl⟩
  obtain ⟨b1, b2, b3, b4, b5, b6, b7⟩ := five_new w _ _ _ _ _ _ _ _ _ _ hV
  obtain ⟨⟨l0, l1, l2, l3, l4, l5, l6, l7, l8, l9, l10⟩, _⟩ := Sp.eleven b2
  have HQ := Lib.hid (And.intro (q V b1) (And.intro q1 (And.intro q2 (And.intro b1 hV))))
  have HV := Lib.hid (And.intro b3 (And.intro b4 (And.intro b5 b6)))
  clear q q1 q2 hV hk hg b3 b4 b5 b6
  rcases h with ⟨rfl, rfl⟩ | ⟨rfl, h, rfl⟩
  · go_enter Tryz.func11, Tryz.ntmps11
    go_wp2_with fail
    rw [← HQ.out.2.2.2.2]
    go_wp2_with fail
    refine HQ.out.1.mono ?_
    rintro e w1 ⟨rfl, hb⟩
    have c4 := old_blk hb HV.out.2.1
    have c5 := old_blk hb HV.out.2.2.1
    have c6 := old_blk hb HV.out.2.2.2
    obtain ⟨k4, f4⟩ := one_cell c4
    obtain ⟨k5, f5⟩ := one_cell c5
    obtain ⟨k6, f6⟩ := one_cell c6
    have HB := Lib.hid (And.intro (HQ.out.2.2.2.1.trans (hb.mono HQ.out.2.2.2.1.size)) (And.intro c4 (And.intro c5 c6)))
    clear hb c4 c5 c6
    go_wp2_with fail
    obtain ⟨Z, hZ⟩ : ∃ Z, Z = ((w1.setCell ⟨w.heap.size + 2, 0, none⟩ (.slice none 0 0)).setCell ⟨w.heap.size + 3, 0, none⟩ (.int .i64 0)).setCell ⟨w.heap.size + 4, 0, none⟩ (.int .i64 1) := ⟨_, rfl⟩
    obtain ⟨g1, g2, g3, g4⟩ := three_st HB.out.2.1 HB.out.2.2.1 HB.out.2.2.2 hZ
    refine bodyPost_ret (v := .tuple #[.slice none 0 0, .int .i64 0, .int .i64 1]) ?_ rfl ⟨rfl, ?_⟩
    · change (results Tryz.f11 _).run Tryz.prog ((((w1.setCell ⟨w.heap.size + 2, 0, none⟩ (.slice none 0 0)).setCell ⟨w.heap.size + 3, 0, none⟩ (.int .i64 0)).setCell ⟨w.heap.size + 4, 0, none⟩ (.int .i64 1))) = .ok _ ((((w1.setCell ⟨w.heap.size + 2, 0, none⟩ (.slice none 0 0)).setCell ⟨w.heap.size + 3, 0, none⟩ (.int .i64 0)).setCell ⟨w.heap.size + 4, 0, none⟩ (.int .i64 1)))
      rw [← hZ]
      exact results_3 rfl rfl rfl rfl (one_cell g1).1 (one_cell g2).1 (one_cell g3).1
    · have hb := HB.out.1.trans (g4.below HB.out.1.size (fun k hk => by omega))
      rw [hZ] at hb
      exact hb
  · go_enter Tryz.func11, Tryz.ntmps11
    go_wp2_with fail
    rw [← HQ.out.2.2.2.2]
    go_wp2_with fail
    refine HQ.out.1.mono ?_
    rintro e w1 ⟨rfl, hb⟩
    have c3 := old_blk hb HV.out.1
    have c4 := old_blk hb HV.out.2.1
    have c5 := old_blk hb HV.out.2.2.1
    have c6 := old_blk hb HV.out.2.2.2
    obtain ⟨k3, f3⟩ := one_cell c3
    obtain ⟨k4, f4⟩ := one_cell c4
    obtain ⟨k5, f5⟩ := one_cell c5
    obtain ⟨k6, f6⟩ := one_cell c6
    have HB := Lib.hid (And.intro (HQ.out.2.2.2.1.trans (hb.mono HQ.out.2.2.2.1.size)) (And.intro c4 (And.intro c5 c6)))
    clear hb c3 c4 c5 c6
    go_wp2_with fail
    refine (HQ.out.2.1 _).mono ?_
    rintro e w2 ⟨rfl, rfl⟩
    cases B1
    · clear h
      go_wp2_with fail
      obtain ⟨Z, hZ⟩ : ∃ Z, Z = ((w2.setCell ⟨w.heap.size + 2, 0, none⟩ (.slice none 0 0)).setCell ⟨w.heap.size + 3, 0, none⟩ (.int .i64 0)).setCell ⟨w.heap.size + 4, 0, none⟩ (.int .i64 3) := ⟨_, rfl⟩
      obtain ⟨g1, g2, g3, g4⟩ := three_st HB.out.2.1 HB.out.2.2.1 HB.out.2.2.2 hZ
      refine bodyPost_ret (v := .tuple #[.slice none 0 0, .int .i64 0, .int .i64 3]) ?_ rfl ⟨rfl, ?_⟩
      · change (results Tryz.f11 _).run Tryz.prog ((((w2.setCell ⟨w.heap.size + 2, 0, none⟩ (.slice none 0 0)).setCell ⟨w.heap.size + 3, 0, none⟩ (.int .i64 0)).setCell ⟨w.heap.size + 4, 0, none⟩ (.int .i64 3))) = .ok _ ((((w2.setCell ⟨w.heap.size + 2, 0, none⟩ (.slice none 0 0)).setCell ⟨w.heap.size + 3, 0, none⟩ (.int .i64 0)).setCell ⟨w.heap.size + 4, 0, none⟩ (.int .i64 3)))
        rw [← hZ]
        exact results_3 rfl rfl rfl rfl (one_cell g1).1 (one_cell g2).1 (one_cell g3).1
      · have hb := HB.out.1.trans (g4.below HB.out.1.size (fun k hk => by omega))
        rw [hZ] at hb
        exact hb
    go_wp2_with fail
    refine (HQ.out.2.2.1 _).mono ?_
    rintro e w3 ⟨rfl, rfl⟩
    cases B2
    · clear h
      go_wp2_with fail
      obtain ⟨Z, hZ⟩ : ∃ Z, Z = ((w3.setCell ⟨w.heap.size + 2, 0, none⟩ (.slice none 0 0)).setCell ⟨w.heap.size + 3, 0, none⟩ (.int .i64 0)).setCell ⟨w.heap.size + 4, 0, none⟩ (.int .i64 3) := ⟨_, rfl⟩
      obtain ⟨g1, g2, g3, g4⟩ := three_st HB.out.2.1 HB.out.2.2.1 HB.out.2.2.2 hZ
      refine bodyPost_ret (v := .tuple #[.slice none 0 0, .int .i64 0, .int .i64 3]) ?_ rfl ⟨rfl, ?_⟩
      · change (results Tryz.f11 _).run Tryz.prog ((((w3.setCell ⟨w.heap.size + 2, 0, none⟩ (.slice none 0 0)).setCell ⟨w.heap.size + 3, 0, none⟩ (.int .i64 0)).setCell ⟨w.heap.size + 4, 0, none⟩ (.int .i64 3))) = .ok _ ((((w3.setCell ⟨w.heap.size + 2, 0, none⟩ (.slice none 0 0)).setCell ⟨w.heap.size + 3, 0, none⟩ (.int .i64 0)).setCell ⟨w.heap.size + 4, 0, none⟩ (.int .i64 3)))
        rw [← hZ]
        exact results_3 rfl rfl rfl rfl (one_cell g1).1 (one_cell g2).1 (one_cell g3).1
      · have hb := HB.out.1.trans (g4.below HB.out.1.size (fun k hk => by omega))
        rw [hZ] at hb
        exact hb
    have hta : t < a := (h.elim (fun h => by cases h) (fun h => h.elim (fun h => by cases h) id))
    clear h
    go_wp2_with fail
    obtain ⟨Z, hZ⟩ : ∃ Z, Z = ((w3.setCell ⟨w.heap.size + 2, 0, none⟩ (.slice none 0 0)).setCell ⟨w.heap.size + 3, 0, none⟩ (.int .i64 0)).setCell ⟨w.heap.size + 4, 0, none⟩ (.int .i64 3) := ⟨_, rfl⟩
    obtain ⟨g1, g2, g3, g4⟩ := three_st HB.out.2.1 HB.out.2.2.1 HB.out.2.2.2 hZ
    refine bodyPost_ret (v := .tuple #[.slice none 0 0, .int .i64 0, .int .i64 3]) ?_ rfl ⟨rfl, ?_⟩
    · change (results Tryz.f11 _).run Tryz.prog ((((w3.setCell ⟨w.heap.size + 2, 0, none⟩ (.slice none 0 0)).setCell ⟨w.heap.size + 3, 0, none⟩ (.int .i64 0)).setCell ⟨w.heap.size + 4, 0, none⟩ (.int .i64 3))) = .ok _ ((((w3.setCell ⟨w.heap.size + 2, 0, none⟩ (.slice none 0 0)).setCell ⟨w.heap.size + 3, 0, none⟩ (.int .i64 0)).setCell ⟨w.heap.size + 4, 0, none⟩ (.int .i64 3)))
      rw [← hZ]
      exact results_3 rfl rfl rfl rfl (one_cell g1).1 (one_cell g2).1 (one_cell g3).1
    · have hb := HB.out.1.trans (g4.below HB.out.1.size (fun k hk => by omega))
      rw [hZ] at hb
      exact hb
end Go.Proofs.YtkkanggkbbmfnaaGreatDoor.Ct

/- crontab: Due: what its loop keeps -/
namespace Go.Proofs.YtkkanggkbbmfnaaGreatDoor.Ct
open Go.RowKit Go.Lib Go.Proofs.YtkkanggkbbmfnaaGreatDoor.Cn Go.Proofs.YtkkanggkbbmfnaaGreatDoor.Rg Go.Proofs.YtkkanggkbbmfnaaGreatDoor.Fi
open Sp (Spc Okc chkE)
set_option linter.unusedVariables false
set_option linter.unusedSimpArgs false
set_option maxRecDepth 20000

theorem own_shape {w : World} {B n k : Nat} {e : TypeId} {v : Value} {xs : List Value} (h : w.ownsRow B e k v n xs) : ∃ a c, v = .slice a n c := by
  rcases h.2 with ⟨rfl, h0⟩ | ⟨g, cap, cur, rfl, _⟩
  · exact ⟨none, 0, by rw [h0]⟩
  · exact ⟨_, _, rfl⟩
theorem own_lt {w : World} {B n k : Nat} {e : TypeId} {v : Value} {xs : List Value} (h : w.ownsRow B e k v n xs) {g : Nat} (hg : v.ownBlock = some g) : B ≤ g ∧ g < w.heap.size := h.lt g hg
theorem own_keep {w w' : World} {B n k : Nat} {e : TypeId} {v : Value} {xs : List Value} (h : w.ownsRow B e k v n xs) (hb : ∀ g, v.ownBlock = some g → w'.heap[g]? = w.heap[g]?) : w'.ownsRow B e k v n xs := by
  refine ⟨h.1, ?_⟩
  rcases h.2 with h1 | ⟨g, cap, cur, h1, h2, h3, h4⟩
  · exact .inl h1
  · exact .inr ⟨g, cap, cur, h1, h2, (hb g (by rw [h1]; rfl)).trans h3, h4⟩
/-- what a template that may be has -/
theorem tpl_in {x : Spc} (h : tplB x = true) : parseE x.cr.data.toList = 0 ∧ 1 ≤ x.ct ∧ x.ct ≤ 16 := by
  unfold tplB at h
  rw [Bool.and_eq_true, decide_eq_true_eq] at h
  obtain ⟨h1, h2⟩ := h
  have h3 : x.cr.toList.isEmpty = false := by simpa using h1
  unfold chkE at h2
  split at h2
  · cases h2
  · split at h2
    · cases h2
    · rename_i h4
      rw [h3, if_neg (by simp)] at h2
      unfold Sp.chkT at h2
      split at h2
      · rename_i h5; exact absurd h2 h5
      · rename_i h5
        split at h2
        · cases h2
        · rename_i h6
          refine ⟨Decidable.byContradiction h5, ?_⟩
          have h7 : Sp.inbB x = true := by
            cases hi : Sp.inbB x with
            | true => rfl
            | false => rw [hi] at h4; simp at h4
          unfold Sp.inbB at h7
          simp only [Bool.and_eq_true, decide_eq_true_eq] at h7
          have h8 := h7.2
          have h9 := h7.1.2
          omega
/-- the loop's state: the last tick that was told; what is the call's own -/
structure DI (b0 xB N2 N : Nat) (w0 : World) (C0 : Array Value) (X : Ex) (a t x : Int) (D : Nat → Prop) (A : World) : Prop where
  sp : A.heap[b0]? = some (.cells C0 24 (0, 0))
  tO : A.heap[b0 + 1]? = some (.cells #[.int .i64 t] 2 (0, 0))
  m : A.heap[b0 + 3]? = some (.cells #[.int .i64 0] 3 (0, 0))
  er : A.heap[b0 + 4]? = some (.cells #[.int .i64 0] 27 (0, 0))
  ex : A.heap[xB]? = some (.cells (exC X) 57 (0, 0))
  row : ∃ v ts, A.heap[b0 + 2]? = some (.cells #[v] 36 (0, 0)) ∧ A.ownsRow N2 2 1 v ts.length (intsI ts) ∧ Chn X a ts x ∧ ts.length < N ∧ ∀ g, v.ownBlock = some g → D g
  le : x ≤ t
  b : Below b0 w0 A
  d : Db A
  z : N2 ≤ A.heap.size
  i1 : b0 + 4 < N2 ∧ xB < N2 ∧ 5 < N2 ∧ xB ≠ b0 + 2 ∧ b0 + 2 ≠ 5 ∧ b0 + 4 < xB
  D1 : ∀ k, D k → k < A.heap.size ∧ (k = b0 + 2 ∨ N2 ≤ k)
  D2 : D (b0 + 2)
theorem DI.keep {b0 xB N2 N : Nat} {w0 : World} {C0 : Array Value} {X : Ex} {a t x : Int} {D : Nat → Prop} {A A' : World} (h : DI b0 xB N2 N w0 C0 X a t x D A) (hk : KeepD N2 D A A') : DI b0 xB N2 N w0 C0 X a t x D A' := by
  have i := h.i1
  have z := h.z
  have e : ∀ k, k < N2 → A'.heap[k]? = A.heap[k]? := fun k hk' => hk.block k (by omega) (.inl hk')
  obtain ⟨v, ts, r1, r2, r3, r4, r5⟩ := h.row
  exact ⟨(e _ (by omega)).trans h.sp, (e _ (by omega)).trans h.tO, (e _ (by omega)).trans h.m, (e _ (by omega)).trans h.er, (e _ (by omega)).trans h.ex,
    ⟨v, ts, (e _ (by omega)).trans r1, own_keep r2 (fun g hg => hk.block g (own_lt r2 hg).2 (.inr (r5 g hg))), r3, r4, r5⟩, h.le,
    ⟨hk.os.trans h.b.os, hk.tape.trans h.b.tape, hk.output.trans h.b.output, Nat.le_trans h.b.size hk.size, fun k hk' => (e k (by omega)).trans (h.b.block k hk')⟩, h.d.keep (e _ (by omega)), Nat.le_trans z hk.size, i,
    fun k hk' => ⟨by have := (h.D1 k hk').1; have := hk.size; omega, (h.D1 k hk').2⟩, h.D2⟩
/-- how it is left -/
structure DX (b0 N2 N : Nat) (w0 : World) (X : Ex) (a t : Int) (c : Code) (D : Nat → Prop) (A : World) : Prop where
  c : c = .ret
  row : ∃ v ts m, A.heap[b0 + 2]? = some (.cells #[v] 36 (0, 0)) ∧ A.heap[b0 + 3]? = some (.cells #[.int .i64 (m : Nat)] 3 (0, 0)) ∧ A.ownsRow N2 2 1 v ts.length (intsI ts) ∧ DueIs X a t N ts m ∧ ∀ g, v.ownBlock = some g → D g
  er : A.heap[b0 + 4]? = some (.cells #[.int .i64 0] 27 (0, 0))
  b : Below b0 w0 A
  z : b0 + 4 < N2 ∧ N2 ≤ A.heap.size
theorem DX.keep {b0 N2 N : Nat} {w0 : World} {X : Ex} {a t : Int} {c : Code} {D : Nat → Prop} {A A' : World} (h : DX b0 N2 N w0 X a t c D A) (hk : KeepD N2 D A A') : DX b0 N2 N w0 X a t c D A' := by
  have z := h.z
  have e : ∀ k, k < N2 → A'.heap[k]? = A.heap[k]? := fun k hk' => hk.block k (by omega) (.inl hk')
  obtain ⟨v, ts, m, r1, r2, r3, r4, r5⟩ := h.row
  exact ⟨h.c, ⟨v, ts, m, (e _ (by omega)).trans r1, (e _ (by omega)).trans r2, own_keep r3 (fun g hg => hk.block g (own_lt r3 hg).2 (.inr (r5 g hg))), r4, r5⟩, (e _ (by omega)).trans h.er,
    ⟨hk.os.trans h.b.os, hk.tape.trans h.b.tape, hk.output.trans h.b.output, Nat.le_trans h.b.size hk.size, fun k hk' => (e k (by omega)).trans (h.b.block k hk')⟩, z.1, Nat.le_trans z.2 hk.size⟩
/-- the row, one tick longer -/
structure Longer (b0 N2 : Nat) (v v5 : Value) (ts : List Int) (y : Int) (D : Nat → Prop) (A W : World) : Prop where
  row : W.ownsRow N2 2 1 v5 (ts.length + 1) (intsI ts ++ [.int .i64 y])
  at' : v5.ownBlock = v.ownBlock ∨ v5.ownBlock = some (A.heap.size + 1)
  kept : ∀ k, k < A.heap.size → v.ownBlock ≠ some k → W.heap[k]? = A.heap[k]?
  os : W.os = A.os
  tape : W.tape = A.tape
  output : W.output = A.output
  size : A.heap.size ≤ W.heap.size
theorem Longer.of {b0 N2 : Nat} {v v5 : Value} {ts : List Int} {y : Int} {D : Nat → Prop} {A W : World} {o : Obj} (h1 : W.ownsRow N2 2 1 v5 (ts.length + 1) (intsI ts ++ [.int .i64 y])) (h2 : (A.alloc o).grownBy W v.ownBlock)
    (h3 : v5.ownBlock = v.ownBlock ∨ v5.ownBlock = some (A.alloc o).heap.size) : Longer b0 N2 v v5 ts y D A W :=
  ⟨h1, by rw [World.size_alloc] at h3; exact h3, fun k hk hn => (h2.block k (by simp; omega) hn.symm).trans (Below.heap_alloc A o k hk), h2.os, h2.tape, h2.output, by have := h2.size; simp at this; omega⟩
/-- behind a round -/
theorem DI.next {b0 xB N2 N : Nat} {w0 : World} {C0 : Array Value} {X : Ex} {a t x y : Int} {D : Nat → Prop} {A W Z : World} {v v5 : Value} {ts : List Int} (h : DI b0 xB N2 N w0 C0 X a t x D A)
    (hv : A.heap[b0 + 2]? = some (.cells #[v] 36 (0, 0))) (hown : A.ownsRow N2 2 1 v ts.length (intsI ts)) (hch : Chn X a ts x) (hD : ∀ g, v.ownBlock = some g → D g)
    (hl : Longer b0 N2 v v5 ts y D A W) (hZ : Z = W.setCell ⟨b0 + 2, 0, none⟩ v5) (hG : BG X t x y) (hN : ts.length + 1 < N) :
    ∃ D', Grew D D' A ∧ BelowO D A Z ∧ DI b0 xB N2 N w0 C0 X a t y D' Z := by
  have i := h.i1
  have z := h.z
  have hvN : ∀ k, k < N2 → v.ownBlock ≠ some k := fun k hk e => by have := (own_lt hown e).1; omega
  have hW : ∀ k, k < N2 → W.heap[k]? = A.heap[k]? := fun k hk => hl.kept k (by omega) (hvN k hk)
  have hZo : ∀ k, k ≠ b0 + 2 → Z.heap[k]? = W.heap[k]? := fun k hk => by rw [hZ, heap_setCell_other _ _ _ _ hk]
  have hZz : Z.heap.size = W.heap.size := by rw [hZ]; simp
  have e : ∀ k, k < N2 → k ≠ b0 + 2 → Z.heap[k]? = A.heap[k]? := fun k h1 h2 => (hZo k h2).trans (hW k h1)
  have hv5 : ∀ g, v5.ownBlock = some g → N2 ≤ g := fun g hg => (own_lt hl.row hg).1
  refine ⟨fun k => D k ∨ v5.ownBlock = some k, fun k hk => ?_, ⟨?_, ?_, ?_, ?_, fun k hk hn => ?_⟩, ⟨?_, ?_, ?_, ?_, ?_, ?_, hG.2, ?_, ?_, ?_, i, ?_, .inl h.D2⟩⟩
  · rcases hk with hk | hk
    · exact .inl hk
    · rcases hl.at' with h1 | h1
      · exact .inl (hD k (by rw [← h1]; exact hk))
      · rw [h1] at hk; obtain rfl := Option.some.inj hk; exact .inr (by omega)
  · rw [hZ]; exact hl.os
  · rw [hZ]; exact hl.tape
  · rw [hZ]; exact hl.output
  · rw [hZz]; exact hl.size
  · rw [hZo k (fun x => hn (x ▸ h.D2))]
    exact hl.kept k hk (fun x => hn (hD k x))
  · exact (e _ (by omega) (by omega)).trans h.sp
  · exact (e _ (by omega) (by omega)).trans h.tO
  · exact (e _ (by omega) (by omega)).trans h.m
  · exact (e _ (by omega) (by omega)).trans h.er
  · exact (e _ (by omega) (by omega)).trans h.ex
  · refine ⟨v5, ts ++ [y], ?_, ?_, hch.snoc hG.1, by rw [List.length_append]; simpa using hN, fun g hg => .inr hg⟩
    · rw [hZ]; exact one_set ((hW _ (by omega)).trans hv) v5
    · rw [List.length_append, List.length_singleton]
      have e1 : intsI (ts ++ [y]) = intsI ts ++ [.int .i64 y] := by simp [intsI]
      rw [e1]
      exact own_keep hl.row fun g hg => hZo g (fun x => by have := hv5 g hg; omega)
  · refine ⟨?_, ?_, ?_, ?_, fun k hk => (e k (by omega) (by omega)).trans (h.b.block k hk)⟩
    · rw [hZ]; exact hl.os.trans h.b.os
    · rw [hZ]; exact hl.tape.trans h.b.tape
    · rw [hZ]; exact hl.output.trans h.b.output
    · rw [hZz]; exact Nat.le_trans h.b.size hl.size
  · exact h.d.keep (e _ (by omega) (by omega))
  · rw [hZz]; exact Nat.le_trans z hl.size
  · intro k hk
    rw [hZz]
    rcases hk with hk | hk
    · exact ⟨by have := (h.D1 k hk).1; have := hl.size; omega, (h.D1 k hk).2⟩
    · exact ⟨(own_lt hl.row hk).2, .inr (hv5 k hk)⟩
end Go.Proofs.YtkkanggkbbmfnaaGreatDoor.Ct

/- crontab: Due -/
namespace Go.Proofs.YtkkanggkbbmfnaaGreatDoor.Ct
open Go.RowKit Go.Lib Go.Proofs.YtkkanggkbbmfnaaGreatDoor.Cn Go.Proofs.YtkkanggkbbmfnaaGreatDoor.Rg Go.Proofs.YtkkanggkbbmfnaaGreatDoor.Fi Go.Proofs.YtkkanggkbbmfnaaGreatDoor.Ht
open Sp (Spc Okc chkE)
attribute [local go_sem] Oper.semAt_some
set_option linter.unusedVariables false
set_option linter.unusedSimpArgs false
set_option maxRecDepth 20000

theorem infoI64 : (Tryz.prog.info? 2).map (fun i => (i.zero, i.size, i.bytes)) = some (some (.int .i64 0), 1, 8) := by kernel_rfl
theorem cell_one (w : World) (v : Value) (t : TypeId) : ∀ j x, [v][j]? = some x → (w.alloc (.cells #[v] t)).cell? ((⟨w.heap.size, 0, none⟩ : Addr).add j) = some x := by
  intro j x hj
  match j, hj with
  | 0, hj =>
    simp at hj
    subst hj
    have h := MapKept.heap_alloc w (.cells #[v] t)
    have h1 : (w.alloc (.cells #[v] t)).heap[w.heap.size]? = some (.cells #[v] t (0, 0)) := h.1
    have : (⟨w.heap.size, 0, none⟩ : Addr).add 0 = ⟨w.heap.size, 0, none⟩ := by unfold Addr.add; split <;> simp_all
    rw [this]; exact (one_cell h1).1
theorem own_base {w : World} {B B' n k : Nat} {e : TypeId} {v : Value} {xs : List Value} (h : w.ownsRow B e k v n xs) (hb : B' ≤ B) : w.ownsRow B' e k v n xs := by
  refine ⟨h.1, ?_⟩
  rcases h.2 with h1 | ⟨g, cap, cur, h1, h2, h3⟩
  · exact .inl h1
  · exact .inr ⟨g, cap, cur, h1, Nat.le_trans hb h2, h3⟩
theorem own_cells {w : World} {B n k : Nat} {e : TypeId} {v : Value} {xs : List Value} (h : w.ownsRow B e k v n xs) {g : Nat} (hg : v.ownBlock = some g) : ∃ cur t fr, w.heap[g]? = some (.cells cur t fr) := by
  rcases h.2 with ⟨rfl, _⟩ | ⟨g', cap, cur, rfl, _, h3, _⟩
  · cases hg
  · obtain rfl : g' = g := Option.some.inj hg
    exact ⟨_, _, _, h3⟩
/-- .. the last one -/
theorem DI.stop {b0 xB N2 N : Nat} {w0 : World} {C0 : Array Value} {X : Ex} {a t x y : Int} {D : Nat → Prop} {A W Z U Z4 : World} {v v5 : Value} {ts : List Int} {m : Nat} (h : DI b0 xB N2 N w0 C0 X a t x D A)
    (hv : A.heap[b0 + 2]? = some (.cells #[v] 36 (0, 0))) (hown : A.ownsRow N2 2 1 v ts.length (intsI ts)) (hch : Chn X a ts x) (hD : ∀ g, v.ownBlock = some g → D g)
    (hl : Longer b0 N2 v v5 ts y D A W) (hZ : Z = W.setCell ⟨b0 + 2, 0, none⟩ v5) (hG : BG X t x y) (hN : ts.length + 1 = N) (hU : Below Z.heap.size Z U) (hm : m = min (cnt X y t) 1048576)
    (hZ4 : Z4 = ((U.setCell ⟨b0 + 2, 0, none⟩ v5).setCell ⟨b0 + 3, 0, none⟩ (.int .i64 (m : Nat))).setCell ⟨b0 + 4, 0, none⟩ (.int .i64 0)) :
    ∃ D', Grew D D' A ∧ BelowO (fun k => k < N2 ∨ D k) A Z4 ∧ DX b0 N2 N w0 X a t .ret D' Z4 := by
  have i := h.i1
  have z := h.z
  have hvN : ∀ k, k < N2 → v.ownBlock ≠ some k := fun k hk e => by have := (own_lt hown e).1; omega
  have hW : ∀ k, k < N2 → W.heap[k]? = A.heap[k]? := fun k hk => hl.kept k (by omega) (hvN k hk)
  have hZo : ∀ k, k ≠ b0 + 2 → Z.heap[k]? = W.heap[k]? := fun k hk => by rw [hZ, heap_setCell_other _ _ _ _ hk]
  have hZz : Z.heap.size = W.heap.size := by rw [hZ]; simp
  have hUz := hU.size
  have hWz := hl.size
  have hU' : ∀ k, k < W.heap.size → U.heap[k]? = Z.heap[k]? := fun k hk => hU.block k (by omega)
  have hv5 : ∀ g, v5.ownBlock = some g → N2 ≤ g := fun g hg => (own_lt hl.row hg).1
  have u2 : U.heap[b0 + 2]? = some (.cells #[v5] 36 (0, 0)) := by rw [hU' _ (by omega), hZ]; exact one_set ((hW _ (by omega)).trans hv) v5
  have u3 : U.heap[b0 + 3]? = some (.cells #[.int .i64 0] 3 (0, 0)) := by rw [hU' _ (by omega), hZo _ (by omega), hW _ (by omega)]; exact h.m
  have u4 : U.heap[b0 + 4]? = some (.cells #[.int .i64 0] 27 (0, 0)) := by rw [hU' _ (by omega), hZo _ (by omega), hW _ (by omega)]; exact h.er
  obtain ⟨g1, g2, g3, g4⟩ := three_st u2 u3 u4 hZ4
  have hos : Z.os = W.os ∧ Z.tape = W.tape ∧ Z.output = W.output := by rw [hZ]; exact ⟨rfl, rfl, rfl⟩
  have hg5 : ∀ g, v5.ownBlock = some g → Z4.heap[g]? = W.heap[g]? := fun g hg => by
    have h1 := (own_lt hl.row hg).2
    have h2 := hv5 g hg
    rw [g4.block g (by omega) (by omega), hU' g h1, hZo g (by omega)]
  refine ⟨fun k => D k ∨ v5.ownBlock = some k, fun k hk => ?_, ⟨?_, ?_, ?_, ?_, fun k hk hn => ?_⟩, ⟨rfl, ⟨v5, ts ++ [y], m, g1, g2, ?_, ⟨y, hch.snoc hG.1, hG.2, .inr ⟨by rw [List.length_append]; simpa using hN, hm⟩⟩, fun g hg => .inr hg⟩, g3, ?_, by omega, ?_⟩⟩
  · rcases hk with hk | hk
    · exact .inl hk
    · rcases hl.at' with h1 | h1
      · exact .inl (hD k (by rw [← h1]; exact hk))
      · rw [h1] at hk; obtain rfl := Option.some.inj hk; exact .inr (by omega)
  · exact g4.os.trans (hU.os.trans (hos.1.trans hl.os))
  · exact g4.tape.trans (hU.tape.trans (hos.2.1.trans hl.tape))
  · exact g4.output.trans (hU.output.trans (hos.2.2.trans hl.output))
  · exact Nat.le_trans (by omega) g4.size
  · have hk2 : N2 ≤ k := Nat.le_of_not_lt fun hx => hn (.inl hx)
    rw [g4.block k (by omega) (by omega), hU' k (by omega), hZo k (by omega)]
    exact hl.kept k hk (fun x => hn (.inr (hD k x)))
  · rw [List.length_append, List.length_singleton]
    have e1 : intsI (ts ++ [y]) = intsI ts ++ [.int .i64 y] := by simp [intsI]
    rw [e1]
    exact own_keep hl.row hg5
  · refine ⟨g4.os.trans (hU.os.trans (hos.1.trans (hl.os.trans h.b.os))), g4.tape.trans (hU.tape.trans (hos.2.1.trans (hl.tape.trans h.b.tape))), g4.output.trans (hU.output.trans (hos.2.2.trans (hl.output.trans h.b.output))), ?_, fun k hk => ?_⟩
    · have := h.b.size; have := g4.size; omega
    · rw [g4.block k (by omega) (by omega), hU' k (by omega), hZo k (by omega), hW k (by omega)]
      exact h.b.block k hk
  · have := g4.size; omega
set_option maxHeartbeats 8000000 in
theorem Due_ok (x : Spc) (a t : Int) {w : World} (hk : Okc x w) (hg : Gd w) (htp : tplB x = true) (ha : 0 ≤ a ∧ a ≤ 1099511627776) (htt : t ≤ 1099511627776) (hat : a ≤ t) :
    Calls Tryz.prog 11 #[.agg x.cells, .int .i64 a, .int .i64 t] w fun e w' => ∃ v ts m, e = .returned (.tuple #[v, .int .i64 (m : Nat), .int .i64 0]) ∧ w'.ownsRow w.heap.size 2 1 v ts.length (intsI ts) ∧
      DueIs (parseV x.cr.data.toList) a t x.ct.toNat ts m ∧ Below w.heap.size w w' := by
  have hmix : Tryz.prog.follows .mixedOrders = true := by kernel_rfl
  obtain ⟨hpe, hc1, hc16⟩ := tpl_in htp
  have q := fun W (h : Below w.heap.size w W) => isTemplate_any x (w := W) (hk.old h) (hg.gl.old h)
  rw [htp] at q
  have q1 := fun W => isTick_any a W
  have q2 := fun W => isTick_any t W
  rw [show tkB a = true by unfold tkB; simp; omega] at q1
  rw [show tkB t = true by unfold tkB; simp; omega] at q2
  have q3 := fun W (h : Below w.heap.size w W) => parse_any x.cr.data.toList W (hg.gl.old h)
  rw [hpe] at q3
  have hX := exOk_parse x.cr.data.toList
  obtain ⟨nm, tn, pr, dl, ao, n, c, ds, bs, cp, at', ls, cr, ct⟩ := x
  unfold Spc.cells at q ⊢
  simp only at q q3 hX hc1 hc16 ⊢
  rw [← Sp.str_S] at q3
  generalize parseV cr.data.toList = X at q3 hX ⊢
  obtain ⟨N, hN⟩ : ∃ N : Nat, ct = (N : Nat) := ⟨ct.toNat, by omega⟩
  subst hN
  rw [show ((N : Nat) : Int).toNat = N by omega]
  have hN1 : 1 ≤ N ∧ N ≤ 16 := by omega
  have qc : ∀ y, (0 ≤ y ∧ y ≤ t) → ∀ W, Db W → Calls Tryz.prog 27 #[exv X, .int .i64 y, .int .i64 t, .int .i64 1048576] W fun r w' => r = .returned (.int .i64 ((min (cnt X y t) 1048576 : Nat) : Int)) ∧ Below W.heap.size W w' := fun y hy W hW => by
    have h := Count_any X hX y t 1048576 (by unfold Ca.I64; omega) (by unfold Ca.I64; omega) (by unfold Ca.I64; omega) W hW
    have e1 : ctd X y t 1048576 = ((min (cnt X y t) 1048576 : Nat) : Int) := by
      unfold ctd
      rw [lo_id (by omega), up_id (by omega), if_neg (by omega)]
      omega
    rw [e1] at h
    exact h
  have qb := fun W hW => between_any X a t (by unfold Ca.I64; omega) (by unfold Ca.I64; omega) W hW
  rw [lo_id (by omega), up_id htt] at qb
  obtain ⟨C0, hC0⟩ : ∃ C0 : Array Value, C0 = #[.string nm, .string tn, .int .i64 pr, .int .i64 dl, .slice ao n c, .int .i64 bs, .int .i64 cp, .int .i64 at', .int .i64 ls, .string cr, .int .i64 (N : Nat)] := ⟨_, rfl⟩
  obtain ⟨V, hV⟩ : ∃ V, V = ((((w.alloc (.cells #[.string nm, .string tn, .int .i64 pr, .int .i64 dl, .slice ao n c, .int .i64 bs, .int .i64 cp, .int .i64 at', .int .i64 ls, .string cr, .int .i64 (N : Nat)] 24)).alloc (.cells #[.int .i64 t] 2)).alloc (.cells #[.slice none 0 0] 36)).alloc (.cells #[.int .i64 0] 3)).alloc (.cells #[.int .i64 0] 27) := ⟨_, rfl⟩
  obtain ⟨b1, b2, b3, b4, b5, b6, b7⟩ := five_new w _ _ _ _ _ _ _ _ _ _ hV
  obtain ⟨⟨l0, l1, l2, l3, l4, l5, l6, l7, l8, l9, l10⟩, _⟩ := Sp.eleven b2
  have HQ := Lib.hid (And.intro (q V b1) (And.intro q1 (And.intro q2 (And.intro b1 (And.intro hV b7)))))
  have HV := Lib.hid (And.intro b2 (And.intro b3 (And.intro b4 (And.intro b5 b6))))
  have HP := Lib.hid (And.intro q3 (And.intro qc (And.intro qb (And.intro hX (And.intro hN1 (And.intro (show Db w from hg.db) (And.intro ha (And.intro htt (And.intro hat hC0)))))))))
  clear q q1 q2 q3 qc qb hV hk hg b1 b2 b3 b4 b5 b6 b7 hX hN1 hpe htp hc1 hc16 ha htt hC0
  refine (callsIn_wide (n := 9)).1 ?_
  refine callsIn_of_wp_marks Tryz.func11 rfl trivial ?_ rfl
  simp only [Tryz.ntmps11, List.size_toArray, List.length_cons, List.length_nil, Nat.reduceAdd, Nat.reduceSub, Array.replicate_succ, Array.replicate_zero, List.push_toArray, List.append_toArray, List.nil_append, List.cons_append]
  gi_wp2_with fail
  rw [← HQ.out.2.2.2.2.1]
  gi_wp2_with fail
  refine ⟨trivial, (callsIn_wide.2 HQ.out.1).mono ?_⟩
  rintro e w1 ⟨rfl, hb⟩
  have c2 := old_blk hb HV.out.1
  have c3 := old_blk hb HV.out.2.1
  have c4 := old_blk hb HV.out.2.2.1
  have c5 := old_blk hb HV.out.2.2.2.1
  have c6 := old_blk hb HV.out.2.2.2.2
  obtain ⟨k3, f3⟩ := one_cell c3
  clear l0 l1 l2 l3 l4 l5 l6 l7 l8 l9 l10
  obtain ⟨⟨l0, l1, l2, l3, l4, l5, l6, l7, l8, l9, l10⟩, _⟩ := Sp.eleven c2
  have H1 := Lib.hid (And.intro (HQ.out.2.2.2.1.trans (hb.mono HQ.out.2.2.2.1.size)) (And.intro c2 (And.intro c3 (And.intro c4 (And.intro c5 c6)))))
  have hz1 : w.heap.size + 5 ≤ w1.heap.size := by have := hb.size; have := HQ.out.2.2.2.2.2; omega
  have HZ1 := Lib.hid hz1
  clear hb c2 c3 c4 c5 c6 hz1
  gi_wp2_with fail
  refine ⟨trivial, (callsIn_wide.2 (HQ.out.2.1 _)).mono ?_⟩
  rintro e w2 ⟨rfl, rfl⟩
  gi_wp2_with fail
  refine ⟨trivial, (callsIn_wide.2 (HQ.out.2.2.1 _)).mono ?_⟩
  rintro e w3 ⟨rfl, rfl⟩
  gi_wp2_with fail
  refine ⟨trivial, (callsIn_wide.2 (HP.out.1 _ H1.out.1)).mono ?_⟩
  rintro e w4 ⟨rfl, hb⟩
  obtain ⟨U, hU⟩ : ∃ U, U = w4.alloc (.cells (exC X) 57) := ⟨_, rfl⟩
  obtain ⟨a1, a2, a3⟩ := cell_new w4 (exC X) 57
  rw [← hU] at a1 a2 a3
  have hbU := hb.trans (a1.mono hb.size)
  have hz4 := hb.size
  have H4 := Lib.hid (show Below w.heap.size w U ∧ U.heap[w.heap.size]? = some (.cells C0 24 (0, 0)) ∧ U.heap[w.heap.size + 1]? = some (.cells #[.int .i64 t] 2 (0, 0)) ∧ U.heap[w.heap.size + 2]? = some (.cells #[.slice none 0 0] 36 (0, 0)) ∧ U.heap[w.heap.size + 3]? = some (.cells #[.int .i64 0] 3 (0, 0)) ∧ U.heap[w.heap.size + 4]? = some (.cells #[.int .i64 0] 27 (0, 0)) ∧ U.heap[w4.heap.size]? = some (.cells (exC X) 57 (0, 0)) ∧ U = w4.alloc (.cells (exC X) 57) ∧ U.heap.size = w4.heap.size + 1 ∧ w.heap.size + 5 ≤ w4.heap.size from
    ⟨H1.out.1.trans (hbU.mono H1.out.1.size), by rw [HP.out.2.2.2.2.2.2.2.2.2]; exact old_blk hbU H1.out.2.1, old_blk hbU H1.out.2.2.1, old_blk hbU H1.out.2.2.2.1, old_blk hbU H1.out.2.2.2.2.1, old_blk hbU H1.out.2.2.2.2.2, a2, hU, a3, by have := HZ1.out; omega⟩)
  obtain ⟨k3', f3'⟩ := one_cell (old_blk hb H1.out.2.2.1)
  have hl4 : w.heap.size + 1 < w4.heap.size := by have := HZ1.out; omega
  clear k3 f3 l0 l1 l2 l3 l4 l5 l6 l7 l8 l9 l10 hb hU a1 a2 a3 hbU hz4
  gi_wp2_with fail
  rw [← H4.out.2.2.2.2.2.2.2.1]
  refine ⟨trivial, (callsIn_wide.2 (HP.out.2.2.1 U ((HP.out.2.2.2.2.2.1).old H4.out.1))).mono ?_⟩
  rintro q w2 ⟨rfl, hb2, hdb⟩
  clear k3' f3' hl4
  have hlt := hdb.lt
  have hgd := (HP.out.2.2.2.2.2.1).lt
  have hI0 : DI w.heap.size w4.heap.size w2.heap.size N w C0 X a t a (fun k => k = w.heap.size + 2) w2 := by
    obtain ⟨h1, h2, h3, h4, h5, h6, h7, h8, h9, h10⟩ := H4.out
    have h11 := hb2.size
    refine ⟨old_blk hb2 h2, old_blk hb2 h3, old_blk hb2 h5, old_blk hb2 h6, old_blk hb2 h7, ⟨.slice none 0 0, [], old_blk hb2 h4, World.ownsRow_nil _ _ _ _, rfl, HP.out.2.2.2.2.1.1, fun g hg => by cases hg⟩, HP.out.2.2.2.2.2.2.2.2.1, h1.trans (hb2.mono h1.size), hdb.d, Nat.le_refl _, ⟨by omega, by omega, by omega, by omega, by omega, by omega⟩, fun k hk => ⟨by omega, .inl hk⟩, rfl⟩
  have H2 := Lib.hid (And.intro hdb hI0)
  clear hb2 hdb hI0 hlt hgd
  gi_wp2_with fail
  refine range_intD (box := tbox U.heap.size) (x0 := a) (G := BG X t) (S := BS X t) rfl (by omega) (gf := 43) (lb := betB U.heap.size) rfl trivial (enters_of Tryz.func43 (by kernel_rfl) rfl)
    (between_iterD _ U.heap.size X HP.out.2.2.2.1 a t (by have := HP.out.2.2.2.2.2.2.1; omega) (by have := HP.out.2.2.2.2.2.2.1; have := HP.out.2.2.2.2.2.2.2.1; omega) w2 H2.out.1) (fun k => k = w.heap.size + 2) (fun k hk => ⟨fun h => ?hb, ?hlt⟩) rfl
    (DI w.heap.size w4.heap.size w2.heap.size N w C0 X a t) (fun c _ => DX w.heap.size w2.heap.size N w X a t c) (fun x D A A' h hc => h.keep hc) (fun c x D A A' h hc => h.keep hc) (fun x D A h k hk => (h.D1 k hk).1) H2.out.2 ?hround ?hdone ?hstop
  case hb =>
    have h1 := H4.out.2.2.2.2.2.2.2.2
    have h2 := H2.out.2.i1
    rcases h with h | h | h | h <;> omega
  case hlt =>
    have h2 := H2.out.2.i1
    omega
  case hround =>
    rintro l x y D A hlB ⟨rr, hlr⟩ hzA hDl hI hG
    clear hI hlr hDl
    gi_wp2_with fail
    refine ⟨Below.refl _ _, ?_⟩
    intro A2 hbut _ hI
    obtain ⟨v, ts, r1, r2, r3, r4, r5⟩ := hI.row
    obtain ⟨ao1, cp1, rfl⟩ := own_shape r2
    obtain ⟨k2, f2⟩ := one_cell r1
    obtain ⟨L, hL⟩ : ∃ L, L = ts.length := ⟨_, rfl⟩
    have hi1 := hI.i1
    have hiz := hI.z
    have hr2 : A2.ownsRow w2.heap.size 2 1 (.slice ao1 L cp1) L (intsI ts) := by rw [hL]; exact r2
    rw [← hL] at k2 r1 r5
    have hL16 : L < 16 := by have := HP.out.2.2.2.2.1; omega
    have HI := Lib.hid (And.intro hI (And.intro hG (And.intro r1 (And.intro r2 (And.intro r3 (And.intro r4 (And.intro r5 (And.intro hL (And.intro hi1 hiz)))))))))
    have HR := Lib.hid hr2
    have hbl : w.heap.size + 2 < A2.heap.size := by omega
    clear hI hG hbut r1 r2 r3 r4 r5 hL hi1 hiz hr2 hzA
    obtain ⟨i0, hii, hz0, hz1, hz2⟩ := info_parts infoI64
    by_cases hLN : L + 1 = N
    · have hb1 : (((L : Nat) : Int) + 1 == ((N : Nat) : Int)) = true := by simp; omega
      have HN := Lib.hid hLN
      clear hLN
      gi_wp2_with (gi_at_builtin; refine wpListIn_append_own_at _ rfl _ _ 36 rfl w2.heap.size 2 i0 _ 1 8 Tryz.underlying36 hii hz0 hz1 hz2 (by rfl) (by decide) (.slice ao1 L cp1) L (intsI ts) rfl (HR.out.alloc _) ⟨A2.heap.size, 0, none⟩ 1 1 [_] rfl rfl (cell_one _ _ _) (by simp [Value.oneCell']) (by unfold maxLen; omega) (by omega) (by simp; have := HI.out.2.2.2.2.2.2.2.2.2; omega) ?_; intro v5 W6 hown5 hg5 _ hat5; obtain ⟨a5, cp5, rfl⟩ := own_shape hown5; have hlg := Longer.of (b0 := w.heap.size) (D := D) (ts := ts) (v := .slice ao1 L cp1) (v5 := .slice a5 (L + 1) cp5) (by have h9 := HI.out.2.2.2.2.2.2.2.1; rw [← h9]; exact hown5) hg5 hat5; have hW6 : W6.heap[w.heap.size + 2]? = some (.cells #[.slice ao1 L cp1] 36 (0, 0)) := (hlg.kept _ (by have := HI.out.2.2.2.2.2.2.2.2; omega) (fun e => by have := (own_lt HR.out e).1; have := HI.out.2.2.2.2.2.2.2.2; omega)).trans HI.out.2.2.1; obtain ⟨k9, f9⟩ := one_cell hW6; have hS6 := (hlg.kept _ (by have := HI.out.2.2.2.2.2.2.2.2; omega) (fun e => by have := (own_lt HR.out e).1; have := HI.out.2.2.2.2.2.2.2.2; omega)).trans HI.out.1.sp; rw [HP.out.2.2.2.2.2.2.2.2.2] at hS6; obtain ⟨⟨l0, l1, l2, l3, l4, l5, l6, l7, l8, l9, l10⟩, _⟩ := Sp.eleven hS6)
      obtain ⟨Z, hZ⟩ : ∃ Z, Z = W6.setCell ⟨w.heap.size + 2, 0, none⟩ (.slice a5 (L + 1) cp5) := ⟨_, rfl⟩
      change Code.wpIn _ _ _ _ _ _ (W6.setCell ⟨w.heap.size + 2, 0, none⟩ (.slice a5 (L + 1) cp5))
      rw [← hZ]
      have hii1 := HI.out.2.2.2.2.2.2.2.2.1
      have hiz := HI.out.2.2.2.2.2.2.2.2.2
      have hvN : ∀ k, k < w2.heap.size → (Value.slice ao1 L cp1).ownBlock ≠ some k := fun k hk e => by have := (own_lt HR.out e).1; omega
      have hZk : ∀ k, k < w2.heap.size → k ≠ w.heap.size + 2 → Z.heap[k]? = A2.heap[k]? := fun k h1 h2 => by rw [hZ, heap_setCell_other _ _ _ _ h2]; exact hlg.kept k (by omega) (hvN k h1)
      have z2 : Z.heap[w.heap.size + 2]? = some (.cells #[.slice a5 (L + 1) cp5] 36 (0, 0)) := by rw [hZ]; exact one_set hW6 _
      have z1 := (hZk (w.heap.size + 1) (by omega) (by omega)).trans HI.out.1.tO
      have z3 := (hZk (w.heap.size + 3) (by omega) (by omega)).trans HI.out.1.m
      have z4 := (hZk (w.heap.size + 4) (by omega) (by omega)).trans HI.out.1.er
      have zx := (hZk w4.heap.size (by omega) (by omega)).trans HI.out.1.ex
      have zd : Db Z := HI.out.1.d.keep (hZk _ (by omega) (by omega))
      have hy0 : 0 ≤ y ∧ y ≤ t := ⟨nm_nonneg HI.out.2.1.1.2.1, HI.out.2.1.2⟩
      have HZ := Lib.hid (And.intro z2 (And.intro z1 (And.intro z3 (And.intro z4 (And.intro zx (And.intro zd (And.intro hy0 (And.intro hZ hlg))))))))
      clear hii1 hiz hvN hZk z2 z1 z3 z4 zx zd hy0 hZ hlg hW6 k9 f9 hS6 l0 l1 l2 l3 l4 l5 l6 l7 l8 l9 l10 k2 f2
      refine begin_round 99 (fun _ => True) hmix (by kernel_rfl) trivial (fun _ => ?_)
      refine later [5, 6, 7] (fun X' => Below Z.heap.size Z X') ((Below.refl Z.heap.size Z).drew) (fun hS0 => ?_)
      refine Ht.takeS 10 (i := 0) ⟨some 48, _, _, _, _, _⟩ (.slice a5 (L + 1) cp5) rfl (by kernel_rfl) (by kernel_rfl) (by kernel_rfl) (by kernel_rfl) (by kernel_rfl) hS0 (Or.inl ⟨by rfl, by (intro X hX; have := (one_cell (old_blk hX HZ.out.1)).1; go_simp)⟩) ?_
      simp only [Act.put, List.setIfInBounds_toArray, List.set_cons_zero, List.set_cons_succ]
      refine Ht.takeS 10 (i := 1) ⟨some 49, _, _, _, _, _⟩ (exv X) rfl (by kernel_rfl) (by kernel_rfl) (by kernel_rfl) (by kernel_rfl) (by kernel_rfl) hS0 (Or.inl ⟨by rfl, by (intro X' hX; obtain ⟨⟨c0, c1, c2, c3, c4, c5, c6⟩, _⟩ := seven (old_blk hX HZ.out.2.2.2.2.1); go_simp)⟩) ?_
      simp only [Act.put, List.setIfInBounds_toArray, List.set_cons_zero, List.set_cons_succ]
      refine Ht.takeS 10 (i := 2) ⟨some 50, _, _, _, _, _⟩ (.int .i64 y) rfl (by kernel_rfl) (by kernel_rfl) (by kernel_rfl) (by kernel_rfl) (by kernel_rfl) hS0 (Or.inl ⟨by rfl, by (intro X hX; go_simp)⟩) ?_
      simp only [Act.put, List.setIfInBounds_toArray, List.set_cons_zero, List.set_cons_succ]
      refine Ht.takeS 10 (i := 3) ⟨some 51, _, _, _, _, _⟩ (.int .i64 t) rfl (by kernel_rfl) (by kernel_rfl) (by kernel_rfl) (by kernel_rfl) (by kernel_rfl) hS0 (Or.inl ⟨by rfl, by (intro X hX; have := (one_cell (old_blk hX HZ.out.2.1)).1; go_simp)⟩) ?_
      simp only [Act.put, List.setIfInBounds_toArray, List.set_cons_zero, List.set_cons_succ]
      refine Ht.stepS (i := 4) ⟨some 52, _, _, _, _, _⟩ rfl (by kernel_rfl) (by rfl) (fun K hK => ?_)
      refine Ht.enter 27 #[exv X, .int .i64 y, .int .i64 t, .int .i64 1048576] (by have hen := fun args w => enters_of (P := Tryz.prog) Tryz.func27 (by kernel_rfl) rfl args w; go_simp) (HP.out.2.1 y HZ.out.2.2.2.2.2.2.1 _ (HZ.out.2.2.2.2.2.1.old hS0)) ?_
      rintro e U5 ⟨rfl, hbl⟩
      have hS1 := hS0.trans (hbl.mono hS0.size)
      clear hbl
      refine ⟨_, rfl, hK _ _ (fun hn => hS1) (fun hnx => ?_)⟩
      clear hK K hnx
      simp only [Act.put, List.setIfInBounds_toArray, List.set_cons_zero, List.set_cons_succ]
      obtain ⟨x2, y2⟩ := one_cell (old_blk hS1 HZ.out.1)
      obtain ⟨x3, y3⟩ := one_cell (old_blk hS1 HZ.out.2.2.1)
      obtain ⟨x4, y4⟩ := one_cell (old_blk hS1 HZ.out.2.2.2.1)
      obtain ⟨m, hm⟩ : ∃ m, m = min (cnt X y t) 1048576 := ⟨_, rfl⟩
      rw [← hm]
      have HS := Lib.hid (And.intro hS1 hm)
      clear hS0 hS1 hm
      refine Ht.stepS (i := 5) ⟨none, _, _, _, _, _⟩ rfl (by kernel_rfl) (by rfl) (fun K hK => ?_)
      go_simp
      refine hK _ _ (fun hn => absurd (by decide) hn) (fun hnx => ?_)
      clear hK K hnx
      try simp only [Act.put, List.setIfInBounds_toArray, List.set_cons_zero, List.set_cons_succ]
      refine Ht.stepS (i := 6) ⟨none, _, _, _, _, _⟩ rfl (by kernel_rfl) (by rfl) (fun K hK => ?_)
      go_simp
      refine hK _ _ (fun hn => absurd (by decide) hn) (fun hnx => ?_)
      clear hK K hnx
      try simp only [Act.put, List.setIfInBounds_toArray, List.set_cons_zero, List.set_cons_succ]
      refine Ht.stepS (i := 7) ⟨none, _, _, _, _, _⟩ rfl (by kernel_rfl) (by rfl) (fun K hK => ?_)
      go_simp
      refine hK _ _ (fun hn => absurd (by decide) hn) (fun hnx => ?_)
      clear hK K hnx
      try simp only [Act.put, List.setIfInBounds_toArray, List.set_cons_zero, List.set_cons_succ]
      refine doneS (by kernel_rfl) ?_
      gi_wp2_with fail
      have hLt := HI.out.2.2.2.2.2.2.2.1
      exact HI.out.1.stop (v := .slice ao1 L cp1) HI.out.2.2.1 (by rw [← hLt]; exact HR.out) HI.out.2.2.2.2.1 HI.out.2.2.2.2.2.2.1 HZ.out.2.2.2.2.2.2.2.2 HZ.out.2.2.2.2.2.2.2.1 HI.out.2.1 (by rw [← hLt]; exact HN.out) HS.out.1 HS.out.2 rfl
    · have hb1 : (((L : Nat) : Int) + 1 == ((N : Nat) : Int)) = false := by simp; omega
      have HN := Lib.hid hLN
      clear hLN
      gi_wp2_with (gi_at_builtin; refine wpListIn_append_own_at _ rfl _ _ 36 rfl w2.heap.size 2 i0 _ 1 8 Tryz.underlying36 hii hz0 hz1 hz2 (by rfl) (by decide) (.slice ao1 L cp1) L (intsI ts) rfl (HR.out.alloc _) ⟨A2.heap.size, 0, none⟩ 1 1 [_] rfl rfl (cell_one _ _ _) (by simp [Value.oneCell']) (by unfold maxLen; omega) (by omega) (by simp; have := HI.out.2.2.2.2.2.2.2.2.2; omega) ?_; intro v5 W6 hown5 hg5 _ hat5; obtain ⟨a5, cp5, rfl⟩ := own_shape hown5; have hlg := Longer.of (b0 := w.heap.size) (D := D) (ts := ts) (v := .slice ao1 L cp1) (v5 := .slice a5 (L + 1) cp5) (by have h9 := HI.out.2.2.2.2.2.2.2.1; rw [← h9]; exact hown5) hg5 hat5; have hW6 : W6.heap[w.heap.size + 2]? = some (.cells #[.slice ao1 L cp1] 36 (0, 0)) := (hlg.kept _ (by have := HI.out.2.2.2.2.2.2.2.2; omega) (fun e => by have := (own_lt HR.out e).1; have := HI.out.2.2.2.2.2.2.2.2; omega)).trans HI.out.2.2.1; obtain ⟨k9, f9⟩ := one_cell hW6; have hS6 := (hlg.kept _ (by have := HI.out.2.2.2.2.2.2.2.2; omega) (fun e => by have := (own_lt HR.out e).1; have := HI.out.2.2.2.2.2.2.2.2; omega)).trans HI.out.1.sp; rw [HP.out.2.2.2.2.2.2.2.2.2] at hS6; obtain ⟨⟨l0, l1, l2, l3, l4, l5, l6, l7, l8, l9, l10⟩, _⟩ := Sp.eleven hS6)
      have hLt := HI.out.2.2.2.2.2.2.2.1
      have hLN2 := HI.out.2.2.2.2.2.1
      exact HI.out.1.next (v := .slice ao1 L cp1) HI.out.2.2.1 (by rw [← hLt]; exact HR.out) HI.out.2.2.2.2.1 HI.out.2.2.2.2.2.2.1 hlg rfl HI.out.2.1 (by have := HN.out; omega)
  case hdone =>
    intro D x E A hD hDE hS hI hK
    dsimp only
    obtain ⟨v, ts, r1, r2, r3, r4, r5⟩ := hI.row
    obtain ⟨ao1, cp1, rfl⟩ := own_shape r2
    obtain ⟨k2, f2⟩ := one_cell r1
    obtain ⟨k3, f3⟩ := one_cell hI.m
    obtain ⟨k4, f4⟩ := one_cell hI.er
    have HX := Lib.hid (And.intro hS (And.intro hI (And.intro hD (And.intro hK (And.intro r1 (And.intro r2 (And.intro r3 (And.intro r4 hDE))))))))
    clear hS hI hK hD r1 r2 r3 r4 r5 hDE
    gi_wp2_with fail
    obtain ⟨Z, hZ⟩ : ∃ Z, Z = ((A.setCell ⟨w.heap.size + 2, 0, none⟩ (.slice ao1 ts.length cp1)).setCell ⟨w.heap.size + 3, 0, none⟩ (.int .i64 0)).setCell ⟨w.heap.size + 4, 0, none⟩ (.int .i64 0) := ⟨_, rfl⟩
    obtain ⟨g1, g2, g3, g4⟩ := three_st HX.out.2.2.2.2.1 HX.out.2.1.m HX.out.2.1.er hZ
    have hi1 := HX.out.2.1.i1
    have hiz := HX.out.2.1.z
    have hDz := HX.out.2.2.1
    have hbut := but_put D Z (.deferred none)
    have hZD : Z.heap[D]? = some (.deferred (some [])) := (g4.block D (Array.getElem?_eq_some_iff.1 HX.out.2.2.2.1).1 (by omega)).trans HX.out.2.2.2.1
    have hfin : ∃ v' ts' m', (Ending.returned (.tuple #[(.slice ao1 ts.length cp1), .int .i64 0, .int .i64 0]) : Ending) = .returned (.tuple #[v', .int .i64 ((m' : Nat) : Int), .int .i64 0]) ∧ (Z.putObj D (.deferred none)).ownsRow w.heap.size 2 1 v' ts'.length (intsI ts') ∧ DueIs X a t N ts' m' ∧ Below w.heap.size w (Z.putObj D (.deferred none)) := by
      refine ⟨(.slice ao1 ts.length cp1), ts, 0, rfl, ?_, ⟨x, HX.out.2.2.2.2.2.2.1, HX.out.2.1.le, .inl ⟨HX.out.2.2.2.2.2.2.2.1, HX.out.1, rfl⟩⟩, ?_⟩
      · refine own_base (own_keep HX.out.2.2.2.2.2.1 fun g hg => ?_) (by omega)
        have h1 := own_lt HX.out.2.2.2.2.2.1 hg
        have h2 : g ≠ D := fun e => by
          subst e
          obtain ⟨cap, cur, fr, hc⟩ := own_cells HX.out.2.2.2.2.2.1 hg
          rw [HX.out.2.2.2.1] at hc; cases hc
        exact (hbut.2.2.2.2 g h2).trans (g4.block g h1.2 (by omega))
      · exact (HX.out.2.1.b.trans (g4.below HX.out.2.1.b.size (fun k hk => by omega))).trans (hbut.below (by have := HX.out.2.1.b.size; omega))
    change LeavesInM Fence.wide 9 Tryz.prog Tryz.f11 _ _ _ _ (((A.setCell ⟨w.heap.size + 2, 0, none⟩ (.slice ao1 ts.length cp1)).setCell ⟨w.heap.size + 3, 0, none⟩ (.int .i64 0)).setCell ⟨w.heap.size + 4, 0, none⟩ (.int .i64 0))
    rw [← hZ]
    exact leaveD hZD (results_3 (b1 := w.heap.size + 2) (b2 := w.heap.size + 3) (b3 := w.heap.size + 4) rfl rfl rfl rfl (one_cell ((hbut.2.2.2.2 _ (by omega)).trans g1)).1 (one_cell ((hbut.2.2.2.2 _ (by omega)).trans g2)).1 (one_cell ((hbut.2.2.2.2 _ (by omega)).trans g3)).1) hfin
  case hstop =>
    rintro D c x E A hD hDE h hK
    obtain rfl := h.c
    obtain ⟨v, ts, m, r1, r2, r3, r4, r5⟩ := h.row
    have HX := Lib.hid (And.intro h (And.intro hD (And.intro hK (And.intro r1 (And.intro r2 (And.intro r3 r4))))))
    clear h hK hD r1 r2 r3 r4 r5 hDE
    gi_wp2_with fail
    have hz := HX.out.1.z
    have hDz := HX.out.2.1
    have hbut := but_put D A (.deferred none)
    refine leaveD HX.out.2.2.1 (results_3 (b1 := w.heap.size + 2) (b2 := w.heap.size + 3) (b3 := w.heap.size + 4) rfl rfl rfl rfl (one_cell ((hbut.2.2.2.2 _ (by omega)).trans HX.out.2.2.2.1)).1 (one_cell ((hbut.2.2.2.2 _ (by omega)).trans HX.out.2.2.2.2.1)).1 (one_cell ((hbut.2.2.2.2 _ (by omega)).trans HX.out.1.er)).1) ⟨v, ts, m, rfl, ?_, HX.out.2.2.2.2.2.2, ?_⟩
    · refine own_base (own_keep HX.out.2.2.2.2.2.1 fun g hg => ?_) (by omega)
      have h2 : g ≠ D := fun e => by
        subst e
        obtain ⟨cap, cur, fr, hc⟩ := own_cells HX.out.2.2.2.2.2.1 hg
        rw [HX.out.2.2.1] at hc; cases hc
      exact hbut.2.2.2.2 g h2
    · exact HX.out.1.b.trans (hbut.below (by omega))
end Go.Proofs.YtkkanggkbbmfnaaGreatDoor.Ct

/- crontab: what Due tells, plainly; the chapter's example -/
namespace Go.Proofs.YtkkanggkbbmfnaaGreatDoor.Ct
open Go.RowKit Go.Lib Go.Proofs.YtkkanggkbbmfnaaGreatDoor.Cn Go.Proofs.YtkkanggkbbmfnaaGreatDoor.Rg Go.Proofs.YtkkanggkbbmfnaaGreatDoor.Fi
open Sp (Spc Okc chkE)
set_option linter.unusedVariables false
set_option linter.unusedSimpArgs false
set_option maxRecDepth 20000

theorem Chn.pre {X : Ex} : ∀ {l m : List Int} {s e f : Int}, Chn X s l e → Chn X s m f → ∀ i (h : i < l.length) (h' : i < m.length), l[i] = m[i]
  | x :: l, y :: m, s, e, f, h, g, i, hi, hi' => by
    obtain rfl := nx_same h.1 g.1
    cases i with
    | zero => rfl
    | succ i => simpa using h.2.pre g.2 i (by simpa using hi) (by simpa using hi')
theorem Chn.more {X : Ex} : ∀ {l m : List Int} {s e f : Int}, Chn X s l e → Chn X s m f → l.length < m.length → ∃ y, nx X e y ∧ y ≤ f
  | [], y :: m, s, e, f, h, g, _ => by obtain rfl : e = s := h; exact ⟨y, g.1, g.2.ge⟩
  | x :: l, y :: m, s, e, f, h, g, hl => by
    obtain rfl := nx_same h.1 g.1
    exact h.2.more g.2 (by simpa using hl)
theorem BS.cnt {X : Ex} {t e : Int} (h : BS X t e) : cnt X e t = 0 := cnt_none X h
theorem DueIs.len {X : Ex} {a t : Int} {N : Nat} {ts : List Int} {m : Nat} (h : DueIs X a t N ts m) : ts.length = min N (cnt X a t) := by
  obtain ⟨e, h1, h2, h3⟩ := h
  have h4 := h1.ge
  have h5 := h1.count
  have h6 := cnt_add X h4 h2
  rcases h3 with ⟨h7, h8, _⟩ | ⟨h7, _⟩
  · have := BS.cnt h8; omega
  · omega
theorem DueIs.total {X : Ex} {a t : Int} {N : Nat} {ts : List Int} {m : Nat} (h : DueIs X a t N ts m) (ht : cnt X a t ≤ 1048576) : ts.length + m = cnt X a t := by
  obtain ⟨e, h1, h2, h3⟩ := h
  have h4 := h1.ge
  have h5 := h1.count
  have h6 := cnt_add X h4 h2
  rcases h3 with ⟨h7, h8, h9⟩ | ⟨h7, h9⟩
  · have := BS.cnt h8; omega
  · omega
theorem DueIs.same {X : Ex} {a t : Int} {N : Nat} {ts us : List Int} {m n : Nat} (h : DueIs X a t N ts m) (g : DueIs X a t N us n) : ts = us ∧ m = n := by
  have hl : ts.length = us.length := by rw [h.len, g.len]
  obtain ⟨e, h1, h2, h3⟩ := h
  obtain ⟨f, g1, g2, g3⟩ := g
  obtain ⟨rfl, rfl⟩ := h1.same g1 hl
  refine ⟨rfl, ?_⟩
  rcases h3 with ⟨a1, a2, a3⟩ | ⟨a1, a2⟩ <;> rcases g3 with ⟨b1, b2, b3⟩ | ⟨b1, b2⟩ <;> omega
/-! ### each minute -/
def X0 : Ex := ⟨1152921504606846975, 16777215, 4294967294, 8190, 127, true, true⟩
theorem x0_parse : parseE [42, 32, 42, 32, 42, 32, 42, 32, 42] = 0 ∧ parseV [42, 32, 42, 32, 42, 32, 42, 32, 42] = X0 := by
  constructor
  · decide +kernel
  · kernel_rfl
theorem x0_nm {t : Int} (h : t = 11 ∨ t = 12 ∨ t = 13 ∨ t = 14 ∨ t = 15) : nm X0 t := by
  refine ⟨2000, 1, 1, 6, 0, t, ⟨by decide, by decide, by decide, by decide, by decide, ?_, ?_, ?_, ?_⟩, ?_⟩
  all_goals rcases h with rfl | rfl | rfl | rfl | rfl
  all_goals first | decide | decide +kernel
theorem x0_nx {s : Int} (h : s = 10 ∨ s = 11 ∨ s = 12 ∨ s = 13 ∨ s = 14) : nx X0 s (s + 1) := ⟨by omega, x0_nm (by omega), fun u h1 h2 => by omega⟩
theorem x0_due : DueIs X0 10 15 2 [11, 12] 3 := by
  refine ⟨12, ⟨x0_nx (.inl rfl), x0_nx (.inr (.inl rfl)), rfl⟩, by decide, .inr ⟨rfl, ?_⟩⟩
  have h1 := cnt_next X0 (a := 12) (x0_nx (s := 12) (by omega)) (by omega)
  have h2 := cnt_next X0 (a := 12) (x0_nx (s := 13) (by omega)) (by omega)
  have h3 := cnt_next X0 (a := 12) (x0_nx (s := 14) (by omega)) (by omega)
  rw [cnt_self X0 (Int.le_refl _)] at h1
  have e1 : cnt X0 12 15 = 3 := by
    rw [show (15 : Int) = 14 + 1 by rfl, h3, show (14 : Int) = 13 + 1 by rfl, h2, show (13 : Int) = 12 + 1 by rfl, h1]
  rw [e1]; rfl
/-- the example's spec -/
def sp0 : Spc := ⟨⟨#[97]⟩, ⟨#[116]⟩, 0, 0, none, 0, 0, [], 0, 0, 1, 1, ⟨#[42, 32, 42, 32, 42, 32, 42, 32, 42]⟩, 2⟩
theorem sp0_ok (w : World) : Okc sp0 w := ⟨⟨rfl, fun _ => rfl, .inl rfl⟩, by decide, fun d hd => by simp [sp0] at hd, by decide, by decide⟩
theorem sp0_tpl : tplB sp0 = true := by
  have e1 : sp0.cr.toList.isEmpty = false := by rw [ByteArray.toList_eq]; rfl
  have e2 : chkE sp0 = 0 := by
    unfold chkE
    rw [if_neg (by decide), e1, if_neg (by
      have : Sp.riseB sp0.ds = true := Sp.rise_yes fun j hj => by simp [sp0] at hj
      rw [this]; decide), if_neg (by simp)]
    unfold Sp.chkT
    rw [show sp0.cr.data.toList = [42, 32, 42, 32, 42, 32, 42, 32, 42] by rfl, x0_parse.1]
    decide
  unfold tplB
  rw [e1, e2]; rfl
theorem every_any (w : World) : Calls Tryz.prog 12 #[] w fun e w' => e = .returned (.agg sp0.cells) ∧ Below w.heap.size w w' := by
  go_enter Tryz.func12, Tryz.ntmps12
  go_wp2_with fail
  obtain ⟨V, hV⟩ : ∃ V, V = w.alloc (.cells #[.string ⟨#[97]⟩, .string ⟨#[116]⟩, .int .i64 0, .int .i64 0, .slice none 0 0, .int .i64 0, .int .i64 0, .int .i64 1, .int .i64 1, .string ⟨#[42, 32, 42, 32, 42, 32, 42, 32, 42]⟩, .int .i64 2] 24) := ⟨_, rfl⟩
  rw [← hV]
  have hb : Below w.heap.size w V := by rw [hV]; exact (Below.refl _ w).alloc (Nat.le_refl _) _
  have hx : V.heap[w.heap.size]? = some (.cells #[.string ⟨#[97]⟩, .string ⟨#[116]⟩, .int .i64 0, .int .i64 0, .slice none 0 0, .int .i64 0, .int .i64 0, .int .i64 1, .int .i64 1, .string ⟨#[42, 32, 42, 32, 42, 32, 42, 32, 42]⟩, .int .i64 2] 24 (0, 0)) := by rw [hV]; exact (MapKept.heap_alloc w _).1
  obtain ⟨⟨l0, l1, l2, l3, l4, l5, l6, l7, l8, l9, l10⟩, _⟩ := Sp.eleven hx
  refine bodyPost_ret (v := .agg #[.string ⟨#[97]⟩, .string ⟨#[116]⟩, .int .i64 0, .int .i64 0, .slice none 0 0, .int .i64 0, .int .i64 0, .int .i64 1, .int .i64 1, .string ⟨#[42, 32, 42, 32, 42, 32, 42, 32, 42]⟩, .int .i64 2]) ?_ rfl ⟨rfl, hb⟩
  rw [Sp.results_c1 rfl]
  go_simp
/-- a row of one's own, read -/
theorem row_cell {w : World} {B : Nat} {v : Value} {xs : List Int} {n : Nat} (h : w.ownsRow B 2 1 v n (intsI xs)) {k : Nat} (hk : k < xs.length) : ∃ g c, v = .slice (some ⟨g, 0, none⟩) n c ∧ w.cell? ⟨g, k, none⟩ = some (.int .i64 xs[k]) := by
  rcases h.2 with ⟨rfl, h0⟩ | ⟨g, cap, cur, rfl, h2, h3, h4, h5, h6, h7⟩
  · have := h.1; simp at this; omega
  · refine ⟨g, cap, rfl, ?_⟩
    have := h.cells rfl k (.int .i64 xs[k]) (by simp [hk])
    rwa [Sp.addl, Nat.zero_add] at this
set_option maxHeartbeats 4000000 in
theorem lives16_any (w : World) (hg : Gd w) : Calls Tryz.prog 4 #[] w fun e w' => e = .returned (.bool true) ∧ Below w.heap.size w w' := by
  have HE := Lib.hid (every_any w)
  have HD := Lib.hid (fun W (h : Below w.heap.size w W) => Due_ok sp0 10 15 (w := W) (sp0_ok W) (hg.old h) sp0_tpl (by omega) (by omega) (by omega))
  clear hg
  obtain ⟨s0, hs0⟩ : ∃ s0 : Value, s0 = .agg sp0.cells := ⟨_, rfl⟩
  rw [← hs0] at HE HD
  clear hs0
  go_enter Tryz.func4, Tryz.ntmps4
  go_wp2_with fail
  refine HE.out.mono ?_
  rintro e w1 ⟨rfl, hb1⟩
  have H1 := Lib.hid hb1
  clear hb1
  go_wp2_with fail
  refine (HD.out _ H1.out).mono ?_
  rintro e w2 ⟨v, ts, m, rfl, hown, hdue, hb2⟩
  rw [show parseV sp0.cr.data.toList = X0 from x0_parse.2, show sp0.ct.toNat = 2 by rfl] at hdue
  obtain ⟨rfl, rfl⟩ := hdue.same x0_due
  obtain ⟨g, c, rfl, k0⟩ := row_cell hown (k := 0) (by decide)
  obtain ⟨g', c', e, k1⟩ := row_cell hown (k := 1) (by decide)
  cases e
  have k0' : w2.cell? ⟨g, 0, none⟩ = some (.int .i64 11) := k0
  have k1' : w2.cell? ⟨g, 1, none⟩ = some (.int .i64 12) := k1
  have H2 := Lib.hid (H1.out.trans (hb2.mono H1.out.size))
  clear hb2 hown hdue k0 k1
  go_wp2_with fail
  go_ret
  exact ⟨rfl, H2.out⟩
end Go.Proofs.YtkkanggkbbmfnaaGreatDoor.Ct

/- specs: whether one is little -/
namespace Go.Proofs.YtkkanggkbbmfnaaGreatDoor.Sp
open Go.RowKit Go.Lib Rf By
set_option linter.unusedVariables false
set_option maxRecDepth 20000
set_option maxHeartbeats 4000000 in
theorem Few_any (x : Spc) {w : World} (hd : Dp w x.a x.n x.ds) (hm : x.n ≤ maxLen) :
    Calls Tryz.prog 5 #[.agg x.cells] w fun e w' => ∃ r : Bool, e = .returned (.bool r) ∧ (r = true → x.few) ∧ Below w.heap.size w w' := by
  obtain ⟨nm, tn, pr, dl, a, n, c, ds, bs, cp, at', ls, cr, ct⟩ := x
  simp only at hd hm
  unfold Spc.cells Spc.few
  simp only
  obtain ⟨V, hV⟩ : ∃ V, V = w.alloc (.cells #[.string nm, .string tn, .int .i64 pr, .int .i64 dl, .slice a n c, .int .i64 bs, .int .i64 cp, .int .i64 at', .int .i64 ls, .string cr, .int .i64 ct] 24) := ⟨_, rfl⟩
  have hb1 : Below w.heap.size w V := by rw [hV]; exact (Below.refl _ w).alloc (Nat.le_refl _) _
  have hx0 : V.heap[w.heap.size]? = some (.cells #[.string nm, .string tn, .int .i64 pr, .int .i64 dl, .slice a n c, .int .i64 bs, .int .i64 cp, .int .i64 at', .int .i64 ls, .string cr, .int .i64 ct] 24 (0, 0)) := by rw [hV]; exact (MapKept.heap_alloc w _).1
  obtain ⟨⟨l0, l1, l2, l3, l4, l5, l6, l7, l8, l9, l10⟩, _⟩ := eleven hx0
  have hdV := hd.old hb1
  unfold maxLen at hm
  have HB := Lib.hid (And.intro hb1 (And.intro hdV hd.1))
  clear hb1 hx0 hdV hd
  go_enter Tryz.func5, Tryz.ntmps5
  go_wp2_with fail
  rw [← hV]
  have HV := Lib.hid hV
  clear hV
  go_loopw [8] (fun s8 wr => ∃ k : Nat, s8 = .int .i64 k ∧ wr = V ∧ k ≤ n ∧ ∀ j (h : j < ds.length), j < k → ds[j].size ≤ 60) (fun s8 _ => n - (RowKit.intOf s8).toNat)
  case atStart => exact ⟨0, rfl, rfl, Nat.zero_le _, fun j _ h => absurd h (Nat.not_lt_zero _)⟩
  case round =>
    obtain ⟨k, rfl, rfl, hk, hall⟩ := hrel
    by_cases hlt : k < n
    · have hkl : k < ds.length := by rw [HB.out.2.2]; exact hlt
      rcases HB.out.2.1.2.2 with h0 | ⟨b, o, rfl, hat⟩
      · omega
      have hc := hat k hkl
      have hall' := Lib.hid hall
      clear hall hat
      obtain ⟨d, hd⟩ : ∃ d, d = ds[k] := ⟨_, rfl⟩
      rw [← hd] at hc
      by_cases h60 : 60 < d.size
      · clear hd
        go_wp2_with fail
        go_ret
        first | exact ⟨false, rfl, (fun h => by cases h), HB.out.1⟩ | exact ⟨rfl, HB.out.1⟩
      · have hd' : ds[k].size ≤ 60 := by rw [← hd]; omega
        have HD := Lib.hid hd'
        clear hd' hd
        go_wp2_with fail
        go_roundw
        case rel => exact ⟨k + 1, rfl, trivial, hlt, fun j hj h => by
          rcases Nat.lt_or_ge j k with h' | h'
          · exact hall'.out j hj h'
          · obtain rfl : j = k := by omega
            exact HD.out⟩
        case measure => simp only [RowKit.intOf]; omega
    · have hall' := Lib.hid (fun d (hd : d ∈ ds) => by
        obtain ⟨i, hi, rfl⟩ := List.getElem_of_mem hd
        exact hall i hi (by rw [HB.out.2.2] at hi; omega) : ∀ d ∈ ds, d.size ≤ 60)
      clear hall
      by_cases h1 : nm.size ≤ 60
      · by_cases h2 : tn.size ≤ 60
        · by_cases h3 : n ≤ 20
          · go_wp2_with fail
            go_ret
            exact ⟨_, rfl, (fun h => ⟨hall'.out, h1, h2, h3, by have := of_decide_eq_true h; omega⟩), HB.out.1⟩
          · go_wp2_with fail
            go_ret
            first | exact ⟨false, rfl, (fun h => by cases h), HB.out.1⟩ | exact ⟨rfl, HB.out.1⟩
        · go_wp2_with fail
          go_ret
          first | exact ⟨false, rfl, (fun h => by cases h), HB.out.1⟩ | exact ⟨rfl, HB.out.1⟩
      · go_wp2_with fail
        go_ret
        first | exact ⟨false, rfl, (fun h => by cases h), HB.out.1⟩ | exact ⟨rfl, HB.out.1⟩
end Go.Proofs.YtkkanggkbbmfnaaGreatDoor.Sp

/- specs: which may be, as the document answers: names -/
namespace Go.Proofs.YtkkanggkbbmfnaaGreatDoor.Sp
open Go.RowKit Go.Lib Go.Sort Rf By
set_option linter.unusedVariables false
set_option linter.unusedSimpArgs false
set_option maxRecDepth 20000
theorem nm_all {l : List UInt8} (h0 : 0 < l.length) (h1 : l.length ≤ 24) (h : ∀ j (hj : j < l.length), laB l[j].toNat = true ∧ (j = 0 → fiB l[j].toNat = true)) : nmB l = true :=
  nm_yes h0 h1 (List.all_eq_true.2 fun x hx => by obtain ⟨i, hi, rfl⟩ := List.getElem_of_mem hx; exact (h i hi).1) ((h 0 h0).2 rfl)
theorem nm_ways (m : Nat) : (fiB m = true ∧ 97 ≤ m ∧ m ≤ 122) ∨ (fiB m = false ∧ laB m = true ∧ ((48 ≤ m ∧ m ≤ 57 ∧ m < 97) ∨ m = 45 ∨ m = 46)) ∨
    (fiB m = false ∧ laB m = false ∧ m ≠ 45 ∧ m ≠ 46 ∧ (m < 48 ∨ (48 ≤ m ∧ 57 < m ∧ m < 97) ∨ (48 ≤ m ∧ 57 < m ∧ 97 ≤ m ∧ 122 < m))) := by
  unfold laB fiB
  by_cases h : 97 ≤ m ∧ m ≤ 122
  · exact .inl ⟨by simp [h.1, h.2], h⟩
  · have hf : (decide (97 ≤ m) && decide (m ≤ 122)) = false := by simp; omega
    rw [hf]
    by_cases h2 : (48 ≤ m ∧ m ≤ 57) ∨ m = 45 ∨ m = 46
    · refine .inr (.inl ⟨rfl, ?_, by omega⟩)
      rcases h2 with h2 | h2 | h2 <;> simp [h2]
    · refine .inr (.inr ⟨rfl, ?_, by omega, by omega, by omega⟩)
      simp; omega
set_option maxHeartbeats 4000000 in
theorem rname_any (s : ByteArray) (hs : s.size ≤ 4611686018427387904) (w : World) : Calls Tryz.prog 8 #[.string s] w fun e w' => e = .returned (.bool (nmB s.data.toList)) ∧ w' = w := by
  have hl : s.data.toList.length = s.size := Array.length_toList
  go_enter Tryz.func8, Tryz.ntmps8
  go_wp2_with fail
  go_loopw [3] (fun x wr => ∃ k : Nat, x = .int .i64 (k : Nat) ∧ k ≤ s.size ∧ wr = w ∧ ∀ j (h : j < s.data.toList.length), j < k → laB (s.data.toList[j]).toNat = true ∧ (j = 0 → fiB (s.data.toList[j]).toNat = true)) (fun x _ => s.size - (RowKit.intOf x).toNat)
  case atStart => exact ⟨0, rfl, Nat.zero_le _, rfl, fun j _ h => absurd h (Nat.not_lt_zero j)⟩
  case round =>
    obtain ⟨k, rfl, hk, rfl, hall⟩ := hrel
    by_cases hlt : k < s.size
    · have hkl : k < s.data.toList.length := by omega
      obtain ⟨m, hm⟩ : ∃ m, (s.data.toList[k]).toNat = m := ⟨_, rfl⟩
      have hno := fun h => nm_no (l := s.data.toList) hkl h
      rw [hm] at hno
      have hbm : (s[k]'hlt).toNat = m := by rw [byte_at]; exact hm
      have hkb : (0 : Int) ≤ (k : Nat) ∧ ((k : Nat) : Int) < (s.size : Nat) := by omega
      have HA := Lib.hid (And.intro hall (And.intro hm hno))
      have hm8 : m < 256 := by rw [← hm]; exact UInt8.toNat_lt _
      clear hall hm hno
      have hnext : laB m = true → (k = 0 → fiB m = true) → ∀ j (h : j < s.data.toList.length), j < k + 1 → laB (s.data.toList[j]).toNat = true ∧ (j = 0 → fiB (s.data.toList[j]).toNat = true) := fun h1 h2 j hj h => by
        by_cases hjk : j = k
        · subst hjk; rw [HA.out.2.1]; exact ⟨h1, h2⟩
        · exact HA.out.1 j hj (by omega)
      rcases nm_ways m with ⟨h1, h2, h3⟩ | ⟨h1, h2, h3⟩ | ⟨h1, h2, h3, h4, h5⟩
      · have HN := Lib.hid (hnext (fi_la h1) (fun _ => h1))
        clear hnext h1
        go_wp2_with fail
        go_roundw
        case rel => exact ⟨k + 1, by simp, hlt, trivial, HN.out⟩
        case measure => simp [RowKit.intOf]; omega
      · by_cases h0 : k = 0
        · have hR := Lib.hid (HA.out.2.2 (.inr ⟨h0, h1⟩))
          have i0 : ((k : Int) == 0) = true := by simpa using h0
          clear hnext h1 h2 HA h0
          rcases h3 with ⟨h3, h4, h5⟩ | rfl | rfl
          all_goals
            go_wp2_with fail
            go_ret
            exact ⟨by rw [hR.out]; rfl, rfl⟩
        · have HN := Lib.hid (hnext h2 (fun e => absurd e h0))
          have i0 : ((k : Int) == 0) = false := by simpa using h0
          have i0' : ¬ (k : Int) = 0 := by omega
          clear hnext h1 h2 HA
          rcases h3 with ⟨h3, h4, h5⟩ | rfl | rfl
          all_goals
            go_wp2_with fail
            go_roundw
            case rel => exact ⟨k + 1, by simp, hlt, trivial, HN.out⟩
            case measure => simp [RowKit.intOf]; omega
      · have hR := Lib.hid (HA.out.2.2 (.inl h2))
        have i4 : ((m : Int) == 45) = false := by simp; omega
        have i4' : ¬ (m : Int) = 45 := by omega
        have i5 : ((m : Int) == 46) = false := by simp; omega
        have i5' : ¬ (m : Int) = 46 := by omega
        have i4n : ((m : Int) != 45) = true := by simp; omega
        have i5n : ((m : Int) != 46) = true := by simp; omega
        clear hnext h1 h2 h3 h4 HA
        by_cases h0 : k = 0
        · have i0 : ((k : Int) == 0) = true := by simpa using h0
          clear h0
          rcases h5 with h5 | ⟨h5, h6, h7⟩ | ⟨h5, h6, h7, h8⟩
          case' inr.inr => have i8 : decide ((m : Int) ≤ 122) = false := decide_eq_false (by omega)
          case' inr.inr => have i9 : decide ((m : Int) ≤ 57) = false := decide_eq_false (by omega)
          case' inr.inl => have i9 : decide ((m : Int) ≤ 57) = false := decide_eq_false (by omega)
          all_goals
            go_wp2_with fail
            go_ret
            exact ⟨by rw [hR.out]; rfl, rfl⟩
        · have i0 : ((k : Int) == 0) = false := by simpa using h0
          have i0' : ¬ (k : Int) = 0 := by omega
          clear h0
          rcases h5 with h5 | ⟨h5, h6, h7⟩ | ⟨h5, h6, h7, h8⟩
          case' inr.inr => have i8 : decide ((m : Int) ≤ 122) = false := decide_eq_false (by omega)
          case' inr.inr => have i9 : decide ((m : Int) ≤ 57) = false := decide_eq_false (by omega)
          case' inr.inl => have i9 : decide ((m : Int) ≤ 57) = false := decide_eq_false (by omega)
          all_goals
            go_wp2_with fail
            go_ret
            exact ⟨by rw [hR.out]; rfl, rfl⟩
    · have hkI : ¬ ((k : Nat) : Int) < (s.size : Nat) := by omega
      by_cases h0 : s.size = 0
      · have e : nmB s.data.toList = false := by
          have : s.data.toList = [] := List.length_eq_zero_iff.1 (by omega)
          rw [this]; rfl
        have i0 : ¬ (1 : Int) ≤ (s.size : Nat) := by omega
        have HE := Lib.hid e
        clear hall e h0
        go_wp2_with fail
        go_ret
        exact ⟨by rw [HE.out]; rfl, rfl⟩
      · have i0 : (1 : Int) ≤ (s.size : Nat) := by omega
        by_cases h1 : 24 < s.size
        · have HE := Lib.hid (nm_long (l := s.data.toList) (by omega))
          have i1 : ¬ ((s.size : Nat) : Int) ≤ 24 := by omega
          clear hall
          go_wp2_with fail
          go_ret
          exact ⟨by rw [HE.out]; rfl, rfl⟩
        · have HE := Lib.hid (nm_all (l := s.data.toList) (by omega) (by omega) fun j hj => hall j hj (by omega))
          have i1 : ((s.size : Nat) : Int) ≤ 24 := by omega
          clear hall
          go_wp2_with fail
          go_ret
          exact ⟨by rw [HE.out]; rfl, rfl⟩
end Go.Proofs.YtkkanggkbbmfnaaGreatDoor.Sp

/- specs: which may be, as the document answers -/
namespace Go.Proofs.YtkkanggkbbmfnaaGreatDoor.Sp
open Go.RowKit Go.Lib Go.Sort Rf By
set_option linter.unusedVariables false
set_option linter.unusedSimpArgs false
set_option maxRecDepth 20000
theorem chk_name {x : Spc} (h : (nmB x.nm.data.toList && nmB x.tn.data.toList && nmsB x.ds) = false) : chkE x = 16 := by unfold chkE; rw [if_pos h]
theorem chk_in {x : Spc} (h : (nmB x.nm.data.toList && nmB x.tn.data.toList && nmsB x.ds) = true) (h2 : inbB x = false ∨ ¬ x.n ≤ 8 ∨ riseB x.ds = false) : chkE x = 3 := by
  unfold chkE
  rw [if_neg (by rw [h]; simp), if_pos (by rcases h2 with h2 | h2 | h2 <;> simp [h2])]
theorem chk_ok {x : Spc} (h : (nmB x.nm.data.toList && nmB x.tn.data.toList && nmsB x.ds) = true) (h2 : inbB x = true) (h3 : x.n ≤ 8) (h4 : riseB x.ds = true) :
    chkE x = if x.cr.toList.isEmpty = true then (if x.ct ≠ 0 then 1 else 0) else chkT x := by
  unfold chkE
  rw [if_neg (by rw [h]; simp), if_neg (by simp [h2, h3, h4])]
theorem span_iff {n : Int} : spanB n = true ↔ 0 ≤ n ∧ n ≤ 1048576 := by unfold spanB; simp
theorem inb_iff {x : Spc} : inbB x = true ↔ (0 ≤ x.pr ∧ x.pr < 4) ∧ (spanB x.dl = true ∧ spanB x.bs = true ∧ spanB x.cp = true ∧ spanB x.ls = true) ∧ 1 ≤ x.ls ∧ (1 ≤ x.at' ∧ x.at' ≤ 16) ∧ 0 ≤ x.ct ∧ x.ct ≤ 16 := by
  unfold inbB
  simp only [Bool.and_eq_true, decide_eq_true_eq]
  constructor
  · rintro ⟨⟨⟨⟨⟨⟨⟨⟨⟨⟨h1, h2⟩, h3⟩, h4⟩, h5⟩, h6⟩, h7⟩, h8⟩, h9⟩, h10⟩, h11⟩; exact ⟨⟨h1, h2⟩, ⟨h3, h4, h5, h7⟩, h6, ⟨h8, h9⟩, h10, h11⟩
  · rintro ⟨⟨h1, h2⟩, ⟨h3, h4, h5, h7⟩, h6, ⟨h8, h9⟩, h10, h11⟩; exact ⟨⟨⟨⟨⟨⟨⟨⟨⟨⟨h1, h2⟩, h3⟩, h4⟩, h5⟩, h6⟩, h7⟩, h8⟩, h9⟩, h10⟩, h11⟩
theorem inb_no {x : Spc} (h : ¬ ((0 ≤ x.pr ∧ x.pr < 4) ∧ (spanB x.dl = true ∧ spanB x.bs = true ∧ spanB x.cp = true ∧ spanB x.ls = true) ∧ 1 ≤ x.ls ∧ (1 ≤ x.at' ∧ x.at' ≤ 16) ∧ 0 ≤ x.ct ∧ x.ct ≤ 16)) : inbB x = false := by
  cases e : inbB x with
  | false => rfl
  | true => exact absurd (inb_iff.1 e) h
/-- four numbers in a row -/
def four (dl bs cp ls : Int) (j : Nat) : Int := match j with | 0 => dl | 1 => bs | 2 => cp | _ => ls
theorem four_cells {w : World} {b : Nat} {v0 v1 v2 v3 : Int} {t : TypeId} (h : w.heap[b]? = some (.cells #[.int .i64 v0, .int .i64 v1, .int .i64 v2, .int .i64 v3] t (0, 0))) :
    ∀ j, j < 4 → w.cell? ⟨b, j, none⟩ = some (.int .i64 (four v0 v1 v2 v3 j)) := by
  intro j hj
  have : j = 0 ∨ j = 1 ∨ j = 2 ∨ j = 3 := by omega
  rcases this with rfl | rfl | rfl | rfl <;> simp [World.cell?, h, four]
set_option maxHeartbeats 8000000 in
theorem RCheck_any (x : Spc) {w : World} (hk : Okc x w) (hl : x.cr.data.toList.length ≤ 1000) :
    Calls Tryz.prog 9 #[.agg x.cells] w fun e w' => e = .returned (.int .i64 (chkE x : Nat)) ∧ Below w.heap.size w w' := by
  have q1 := fun W => rname_any x.nm hk.nm W
  have q2 := fun W => rname_any x.tn hk.tn W
  have q3 := fun d (hd : d ∈ x.ds) W => rname_any d (hk.t d hd) W
  have q4 := fun W => Cn.rparse_err x.cr.data.toList hl W
  obtain ⟨E, hE⟩ : ∃ E, E = Cn.parseE x.cr.data.toList := ⟨_, rfl⟩
  have c0 : chkT x = if E ≠ 0 then E else if x.ct = 0 then 3 else if 0 < x.n ∨ x.dl ≠ 0 ∨ 16 < x.nm.size then 1 else 0 := by rw [hE]; rfl
  rw [← str_S, ← hE] at q4
  have c1 := chk_name (x := x)
  have c2 := chk_in (x := x)
  have c3 := chk_ok (x := x)
  have c4 := inb_no (x := x)
  have c5 := inb_iff (x := x)
  rw [c0] at c3
  obtain ⟨R, hR⟩ : ∃ R, R = chkE x := ⟨_, rfl⟩
  rw [← hR] at c1 c2 c3 ⊢
  generalize nmB x.nm.data.toList = B1 at q1 c1 c2 c3
  generalize nmB x.tn.data.toList = B2 at q2 c1 c2 c3
  generalize inbB x = B4 at c2 c3 c4 c5
  have hd := hk.d
  have hm := hk.m
  clear hk hR hE c0 hl
  obtain ⟨nm, tn, pr, dl, a, n, c, ds, bs, cp, at', ls, cr, ct⟩ := x
  simp only at hd hm
  obtain ⟨V, hV⟩ : ∃ V, V = w.alloc (.cells #[.string nm, .string tn, .int .i64 pr, .int .i64 dl, .slice a n c, .int .i64 bs, .int .i64 cp, .int .i64 at', .int .i64 ls, .string cr, .int .i64 ct] 24) := ⟨_, rfl⟩
  have hb1 : Below w.heap.size w V := by rw [hV]; exact (Below.refl _ w).alloc (Nat.le_refl _) _
  have hx0 : V.heap[w.heap.size]? = some (.cells #[.string nm, .string tn, .int .i64 pr, .int .i64 dl, .slice a n c, .int .i64 bs, .int .i64 cp, .int .i64 at', .int .i64 ls, .string cr, .int .i64 ct] 24 (0, 0)) := by rw [hV]; exact (MapKept.heap_alloc w _).1
  unfold Spc.cells
  simp only at q1 q2 q3 q4 c1 c2 c3 c4 c5 ⊢
  have HC := Lib.hid (And.intro c1 (And.intro c2 (And.intro c3 (And.intro c4 c5))))
  have HQ := Lib.hid (And.intro q1 (And.intro q2 (And.intro q3 q4)))
  have HB := Lib.hid (And.intro hb1 (And.intro hV (And.intro hx0 (And.intro (hd.old hb1) hd.1))))
  obtain ⟨⟨l0, l1, l2, l3, l4, l5, l6, l7, l8, l9, l10⟩, _⟩ := eleven hx0
  have hle := le_bytes
  have HL := Lib.hid hle
  clear c1 c2 c3 c4 c5 q1 q2 q3 q4 hb1 hV hx0 hd hle
  go_enter Tryz.func9, Tryz.ntmps9
  go_wp2_with fail
  rw [← HB.out.2.1]
  refine (HQ.out.1 _).mono ?_
  rintro e w1 ⟨rfl, rfl⟩
  cases B1
  · obtain rfl : R = 16 := HC.out.1 (by simp)
    go_wp2_with fail
    go_ret
    exact ⟨rfl, HB.out.1⟩
  go_wp2_with fail
  refine (HQ.out.2.1 _).mono ?_
  rintro e w2 ⟨rfl, rfl⟩
  cases B2
  · obtain rfl : R = 16 := HC.out.1 (by simp)
    go_wp2_with fail
    go_ret
    exact ⟨rfl, HB.out.1⟩
  go_wp2_with fail
  obtain ⟨V, hV⟩ : ∃ V, V = w2 := ⟨_, rfl⟩
  rw [← hV] at HB
  go_loopw [24] (fun s wr => ∃ k : Nat, s = .int .i64 (k : Nat) ∧ k ≤ n ∧ wr = w2 ∧ ∀ j (h : j < ds.length), j < k → nmB ds[j].data.toList = true) (fun s _ => n - (RowKit.intOf s).toNat)
  case atStart => exact ⟨0, rfl, Nat.zero_le _, rfl, fun j _ h => absurd h (Nat.not_lt_zero j)⟩
  case round =>
    obtain ⟨k, rfl, hk, rfl, hall⟩ := hrel
    have HV := Lib.hid hV
    clear hV
    by_cases hlt : k < n
    · have hkl : k < ds.length := by rw [HB.out.2.2.2.2]; exact hlt
      rcases HB.out.2.2.2.1.2.2 with h0 | ⟨b, o, rfl, hat⟩
      · omega
      have hc2 := hat k hkl
      rw [HV.out] at hc2
      have HA := Lib.hid hall
      have hn := HQ.out.2.2.1 ds[k] (List.getElem_mem hkl) wr
      obtain ⟨r, hr⟩ : ∃ r, nmB ds[k].data.toList = r := ⟨_, rfl⟩
      rw [hr] at hn
      have HN := Lib.hid (And.intro hn hr)
      clear hall hat hn hr
      obtain ⟨d, hd⟩ : ∃ d, d = ds[k] := ⟨_, rfl⟩
      rw [← hd] at hc2 HN
      have HD := Lib.hid hd
      clear hd
      cases r with
      | false =>
        obtain rfl : R = 16 := HC.out.1 (by rw [nms_no hkl (by rw [← HD.out]; exact HN.out.2)]; rfl)
        go_wp2_with fail
        refine HN.out.1.mono ?_
        rintro e w' ⟨rfl, rfl⟩
        go_wp2_with fail
        go_ret
        exact ⟨rfl, by rw [← HV.out]; exact HB.out.1⟩
      | true =>
        go_wp2_with fail
        refine HN.out.1.mono ?_
        rintro e w' ⟨rfl, rfl⟩
        go_wp2_with fail
        go_roundw
        case rel => exact ⟨k + 1, rfl, hlt, trivial, fun j hj h => by
          rcases Nat.lt_or_ge j k with h' | h'
          · exact HA.out j hj h'
          · obtain rfl : j = k := by omega
            rw [← HD.out]; exact HN.out.2⟩
        case measure => simp only [RowKit.intOf]; omega
    · have e : nmsB ds = true := nms_yes fun j hj => hall j hj (by rw [HB.out.2.2.2.2] at hj; omega)
      have HC2 := Lib.hid (And.intro (HC.out.2.1 (by rw [e]; rfl)) (And.intro (HC.out.2.2.1 (by rw [e]; rfl)) HC.out.2.2.2))
      clear hall e HC
      obtain ⟨U, hU⟩ : ∃ U, U = wr.alloc (.cells #[.int .i64 dl, .int .i64 bs, .int .i64 cp, .int .i64 ls] 2) := ⟨_, rfl⟩
      have hbU : Below wr.heap.size wr U := by rw [hU]; exact (Below.refl _ _).alloc (Nat.le_refl _) _
      have hu : U.heap[wr.heap.size]? = some (.cells #[.int .i64 dl, .int .i64 bs, .int .i64 cp, .int .i64 ls] 2 (0, 0)) := by rw [hU]; exact (MapKept.heap_alloc wr _).1
      have HB0 := HB.out
      rw [HV.out] at HB0
      have hxU := old2 hbU HB0.2.2.1
      have HU := Lib.hid (And.intro (HB0.1.trans (hbU.mono HB0.1.size)) (And.intro hU (And.intro hxU (And.intro (HB0.2.2.2.1.old hbU) (four_cells hu)))))
      have hlen := HB0.2.2.2.2
      clear HB0 HB hbU hu hU hxU
      go_wp2_with fail
      rw [← HU.out.2.1]
      clear l0 l1 l2 l3 l4 l5 l6 l7 l8 l9 l10
      go_loopw [42] (fun s wq => ∃ m : Nat, s = .int .i64 (m : Nat) ∧ m ≤ 4 ∧ wq = U ∧ ∀ j, j < m → spanB (four dl bs cp ls j) = true) (fun s _ => 4 - (RowKit.intOf s).toNat)
      case atStart => exact ⟨0, rfl, Nat.zero_le _, rfl, fun j h => absurd h (Nat.not_lt_zero j)⟩
      case round =>
        obtain ⟨m, rfl, hm4, rfl, hall⟩ := hrel
        by_cases hlt2 : m < 4
        · have hc4 := HU.out.2.2.2.2 m hlt2
          have hlt2I : ((m : Nat) : Int) < 4 := by omega
          obtain ⟨y, hy⟩ : ∃ y, four dl bs cp ls m = y := ⟨_, rfl⟩
          rw [hy] at hc4
          have hbad : spanB y = false → R = 3 := fun h => by
            refine HC2.out.1 (.inl (HC2.out.2.2.1 fun hh => ?_))
            have : m = 0 ∨ m = 1 ∨ m = 2 ∨ m = 3 := by omega
            rcases this with rfl | rfl | rfl | rfl
            · rw [show dl = y from hy, h] at hh; cases hh.2.1.1
            · rw [show bs = y from hy, h] at hh; cases hh.2.1.2.1
            · rw [show cp = y from hy, h] at hh; cases hh.2.1.2.2.1
            · rw [show ls = y from hy, h] at hh; cases hh.2.1.2.2.2
          have HA := Lib.hid (And.intro hall hy)
          have HBd := Lib.hid hbad
          clear hall hy hbad
          by_cases y0 : y < 0
          · obtain rfl : R = 3 := HBd.out (by unfold spanB; simp; omega)
            go_wp2_with fail
            go_ret
            exact ⟨rfl, HU.out.1⟩
          · by_cases y1 : 1048576 < y
            · obtain rfl : R = 3 := HBd.out (by unfold spanB; simp; omega)
              go_wp2_with fail
              go_ret
              exact ⟨rfl, HU.out.1⟩
            · go_wp2_with fail
              go_roundw
              case rel => exact ⟨m + 1, by simp, hlt2, trivial, fun j hj => by
                by_cases hjm : j = m
                · subst hjm; rw [HA.out.2]; unfold spanB; simp; omega
                · exact HA.out.1 j (by omega)⟩
              case measure => simp [RowKit.intOf]; omega
        · have hlt2I : ¬ ((m : Nat) : Int) < 4 := by omega
          have hsp : spanB dl = true ∧ spanB bs = true ∧ spanB cp = true ∧ spanB ls = true := ⟨hall 0 (by omega), hall 1 (by omega), hall 2 (by omega), hall 3 (by omega)⟩
          have hls := span_iff.1 hsp.2.2.2
          have hdl := span_iff.1 hsp.1
          have hbad : ∀ h : ¬ ((0 ≤ pr ∧ pr < 4) ∧ 1 ≤ ls ∧ (1 ≤ at' ∧ at' ≤ 16) ∧ 0 ≤ ct ∧ ct ≤ 16), R = 3 := fun h => HC2.out.1 (.inl (HC2.out.2.2.1 fun hh => h ⟨hh.1, hh.2.2⟩))
          have HS := Lib.hid (And.intro hsp (And.intro hls (And.intro hdl hbad)))
          obtain ⟨⟨l0, l1, l2, l3, l4, l5, l6, l7, l8, l9, l10⟩, _⟩ := eleven HU.out.2.2.1
          clear hsp hls hdl hbad hall
          by_cases p1 : pr < 0
          · obtain rfl : R = 3 := HS.out.2.2.2 (by omega)
            go_wp2_with fail
            go_ret
            exact ⟨rfl, HU.out.1⟩
          by_cases p2 : 3 < pr
          · obtain rfl : R = 3 := HS.out.2.2.2 (by omega)
            go_wp2_with fail
            go_ret
            exact ⟨rfl, HU.out.1⟩
          by_cases p3 : ls = 0
          · obtain rfl : R = 3 := HS.out.2.2.2 (by omega)
            have p3' : (ls == 0) = true := by simpa using p3
            subst p3
            go_wp2_with fail
            go_ret
            exact ⟨rfl, HU.out.1⟩
          have p3' : (ls == 0) = false := by simpa using p3
          by_cases p4 : at' < 1
          · obtain rfl : R = 3 := HS.out.2.2.2 (by omega)
            go_wp2_with fail
            go_ret
            exact ⟨rfl, HU.out.1⟩
          by_cases p5 : 16 < at'
          · obtain rfl : R = 3 := HS.out.2.2.2 (by omega)
            go_wp2_with fail
            go_ret
            exact ⟨rfl, HU.out.1⟩
          by_cases p6 : ct < 0
          · obtain rfl : R = 3 := HS.out.2.2.2 (by omega)
            go_wp2_with fail
            go_ret
            exact ⟨rfl, HU.out.1⟩
          by_cases p7 : 16 < ct
          · obtain rfl : R = 3 := HS.out.2.2.2 (by omega)
            go_wp2_with fail
            go_ret
            exact ⟨rfl, HU.out.1⟩
          by_cases p8 : 8 < n
          · obtain rfl : R = 3 := HC2.out.1 (.inr (.inl (by omega)))
            have p8I : (8 : Int) < ((n : Nat) : Int) := by omega
            go_wp2_with fail
            go_ret
            exact ⟨rfl, HU.out.1⟩
          have p8I : ¬ (8 : Int) < ((n : Nat) : Int) := by omega
          have hB4 : B4 = true := HC2.out.2.2.2.2 ⟨⟨by omega, by omega⟩, HS.out.1, by have := HS.out.2.1; omega, ⟨by omega, by omega⟩, by omega, by omega⟩
          have HC3 := Lib.hid (And.intro (fun h => HC2.out.1 (.inr (.inr h))) (HC2.out.2.1 hB4 (by omega)))
          clear hB4 HC2
          go_wp2_with fail
          clear p1 p2 p3 p3' p4 p5 p8I l0 l1 l2 l3 l4 l5 l6 l7 l8 l9 l10
          go_loopw [7] (fun s wz => ∃ m : Nat, s = .int .i64 (m : Nat) ∧ 1 ≤ m ∧ (m = 1 ∨ m ≤ n) ∧ Below wr.heap.size wr wz ∧ ∀ j (h : j + 1 < ds.length), j + 1 < m → ds[j].data.toList < ds[j + 1].data.toList) (fun s _ => n - (RowKit.intOf s).toNat)
          case atStart => exact ⟨1, rfl, Nat.le_refl _, .inl rfl, Below.refl _ _, fun j _ h => absurd h (by omega)⟩
          case round =>
            obtain ⟨m, rfl, hm1, hmn, hbw, hall⟩ := hrel
            obtain ⟨j, hj⟩ : ∃ j, m = j + 1 := ⟨m - 1, by omega⟩
            have hxz := old2 hbw HU.out.2.2.1
            have hbz := HU.out.1.trans (hbw.mono HU.out.1.size)
            have hdz := HU.out.2.2.2.1.old hbw
            obtain ⟨⟨l0, l1, l2, l3, l4, l5, l6, l7, l8, l9, l10⟩, _⟩ := eleven hxz
            have HZ := Lib.hid (And.intro hbz (And.intro hxz hbw))
            clear hbz hxz
            by_cases hlt3 : m < n
            · have hkl : m < ds.length := by rw [hlen]; exact hlt3
              have hjn : j < n := by omega
              have hjl : j < ds.length := by omega
              rcases hdz.2.2 with h0 | ⟨b, o, rfl, hat⟩
              · omega
              have hc0 := hat j hjl
              have hc1 := hat m hkl
              have HA := Lib.hid (And.intro hall (And.intro hmn (And.intro hj hm1)))
              have hltI : (m : Int) < (n : Nat) := by omega
              have hw1 : IntKind.i64.wrap ((m : Int) - 1) = (j : Nat) := by rw [show (m : Int) - 1 = (j : Nat) by omega]; exact IntWalk.i64_in _ (by omega)
              obtain ⟨r, hr⟩ : ∃ r, decide (ds[j].data.toList < ds[m].data.toList) = r := ⟨_, rfl⟩
              have hll : Op.bytesLess ds[j].toList ds[m].toList = r := by rw [bytesLess_eq, Lib.toList_data, Lib.toList_data]; exact hr
              obtain ⟨x, hx⟩ : ∃ x, x = ds[j] := ⟨_, rfl⟩
              obtain ⟨y, hy⟩ : ∃ x, x = ds[m] := ⟨_, rfl⟩
              rw [← hx] at hc0 hll; rw [← hy] at hc1 hll
              have HR := Lib.hid (show (r = false → riseB ds = false) ∧ (r = true → ∀ i (h : i + 1 < ds.length), i + 1 < m + 1 → ds[i].data.toList < ds[i + 1].data.toList) from by
                subst hj
                refine ⟨fun e => rise_no hkl (by rw [e] at hr; exact of_decide_eq_false hr), fun e i hi h => ?_⟩
                by_cases hij : i = j
                · subst hij; rw [e] at hr; exact of_decide_eq_true hr
                · exact HA.out.1 i hi (by omega))
              clear hall hat hdz hbw hr hx hy hj hm1 hmn
              cases r with
              | false =>
                have HE := Lib.hid (HR.out.1 rfl)
                obtain rfl : R = 3 := HC3.out.1 HE.out
                clear HR
                have hcmp : ∀ W, (binOp .geq 9 (.string x) (.string y)).run Tryz.prog W = .ok (.bool true) W := fun W => by simp only [binOp, Op.stringOp, hll]; rfl
                clear hll
                go_wp2_with fail
                go_quiet (fail)
                go_wp2_with fail
                go_ret
                exact ⟨rfl, bdN HZ.out.1 _⟩
              | true =>
                have HE := Lib.hid (HR.out.2 rfl)
                clear HR
                have hcmp : ∀ W, (binOp .geq 9 (.string x) (.string y)).run Tryz.prog W = .ok (.bool false) W := fun W => by simp only [binOp, Op.stringOp, hll]; rfl
                clear hll
                go_wp2_with fail
                go_quiet (fail)
                go_wp2_with fail
                go_roundw
                case rel => exact ⟨m + 1, by simp, by omega, .inr hlt3, bdN HZ.out.2.2 _, HE.out⟩
                case measure => simp [RowKit.intOf]; omega
            · have e : riseB ds = true := rise_yes fun i hi => hall i hi (by omega)
              have hltI : ¬ (m : Int) < (n : Nat) := by omega
              have hR := HC3.out.2 e
              have HR := Lib.hid hR
              clear hall e hbw hmn hj hdz hR HC3
              by_cases hcr : cr.toList.isEmpty = true
              · have HR2 := Lib.hid (show R = if ct ≠ 0 then 1 else 0 by rw [HR.out, if_pos hcr])
                by_cases hct : 0 < ct
                · obtain rfl : R = 1 := by rw [HR2.out, if_pos (by omega)]
                  go_wp2_with fail
                  go_ret
                  exact ⟨rfl, HZ.out.1⟩
                · obtain rfl : R = 0 := by rw [HR2.out, if_neg (by omega)]
                  go_wp2_with fail
                  go_ret
                  exact ⟨rfl, HZ.out.1⟩
              · have hcr' : cr.toList.isEmpty = false := by simpa using hcr
                have HR2 := Lib.hid (show R = if E ≠ 0 then E else if ct = 0 then 3 else if 0 < n ∨ dl ≠ 0 ∨ 16 < nm.size then 1 else 0 by rw [HR.out, if_neg hcr])
                clear hcr HR
                go_wp2_with fail
                refine (HQ.out.2.2.2 _).mono ?_
                rintro e w9 ⟨⟨v6, v5, rfl⟩, hb9⟩
                have hx9 := old2 hb9 HZ.out.2.1
                have H9 := Lib.hid (HZ.out.1.trans (hb9.mono HZ.out.1.size))
                clear l0 l1 l2 l3 l4 l5 l6 l7 l8 l9 l10
                obtain ⟨⟨l0, l1, l2, l3, l4, l5, l6, l7, l8, l9, l10⟩, _⟩ := eleven hx9
                clear hx9 hb9
                by_cases hE0 : E = 0
                · subst hE0
                  have HR3 := Lib.hid (show R = if ct = 0 then 3 else if 0 < n ∨ dl ≠ 0 ∨ 16 < nm.size then 1 else 0 by rw [HR2.out, if_neg (by simp)])
                  clear HR2
                  by_cases hct : ct = 0
                  · obtain rfl : R = 3 := by rw [HR3.out, if_pos hct]
                    subst hct
                    go_wp2_with fail
                    go_ret
                    exact ⟨rfl, H9.out⟩
                  have i1 : (ct == 0) = false := beq_eq_false_iff_ne.2 hct
                  have HR4 := Lib.hid (show R = if 0 < n ∨ dl ≠ 0 ∨ 16 < nm.size then 1 else 0 by rw [HR3.out, if_neg hct])
                  clear HR3
                  by_cases h1 : 0 < n
                  · obtain rfl : R = 1 := by rw [HR4.out, if_pos (.inl h1)]
                    have h1I : (0 : Int) < (n : Nat) := by omega
                    go_wp2_with fail
                    go_ret
                    exact ⟨rfl, H9.out⟩
                  have h1I : ¬ (0 : Int) < (n : Nat) := by omega
                  by_cases h2 : 0 < dl
                  · obtain rfl : R = 1 := by rw [HR4.out, if_pos (.inr (.inl (by omega)))]
                    go_wp2_with fail
                    go_ret
                    exact ⟨rfl, H9.out⟩
                  by_cases h3 : 16 < nm.size
                  · obtain rfl : R = 1 := by rw [HR4.out, if_pos (.inr (.inr h3))]
                    have h3I : (16 : Int) < (nm.size : Nat) := by omega
                    go_wp2_with fail
                    go_ret
                    exact ⟨rfl, H9.out⟩
                  have h3I : ¬ (16 : Int) < (nm.size : Nat) := by omega
                  obtain rfl : R = 0 := by rw [HR4.out, if_neg (by have := HS.out.2.2.1; omega)]
                  go_wp2_with fail
                  go_ret
                  exact ⟨rfl, H9.out⟩
                · have i1 : (((E : Nat) : Int) != 0) = true := by simpa using hE0
                  obtain rfl : R = E := by rw [HR2.out, if_pos hE0]
                  have hEI : ¬ ((R : Nat) : Int) = 0 := by omega
                  clear hE0 HR2
                  go_wp2_with fail
                  go_ret
                  exact ⟨rfl, H9.out⟩
end Go.Proofs.YtkkanggkbbmfnaaGreatDoor.Sp

/- specs as bytes: the document's -/
namespace Go.Proofs.YtkkanggkbbmfnaaGreatDoor.Sp
open Go.RowKit Go.Lib Go.Shelf Rf By Ht
set_option linter.unusedVariables false
set_option maxRecDepth 20000
/-- bytes as a text's value -/
abbrev T (l : List UInt8) : Value := .string ⟨l.toArray⟩
theorem t_app (x y : List UInt8) : (⟨x.toArray⟩ : ByteArray) ++ ⟨y.toArray⟩ = ⟨(x ++ y).toArray⟩ := Rf.bytes_app x y
theorem t_size (l : List UInt8) : (⟨l.toArray⟩ : ByteArray).size = l.length := Rf.bytes_size l
theorem join (k l : List UInt8) (hk : k.length ≤ 100000) (hl : l.length ≤ 100000) : ∃ A, A = k ++ l ∧ (⟨k.toArray⟩ : ByteArray) ++ ⟨l.toArray⟩ = ⟨A.toArray⟩ ∧ A.length = k.length + l.length ∧ k.length + l.length ≤ 9223372036854775807 :=
  ⟨_, rfl, t_app k l, List.length_append, by omega⟩
set_option maxHeartbeats 8000000 in
theorem Bytes_any (x : Spc) {w : World} (hd : Dp w x.a x.n x.ds) (hw : x.wf) (hf : x.few) :
    Calls Tryz.prog 10 #[.agg x.cells] w fun e w' => e = .returned (T (specB x)) ∧ Below w.heap.size w w' := by
  have hmix : Tryz.prog.follows .mixedOrders = true := by kernel_rfl
  obtain ⟨nm, tn, pr, dl, a, n, c, ds, bs, cp, at', ls, cr, ct⟩ := x
  obtain ⟨w2, w3, w5, w6, w7, w8, w10⟩ := hw
  obtain ⟨fd, f0, f1, fn, f9⟩ := hf
  simp only at hd w2 w3 w5 w6 w7 w8 w10 fd f0 f1 fn f9
  obtain ⟨V, hV⟩ : ∃ V, V = w.alloc (.cells #[.string nm, .string tn, .int .i64 pr, .int .i64 dl, .slice a n c, .int .i64 bs, .int .i64 cp, .int .i64 at', .int .i64 ls, .string cr, .int .i64 ct] 24) := ⟨_, rfl⟩
  have hb1 : Below w.heap.size w V := by rw [hV]; exact (Below.refl _ w).alloc (Nat.le_refl _) _
  have hsz : w.heap.size < V.heap.size := by rw [hV]; simp
  have hx0 : V.heap[w.heap.size]? = some (.cells #[.string nm, .string tn, .int .i64 pr, .int .i64 dl, .slice a n c, .int .i64 bs, .int .i64 cp, .int .i64 at', .int .i64 ls, .string cr, .int .i64 ct] 24 (0, 0)) := by rw [hV]; exact (MapKept.heap_alloc w _).1
  have hdV := hd.old hb1
  obtain ⟨L0, hL0⟩ : ∃ L, L = textB nm := ⟨_, rfl⟩
  obtain ⟨L1, hL1⟩ : ∃ L, L = textB tn := ⟨_, rfl⟩
  obtain ⟨L2, hL2⟩ : ∃ L, L = zz pr := ⟨_, rfl⟩
  obtain ⟨L3, hL3⟩ : ∃ L, L = zz dl := ⟨_, rfl⟩
  obtain ⟨L4, hL4⟩ : ∃ L, L = uvarint n := ⟨_, rfl⟩
  have g0 : L0.length ≤ 210 := by rw [hL0]; exact text_len (by omega)
  have g1 : L1.length ≤ 210 := by rw [hL1]; exact text_len (by omega)
  have g2 : L2.length ≤ 10 := by rw [hL2]; exact zz_len w2
  have g3 : L3.length ≤ 10 := by rw [hL3]; exact zz_len w3
  have g4 : L4.length ≤ 10 := by rw [hL4]; exact uvarint_length64 (show n < 18446744073709551616 by omega)
  obtain ⟨A1, hA1, t1, y1, z1⟩ := join L0 L1 (by omega) (by omega)
  obtain ⟨A2, hA2, t2, y2, z2⟩ := join A1 L2 (by omega) (by omega)
  obtain ⟨A3, hA3, t3, y3, z3⟩ := join A2 L3 (by omega) (by omega)
  obtain ⟨A4, hA4, t4, y4, z4⟩ := join A3 L4 (by omega) (by omega)
  have hA4' : A4 = headB ⟨nm, tn, pr, dl, a, n, c, ds, bs, cp, at', ls, cr, ct⟩ := by unfold headB; rw [hA4, hA3, hA2, hA1, hL0, hL1, hL2, hL3, hL4]
  have y4' : A4.length ≤ 500 := by omega
  clear hA1 hA2 hA3 hA4 y1 y2 y3 y4
  have D0 := fun W => ref_text nm W (by omega)
  have D1 := fun W => ref_text tn W (by omega)
  have D2 := fun W => ref_int pr W w2
  have D3 := fun W => ref_int dl W w3
  have D4 := fun W => ref_num' n W (show n < 18446744073709551616 by omega)
  have E : ∀ (x : ByteArray) (L : List UInt8), True := fun _ _ => trivial
  clear E
  have C0 : ∀ W, Calls Tryz.prog 21 #[.string nm] W fun e w' => e = .returned (T L0) ∧ Below W.heap.size W w' := by rw [hL0]; exact D0
  have C1 : ∀ W, Calls Tryz.prog 21 #[.string tn] W fun e w' => e = .returned (T L1) ∧ Below W.heap.size W w' := by rw [hL1]; exact D1
  have C2 : ∀ W, Calls Tryz.prog 22 #[.int .i64 pr] W fun e w' => e = .returned (T L2) ∧ Below W.heap.size W w' := by rw [hL2]; exact D2
  have C3 : ∀ W, Calls Tryz.prog 22 #[.int .i64 dl] W fun e w' => e = .returned (T L3) ∧ Below W.heap.size W w' := by rw [hL3]; exact D3
  have C4 : ∀ W, Calls Tryz.prog 23 #[.int .u64 n] W fun e w' => e = .returned (T L4) ∧ Below W.heap.size W w' := by rw [hL4]; exact D4
  obtain ⟨⟨l0, l1, l2, l3, l4, l5, l6, l7, l8, l9, l10⟩, _⟩ := eleven hx0
  have cl : ∀ (i : Nat) (v : Value), V.cell? ⟨w.heap.size, i, none⟩ = some v → ∀ X, Below V.heap.size V X → X.cell? ⟨w.heap.size, i, none⟩ = some v := fun i v h X hX => (hX.cell (p := ⟨w.heap.size, i, none⟩) hsz).trans h
  have HC := Lib.hid (And.intro C0 (And.intro C1 (And.intro C2 (And.intro C3 C4))))
  have HG := Lib.hid (And.intro hb1 (And.intro hdV (And.intro fd (And.intro fn (And.intro hA4' y4')))))
  clear D0 D1 D2 D3 D4 C0 C1 C2 C3 C4 hb1 hdV hd fd hA4' y4' g0 g1 g2 g3 g4 hL0 hL1 hL2 hL3 hL4 hx0 w2 w3 f0 f1
  have hwn : IntKind.u64.wrap (n : Int) = n := by rw [IntKind.wrap_u64]; omega
  unfold Spc.cells
  simp only
  go_enter Tryz.func10, Tryz.ntmps10
  go_wp2_with fail
  rw [← hV]
  have HV := Lib.hid hV
  clear hV
  refine begin' 21 (fun ZZ => Below V.heap.size V ZZ) hmix ((Below.refl _ V).drew) (fun hS0 => ?_)
  refine Ht.takeD 8 (i := 0) ⟨some 6, _, _, _, _, _⟩ (.pointer (some ⟨w.heap.size, 0, none⟩)) rfl (by kernel_rfl) (by kernel_rfl) (by decide) (by kernel_rfl) (by kernel_rfl) (by kernel_rfl) hS0 (Or.inl ⟨by rfl, by (intro X hX; go_simp)⟩) ?_
  simp only [Act.put, List.setIfInBounds_toArray, List.set_cons_zero, List.set_cons_succ]
  refine Ht.takeD 8 (i := 1) ⟨some 7, _, _, _, _, _⟩ (.string nm) rfl (by kernel_rfl) (by kernel_rfl) (by decide) (by kernel_rfl) (by kernel_rfl) (by kernel_rfl) hS0 (Or.inl ⟨by rfl, by (intro X hX; have := cl 0 _ l0 X hX; go_simp)⟩) ?_
  simp only [Act.put, List.setIfInBounds_toArray, List.set_cons_zero, List.set_cons_succ]
  refine Ht.takeD 8 (i := 3) ⟨some 9, _, _, _, _, _⟩ (.pointer (some ⟨w.heap.size, 1, none⟩)) rfl (by kernel_rfl) (by kernel_rfl) (by decide) (by kernel_rfl) (by kernel_rfl) (by kernel_rfl) hS0 (Or.inl ⟨by rfl, by (intro X hX; go_simp)⟩) ?_
  simp only [Act.put, List.setIfInBounds_toArray, List.set_cons_zero, List.set_cons_succ]
  refine Ht.takeD 8 (i := 4) ⟨some 10, _, _, _, _, _⟩ (.string tn) rfl (by kernel_rfl) (by kernel_rfl) (by decide) (by kernel_rfl) (by kernel_rfl) (by kernel_rfl) hS0 (Or.inl ⟨by rfl, by (intro X hX; have := cl 1 _ l1 X hX; go_simp)⟩) ?_
  simp only [Act.put, List.setIfInBounds_toArray, List.set_cons_zero, List.set_cons_succ]
  refine Ht.takeD 8 (i := 7) ⟨some 13, _, _, _, _, _⟩ (.pointer (some ⟨w.heap.size, 2, none⟩)) rfl (by kernel_rfl) (by kernel_rfl) (by decide) (by kernel_rfl) (by kernel_rfl) (by kernel_rfl) hS0 (Or.inl ⟨by rfl, by (intro X hX; go_simp)⟩) ?_
  simp only [Act.put, List.setIfInBounds_toArray, List.set_cons_zero, List.set_cons_succ]
  refine Ht.takeD 8 (i := 8) ⟨some 14, _, _, _, _, _⟩ (.int .i64 pr) rfl (by kernel_rfl) (by kernel_rfl) (by decide) (by kernel_rfl) (by kernel_rfl) (by kernel_rfl) hS0 (Or.inl ⟨by rfl, by (intro X hX; have := cl 2 _ l2 X hX; go_simp)⟩) ?_
  simp only [Act.put, List.setIfInBounds_toArray, List.set_cons_zero, List.set_cons_succ]
  refine Ht.takeD 8 (i := 11) ⟨some 17, _, _, _, _, _⟩ (.pointer (some ⟨w.heap.size, 3, none⟩)) rfl (by kernel_rfl) (by kernel_rfl) (by decide) (by kernel_rfl) (by kernel_rfl) (by kernel_rfl) hS0 (Or.inl ⟨by rfl, by (intro X hX; go_simp)⟩) ?_
  simp only [Act.put, List.setIfInBounds_toArray, List.set_cons_zero, List.set_cons_succ]
  refine Ht.takeD 8 (i := 12) ⟨some 18, _, _, _, _, _⟩ (.int .i64 dl) rfl (by kernel_rfl) (by kernel_rfl) (by decide) (by kernel_rfl) (by kernel_rfl) (by kernel_rfl) hS0 (Or.inl ⟨by rfl, by (intro X hX; have := cl 3 _ l3 X hX; go_simp)⟩) ?_
  simp only [Act.put, List.setIfInBounds_toArray, List.set_cons_zero, List.set_cons_succ]
  refine Ht.takeD 8 (i := 15) ⟨some 21, _, _, _, _, _⟩ (.pointer (some ⟨w.heap.size, 4, none⟩)) rfl (by kernel_rfl) (by kernel_rfl) (by decide) (by kernel_rfl) (by kernel_rfl) (by kernel_rfl) hS0 (Or.inl ⟨by rfl, by (intro X hX; go_simp)⟩) ?_
  simp only [Act.put, List.setIfInBounds_toArray, List.set_cons_zero, List.set_cons_succ]
  refine Ht.takeD 8 (i := 16) ⟨some 22, _, _, _, _, _⟩ (.slice a n c) rfl (by kernel_rfl) (by kernel_rfl) (by decide) (by kernel_rfl) (by kernel_rfl) (by kernel_rfl) hS0 (Or.inl ⟨by rfl, by (intro X hX; have := cl 4 _ l4 X hX; go_simp)⟩) ?_
  simp only [Act.put, List.setIfInBounds_toArray, List.set_cons_zero, List.set_cons_succ]
  refine Ht.takeD 8 (i := 17) ⟨some 23, _, _, _, _, _⟩ (.int .i64 n) rfl (by kernel_rfl) (by kernel_rfl) (by decide) (by kernel_rfl) (by kernel_rfl) (by kernel_rfl) hS0 (Or.inl ⟨by rfl, by (intro X hX; go_simp)⟩) ?_
  simp only [Act.put, List.setIfInBounds_toArray, List.set_cons_zero, List.set_cons_succ]
  refine Ht.takeD 8 (i := 18) ⟨some 24, _, _, _, _, _⟩ (.int .u64 n) rfl (by kernel_rfl) (by kernel_rfl) (by decide) (by kernel_rfl) (by kernel_rfl) (by kernel_rfl) hS0 (Or.inl ⟨by rfl, by (intro X hX; go_simp)⟩) ?_
  simp only [Act.put, List.setIfInBounds_toArray, List.set_cons_zero, List.set_cons_succ]
  refine Ht.step (i := 2) ⟨some 8, _, _, _, _, _⟩ rfl (by kernel_rfl) (by rfl) (fun K hK => ?_)
  refine Ht.enter 21 #[.string nm] (by have hen := fun args w => enters_of (P := Tryz.prog) Tryz.func21 (by kernel_rfl) rfl args w; go_simp) (HC.out.1 _) ?_
  rintro e w0 ⟨rfl, b0⟩
  have B0 := Lib.hid b0
  have q0 : Below V.heap.size V w0 := Below.trans ((Below.refl _ V).drew) (B0.out.mono (Nat.le_refl _))
  clear b0
  refine ⟨_, rfl, hK _ _ (fun hn => q0) (fun hnx => ?_)⟩
  clear hK K hnx
  try simp only [Act.put, List.setIfInBounds_toArray, List.set_cons_zero, List.set_cons_succ]
  refine Ht.step (i := 5) ⟨some 11, _, _, _, _, _⟩ rfl (by kernel_rfl) (by rfl) (fun K hK => ?_)
  refine Ht.enter 21 #[.string tn] (by have hen := fun args w => enters_of (P := Tryz.prog) Tryz.func21 (by kernel_rfl) rfl args w; go_simp) (HC.out.2.1 _) ?_
  rintro e w1 ⟨rfl, b1⟩
  have B1 := Lib.hid b1
  have q1 : Below V.heap.size V w1 := q0.trans (B1.out.mono q0.size)
  clear b1
  refine ⟨_, rfl, hK _ _ (fun hn => q1) (fun hnx => ?_)⟩
  clear hK K hnx
  try simp only [Act.put, List.setIfInBounds_toArray, List.set_cons_zero, List.set_cons_succ]
  refine Ht.takeD 8 (i := 6) ⟨some 12, _, _, _, _, _⟩ (T A1) rfl (by kernel_rfl) (by kernel_rfl) (by decide) (by kernel_rfl) (by kernel_rfl) (by kernel_rfl) q1 (Or.inl ⟨by rfl, by (intro X hX; have := And.intro t1 z1; go_simp)⟩) ?_
  simp only [Act.put, List.setIfInBounds_toArray, List.set_cons_zero, List.set_cons_succ]
  refine Ht.step (i := 9) ⟨some 15, _, _, _, _, _⟩ rfl (by kernel_rfl) (by rfl) (fun K hK => ?_)
  refine Ht.enter 22 #[.int .i64 pr] (by have hen := fun args w => enters_of (P := Tryz.prog) Tryz.func22 (by kernel_rfl) rfl args w; go_simp) (HC.out.2.2.1 _) ?_
  rintro e w2 ⟨rfl, b2⟩
  have B2 := Lib.hid b2
  have q2 : Below V.heap.size V w2 := q1.trans (B2.out.mono q1.size)
  clear b2
  refine ⟨_, rfl, hK _ _ (fun hn => q2) (fun hnx => ?_)⟩
  clear hK K hnx
  try simp only [Act.put, List.setIfInBounds_toArray, List.set_cons_zero, List.set_cons_succ]
  refine Ht.takeD 8 (i := 10) ⟨some 16, _, _, _, _, _⟩ (T A2) rfl (by kernel_rfl) (by kernel_rfl) (by decide) (by kernel_rfl) (by kernel_rfl) (by kernel_rfl) q2 (Or.inl ⟨by rfl, by (intro X hX; have := And.intro t2 z2; go_simp)⟩) ?_
  simp only [Act.put, List.setIfInBounds_toArray, List.set_cons_zero, List.set_cons_succ]
  refine Ht.step (i := 13) ⟨some 19, _, _, _, _, _⟩ rfl (by kernel_rfl) (by rfl) (fun K hK => ?_)
  refine Ht.enter 22 #[.int .i64 dl] (by have hen := fun args w => enters_of (P := Tryz.prog) Tryz.func22 (by kernel_rfl) rfl args w; go_simp) (HC.out.2.2.2.1 _) ?_
  rintro e w3 ⟨rfl, b3⟩
  have B3 := Lib.hid b3
  have q3 : Below V.heap.size V w3 := q2.trans (B3.out.mono q2.size)
  clear b3
  refine ⟨_, rfl, hK _ _ (fun hn => q3) (fun hnx => ?_)⟩
  clear hK K hnx
  try simp only [Act.put, List.setIfInBounds_toArray, List.set_cons_zero, List.set_cons_succ]
  refine Ht.takeD 8 (i := 14) ⟨some 20, _, _, _, _, _⟩ (T A3) rfl (by kernel_rfl) (by kernel_rfl) (by decide) (by kernel_rfl) (by kernel_rfl) (by kernel_rfl) q3 (Or.inl ⟨by rfl, by (intro X hX; have := And.intro t3 z3; go_simp)⟩) ?_
  simp only [Act.put, List.setIfInBounds_toArray, List.set_cons_zero, List.set_cons_succ]
  refine Ht.step (i := 19) ⟨some 25, _, _, _, _, _⟩ rfl (by kernel_rfl) (by rfl) (fun K hK => ?_)
  refine Ht.enter 23 #[.int .u64 n] (by have hen := fun args w => enters_of (P := Tryz.prog) Tryz.func23 (by kernel_rfl) rfl args w; go_simp) (HC.out.2.2.2.2 _) ?_
  rintro e w4 ⟨rfl, b4⟩
  have B4 := Lib.hid b4
  have q4 : Below V.heap.size V w4 := q3.trans (B4.out.mono q3.size)
  clear b4
  refine ⟨_, rfl, hK _ _ (fun hn => q4) (fun hnx => ?_)⟩
  clear hK K hnx
  try simp only [Act.put, List.setIfInBounds_toArray, List.set_cons_zero, List.set_cons_succ]
  refine Ht.takeD 8 (i := 20) ⟨some 26, _, _, _, _, _⟩ (T A4) rfl (by kernel_rfl) (by kernel_rfl) (by decide) (by kernel_rfl) (by kernel_rfl) (by kernel_rfl) q4 (Or.inl ⟨by rfl, by (intro X hX; have := And.intro t4 z4; go_simp)⟩) ?_
  simp only [Act.put, List.setIfInBounds_toArray, List.set_cons_zero, List.set_cons_succ]
  refine Ht.step (i := 21) ⟨some 3, _, _, _, _, _⟩ rfl (by kernel_rfl) (by rfl) (fun K hK => ?_)
  go_simp
  refine hK _ _ (fun hn => absurd rfl hn) (fun hnx => ?_)
  clear hK K hnx
  try simp only [Act.put, List.setIfInBounds_toArray, List.set_cons_zero, List.set_cons_succ]
  refine done (by kernel_rfl) ?_
  have HA := Lib.hid (And.intro q4 (And.intro w5 (And.intro w6 (And.intro w7 (And.intro w8 (And.intro w10 f9))))))
  clear t1 t2 t3 t4 z1 z2 z3 z4 q0 q1 q2 q3 B0 B1 B2 B3 B4 HC w5 w6 w7 w8 w10 f9
  have l4' := cl 4 _ l4 _ q4
  clear q4
  go_wp2_with fail
  clear l4'
  go_loopw [30, 3] (fun s30 s3 wr => ∃ k : Nat, s30 = .int .i64 k ∧ s3 = T (A4 ++ rowB (ds.take k)) ∧ k ≤ n ∧ Below V.heap.size V wr) (fun s30 _ _ => n - (RowKit.intOf s30).toNat)
  case atStart => exact ⟨0, rfl, by simp [rowB], Nat.zero_le _, HA.out.1⟩
  case round =>
    obtain ⟨k, rfl, rfl, hk, hbw⟩ := hrel
    have fd := HG.out.2.2.1
    have hdl : ds.length = n := HG.out.2.1.1
    have y4 : A4.length ≤ 500 := HG.out.2.2.2.2.2
    have hrl : (rowB (ds.take k)).length ≤ 4200 := by
      have h := row_len (l := ds.take k) (fun d hd => fd d (List.mem_of_mem_take hd))
      have h2 : (ds.take k).length ≤ 20 := by rw [List.length_take]; omega
      omega
    by_cases hlt : k < n
    · have hkl : k < ds.length := by omega
      rcases HG.out.2.1.2.2 with h0 | ⟨b, o, rfl, hat⟩
      · omega
      have hc := (hbw.cell (World.block_lt_of_cell? V _ (hat k hkl))).trans (hat k hkl)
      obtain ⟨d, hd⟩ : ∃ d, d = ds[k] := ⟨_, rfl⟩
      have hd6 : d.size ≤ 60 := by rw [hd]; exact fd _ (List.getElem_mem hkl)
      have hrs := row_succ hkl
      rw [← hd] at hc hrs
      obtain ⟨A, hA, t1, y1, z1⟩ := join (A4 ++ rowB (ds.take k)) (textB d) (by rw [List.length_append]; omega) (by have := text_len (s := d) (by omega); omega)
      rw [List.append_assoc, ← hrs] at hA
      obtain ⟨K, hK⟩ : ∃ K, K = A4 ++ rowB (ds.take k) := ⟨_, rfl⟩
      rw [← hK] at t1 z1
      obtain ⟨M, hM⟩ : ∃ M, M = textB d := ⟨_, rfl⟩
      rw [← hM] at t1 z1
      have hR := fun W => ref_text d W (by omega)
      have HR := Lib.hid (show ∀ W, Calls Tryz.prog 21 #[.string d] W fun e w' => e = .returned (T M) ∧ Below W.heap.size W w' from by rw [hM]; exact hR)
      have H := Lib.hid (And.intro hA hbw)
      rw [← hK]
      clear hA hbw hR hM hK hrs hd hat fd y1
      go_wp2_with fail
      refine (HR.out _).mono ?_
      rintro e w5 ⟨rfl, b5⟩
      have B5 := Lib.hid b5
      clear b5
      go_wp2_with fail
      go_roundw
      case rel => exact ⟨k + 1, rfl, by rw [← H.out.1], hlt, H.out.2.trans (B5.out.mono H.out.2.size)⟩
      case measure => simp only [RowKit.intOf]; omega
    · have hkn : k = n := by omega
      have e0 : ds.take k = ds := List.take_of_length_le (by omega)
      rw [e0] at hrl ⊢
      obtain ⟨K, hK⟩ : ∃ K, K = A4 ++ rowB ds := ⟨_, rfl⟩
      have yK : K.length ≤ 5000 := by rw [hK, List.length_append]; omega
      rw [← hK]
      obtain ⟨_, w5, w6, w7, w8, w10, f9⟩ := HA.out
      obtain ⟨L5, hL5⟩ : ∃ L, L = zz bs := ⟨_, rfl⟩
      obtain ⟨L6, hL6⟩ : ∃ L, L = zz cp := ⟨_, rfl⟩
      obtain ⟨L7, hL7⟩ : ∃ L, L = zz at' := ⟨_, rfl⟩
      obtain ⟨L8, hL8⟩ : ∃ L, L = zz ls := ⟨_, rfl⟩
      obtain ⟨L9, hL9⟩ : ∃ L, L = textB cr := ⟨_, rfl⟩
      obtain ⟨L10, hL10⟩ : ∃ L, L = zz ct := ⟨_, rfl⟩
      have g5 : L5.length ≤ 10 := by rw [hL5]; exact zz_len w5
      have g6 : L6.length ≤ 10 := by rw [hL6]; exact zz_len w6
      have g7 : L7.length ≤ 10 := by rw [hL7]; exact zz_len w7
      have g8 : L8.length ≤ 10 := by rw [hL8]; exact zz_len w8
      have g9 : L9.length ≤ 210 := by rw [hL9]; exact text_len f9
      have g10 : L10.length ≤ 10 := by rw [hL10]; exact zz_len w10
      obtain ⟨D1, hD1, t1, y1, z1⟩ := join K L5 (by omega) (by omega)
      obtain ⟨D2, hD2, t2, y2, z2⟩ := join D1 L6 (by omega) (by omega)
      obtain ⟨D3, hD3, t3, y3, z3⟩ := join D2 L7 (by omega) (by omega)
      obtain ⟨D4, hD4, t4, y4, z4⟩ := join D3 L8 (by omega) (by omega)
      obtain ⟨D5, hD5, t5, y5, z5⟩ := join D4 L9 (by omega) (by omega)
      obtain ⟨D6, hD6, t6, y6, z6⟩ := join D5 L10 (by omega) (by omega)
      have hfin : D6 = specB ⟨nm, tn, pr, dl, a, n, c, ds, bs, cp, at', ls, cr, ct⟩ := by
        unfold specB tailB
        rw [← HG.out.2.2.2.2.1]
        show D6 = A4 ++ rowB ds ++ (zz bs ++ (zz cp ++ (zz at' ++ (zz ls ++ (textB cr ++ zz ct)))))
        rw [hD6, hD5, hD4, hD3, hD2, hD1, hK, hL5, hL6, hL7, hL8, hL9, hL10]
        simp only [List.append_assoc]
      have C5 : ∀ W, Calls Tryz.prog 22 #[.int .i64 bs] W fun e w' => e = .returned (T L5) ∧ Below W.heap.size W w' := by rw [hL5]; exact fun W => ref_int bs W w5
      have C6 : ∀ W, Calls Tryz.prog 22 #[.int .i64 cp] W fun e w' => e = .returned (T L6) ∧ Below W.heap.size W w' := by rw [hL6]; exact fun W => ref_int cp W w6
      have C7 : ∀ W, Calls Tryz.prog 22 #[.int .i64 at'] W fun e w' => e = .returned (T L7) ∧ Below W.heap.size W w' := by rw [hL7]; exact fun W => ref_int at' W w7
      have C8 : ∀ W, Calls Tryz.prog 22 #[.int .i64 ls] W fun e w' => e = .returned (T L8) ∧ Below W.heap.size W w' := by rw [hL8]; exact fun W => ref_int ls W w8
      have C9 : ∀ W, Calls Tryz.prog 21 #[.string cr] W fun e w' => e = .returned (T L9) ∧ Below W.heap.size W w' := by rw [hL9]; exact fun W => ref_text cr W (by omega)
      have C10 : ∀ W, Calls Tryz.prog 22 #[.int .i64 ct] W fun e w' => e = .returned (T L10) ∧ Below W.heap.size W w' := by rw [hL10]; exact fun W => ref_int ct W w10
      have HC := Lib.hid (And.intro C5 (And.intro C6 (And.intro C7 (And.intro C8 (And.intro C9 C10)))))
      have HF := Lib.hid (And.intro hfin hbw)
      have sw : w.heap.size < wr.heap.size := Nat.lt_of_lt_of_le hsz hbw.size
      have ce : ∀ (i : Nat) (v : Value), V.cell? ⟨w.heap.size, i, none⟩ = some v → ∀ X, Below wr.heap.size wr X → X.cell? ⟨w.heap.size, i, none⟩ = some v := fun i v h X hX => (hX.cell (p := ⟨w.heap.size, i, none⟩) sw).trans ((hbw.cell (p := ⟨w.heap.size, i, none⟩) hsz).trans h)
      clear C5 C6 C7 C8 C9 C10 hfin hD1 hD2 hD3 hD4 hD5 hD6 y1 y2 y3 y4 y5 y6 g5 g6 g7 g8 g9 g10 hL5 hL6 hL7 hL8 hL9 hL10 w5 w6 w7 w8 w10 f9 hK yK e0 hrl fd hdl hbw cl sw hsz
      go_wp2_with fail
      refine begin' 25 (fun ZZ => Below wr.heap.size wr ZZ) hmix ((Below.refl _ wr).drew) (fun hS0 => ?_)
      refine Ht.takeD 8 (i := 0) ⟨some 39, _, _, _, _, _⟩ (T K) rfl (by kernel_rfl) (by kernel_rfl) (by decide) (by kernel_rfl) (by kernel_rfl) (by kernel_rfl) hS0 (Or.inl ⟨by rfl, by (intro X hX; go_simp)⟩) ?_
      simp only [Act.put, List.setIfInBounds_toArray, List.set_cons_zero, List.set_cons_succ]
      refine Ht.takeD 8 (i := 1) ⟨some 40, _, _, _, _, _⟩ (.pointer (some ⟨w.heap.size, 5, none⟩)) rfl (by kernel_rfl) (by kernel_rfl) (by decide) (by kernel_rfl) (by kernel_rfl) (by kernel_rfl) hS0 (Or.inl ⟨by rfl, by (intro X hX; go_simp)⟩) ?_
      simp only [Act.put, List.setIfInBounds_toArray, List.set_cons_zero, List.set_cons_succ]
      refine Ht.takeD 8 (i := 2) ⟨some 41, _, _, _, _, _⟩ (.int .i64 bs) rfl (by kernel_rfl) (by kernel_rfl) (by decide) (by kernel_rfl) (by kernel_rfl) (by kernel_rfl) hS0 (Or.inl ⟨by rfl, by (intro X hX; have := ce 5 _ l5 X hX; go_simp)⟩) ?_
      simp only [Act.put, List.setIfInBounds_toArray, List.set_cons_zero, List.set_cons_succ]
      refine Ht.takeD 8 (i := 5) ⟨some 44, _, _, _, _, _⟩ (.pointer (some ⟨w.heap.size, 6, none⟩)) rfl (by kernel_rfl) (by kernel_rfl) (by decide) (by kernel_rfl) (by kernel_rfl) (by kernel_rfl) hS0 (Or.inl ⟨by rfl, by (intro X hX; go_simp)⟩) ?_
      simp only [Act.put, List.setIfInBounds_toArray, List.set_cons_zero, List.set_cons_succ]
      refine Ht.takeD 8 (i := 6) ⟨some 45, _, _, _, _, _⟩ (.int .i64 cp) rfl (by kernel_rfl) (by kernel_rfl) (by decide) (by kernel_rfl) (by kernel_rfl) (by kernel_rfl) hS0 (Or.inl ⟨by rfl, by (intro X hX; have := ce 6 _ l6 X hX; go_simp)⟩) ?_
      simp only [Act.put, List.setIfInBounds_toArray, List.set_cons_zero, List.set_cons_succ]
      refine Ht.takeD 8 (i := 9) ⟨some 48, _, _, _, _, _⟩ (.pointer (some ⟨w.heap.size, 7, none⟩)) rfl (by kernel_rfl) (by kernel_rfl) (by decide) (by kernel_rfl) (by kernel_rfl) (by kernel_rfl) hS0 (Or.inl ⟨by rfl, by (intro X hX; go_simp)⟩) ?_
      simp only [Act.put, List.setIfInBounds_toArray, List.set_cons_zero, List.set_cons_succ]
      refine Ht.takeD 8 (i := 10) ⟨some 49, _, _, _, _, _⟩ (.int .i64 at') rfl (by kernel_rfl) (by kernel_rfl) (by decide) (by kernel_rfl) (by kernel_rfl) (by kernel_rfl) hS0 (Or.inl ⟨by rfl, by (intro X hX; have := ce 7 _ l7 X hX; go_simp)⟩) ?_
      simp only [Act.put, List.setIfInBounds_toArray, List.set_cons_zero, List.set_cons_succ]
      refine Ht.takeD 8 (i := 13) ⟨some 52, _, _, _, _, _⟩ (.pointer (some ⟨w.heap.size, 8, none⟩)) rfl (by kernel_rfl) (by kernel_rfl) (by decide) (by kernel_rfl) (by kernel_rfl) (by kernel_rfl) hS0 (Or.inl ⟨by rfl, by (intro X hX; go_simp)⟩) ?_
      simp only [Act.put, List.setIfInBounds_toArray, List.set_cons_zero, List.set_cons_succ]
      refine Ht.takeD 8 (i := 14) ⟨some 53, _, _, _, _, _⟩ (.int .i64 ls) rfl (by kernel_rfl) (by kernel_rfl) (by decide) (by kernel_rfl) (by kernel_rfl) (by kernel_rfl) hS0 (Or.inl ⟨by rfl, by (intro X hX; have := ce 8 _ l8 X hX; go_simp)⟩) ?_
      simp only [Act.put, List.setIfInBounds_toArray, List.set_cons_zero, List.set_cons_succ]
      refine Ht.takeD 8 (i := 17) ⟨some 56, _, _, _, _, _⟩ (.pointer (some ⟨w.heap.size, 9, none⟩)) rfl (by kernel_rfl) (by kernel_rfl) (by decide) (by kernel_rfl) (by kernel_rfl) (by kernel_rfl) hS0 (Or.inl ⟨by rfl, by (intro X hX; go_simp)⟩) ?_
      simp only [Act.put, List.setIfInBounds_toArray, List.set_cons_zero, List.set_cons_succ]
      refine Ht.takeD 8 (i := 18) ⟨some 57, _, _, _, _, _⟩ (.string cr) rfl (by kernel_rfl) (by kernel_rfl) (by decide) (by kernel_rfl) (by kernel_rfl) (by kernel_rfl) hS0 (Or.inl ⟨by rfl, by (intro X hX; have := ce 9 _ l9 X hX; go_simp)⟩) ?_
      simp only [Act.put, List.setIfInBounds_toArray, List.set_cons_zero, List.set_cons_succ]
      refine Ht.takeD 8 (i := 21) ⟨some 60, _, _, _, _, _⟩ (.pointer (some ⟨w.heap.size, 10, none⟩)) rfl (by kernel_rfl) (by kernel_rfl) (by decide) (by kernel_rfl) (by kernel_rfl) (by kernel_rfl) hS0 (Or.inl ⟨by rfl, by (intro X hX; go_simp)⟩) ?_
      simp only [Act.put, List.setIfInBounds_toArray, List.set_cons_zero, List.set_cons_succ]
      refine Ht.takeD 8 (i := 22) ⟨some 61, _, _, _, _, _⟩ (.int .i64 ct) rfl (by kernel_rfl) (by kernel_rfl) (by decide) (by kernel_rfl) (by kernel_rfl) (by kernel_rfl) hS0 (Or.inl ⟨by rfl, by (intro X hX; have := ce 10 _ l10 X hX; go_simp)⟩) ?_
      simp only [Act.put, List.setIfInBounds_toArray, List.set_cons_zero, List.set_cons_succ]
      refine Ht.step (i := 3) ⟨some 42, _, _, _, _, _⟩ rfl (by kernel_rfl) (by rfl) (fun K hK => ?_)
      refine Ht.enter 22 #[.int .i64 bs] (by have hen := fun args w => enters_of (P := Tryz.prog) Tryz.func22 (by kernel_rfl) rfl args w; go_simp) (HC.out.1 _) ?_
      rintro e v5 ⟨rfl, b5⟩
      have B5 := Lib.hid b5
      have q5 : Below wr.heap.size wr v5 := Below.trans ((Below.refl _ wr).drew) (B5.out.mono (Nat.le_refl _))
      clear b5
      refine ⟨_, rfl, hK _ _ (fun hn => q5) (fun hnx => ?_)⟩
      clear hK K hnx
      try simp only [Act.put, List.setIfInBounds_toArray, List.set_cons_zero, List.set_cons_succ]
      refine Ht.takeD 8 (i := 4) ⟨some 43, _, _, _, _, _⟩ (T D1) rfl (by kernel_rfl) (by kernel_rfl) (by decide) (by kernel_rfl) (by kernel_rfl) (by kernel_rfl) q5 (Or.inl ⟨by rfl, by (intro X hX; have := And.intro t1 z1; go_simp)⟩) ?_
      simp only [Act.put, List.setIfInBounds_toArray, List.set_cons_zero, List.set_cons_succ]
      refine Ht.step (i := 7) ⟨some 46, _, _, _, _, _⟩ rfl (by kernel_rfl) (by rfl) (fun K hK => ?_)
      refine Ht.enter 22 #[.int .i64 cp] (by have hen := fun args w => enters_of (P := Tryz.prog) Tryz.func22 (by kernel_rfl) rfl args w; go_simp) (HC.out.2.1 _) ?_
      rintro e v6 ⟨rfl, b6⟩
      have B6 := Lib.hid b6
      have q6 : Below wr.heap.size wr v6 := q5.trans (B6.out.mono q5.size)
      clear b6
      refine ⟨_, rfl, hK _ _ (fun hn => q6) (fun hnx => ?_)⟩
      clear hK K hnx
      try simp only [Act.put, List.setIfInBounds_toArray, List.set_cons_zero, List.set_cons_succ]
      refine Ht.takeD 8 (i := 8) ⟨some 47, _, _, _, _, _⟩ (T D2) rfl (by kernel_rfl) (by kernel_rfl) (by decide) (by kernel_rfl) (by kernel_rfl) (by kernel_rfl) q6 (Or.inl ⟨by rfl, by (intro X hX; have := And.intro t2 z2; go_simp)⟩) ?_
      simp only [Act.put, List.setIfInBounds_toArray, List.set_cons_zero, List.set_cons_succ]
      refine Ht.step (i := 11) ⟨some 50, _, _, _, _, _⟩ rfl (by kernel_rfl) (by rfl) (fun K hK => ?_)
      refine Ht.enter 22 #[.int .i64 at'] (by have hen := fun args w => enters_of (P := Tryz.prog) Tryz.func22 (by kernel_rfl) rfl args w; go_simp) (HC.out.2.2.1 _) ?_
      rintro e v7 ⟨rfl, b7⟩
      have B7 := Lib.hid b7
      have q7 : Below wr.heap.size wr v7 := q6.trans (B7.out.mono q6.size)
      clear b7
      refine ⟨_, rfl, hK _ _ (fun hn => q7) (fun hnx => ?_)⟩
      clear hK K hnx
      try simp only [Act.put, List.setIfInBounds_toArray, List.set_cons_zero, List.set_cons_succ]
      refine Ht.takeD 8 (i := 12) ⟨some 51, _, _, _, _, _⟩ (T D3) rfl (by kernel_rfl) (by kernel_rfl) (by decide) (by kernel_rfl) (by kernel_rfl) (by kernel_rfl) q7 (Or.inl ⟨by rfl, by (intro X hX; have := And.intro t3 z3; go_simp)⟩) ?_
      simp only [Act.put, List.setIfInBounds_toArray, List.set_cons_zero, List.set_cons_succ]
      refine Ht.step (i := 15) ⟨some 54, _, _, _, _, _⟩ rfl (by kernel_rfl) (by rfl) (fun K hK => ?_)
      refine Ht.enter 22 #[.int .i64 ls] (by have hen := fun args w => enters_of (P := Tryz.prog) Tryz.func22 (by kernel_rfl) rfl args w; go_simp) (HC.out.2.2.2.1 _) ?_
      rintro e v8 ⟨rfl, b8⟩
      have B8 := Lib.hid b8
      have q8 : Below wr.heap.size wr v8 := q7.trans (B8.out.mono q7.size)
      clear b8
      refine ⟨_, rfl, hK _ _ (fun hn => q8) (fun hnx => ?_)⟩
      clear hK K hnx
      try simp only [Act.put, List.setIfInBounds_toArray, List.set_cons_zero, List.set_cons_succ]
      refine Ht.takeD 8 (i := 16) ⟨some 55, _, _, _, _, _⟩ (T D4) rfl (by kernel_rfl) (by kernel_rfl) (by decide) (by kernel_rfl) (by kernel_rfl) (by kernel_rfl) q8 (Or.inl ⟨by rfl, by (intro X hX; have := And.intro t4 z4; go_simp)⟩) ?_
      simp only [Act.put, List.setIfInBounds_toArray, List.set_cons_zero, List.set_cons_succ]
      refine Ht.step (i := 19) ⟨some 58, _, _, _, _, _⟩ rfl (by kernel_rfl) (by rfl) (fun K hK => ?_)
      refine Ht.enter 21 #[.string cr] (by have hen := fun args w => enters_of (P := Tryz.prog) Tryz.func21 (by kernel_rfl) rfl args w; go_simp) (HC.out.2.2.2.2.1 _) ?_
      rintro e v9 ⟨rfl, b9⟩
      have B9 := Lib.hid b9
      have q9 : Below wr.heap.size wr v9 := q8.trans (B9.out.mono q8.size)
      clear b9
      refine ⟨_, rfl, hK _ _ (fun hn => q9) (fun hnx => ?_)⟩
      clear hK K hnx
      try simp only [Act.put, List.setIfInBounds_toArray, List.set_cons_zero, List.set_cons_succ]
      refine Ht.takeD 8 (i := 20) ⟨some 59, _, _, _, _, _⟩ (T D5) rfl (by kernel_rfl) (by kernel_rfl) (by decide) (by kernel_rfl) (by kernel_rfl) (by kernel_rfl) q9 (Or.inl ⟨by rfl, by (intro X hX; have := And.intro t5 z5; go_simp)⟩) ?_
      simp only [Act.put, List.setIfInBounds_toArray, List.set_cons_zero, List.set_cons_succ]
      refine Ht.step (i := 23) ⟨some 62, _, _, _, _, _⟩ rfl (by kernel_rfl) (by rfl) (fun K hK => ?_)
      refine Ht.enter 22 #[.int .i64 ct] (by have hen := fun args w => enters_of (P := Tryz.prog) Tryz.func22 (by kernel_rfl) rfl args w; go_simp) (HC.out.2.2.2.2.2 _) ?_
      rintro e v10 ⟨rfl, b10⟩
      have B10 := Lib.hid b10
      have q10 : Below wr.heap.size wr v10 := q9.trans (B10.out.mono q9.size)
      clear b10
      refine ⟨_, rfl, hK _ _ (fun hn => q10) (fun hnx => ?_)⟩
      clear hK K hnx
      try simp only [Act.put, List.setIfInBounds_toArray, List.set_cons_zero, List.set_cons_succ]
      refine Ht.takeD 8 (i := 24) ⟨some 63, _, _, _, _, _⟩ (T D6) rfl (by kernel_rfl) (by kernel_rfl) (by decide) (by kernel_rfl) (by kernel_rfl) (by kernel_rfl) q10 (Or.inl ⟨by rfl, by (intro X hX; have := And.intro t6 z6; go_simp)⟩) ?_
      simp only [Act.put, List.setIfInBounds_toArray, List.set_cons_zero, List.set_cons_succ]
      refine Ht.step (i := 25) ⟨some 2, _, _, _, _, _⟩ rfl (by kernel_rfl) (by rfl) (fun K hK => ?_)
      go_simp
      refine hK _ _ (fun hn => absurd rfl hn) (fun hnx => ?_)
      clear hK K hnx
      try simp only [Act.put, List.setIfInBounds_toArray, List.set_cons_zero, List.set_cons_succ]
      refine done (by kernel_rfl) ?_
      clear t1 t2 t3 t4 t5 t6 z1 z2 z3 z4 z5 z6 q5 q6 q7 q8 q9 B5 B6 B7 B8 B9 B10
      go_wp2_with fail
      go_ret
      exact ⟨by rw [← HF.out.1]; rfl, HG.out.1.trans ((HF.out.2.trans (q10.mono HF.out.2.size)).mono HG.out.1.size)⟩
end Go.Proofs.YtkkanggkbbmfnaaGreatDoor.Sp

/- crontab: CrontabNames' walk -/
namespace Go.Proofs.YtkkanggkbbmfnaaGreatDoor.Ct
open Go.RowKit Go.Lib Go.Proofs.YtkkanggkbbmfnaaGreatDoor.Cn Go.Proofs.YtkkanggkbbmfnaaGreatDoor.Rg Go.Proofs.YtkkanggkbbmfnaaGreatDoor.Fi Ht
open Sp (Spc Okc chkE nmB specB)
set_option linter.unusedVariables false
set_option linter.unusedSimpArgs false
set_option maxRecDepth 20000

theorem few_ok9 {x : Spc} {w : World} (hd : Sp.Dp w x.a x.n x.ds) (h : x.few) : Okc x w :=
  ⟨hd, by have := h.2.2.2.1; omega, fun d hd' => by have := h.1 d hd'; omega, by have := h.2.1; omega, by have := h.2.2.1; omega⟩
theorem few_len9 {x : Spc} (h : x.few) : x.cr.data.toList.length ≤ 1000 := by
  have h1 : x.cr.data.size ≤ 200 := h.2.2.2.2
  rw [Array.length_toList]; omega
/-- what Instance answers -/
theorem Inst_any (x : Spc) (n : Int) {w : World} (hk : Okc x w) (hg : Gl w) (ht : Tz w) (hnm : x.nm.size ≤ 60) :
    Calls Tryz.prog 6 #[.agg x.cells, .int .i64 n] w fun e w' => ∃ (y : Spc) (E : Nat), e = .returned (.tuple #[.agg y.cells, .int .i64 (E : Nat)]) ∧ Below w.heap.size w w' ∧ E ≤ 1 ∧
      ((tplB x = false ∨ nuB n = false) → E = 1 ∧ y.nm = ⟨#[]⟩) ∧
      ((tplB x = true ∧ nuB n = true) → E = 0 ∧ y = { x with nm := x.nm ++ ⟨#[46]⟩ ++ ⟨(decDigits n.toNat).toArray⟩, cr := ⟨#[]⟩, ct := 0, a := y.a, c := y.c } ∧ Sp.Dp w' y.a y.n y.ds) := by
  by_cases h : tplB x = false ∨ nuB n = false
  · refine (Inst_no x n hk hg h).mono ?_
    rintro e w' ⟨rfl, hb⟩
    refine ⟨⟨⟨#[]⟩, ⟨#[]⟩, 0, 0, none, 0, 0, [], 0, 0, 0, 0, ⟨#[]⟩, 0⟩, 1, rfl, hb, Nat.le_refl _, fun _ => ⟨rfl, rfl⟩, fun h2 => ?_⟩
    rcases h with h | h
    · rw [h] at h2; cases h2.1
    · rw [h] at h2; cases h2.2
  · have h1 : tplB x = true := by
      cases hb : tplB x with
      | true => rfl
      | false => exact absurd (.inl hb) h
    have h2 : nuB n = true := by
      cases hb : nuB n with
      | true => rfl
      | false => exact absurd (.inr hb) h
    have h3 : 1 ≤ n ∧ n ≤ 999999 := by unfold nuB at h2; simpa using h2
    obtain ⟨v, rfl⟩ : ∃ v : Nat, n = (v : Nat) := ⟨n.toNat, by omega⟩
    refine (Inst_ok x v hk hg ht h1 (by omega) hnm).mono ?_
    rintro e w' ⟨y, rfl, hy, hd, hb⟩
    exact ⟨y, 0, rfl, hb, by omega, fun h4 => absurd h4 h, fun _ => ⟨rfl, by rw [Int.toNat_natCast]; exact hy, hd⟩⟩
theorem last_step (s : ByteArray) {k m : Nat} (hk : k < s.size) (hm : (s[k]'hk).toNat = m) : lastIdx s 46 (k + 1) = if m = 46 then (k : Int) else lastIdx s 46 k := by
  have e : s.data[k]! = s[k]'hk := getElem!_pos s.data k hk
  show (if ((s.data[k]!).toNat : Int) = 46 then (k : Int) else lastIdx s 46 k) = _
  rw [e, hm]
  by_cases h : m = 46
  · rw [if_pos h, if_pos (by omega)]
  · rw [if_neg h, if_neg (by omega)]
/-- are the lengths right -/
def lenB (s : ByteArray) : Bool := decide (0 ≤ dotI s) && decide (dotI s ≤ 16) && decide (dotI s + 1 < s.size) && decide ((s.size : Int) ≤ dotI s + 7)
theorem post_len (s : ByteArray) (k : Nat) : (post s k).data.toList.length = s.size - k := by
  rw [Array.length_toList]
  show (s.extract k s.size).size = _
  rw [ByteArray.size_extract]; omega
theorem post_at (s : ByteArray) (k j : Nat) (h : k + j < s.size) (h2 : j < (post s k).data.toList.length) : (post s k).data.toList[j] = s[k + j]'h := by
  simp only [post, ByteArray.data_extract, Array.toList_extract, List.extract_eq_take_drop, List.getElem_take, List.getElem_drop, Array.getElem_toList]
  rfl
theorem of_len {s : ByteArray} (h : lenB s = false) : ofB s = false := by
  cases hb : ofB s with
  | false => rfl
  | true =>
    exfalso
    unfold ofB at hb
    simp only [Bool.and_eq_true, decide_eq_true_eq] at hb
    obtain ⟨⟨⟨h1, h2⟩, h3⟩, h4⟩ := hb
    obtain ⟨h5, h6, h7, h8⟩ := num_iff.1 h4
    rw [post_len] at h5 h6
    have : lenB s = true := by unfold lenB; simp only [Bool.and_eq_true, decide_eq_true_eq]; omega
    rw [this] at h; cases h
theorem of_eq {s : ByteArray} {d : Nat} (hd : dotI s = d) (h16 : d ≤ 16) (hl : d + 1 < s.size) (h7 : s.size ≤ d + 7) :
    ofB s = ((nmB (pre s d).data.toList && decide ((s[d + 1]'hl).toNat ≠ 48)) && (post s (d + 1)).data.toList.all dgB) := by
  have h5 := post_len s (d + 1)
  have hh : (post s (d + 1)).data.toList.head? = some (s[d + 1]'hl) := by
    rw [List.head?_eq_getElem?, List.getElem?_eq_getElem (by omega), post_at s (d + 1) 0 (by omega)]
  unfold ofB numOk
  rw [hd, Int.toNat_natCast, hh, h5]
  have e1 : decide (some (s[d + 1]'hl) ≠ some 48) = decide ((s[d + 1]'hl).toNat ≠ 48) := by
    apply decide_eq_decide.2
    rw [Ne, Option.some.injEq]
    exact not_congr ⟨fun e => by rw [e]; rfl, fun e => UInt8.toNat_inj.1 e⟩
  rw [e1, decide_eq_true (show (0 : Int) ≤ (d : Nat) by omega), decide_eq_true (show ((d : Nat) : Int) ≤ 16 by omega), decide_eq_true (show 1 ≤ s.size - (d + 1) by omega), decide_eq_true (show s.size - (d + 1) ≤ 6 by omega)]
  simp only [Bool.true_and, Bool.and_assoc]
  congr 1
  exact Bool.and_comm _ _
theorem of_n {s : ByteArray} {d : Nat} (hd : dotI s = d) (h : ofB s = true) : ofN s = valI (post s (d + 1)).data.toList ∧ ofT s = s.extract 0 d := by
  have h2 : (post s (d + 1)).data.toList.all dgB = true := by
    unfold ofB at h
    simp only [Bool.and_eq_true] at h
    have := (num_iff.1 h.2).2.2.1
    rw [hd, Int.toNat_natCast] at this
    exact this
  constructor
  · unfold ofN; rw [if_pos h, hd, Int.toNat_natCast, valI_val h2]
  · unfold ofT; rw [if_pos h, hd, Int.toNat_natCast]
theorem take_snoc {l : List UInt8} {j : Nat} (h : j < l.length) : l.take (j + 1) = l.take j ++ [l[j]] := by rw [List.take_add_one, List.getElem?_eq_getElem h]; rfl
set_option maxHeartbeats 32000000 in
theorem names16 (x : Spc) (n : Int) (s : ByteArray) (hin : Ca.I64 n) {w : World} (hwf : x.wf) (hd : Sp.Dp w x.a x.n x.ds) (hm : x.n ≤ maxLen) (hss : s.size ≤ 9223372036854775807) (hg : Gd w) (hz : Tz w) :
    Calls Tryz.prog 3 #[.agg x.cells, .int .i64 n, .string s] w fun e w' => e = .returned (.bool true) ∧ Below w.heap.size w w' := by
  have hmix : Tryz.prog.follows .mixedOrders = true := by kernel_rfl
  obtain ⟨s0, hs0⟩ : ∃ s0 : Value, s0 = .agg x.cells := ⟨_, rfl⟩
  have HL := Lib.hid (fun W (h : Below w.heap.size w W) => lives16_any W (hg.old h))
  have HF := Lib.hid (fun W (h : Below w.heap.size w W) => Sp.Few_any x (hd.old h) hm)
  have HC := Lib.hid (fun (W : World) (h : Below w.heap.size w W) (hf : x.few) => Sp.RCheck_any x (few_ok9 (hd.old h) hf) (few_len9 hf))
  have HI := Lib.hid (fun (W : World) (h : Below w.heap.size w W) (hf : x.few) => Inst_any x n (few_ok9 (hd.old h) hf) (hg.gl.old h) (hz.old h) hf.2.1)
  have HO := Lib.hid (fun (W : World) (h : Below w.heap.size w W) (u : ByteArray) (hu : u.size ≤ 100) => Of_any u hu W (hz.old h))
  have HBy := Lib.hid (fun (W : World) (h : Below w.heap.size w W) (hf : x.few) => Sp.Bytes_any x (hd.old h) hwf hf)
  have HX := Lib.hid (And.intro hwf (And.intro hd hm))
  obtain ⟨x0, hx⟩ : ∃ x0, x0 = x := ⟨_, rfl⟩
  have HB := Lib.hid (show tplB x = (!x.cr.toList.isEmpty && decide (chkE x = 0)) from rfl)
  obtain ⟨E, hE⟩ : ∃ E, E = chkE x := ⟨_, rfl⟩
  rw [← hE] at HC HB
  have HE := Lib.hid hE
  have HXe := Lib.hid hx
  have HFew := Lib.hid (show x.few → x0.few from fun h => hx ▸ h)
  obtain ⟨few, hfew⟩ : ∃ p : Prop, p = x.few := ⟨_, rfl⟩
  have HFq := Lib.hid hfew
  rw [← hfew] at HF HC HI HBy
  clear hfew hd hm hg hz hwf hx hE
  obtain ⟨nm, tn, pr, dl, ao, na, c, ds, bs, cp, at', ls, cr, ct⟩ := x
  unfold Spc.cells at HF HC HI HBy hs0 ⊢
  simp only at HF HC HBy hs0 ⊢
  obtain ⟨V, hV⟩ : ∃ V, V = w.alloc (.cells #[.string nm, .string tn, .int .i64 pr, .int .i64 dl, .slice ao na c, .int .i64 bs, .int .i64 cp, .int .i64 at', .int .i64 ls, .string cr, .int .i64 ct] 24) := ⟨_, rfl⟩
  have hb1 : Below w.heap.size w V := by rw [hV]; exact (Below.refl _ w).alloc (Nat.le_refl _) _
  have hx0 : V.heap[w.heap.size]? = some (.cells #[.string nm, .string tn, .int .i64 pr, .int .i64 dl, .slice ao na c, .int .i64 bs, .int .i64 cp, .int .i64 at', .int .i64 ls, .string cr, .int .i64 ct] 24 (0, 0)) := by rw [hV]; exact (MapKept.heap_alloc w _).1
  have HV := Lib.hid (And.intro hb1 (And.intro hV hx0))
  clear hb1 hV hx0 hs0
  unfold Ca.I64 at hin
  go_enter Tryz.func3, Tryz.ntmps3
  go_wp2_with fail
  rw [← HV.out.2.1]
  refine (HL.out _ HV.out.1).mono ?_
  rintro e w1 ⟨rfl, hb⟩
  have H1 := Lib.hid (And.intro (HV.out.1.trans (hb.mono HV.out.1.size)) (Sp.old2 hb HV.out.2.2))
  clear hb
  obtain ⟨⟨l0, l1, l2, l3, l4, l5, l6, l7, l8, l9, l10⟩, _⟩ := Sp.eleven H1.out.2
  go_wp2_with fail
  refine (HF.out _ H1.out.1).mono ?_
  rintro e w2 ⟨r, rfl, hr, hb⟩
  have H2 := Lib.hid (And.intro (H1.out.1.trans (hb.mono H1.out.1.size)) (Sp.old2 hb H1.out.2))
  clear hb l0 l1 l2 l3 l4 l5 l6 l7 l8 l9 l10
  obtain ⟨⟨l0, l1, l2, l3, l4, l5, l6, l7, l8, l9, l10⟩, _⟩ := Sp.eleven H2.out.2
  by_cases hbad : r = false ∨ 60 < s.size
  · cases r with
    | false =>
      clear hr hbad
      go_wp2_with fail
      refine (HL.out _ H2.out.1).mono ?_
      rintro e w3 ⟨rfl, hb⟩
      have H3 := Lib.hid (H2.out.1.trans (hb.mono H2.out.1.size))
      clear hb
      go_wp2_with fail
      go_ret
      exact ⟨rfl, H3.out⟩
    | true =>
      have h60 : 60 < s.size := hbad.elim (fun h => by cases h) id
      clear hr hbad
      go_wp2_with fail
      refine (HL.out _ H2.out.1).mono ?_
      rintro e w3 ⟨rfl, hb⟩
      have H3 := Lib.hid (H2.out.1.trans (hb.mono H2.out.1.size))
      clear hb
      go_wp2_with fail
      go_ret
      exact ⟨rfl, H3.out⟩
  have hs60 : s.size ≤ 60 := by omega
  obtain rfl : r = true := by
    cases r with
    | true => rfl
    | false => exact absurd (.inl rfl) hbad
  have hf := hr rfl
  clear hr hbad hss
  replace HC := Lib.hid (fun (W : World) (h : Below w.heap.size w W) => HC.out W h hf)
  replace HI := Lib.hid (fun (W : World) (h : Below w.heap.size w W) => HI.out W h hf)
  replace HBy := Lib.hid (fun (W : World) (h : Below w.heap.size w W) => HBy.out W h hf)
  have HFw := Lib.hid hf
  clear hf HF HL
  have HN := Lib.hid (fun k W => Sp.rname_any (pre s k) (by unfold pre; rw [ByteArray.size_extract]; omega) W)
  go_wp2_with fail
  refine (HI.out _ H2.out.1).mono ?_
  rintro e w3 ⟨y, Ei, rfl, hb, hE1, hy0, hy1⟩
  obtain ⟨ynm, ytn, ypr, ydl, ya, yn, yc, yds, ybs, ycp, yat, yls, ycr, yct⟩ := y
  simp only at hy0 hy1
  dsimp only
  obtain ⟨V3, hV3⟩ : ∃ V, V = w3.alloc (.cells #[.string ynm, .string ytn, .int .i64 ypr, .int .i64 ydl, .slice ya yn yc, .int .i64 ybs, .int .i64 ycp, .int .i64 yat, .int .i64 yls, .string ycr, .int .i64 yct] 24) := ⟨_, rfl⟩
  have h3 : Below w3.heap.size w3 V3 := by rw [hV3]; exact (Below.refl _ w3).alloc (Nat.le_refl _) _
  have hx3 : V3.heap[w3.heap.size]? = some (.cells #[.string ynm, .string ytn, .int .i64 ypr, .int .i64 ydl, .slice ya yn yc, .int .i64 ybs, .int .i64 ycp, .int .i64 yat, .int .i64 yls, .string ycr, .int .i64 yct] 24 (0, 0)) := by rw [hV3]; exact (MapKept.heap_alloc w3 _).1
  have hb3 := hb.trans (h3.mono hb.size)
  have H3 := Lib.hid (And.intro (H2.out.1.trans (hb3.mono H2.out.1.size)) (And.intro (Sp.old2 hb3 H2.out.2) (And.intro hx3 (And.intro hV3 (And.intro hy0 (And.intro (fun hh => (⟨(hy1 hh).1, (hy1 hh).2.1, (hy1 hh).2.2.old h3⟩ : _ ∧ _ ∧ Sp.Dp V3 ya yn yds)) hE1))))))
  have hs23 : w.heap.size < w3.heap.size := by have := hb.size; have := (Array.getElem?_eq_some_iff.1 H2.out.2).1; omega
  have HS := Lib.hid hs23
  clear hb h3 hx3 hb3 hV3 hy0 hy1 hE1 hs23
  clear l0 l1 l2 l3 l4 l5 l6 l7 l8 l9 l10
  go_wp2_with fail
  rw [← H3.out.2.2.2.1]
  refine (HO.out _ H3.out.1 s (by omega)).mono ?_
  rintro e w4 ⟨rfl, hb⟩
  have H4 := Lib.hid (And.intro (H3.out.1.trans (hb.mono H3.out.1.size)) (And.intro (Sp.old2 hb H3.out.2.1) (And.intro (Sp.old2 hb H3.out.2.2.1) hb)))
  clear hb
  obtain ⟨B0, hB0⟩ : ∃ b, b = ofB s := ⟨_, rfl⟩
  obtain ⟨T0, hT0⟩ : ∃ b, b = ofT s := ⟨_, rfl⟩
  obtain ⟨K0, hK0⟩ : ∃ b, b = ofN s := ⟨_, rfl⟩
  rw [← hB0, ← hT0, ← hK0]
  have HQ := Lib.hid (And.intro hB0 (And.intro hT0 hK0))
  clear hB0 hT0 hK0
  go_wp2_with fail
  go_loopw [12, 13, 48] (fun a b u wr => ∃ j : Nat, a = .int .i64 (lastIdx s 46 j) ∧ u = .int .i64 (j : Nat) ∧ j ≤ s.size ∧ Below w4.heap.size w4 wr) (fun _ _ u _ => s.size - (RowKit.intOf u).toNat)
  case atStart => exact ⟨0, rfl, rfl, Nat.zero_le _, Below.refl _ _⟩
  case round =>
    obtain ⟨k, rfl, rfl, hk, hbw⟩ := hrel
    have HW := Lib.hid hbw
    clear hbw
    by_cases hlt : k < s.size
    · obtain ⟨m, hm⟩ : ∃ m, (s[k]'hlt).toNat = m := ⟨_, rfl⟩
      have hkb : (0 : Int) ≤ (k : Nat) ∧ ((k : Nat) : Int) < (s.size : Nat) := by omega
      have hm8 : m < 256 := by rw [← hm]; exact UInt8.toNat_lt _
      have hst := last_step s hlt hm
      by_cases h46 : m = 46
      · rw [if_pos h46] at hst
        have HT := Lib.hid hst
        subst h46
        clear hst
        go_wp2_with fail
        exact ⟨⟨k + 1, by rw [HT.out], rfl, hlt, HW.out⟩, by simp [RowKit.intOf]; omega⟩
      · rw [if_neg h46] at hst
        have HT := Lib.hid hst
        have hne : ((m : Int) == 46) = false := by simp; omega
        clear hst
        go_wp2_with fail
        exact ⟨⟨k + 1, by rw [HT.out], rfl, hlt, HW.out⟩, by simp [RowKit.intOf]; omega⟩
    · obtain rfl : k = s.size := by omega
      have hdl : lastIdx s 46 s.size = dotI s := rfl
      rw [hdl]
      have hdb := dot_lt s
      obtain ⟨D, hD⟩ : ∃ D, D = dotI s := ⟨_, rfl⟩
      rw [← hD] at hdb ⊢
      have HD := Lib.hid hD
      clear hD hdl hk hlt
      obtain ⟨lb, hlb⟩ : ∃ b, b = lenB s := ⟨_, rfl⟩
      have hln : (decide (0 ≤ D) && decide (D ≤ 16) && decide (D + 1 < s.size) && decide ((s.size : Int) ≤ D + 7)) = lb := by rw [hlb, HD.out]; rfl
      have HLB := Lib.hid (And.intro hln hlb)
      clear hln hlb
      go_upto_region 12 with fail
      go_cut [14, 15] from 57 to 76 (fun a b wx => a = .bool lb ∧ b = .int .i64 0 ∧ wx = wr)
      case first =>
        by_cases h1 : 0 ≤ D
        · by_cases h2 : D ≤ 16
          · by_cases h3 : D + 1 < s.size
            · by_cases h4 : (s.size : Int) ≤ D + 7
              · obtain rfl : lb = true := by rw [← HLB.out.1]; simp; omega
                go_wp2_with fail
                go_meet
                exact ⟨rfl, rfl, rfl⟩
              · obtain rfl : lb = false := by rw [← HLB.out.1]; simp; omega
                have h4' : D + 7 < s.size := by omega
                go_wp2_with fail
                go_meet
                exact ⟨rfl, rfl, rfl⟩
            · obtain rfl : lb = false := by rw [← HLB.out.1]; simp; omega
              have h3' : (s.size : Int) ≤ D + 1 := by omega
              go_wp2_with fail
              go_meet
              exact ⟨rfl, rfl, rfl⟩
          · obtain rfl : lb = false := by rw [← HLB.out.1]; simp; omega
            have h2' : 16 < D := by omega
            go_wp2_with fail
            go_meet
            exact ⟨rfl, rfl, rfl⟩
        · obtain rfl : lb = false := by rw [← HLB.out.1]; simp; omega
          have h1' : D < 0 := by omega
          go_wp2_with fail
          go_meet
          exact ⟨rfl, rfl, rfl⟩
      case rest =>
        obtain ⟨rfl, rfl, rfl⟩ := hcut
        go_upto_if 77 with fail
        go_cut [14, 15, 16] from 77 to 117 (fun a b u wx => a = .bool B0 ∧ (∃ v : Int, b = .int .i64 v ∧ (B0 = true → v = K0 ∧ T0 = s.extract 0 D.toNat)) ∧ Below w4.heap.size w4 wx)
        case first =>
          cases lb with
          | false =>
            obtain rfl : B0 = false := by rw [HQ.out.1]; exact of_len HLB.out.2.symm
            go_wp2_with fail
            go_meet
            exact ⟨rfl, ⟨0, rfl, fun h => by cases h⟩, HW.out⟩
          | true =>
            have hbd : 0 ≤ D ∧ D ≤ 16 ∧ D + 1 < s.size ∧ (s.size : Int) ≤ D + 7 := by
              have h := HLB.out.1
              simp only [Bool.and_eq_true, decide_eq_true_eq] at h
              exact ⟨h.1.1.1, h.1.1.2, h.1.2, h.2⟩
            obtain ⟨d, rfl⟩ : ∃ d : Nat, D = (d : Nat) := ⟨D.toNat, by omega⟩
            have hd2 : d ≤ 16 ∧ d + 1 < s.size ∧ s.size ≤ d + 7 ∧ d ≤ s.size := by omega
            have HBq := Lib.hid (of_eq (s := s) (d := d) HD.out.symm hd2.1 hd2.2.1 hd2.2.2.1)
            have HNq := Lib.hid (of_n (s := s) (d := d) HD.out.symm)
            obtain ⟨nb, hnb⟩ : ∃ b, b = nmB (pre s d).data.toList := ⟨_, rfl⟩
            have HN2 := Lib.hid (HN.out d)
            obtain ⟨m0, hm0⟩ : ∃ m, (s[d + 1]'hd2.2.1).toNat = m := ⟨_, rfl⟩
            have hm08 : m0 < 256 := by rw [← hm0]; exact UInt8.toNat_lt _
            rw [← hnb] at HN2 HBq
            rw [hm0] at HBq
            obtain ⟨P, hP⟩ : ∃ P, P = (post s (d + 1)).data.toList := ⟨_, rfl⟩
            have HPl := Lib.hid (show P.length = s.size - (d + 1) from by rw [hP]; exact post_len s (d + 1))
            have HPa := Lib.hid (show ∀ j (h : d + 1 + j < s.size) (h2 : j < P.length), P[j] = s[d + 1 + j]'h from by subst hP; exact fun j h h2 => post_at s (d + 1) j h h2)
            rw [← hP] at HBq HNq
            obtain ⟨Fb, hF⟩ : ∃ b, b = (nb && decide (m0 ≠ 48)) := ⟨_, rfl⟩
            rw [← hF] at HBq
            have HF := Lib.hid hF
            clear hbd hnb hP hF
            have hdb1 : ((d : Nat) : Int) + 1 < (s.size : Nat) := by omega
            go_upto_region 14 with fail
            go_cut [14] from 78 to 88 (fun a wx => a = .bool Fb ∧ wx = wc)
            case first =>
              go_wp2_with fail
              refine (HN2.out _).mono ?_
              rintro e w6 ⟨rfl, rfl⟩
              cases nb with
              | false =>
                obtain rfl : Fb = false := by rw [HF.out]; rfl
                go_wp2_with fail
                go_meet
                exact ⟨rfl, rfl⟩
              | true =>
                by_cases h48 : m0 = 48
                · subst h48
                  obtain rfl : Fb = false := by rw [HF.out]; rfl
                  go_wp2_with fail
                  go_meet
                  exact ⟨rfl, rfl⟩
                · obtain rfl : Fb = true := by rw [HF.out]; simp [h48]
                  have hne : ((m0 : Int) == 48) = false := by simp; omega
                  have hne2 : ((m0 : Int) != 48) = true := by simp; omega
                  go_wp2_with fail
                  go_meet
                  exact ⟨by first | rfl | rw [hne2], rfl⟩
            case rest =>
              obtain ⟨rfl, rfl⟩ := hcut
              clear hm0
              go_wp2_with fail
              go_loopw [14, 15, 16] (fun a b u wr2 => ∃ j : Nat, a = .bool (Fb && (P.take j).all dgB) ∧ b = .int .i64 (valI (P.take j)) ∧ u = .int .i64 ((d + 1 + j : Nat) : Int) ∧ d + 1 + j ≤ s.size ∧ wr2 = wc) (fun _ _ u _ => s.size - (RowKit.intOf u).toNat)
              case atStart => exact ⟨0, by rw [List.take_zero]; simp, rfl, congrArg (Value.int .i64) (by omega), by omega, rfl⟩
              case round =>
                obtain ⟨j, rfl, rfl, rfl, hj, rfl⟩ := hrel
                obtain ⟨i, hi⟩ : ∃ i, i = d + 1 + j := ⟨_, rfl⟩
                rw [← hi] at hj ⊢
                obtain ⟨A, hA⟩ : ∃ b, b = (Fb && (P.take j).all dgB) := ⟨_, rfl⟩
                obtain ⟨Vv, hV⟩ : ∃ b, b = valI (P.take j) := ⟨_, rfl⟩
                have hpl := HPl.out
                have hVb : -24000000 ≤ Vv ∧ Vv ≤ 24000000 := by rw [hV]; exact valI_le (by rw [List.length_take]; omega)
                by_cases hlt : i < s.size
                · have hjl : j < P.length := by omega
                  obtain ⟨m, hm⟩ : ∃ m, (s[i]'hlt).toNat = m := ⟨_, rfl⟩
                  have hm8 : m < 256 := by rw [← hm]; exact UInt8.toNat_lt _
                  have hPj : P[j] = s[i]'hlt := by subst hi; exact HPa.out j hlt hjl
                  have hkb : (0 : Int) ≤ (i : Nat) ∧ ((i : Nat) : Int) < (s.size : Nat) := by omega
                  have hA' : (Fb && (P.take (j + 1)).all dgB) = (A && (decide (48 ≤ m) && decide (m ≤ 57))) := by
                    rw [take_snoc hjl, List.all_append, List.all_cons, List.all_nil, Bool.and_true, ← Bool.and_assoc, ← hA, hPj]
                    unfold dgB; rw [hm]
                  have hV' : valI (P.take (j + 1)) = Vv * 10 + (m : Int) - 48 := by rw [take_snoc hjl, valI_snoc, ← hV, hPj, hm]
                  rw [← hA, ← hV]
                  have HJ := Lib.hid (And.intro hA' (And.intro hV' hi))
                  clear hA' hV' hA hV hPj hi hpl hjl
                  cases A with
                  | false =>
                    go_wp2_with fail
                    exact ⟨⟨j + 1, by rw [HJ.out.1]; rfl, by rw [HJ.out.2.1], congrArg (Value.int .i64) (by have := HJ.out.2.2; omega), by have := HJ.out.2.2; omega, by first | rfl | trivial⟩, by simp [RowKit.intOf]; omega⟩
                  | true =>
                    by_cases h48 : m < 48
                    · have h48' : (m : Int) < 48 := by omega
                      go_wp2_with fail
                      exact ⟨⟨j + 1, by rw [HJ.out.1, decide_eq_false (show ¬ 48 ≤ m by omega)]; rfl, by rw [HJ.out.2.1], congrArg (Value.int .i64) (by have := HJ.out.2.2; omega), by have := HJ.out.2.2; omega, by first | rfl | trivial⟩, by simp [RowKit.intOf]; omega⟩
                    · by_cases h57 : 57 < m
                      · have h48' : (48 : Int) ≤ (m : Int) ∧ 57 < (m : Int) := by omega
                        have hd57 : decide ((m : Int) ≤ 57) = false := decide_eq_false (by omega)
                        go_wp2_with fail
                        exact ⟨⟨j + 1, by rw [HJ.out.1, decide_eq_false (show ¬ m ≤ 57 by omega), Bool.and_false]; first | rfl | (rw [hd57]; rfl), by rw [HJ.out.2.1], congrArg (Value.int .i64) (by have := HJ.out.2.2; omega), by have := HJ.out.2.2; omega, by first | rfl | trivial⟩, by simp [RowKit.intOf]; omega⟩
                      · have h48' : (48 : Int) ≤ (m : Int) ∧ (m : Int) ≤ 57 := by omega
                        have hd57 : decide ((m : Int) ≤ 57) = true := decide_eq_true (by omega)
                        go_wp2_with fail
                        exact ⟨⟨j + 1, by rw [HJ.out.1, decide_eq_true (show 48 ≤ m by omega), decide_eq_true (show m ≤ 57 by omega)]; first | rfl | (rw [hd57]; rfl), by rw [HJ.out.2.1], congrArg (Value.int .i64) (by have := HJ.out.2.2; omega), by have := HJ.out.2.2; omega, by first | rfl | trivial⟩, by simp [RowKit.intOf]; omega⟩
                · have hjP : P.take j = P := List.take_of_length_le (by omega)
                  rw [hjP] at hA hV
                  have hAB : A = B0 := by rw [hA, HQ.out.1, HBq.out]
                  rw [hjP, ← hA, ← hV]
                  subst hAB
                  have HV2 := Lib.hid hV
                  clear hA hV hjP hi hpl
                  go_wp2_with fail
                  go_meet
                  refine ⟨rfl, ⟨Vv, rfl, fun h => ?_⟩, HW.out⟩
                  have h2 := HNq.out (by rw [← HQ.out.1]; exact h)
                  exact ⟨by rw [HV2.out, HQ.out.2.2, h2.1], by rw [HQ.out.2.1, h2.2, Int.toNat_natCast]⟩
        case rest =>
          obtain ⟨rfl, ⟨v, rfl, hv⟩, hbw⟩ := hcut
          have HG := Lib.hid (And.intro hv hbw)
          clear hv hbw
          go_upto_region 20 with fail
          go_cut [147] from 118 to 146 (fun a wx => a = .bool false ∧ wx = wc)
          case first =>
            cases B0 with
            | false =>
              obtain ⟨t1, t2⟩ := of_no HQ.out.1.symm
              obtain rfl : T0 = ⟨#[]⟩ := HQ.out.2.1.trans t1
              obtain rfl : K0 = 0 := HQ.out.2.2.trans t2
              clear t1 t2
              go_wp2_with fail
              go_meet
              exact ⟨rfl, rfl⟩
            | true =>
              have hd0 : 0 ≤ D ∧ D ≤ s.size := by
                have h := HQ.out.1.symm
                unfold ofB at h
                simp only [Bool.and_eq_true, decide_eq_true_eq] at h
                have h2 := h.1.1.1
                rw [← HD.out] at h2
                omega
              obtain ⟨d, rfl⟩ : ∃ d : Nat, D = (d : Nat) := ⟨D.toNat, by omega⟩
              obtain ⟨rfl, h2⟩ := HG.out.1 rfl
              rw [Int.toNat_natCast] at h2
              subst h2
              go_wp2_with fail
              go_meet
              exact ⟨rfl, rfl⟩
          case rest =>
            obtain ⟨rfl, rfl⟩ := hcut
            have J5 := Lib.hid (H4.out.2.2.2.trans (HG.out.2.mono H4.out.2.2.2.size))
            have H5 := Lib.hid (And.intro (H4.out.1.trans (HG.out.2.mono H4.out.1.size)) (And.intro (Sp.old2 HG.out.2 H4.out.2.1) (Sp.old2 HG.out.2 H4.out.2.2.1)))
            obtain ⟨⟨l0, l1, l2, l3, l4, l5, l6, l7, l8, l9, l10⟩, _⟩ := Sp.eleven H5.out.2.1
            go_wp2_with fail
            refine (HC.out _ H5.out.1).mono ?_
            rintro e w6 ⟨rfl, hb⟩
            have J6 := Lib.hid (J5.out.trans (hb.mono J5.out.size))
            have H6 := Lib.hid (And.intro (H5.out.1.trans (hb.mono H5.out.1.size)) (And.intro (Sp.old2 hb H5.out.2.1) (Sp.old2 hb H5.out.2.2)))
            clear hb l0 l1 l2 l3 l4 l5 l6 l7 l8 l9 l10
            obtain ⟨⟨l0, l1, l2, l3, l4, l5, l6, l7, l8, l9, l10⟩, _⟩ := Sp.eleven H6.out.2.1
            obtain ⟨⟨r0, r1, r2, r3, r4, r5, r6, r7, r8, r9, r10⟩, _⟩ := Sp.eleven H6.out.2.2
            by_cases hE0 : E = 0
            · have i1 : (((E : Nat) : Int) != 0) = false := by rw [hE0]; rfl
              by_cases hcr : cr.toList.isEmpty = true
              · obtain ⟨rfl, rfl⟩ := H3.out.2.2.2.2.1 (.inl (by rw [HB.out]; show (!cr.toList.isEmpty && decide (E = 0)) = false; rw [hcr]; rfl))
                clear HC HI HO HBy HN HQ HG HD
                go_wp2_with fail
                go_ret
                exact ⟨rfl, H6.out.1⟩
              · have hcr' : cr.toList.isEmpty = false := by simpa using hcr
                by_cases hn1 : 1 ≤ n
                · by_cases hn2 : n ≤ 999999
                  · clear hcr
                    obtain ⟨rfl, hy, hdy⟩ := H3.out.2.2.2.2.2.1 ⟨by rw [HB.out]; show (!cr.toList.isEmpty && decide (E = 0)) = true; rw [hcr', decide_eq_true hE0]; rfl, by unfold nuB; simp; omega⟩
                    obtain ⟨v2, rfl⟩ : ∃ v2 : Nat, n = (v2 : Nat) := ⟨n.toNat, by omega⟩
                    have hv2 : 1 ≤ v2 ∧ v2 ≤ 999999 := by omega
                    have hck := HE.out.symm.trans hE0
                    obtain ⟨hns, hnB⟩ := tpl_nm hck hcr'
                    rw [Int.toNat_natCast] at hy
                    have hin2 := inst_ok (a := ya) (c := yc) hck (nm_of hv2.2 hns hnB)
                    obtain ⟨ho1, ho2, ho3⟩ := of_of hv2.1 hv2.2 hns hnB
                    simp only at hy hns hnB hin2 ho1 ho2 ho3
                    have hsz : (nm ++ ⟨#[46]⟩ ++ ⟨(decDigits v2).toArray⟩ : ByteArray).size ≤ 60 := by
                      rw [size_app, size_app]
                      have h1 : (⟨(decDigits v2).toArray⟩ : ByteArray).size = (decDigits v2).length := rfl
                      have h2 : (⟨#[46]⟩ : ByteArray).size = 1 := rfl
                      have h3 := dec_len 5 v2 (by omega)
                      rw [h1, h2, decDigits_length]; omega
                    generalize (nm ++ ⟨#[46]⟩ ++ ⟨(decDigits v2).toArray⟩ : ByteArray) = N2 at hy hin2 ho1 ho2 ho3 hsz
                    simp only [Spc.mk.injEq] at hy
                    obtain ⟨rfl, rfl, rfl, rfl, -, rfl, -, rfl, rfl, rfl, rfl, rfl, rfl, rfl⟩ := hy
                    have HO2 := Lib.hid (show ∀ W, Below w.heap.size w W → Calls Tryz.prog 7 #[.string ynm] W fun e w' => e = .returned (.tuple #[.string nm, .int .i64 (v2 : Nat), .bool true]) ∧ Below W.heap.size W w' from fun W h => by
                      have q := HO.out W h ynm (by omega)
                      rw [ho1, ho2, ho3] at q
                      exact q)
                    have HK := Lib.hid (And.intro hin2 (And.intro hdy hsz))
                    clear hck hns hnB hin2 ho1 ho2 ho3 hsz hdy
                    clear HI HO HN HQ HG HD
                    go_wp2_with fail
                    refine (HO2.out _ H6.out.1).mono ?_
                    rintro e w7 ⟨rfl, hb⟩
                    obtain ⟨V8, hV8⟩ : ∃ V, V = w7.alloc (.cells #[.string ynm, .string ytn, .int .i64 ypr, .int .i64 ydl, .slice ya yn yc, .int .i64 ybs, .int .i64 ycp, .int .i64 yat, .int .i64 yls, .string ⟨#[]⟩, .int .i64 0] 24) := ⟨_, rfl⟩
                    have h8 : Below w7.heap.size w7 V8 := by rw [hV8]; exact (Below.refl _ w7).alloc (Nat.le_refl _) _
                    have hx8 : V8.heap[w7.heap.size]? = some (.cells #[.string ynm, .string ytn, .int .i64 ypr, .int .i64 ydl, .slice ya yn yc, .int .i64 ybs, .int .i64 ycp, .int .i64 yat, .int .i64 yls, .string ⟨#[]⟩, .int .i64 0] 24 (0, 0)) := by rw [hV8]; exact (MapKept.heap_alloc w7 _).1
                    have hb8 := hb.trans (h8.mono hb.size)
                    have H8 := Lib.hid (And.intro (H6.out.1.trans (hb8.mono H6.out.1.size)) (And.intro (Sp.old2 hb8 H6.out.2.1) (And.intro (Sp.old2 hb8 H6.out.2.2) (And.intro hx8 hV8))))
                    have H7 := Lib.hid (Sp.old2 hb H6.out.2.2)
                    have J8 := Lib.hid (J6.out.trans (hb8.mono J6.out.size))
                    have hlt67 : w6.heap.size ≤ w7.heap.size := hb.size
                    have hls6 : w3.heap.size < w6.heap.size := (Array.getElem?_eq_some_iff.1 H6.out.2.2).1
                    clear hb h8 hx8 hb8 hV8 l0 l1 l2 l3 l4 l5 l6 l7 l8 l9 l10 r0 r1 r2 r3 r4 r5 r6 r7 r8 r9 r10
                    obtain ⟨⟨r0, r1, r2, r3, r4, r5, r6, r7, r8, r9, r10⟩, _⟩ := Sp.eleven H7.out
                    go_wp2_with fail
                    rw [← H8.out.2.2.2.2]
                    clear r0 r1 r2 r3 r4 r5 r6 r7 r8 r9 r10
                    have HS2 := Lib.hid (And.intro hlt67 hls6)
                    obtain ⟨⟨l0, l1, l2, l3, l4, l5, l6, l7, l8, l9, l10⟩, _⟩ := Sp.eleven H8.out.2.1
                    obtain ⟨⟨u0, u1, u2, u3, u4, u5, u6, u7, u8, u9, u10⟩, uf⟩ := Sp.eleven H8.out.2.2.2.1
                    have z0 := uf 0
                    have z9 := uf 9
                    have z10 := uf 10
                    have hss := HS.out
                    have hne7 : w.heap.size ≠ w7.heap.size := by omega
                    have hlt8 : w7.heap.size < V8.heap.size := (Array.getElem?_eq_some_iff.1 H8.out.2.2.2.1).1
                    have hlt80 : w.heap.size < V8.heap.size := by omega
                    go_region
                    obtain ⟨Z, hZ⟩ : ∃ Z, Z = (((V8.setCell ⟨w7.heap.size, 0, none⟩ (.string nm)).setCell ⟨w7.heap.size, 9, none⟩ (.string cr)).setCell ⟨w7.heap.size, 10, none⟩ (.int .i64 ct)).drew := ⟨_, rfl⟩
                    rw [← hZ]
                    clear l0 l1 l2 l3 l4 l5 l6 l7 l8 l9 l10 u0 u1 u2 u3 u4 u5 u6 u7 u8 u9 u10 uf z0 z9 z10
                    have k1 := heap_setCell_same _ _ 0 _ _ (.string nm) H8.out.2.2.2.1
                    have k2 := heap_setCell_same _ _ 9 _ _ (.string cr) k1
                    have k3 := heap_setCell_same _ _ 10 _ _ (.int .i64 ct) k2
                    simp only [List.setIfInBounds_toArray, List.set_cons_zero, List.set_cons_succ] at k3
                    have xr : Z.heap[w7.heap.size]? = some (.cells #[.string nm, .string ytn, .int .i64 ypr, .int .i64 ydl, .slice ya yn yc, .int .i64 ybs, .int .i64 ycp, .int .i64 yat, .int .i64 yls, .string cr, .int .i64 ct] 24 (0, 0)) := by rw [hZ]; exact k3
                    have koth : ∀ k, k ≠ w7.heap.size → Z.heap[k]? = V8.heap[k]? := fun k hk => by
                      rw [hZ]
                      show (((V8.setCell ⟨w7.heap.size, 0, none⟩ (.string nm)).setCell ⟨w7.heap.size, 9, none⟩ (.string cr)).setCell ⟨w7.heap.size, 10, none⟩ (.int .i64 ct)).heap[k]? = _
                      rw [heap_setCell_other _ _ _ _ hk, heap_setCell_other _ _ _ _ hk, heap_setCell_other _ _ _ _ hk]
                    have bz : ∀ N W0, N ≤ w7.heap.size → Below N W0 V8 → Below N W0 Z := fun N W0 hN h => by
                      rw [hZ]
                      exact (((h.setCell (p := ⟨w7.heap.size, 0, none⟩) hN _).setCell (p := ⟨w7.heap.size, 9, none⟩) hN _).setCell (p := ⟨w7.heap.size, 10, none⟩) hN _).drew
                    have hV37 : V3.heap.size ≤ w7.heap.size := by have := J6.out.size; omega
                    have xs := (koth w.heap.size hne7).trans H8.out.2.1
                    have xy := (koth w3.heap.size (by omega)).trans H8.out.2.2.1
                    have bw := bz _ _ (by omega) H8.out.1
                    have b3 := bz _ _ hV37 J8.out
                    have hfx := HFq.out ▸ HFw.out
                    have hdz := HK.out.2.1.old b3
                    obtain ⟨L, hL⟩ : ∃ L, L = specB ⟨nm, ytn, ypr, ydl, ao, yn, c, yds, ybs, ycp, yat, yls, cr, ct⟩ := ⟨_, rfl⟩
                    have HC1 := Lib.hid (show ∀ W, Below Z.heap.size Z W → Calls Tryz.prog 9 #[.agg #[.string ynm, .string ytn, .int .i64 ypr, .int .i64 ydl, .slice ya yn yc, .int .i64 ybs, .int .i64 ycp, .int .i64 yat, .int .i64 yls, .string ⟨#[]⟩, .int .i64 0]] W fun e w' => e = .returned (.int .i64 0) ∧ Below W.heap.size W w' from fun W h => by
                      have q := Sp.RCheck_any ⟨ynm, ytn, ypr, ydl, ya, yn, yc, yds, ybs, ycp, yat, yls, ⟨#[]⟩, 0⟩ (w := W) ⟨hdz.old h, by have := hfx.2.2.2.1; simp only at this ⊢; omega, fun d hd' => by have := hfx.1 d hd'; omega, by have := HK.out.2.2; simp only; omega, by have := hfx.2.2.1; simp only at this ⊢; omega⟩ (by simp)
                      rw [HK.out.1] at q
                      exact q)
                    have HC2 := Lib.hid (show ∀ W, Below Z.heap.size Z W → Calls Tryz.prog 10 #[.agg #[.string nm, .string ytn, .int .i64 ypr, .int .i64 ydl, .slice ya yn yc, .int .i64 ybs, .int .i64 ycp, .int .i64 yat, .int .i64 yls, .string cr, .int .i64 ct]] W fun e w' => e = .returned (Sp.T L) ∧ Below W.heap.size W w' from fun W h => by
                      rw [hL]
                      exact Sp.Bytes_any ⟨nm, ytn, ypr, ydl, ya, yn, yc, yds, ybs, ycp, yat, yls, cr, ct⟩ (w := W) (hdz.old h) HX.out.1 hfx)
                    have HC3 := Lib.hid (show ∀ W, Below Z.heap.size Z W → Calls Tryz.prog 10 #[.agg #[.string nm, .string ytn, .int .i64 ypr, .int .i64 ydl, .slice ao yn c, .int .i64 ybs, .int .i64 ycp, .int .i64 yat, .int .i64 yls, .string cr, .int .i64 ct]] W fun e w' => e = .returned (Sp.T L) ∧ Below W.heap.size W w' from fun W h => by
                      rw [hL]
                      exact HBy.out W (bw.trans (h.mono bw.size)))
                    have HZ1 := Lib.hid (And.intro xs (And.intro xy (And.intro xr bw)))
                    clear k1 k2 k3 xs xy xr bw b3 bz koth hdz hfx hL hZ hV37 HBy HK HO2 HC
                    go_wp2_with fail
                    refine begin' 33 (fun ZZ => Below Z.heap.size Z ZZ) hmix ((Below.refl _ Z).drew) (fun hS0 => ?_)
                    refine Ht.takeD 40 (i := 0) ⟨some 188, _, _, _, _, _⟩ (.int .i64 0) rfl (by kernel_rfl) (by kernel_rfl) (by decide) (by kernel_rfl) (by kernel_rfl) (by kernel_rfl) hS0 (Or.inl ⟨by rfl, by (intro X hX; go_simp)⟩) ?_
                    simp only [Act.put, List.setIfInBounds_toArray, List.set_cons_zero, List.set_cons_succ]
                    refine Ht.takeD 40 (i := 1) ⟨some 189, _, _, _, _, _⟩ (.bool true) rfl (by kernel_rfl) (by kernel_rfl) (by decide) (by kernel_rfl) (by kernel_rfl) (by kernel_rfl) hS0 (Or.inl ⟨by rfl, by (intro X hX; go_simp)⟩) ?_
                    simp only [Act.put, List.setIfInBounds_toArray, List.set_cons_zero, List.set_cons_succ]
                    refine Ht.takeD 40 (i := 2) ⟨some 190, _, _, _, _, _⟩ (.bool true) rfl (by kernel_rfl) (by kernel_rfl) (by decide) (by kernel_rfl) (by kernel_rfl) (by kernel_rfl) hS0 (Or.inl ⟨by rfl, by (intro X hX; go_simp)⟩) ?_
                    simp only [Act.put, List.setIfInBounds_toArray, List.set_cons_zero, List.set_cons_succ]
                    refine Ht.takeD 40 (i := 3) ⟨some 191, _, _, _, _, _⟩ (.bool true) rfl (by kernel_rfl) (by kernel_rfl) (by decide) (by kernel_rfl) (by kernel_rfl) (by kernel_rfl) hS0 (Or.inl ⟨by rfl, by (intro X hX; go_simp)⟩) ?_
                    simp only [Act.put, List.setIfInBounds_toArray, List.set_cons_zero, List.set_cons_succ]
                    refine Ht.takeD 40 (i := 4) ⟨some 192, _, _, _, _, _⟩ (.bool true) rfl (by kernel_rfl) (by kernel_rfl) (by decide) (by kernel_rfl) (by kernel_rfl) (by kernel_rfl) hS0 (Or.inl ⟨by rfl, by (intro X hX; go_simp)⟩) ?_
                    simp only [Act.put, List.setIfInBounds_toArray, List.set_cons_zero, List.set_cons_succ]
                    refine Ht.takeD 40 (i := 5) ⟨some 193, _, _, _, _, _⟩ (.bool true) rfl (by kernel_rfl) (by kernel_rfl) (by decide) (by kernel_rfl) (by kernel_rfl) (by kernel_rfl) hS0 (Or.inl ⟨by rfl, by (intro X hX; go_simp)⟩) ?_
                    simp only [Act.put, List.setIfInBounds_toArray, List.set_cons_zero, List.set_cons_succ]
                    refine Ht.takeD 40 (i := 6) ⟨some 194, _, _, _, _, _⟩ (.string nm) rfl (by kernel_rfl) (by kernel_rfl) (by decide) (by kernel_rfl) (by kernel_rfl) (by kernel_rfl) hS0 (Or.inl ⟨by rfl, by (intro X hX; go_simp)⟩) ?_
                    simp only [Act.put, List.setIfInBounds_toArray, List.set_cons_zero, List.set_cons_succ]
                    refine Ht.takeD 40 (i := 7) ⟨some 195, _, _, _, _, _⟩ (.pointer (some ⟨w.heap.size, 0, none⟩)) rfl (by kernel_rfl) (by kernel_rfl) (by decide) (by kernel_rfl) (by kernel_rfl) (by kernel_rfl) hS0 (Or.inl ⟨by rfl, by (intro X hX; go_simp)⟩) ?_
                    simp only [Act.put, List.setIfInBounds_toArray, List.set_cons_zero, List.set_cons_succ]
                    refine Ht.takeD 40 (i := 8) ⟨some 196, _, _, _, _, _⟩ (.string nm) rfl (by kernel_rfl) (by kernel_rfl) (by decide) (by kernel_rfl) (by kernel_rfl) (by kernel_rfl) hS0 (Or.inl ⟨by rfl, by (intro X hX; have := (Sp.eleven (Sp.old2 hX HZ1.out.1)).1; go_simp)⟩) ?_
                    simp only [Act.put, List.setIfInBounds_toArray, List.set_cons_zero, List.set_cons_succ]
                    refine Ht.takeD 40 (i := 9) ⟨some 197, _, _, _, _, _⟩ (.bool true) rfl (by kernel_rfl) (by kernel_rfl) (by decide) (by kernel_rfl) (by kernel_rfl) (by kernel_rfl) hS0 (Or.inl ⟨by rfl, by (intro X hX; go_simp)⟩) ?_
                    simp only [Act.put, List.setIfInBounds_toArray, List.set_cons_zero, List.set_cons_succ]
                    refine Ht.takeD 40 (i := 10) ⟨some 198, _, _, _, _, _⟩ (.bool true) rfl (by kernel_rfl) (by kernel_rfl) (by decide) (by kernel_rfl) (by kernel_rfl) (by kernel_rfl) hS0 (Or.inl ⟨by rfl, by (intro X hX; go_simp)⟩) ?_
                    simp only [Act.put, List.setIfInBounds_toArray, List.set_cons_zero, List.set_cons_succ]
                    refine Ht.takeD 40 (i := 11) ⟨some 199, _, _, _, _, _⟩ (.bool true) rfl (by kernel_rfl) (by kernel_rfl) (by decide) (by kernel_rfl) (by kernel_rfl) (by kernel_rfl) hS0 (Or.inl ⟨by rfl, by (intro X hX; go_simp)⟩) ?_
                    simp only [Act.put, List.setIfInBounds_toArray, List.set_cons_zero, List.set_cons_succ]
                    refine Ht.takeD 40 (i := 12) ⟨some 200, _, _, _, _, _⟩ (.int .i64 (v2 : Nat)) rfl (by kernel_rfl) (by kernel_rfl) (by decide) (by kernel_rfl) (by kernel_rfl) (by kernel_rfl) hS0 (Or.inl ⟨by rfl, by (intro X hX; go_simp)⟩) ?_
                    simp only [Act.put, List.setIfInBounds_toArray, List.set_cons_zero, List.set_cons_succ]
                    refine Ht.takeD 40 (i := 13) ⟨some 201, _, _, _, _, _⟩ (.int .i64 (v2 : Nat)) rfl (by kernel_rfl) (by kernel_rfl) (by decide) (by kernel_rfl) (by kernel_rfl) (by kernel_rfl) hS0 (Or.inl ⟨by rfl, by (intro X hX; go_simp)⟩) ?_
                    simp only [Act.put, List.setIfInBounds_toArray, List.set_cons_zero, List.set_cons_succ]
                    refine Ht.takeD 40 (i := 14) ⟨some 202, _, _, _, _, _⟩ (.bool true) rfl (by kernel_rfl) (by kernel_rfl) (by decide) (by kernel_rfl) (by kernel_rfl) (by kernel_rfl) hS0 (Or.inl ⟨by rfl, by (intro X hX; go_simp)⟩) ?_
                    simp only [Act.put, List.setIfInBounds_toArray, List.set_cons_zero, List.set_cons_succ]
                    refine Ht.takeD 40 (i := 15) ⟨some 203, _, _, _, _, _⟩ (.bool true) rfl (by kernel_rfl) (by kernel_rfl) (by decide) (by kernel_rfl) (by kernel_rfl) (by kernel_rfl) hS0 (Or.inl ⟨by rfl, by (intro X hX; go_simp)⟩) ?_
                    simp only [Act.put, List.setIfInBounds_toArray, List.set_cons_zero, List.set_cons_succ]
                    refine Ht.takeD 40 (i := 16) ⟨some 204, _, _, _, _, _⟩ (.bool true) rfl (by kernel_rfl) (by kernel_rfl) (by decide) (by kernel_rfl) (by kernel_rfl) (by kernel_rfl) hS0 (Or.inl ⟨by rfl, by (intro X hX; go_simp)⟩) ?_
                    simp only [Act.put, List.setIfInBounds_toArray, List.set_cons_zero, List.set_cons_succ]
                    refine Ht.takeD 40 (i := 17) ⟨some 205, _, _, _, _, _⟩ (.agg #[.string ynm, .string ytn, .int .i64 ypr, .int .i64 ydl, .slice ya yn yc, .int .i64 ybs, .int .i64 ycp, .int .i64 yat, .int .i64 yls, .string ⟨#[]⟩, .int .i64 0]) rfl (by kernel_rfl) (by kernel_rfl) (by decide) (by kernel_rfl) (by kernel_rfl) (by kernel_rfl) hS0 (Or.inl ⟨by rfl, by (intro X hX; have := (Sp.eleven (Sp.old2 hX HZ1.out.2.1)).1; go_simp)⟩) ?_
                    simp only [Act.put, List.setIfInBounds_toArray, List.set_cons_zero, List.set_cons_succ]
                    refine Ht.step (i := 18) ⟨some 206, _, _, _, _, _⟩ rfl (by kernel_rfl) (by rfl) (fun K hK => ?_)
                    refine Ht.enter 9 #[.agg #[.string ynm, .string ytn, .int .i64 ypr, .int .i64 ydl, .slice ya yn yc, .int .i64 ybs, .int .i64 ycp, .int .i64 yat, .int .i64 yls, .string ⟨#[]⟩, .int .i64 0]] (by have hen := fun args w => enters_of (P := Tryz.prog) Tryz.func9 (by kernel_rfl) rfl args w; go_simp) (HC1.out _ hS0) ?_
                    rintro e g1 ⟨rfl, b1⟩
                    have B1 := Lib.hid b1
                    have q1 : Below Z.heap.size Z g1 := hS0.trans (B1.out.mono hS0.size)
                    clear b1
                    refine ⟨_, rfl, hK _ _ (fun hn => q1) (fun hnx => ?_)⟩
                    clear hK K hnx
                    try simp only [Act.put, List.setIfInBounds_toArray, List.set_cons_zero, List.set_cons_succ]
                    refine Ht.takeD 40 (i := 19) ⟨some 207, _, _, _, _, _⟩ (.bool true) rfl (by kernel_rfl) (by kernel_rfl) (by decide) (by kernel_rfl) (by kernel_rfl) (by kernel_rfl) q1 (Or.inl ⟨by rfl, by (intro X hX; go_simp)⟩) ?_
                    simp only [Act.put, List.setIfInBounds_toArray, List.set_cons_zero, List.set_cons_succ]
                    refine Ht.takeD 40 (i := 20) ⟨some 208, _, _, _, _, _⟩ (.bool true) rfl (by kernel_rfl) (by kernel_rfl) (by decide) (by kernel_rfl) (by kernel_rfl) (by kernel_rfl) q1 (Or.inl ⟨by rfl, by (intro X hX; go_simp)⟩) ?_
                    simp only [Act.put, List.setIfInBounds_toArray, List.set_cons_zero, List.set_cons_succ]
                    refine Ht.takeD 40 (i := 21) ⟨some 209, _, _, _, _, _⟩ (.bool true) rfl (by kernel_rfl) (by kernel_rfl) (by decide) (by kernel_rfl) (by kernel_rfl) (by kernel_rfl) q1 (Or.inl ⟨by rfl, by (intro X hX; go_simp)⟩) ?_
                    simp only [Act.put, List.setIfInBounds_toArray, List.set_cons_zero, List.set_cons_succ]
                    refine Ht.takeD 40 (i := 22) ⟨some 210, _, _, _, _, _⟩ (.pointer (some ⟨w3.heap.size, 9, none⟩)) rfl (by kernel_rfl) (by kernel_rfl) (by decide) (by kernel_rfl) (by kernel_rfl) (by kernel_rfl) q1 (Or.inl ⟨by rfl, by (intro X hX; go_simp)⟩) ?_
                    simp only [Act.put, List.setIfInBounds_toArray, List.set_cons_zero, List.set_cons_succ]
                    refine Ht.takeD 40 (i := 23) ⟨some 211, _, _, _, _, _⟩ (.string ⟨#[]⟩) rfl (by kernel_rfl) (by kernel_rfl) (by decide) (by kernel_rfl) (by kernel_rfl) (by kernel_rfl) q1 (Or.inl ⟨by rfl, by (intro X hX; have := (Sp.eleven (Sp.old2 hX HZ1.out.2.1)).1; go_simp)⟩) ?_
                    simp only [Act.put, List.setIfInBounds_toArray, List.set_cons_zero, List.set_cons_succ]
                    refine Ht.takeD 40 (i := 24) ⟨some 212, _, _, _, _, _⟩ (.bool true) rfl (by kernel_rfl) (by kernel_rfl) (by decide) (by kernel_rfl) (by kernel_rfl) (by kernel_rfl) q1 (Or.inl ⟨by rfl, by (intro X hX; go_simp)⟩) ?_
                    simp only [Act.put, List.setIfInBounds_toArray, List.set_cons_zero, List.set_cons_succ]
                    refine Ht.takeD 40 (i := 25) ⟨some 213, _, _, _, _, _⟩ (.bool true) rfl (by kernel_rfl) (by kernel_rfl) (by decide) (by kernel_rfl) (by kernel_rfl) (by kernel_rfl) q1 (Or.inl ⟨by rfl, by (intro X hX; go_simp)⟩) ?_
                    simp only [Act.put, List.setIfInBounds_toArray, List.set_cons_zero, List.set_cons_succ]
                    refine Ht.takeD 40 (i := 26) ⟨some 214, _, _, _, _, _⟩ (.bool true) rfl (by kernel_rfl) (by kernel_rfl) (by decide) (by kernel_rfl) (by kernel_rfl) (by kernel_rfl) q1 (Or.inl ⟨by rfl, by (intro X hX; go_simp)⟩) ?_
                    simp only [Act.put, List.setIfInBounds_toArray, List.set_cons_zero, List.set_cons_succ]
                    refine Ht.takeD 40 (i := 27) ⟨some 215, _, _, _, _, _⟩ (.agg #[.string nm, .string ytn, .int .i64 ypr, .int .i64 ydl, .slice ya yn yc, .int .i64 ybs, .int .i64 ycp, .int .i64 yat, .int .i64 yls, .string cr, .int .i64 ct]) rfl (by kernel_rfl) (by kernel_rfl) (by decide) (by kernel_rfl) (by kernel_rfl) (by kernel_rfl) q1 (Or.inl ⟨by rfl, by (intro X hX; have := (Sp.eleven (Sp.old2 hX HZ1.out.2.2.1)).1; go_simp)⟩) ?_
                    simp only [Act.put, List.setIfInBounds_toArray, List.set_cons_zero, List.set_cons_succ]
                    refine Ht.takeD 40 (i := 29) ⟨some 217, _, _, _, _, _⟩ (.agg #[.string nm, .string ytn, .int .i64 ypr, .int .i64 ydl, .slice ao yn c, .int .i64 ybs, .int .i64 ycp, .int .i64 yat, .int .i64 yls, .string cr, .int .i64 ct]) rfl (by kernel_rfl) (by kernel_rfl) (by decide) (by kernel_rfl) (by kernel_rfl) (by kernel_rfl) q1 (Or.inl ⟨by rfl, by (intro X hX; have := (Sp.eleven (Sp.old2 hX HZ1.out.1)).1; go_simp)⟩) ?_
                    simp only [Act.put, List.setIfInBounds_toArray, List.set_cons_zero, List.set_cons_succ]
                    refine Ht.step (i := 28) ⟨some 216, _, _, _, _, _⟩ rfl (by kernel_rfl) (by rfl) (fun K hK => ?_)
                    refine Ht.enter 10 #[.agg #[.string nm, .string ytn, .int .i64 ypr, .int .i64 ydl, .slice ya yn yc, .int .i64 ybs, .int .i64 ycp, .int .i64 yat, .int .i64 yls, .string cr, .int .i64 ct]] (by have hen := fun args w => enters_of (P := Tryz.prog) Tryz.func10 (by kernel_rfl) rfl args w; go_simp) (HC2.out _ q1) ?_
                    rintro e g2 ⟨rfl, b2⟩
                    have B2 := Lib.hid b2
                    have q2 : Below Z.heap.size Z g2 := q1.trans (B2.out.mono q1.size)
                    clear b2
                    refine ⟨_, rfl, hK _ _ (fun hn => q2) (fun hnx => ?_)⟩
                    clear hK K hnx
                    try simp only [Act.put, List.setIfInBounds_toArray, List.set_cons_zero, List.set_cons_succ]
                    refine Ht.step (i := 30) ⟨some 218, _, _, _, _, _⟩ rfl (by kernel_rfl) (by rfl) (fun K hK => ?_)
                    refine Ht.enter 10 #[.agg #[.string nm, .string ytn, .int .i64 ypr, .int .i64 ydl, .slice ao yn c, .int .i64 ybs, .int .i64 ycp, .int .i64 yat, .int .i64 yls, .string cr, .int .i64 ct]] (by have hen := fun args w => enters_of (P := Tryz.prog) Tryz.func10 (by kernel_rfl) rfl args w; go_simp) (HC3.out _ q2) ?_
                    rintro e g3 ⟨rfl, b3⟩
                    have B3 := Lib.hid b3
                    have q3 : Below Z.heap.size Z g3 := q2.trans (B3.out.mono q2.size)
                    clear b3
                    refine ⟨_, rfl, hK _ _ (fun hn => q3) (fun hnx => ?_)⟩
                    clear hK K hnx
                    try simp only [Act.put, List.setIfInBounds_toArray, List.set_cons_zero, List.set_cons_succ]
                    refine Ht.takeD 40 (i := 31) ⟨some 219, _, _, _, _, _⟩ (.bool true) rfl (by kernel_rfl) (by kernel_rfl) (by decide) (by kernel_rfl) (by kernel_rfl) (by kernel_rfl) q3 (Or.inl ⟨by rfl, by (intro X hX; go_simp)⟩) ?_
                    simp only [Act.put, List.setIfInBounds_toArray, List.set_cons_zero, List.set_cons_succ]
                    refine Ht.takeD 40 (i := 32) ⟨some 220, _, _, _, _, _⟩ (.bool true) rfl (by kernel_rfl) (by kernel_rfl) (by decide) (by kernel_rfl) (by kernel_rfl) (by kernel_rfl) q3 (Or.inl ⟨by rfl, by (intro X hX; go_simp)⟩) ?_
                    simp only [Act.put, List.setIfInBounds_toArray, List.set_cons_zero, List.set_cons_succ]
                    refine Ht.step (i := 33) ⟨some 6, _, _, _, _, _⟩ rfl (by kernel_rfl) (by rfl) (fun K hK => ?_)
                    go_simp
                    refine hK _ _ (fun hn => absurd rfl hn) (fun hnx => ?_)
                    clear hK K hnx
                    try simp only [Act.put, List.setIfInBounds_toArray, List.set_cons_zero, List.set_cons_succ]
                    refine done (by kernel_rfl) ?_
                    have Q3 := Lib.hid q3
                    clear q1 q2 q3 B1 B2 B3 hS0
                    go_wp2_with fail
                    go_ret
                    exact ⟨rfl, HZ1.out.2.2.2.trans (Q3.out.mono HZ1.out.2.2.2.size)⟩
                  · have hn2' : 999999 < n := by omega
                    obtain ⟨rfl, rfl⟩ := H3.out.2.2.2.2.1 (.inr (by unfold nuB; simp; omega))
                    clear HC HI HO HBy HN HQ HG HD
                    go_wp2_with fail
                    go_ret
                    exact ⟨rfl, H6.out.1⟩
                · have hn1' : n < 1 := by omega
                  obtain ⟨rfl, rfl⟩ := H3.out.2.2.2.2.1 (.inr (by unfold nuB; simp; omega))
                  clear HC HI HO HBy HN HQ HG HD
                  go_wp2_with fail
                  go_ret
                  exact ⟨rfl, H6.out.1⟩
            · have i1 : (((E : Nat) : Int) != 0) = true := by simpa using hE0
              obtain ⟨rfl, rfl⟩ := H3.out.2.2.2.2.1 (.inl (by rw [HB.out, decide_eq_false hE0, Bool.and_false]))
              clear HC HI HO HBy HN HQ HG HD
              go_wp2_with fail
              go_ret
              exact ⟨rfl, H6.out.1⟩

end Go.Proofs.YtkkanggkbbmfnaaGreatDoor.Ct

/- crontab: CrontabNames, for whatever comes -/
namespace Go.Proofs.YtkkanggkbbmfnaaGreatDoor.Ct
open Go.RowKit Go.Lib Go.Proofs.YtkkanggkbbmfnaaGreatDoor.Cn
open Sp (Spc)
theorem names_law (x : Spc) (n : Int) (s : ByteArray) (hn : (Lit.int .i64 n).wf = true) (hs : s.size ≤ maxLen) {w : World} (hwf : x.wf) (hd : Sp.Dp w x.a x.n x.ds) (hm : x.n ≤ maxLen) (hg : Gd w ∧ Tz w) :
    Calls Tryz.prog 3 #[.agg x.cells, .int .i64 n, .string s] w fun e w' => e = .returned (.bool true) ∧ Below w.heap.size w w' := by
  have hn2 : Ca.I64 n := by unfold Ca.I64; simpa [Lit.wf, IntKind.min, IntKind.max, IntKind.signed, IntKind.bits] using hn
  exact names16 x n s hn2 hwf hd hm (by unfold maxLen at hs; omega) hg.1 hg.2
end Go.Proofs.YtkkanggkbbmfnaaGreatDoor.Ct

/- the tables and errors that a text reads, out of what the row lists -/
namespace Go.Proofs.YtkkanggkbbmfnaaGreatDoor.CtL
open Go.ChangeShapes Go.WideShapes Go.ChangeAt Go.RowKit Go.Proofs.YtkkanggkbbmfnaaGreatDoor.Cn Go.Proofs.YtkkanggkbbmfnaaGreatDoor.CnL

def laidL : List (String × DataW Unit) := [("math/bits.deBruijn32tab", Rows.laid_math_bits_deBruijn32tab), ("math/bits.deBruijn64tab", Rows.laid_math_bits_deBruijn64tab), ("internal/strconv.uint64pow10", Rows.laid_internal_strconv_uint64pow10), ("unicode/utf8.acceptRanges", Rows.laid_unicode_utf8_acceptRanges), ("strconv.ErrRange", Rows.laid_strconv_ErrRange), ("strconv.ErrSyntax", Rows.laid_strconv_ErrSyntax), ("compline/cron.fields", Rows.laid_compline_cron_fields), ("unicode/utf8.first", Rows.laid_unicode_utf8_first)]
theorem tab_of {W : World} {l : List (String × DataW Unit)} (h : laidMet Tryz.prog l W) (hm : ("math/bits.deBruijn64tab", Rows.laid_math_bits_deBruijn64tab) ∈ l) :
    ∀ j, j < 64 → W.cell? ⟨5, j, none⟩ = some (.int .u8 (Lib.deBruijn64tab.getD j 0 : Nat)) := by
  obtain ⟨g, t, cs, fuel, p, hg, ht, hv, hd⟩ := Lib.laidMet.reads h hm
  obtain rfl := Option.some.inj ((show Tryz.prog.globalNamed "math/bits.deBruijn64tab" = some 5 by kernel_rfl).symm.trans hg)
  obtain rfl := Option.some.inj ((show (Tryz.prog.globals[5]?).map (·.type) = some 152 by kernel_rfl).symm.trans ht)
  have hd2 : DataW.trod (fun _ => ()) Tryz.prog W 0 (fun _ => true) false fuel 152 cs.toList = some (Lib.tabData .u8 (Lib.deBruijn64tab.map fun n => ((n : Nat) : Int)), p) := hd
  have hc := Lib.cells_of_tab Tryz.underlying152 Tryz.underlying5 (by kernel_rfl) (by kernel_rfl) hd2
  intro j hj
  rw [World.var?_cell hg hv j, ← Array.getElem?_toList, hc]
  have hlen : Lib.deBruijn64tab.length = 64 := rfl
  simp only [List.getElem?_map, List.getD]
  rw [List.getElem?_eq_getElem (by omega : j < Lib.deBruijn64tab.length)]
  rfl
theorem star : "*errors.errorString" = "*" ++ "errors.errorString" := by decide
theorem rowE (u : TypeId) (h : Tryz.prog.typeName? 3 u = some "*errors.errorString") : u = 145 :=
  typeName_ptr_named (nm := "errors.errorString") (by rw [← star]; kernel_rfl) (by kernel_rfl) (by decide) u (by rw [← star]; exact h)
theorem undE : ∃ ms, Tryz.prog.underlying 45 = some (.interface ms) := ⟨_, Tryz.underlying45⟩
theorem undP : Tryz.prog.underlying 145 = some (.pointer 147) := Tryz.underlying145
theorem undS : ∃ f, Tryz.prog.underlying 147 = some (.struct #[f]) ∧ f.type = 9 ∧ f.offset = 0 := ⟨_, Tryz.underlying147, rfl, rfl⟩
theorem sent {n : String} {text : List UInt8} {r : List (String × DataW Unit)} {W : World} {g : Nat} (h : laidMet Tryz.prog ((n, .iface "*errors.errorString" (.ptr (.agg [.lit (.string text)]))) :: r) W)
    (hg : Tryz.prog.globalNamed n = some g) (ht : (Tryz.prog.globals[g]?).map (·.type) = some 45) : ∃ ev, W.cell? ⟨g, 0, none⟩ = some ev ∧ (ev = .nilIface ∨ ∃ te pe, ev = .iface te pe) := by
  obtain ⟨ms, hi⟩ := undE
  obtain ⟨f, hf, h1, h2⟩ := undS
  obtain ⟨a, s, hv, _⟩ := laid_sentinel h hg ht hi rowE undP hf h1 h2 (by kernel_rfl) (by kernel_rfl) (by kernel_rfl)
  exact ⟨_, by simpa using World.var?_cell hg hv 0, .inr ⟨_, _, rfl⟩⟩
theorem gl_of {W : World} (h : laidMetH Tryz.prog laidL W) (hsh : W.ShapedOpen Tryz.prog) : Gd W ∧ Ct.Tz W := by
  rw [MakeChecks.laidMetH_plain _ _ _ (by kernel_rfl)] at h
  have h1 := laidMet.tail h
  have h2 := laidMet.tail h1
  have h3 := laidMet.tail h2
  have h4 := laidMet.tail h3
  have h5 := laidMet.tail h4
  exact ⟨⟨⟨mx_of hsh, fields_of h (.tail _ (.tail _ (.tail _ (.tail _ (.tail _ (.tail _ (.head _)))))))⟩, tab_of h (.tail _ (.head _))⟩,
    Lib.tabIs_of_head (g := 4) (k := .u64) (zs := Lib.pow10Tab) (by kernel_rfl) (by kernel_rfl) Tryz.underlying140 Tryz.underlying54 (by kernel_rfl) (by kernel_rfl) h2,
    sent h5 (by kernel_rfl) (by kernel_rfl), sent h4 (by kernel_rfl) (by kernel_rfl)⟩
theorem met_laid (os : Os) (args : Array Value) : laidMetH Tryz.prog laidL ((World.laidAll Tryz.prog os laidL).forCall (fun _ _ => 0) ⟨#[], args, []⟩).memory := by
  rw [MakeChecks.laidMetH_plain _ _ _ (by kernel_rfl)]; exact laidMet_laidAll _ (by kernel_rfl) (by kernel_rfl)
end Go.Proofs.YtkkanggkbbmfnaaGreatDoor.CtL

/- CrontabNames holds for every spec, number and text: the n-th instance of a template may be, is like it, and its name tells both; other names tell none; the tables and the two errors of the library that are read are as the texts lay them; no other condition -/
namespace Go.Proofs.YtkkanggkbbmfnaaGreatDoor.crontabNames
open Go.ChangeShapes Go.WideShapes Go.ChangeAt Go.RowKit
open Go.ChangeMaps (open_string shut_string)
set_option linter.unusedVariables false

theorem own : ownKnob Tryz.prog.godebug = none := by kernel_rfl
theorem laidOut : laidOutB Tryz.prog = true := by kernel_rfl

set_option maxRecDepth 100000 in
theorem lifted (os : Os) (started : os.Started) (H : Type) (enc : TypeId × Value → H) :
    ReturnsInHanded {} Tryz.checked os 3 .any (fun w args => (Rows.crontabNamesSpec.pre enc Tryz.prog Tryz.f3 [] false w args ∧ laidMetH Tryz.prog CtL.laidL w) ∧ sizedMet enc Tryz.prog Tryz.f3 (OpenSpec.ofChange Rows.crontabNamesSpec) false w args) (Rows.crontabNamesSpec.post enc Tryz.prog Tryz.f3 false true false false) := by
  refine Sh.handed (C := Tryz.checked) (X := fun w _ => laidMetH Tryz.prog CtL.laidL w) (fun _ _ _ hh h => h.of_heap hh) own started (by kernel_rfl) Tryz.func3
    (ChangeSpec.witness_shaped (enc := enc) (C := Tryz.checked) (os := os) (X := fun w _ => laidMetH Tryz.prog CtL.laidL w) false (World.laidAll Tryz.prog os CtL.laidL) #[.agg #[.string ⟨#[]⟩, .string ⟨#[]⟩, .int .i64 0, .int .i64 0, .slice none 0 0, .int .i64 0, .int .i64 0, .int .i64 0, .int .i64 0, .string ⟨#[]⟩, .int .i64 0], .int .i64 0, .string ⟨#[]⟩] 8 (World.laidAll_os _ _ _) (World.shaped_of_ZipB (by kernel_rfl) (by kernel_rfl)) (by kernel_rfl) (by kernel_rfl) (by kernel_rfl) (CtL.met_laid _ _)) ?_
  intro W base args ds gs before hval0 hW hcnd hL hsh
  have hval : ∀ (j : Nat) t v, Tryz.f3.params[j]? = some t → args[j]? = some v → Value.okWide Tryz.prog W .any base t v := hval0
  have hW' := hW
  obtain ⟨p, q, hA0, hV, rfl, hfz, hnd⟩ := hW
  have hA : DataW.TrodAll enc Tryz.prog W 0 (fun _ => true) true Tryz.f3.params.toList args.toList ds p := hA0
  rw [Tryz.params3] at hA hval
  obtain ⟨v0, vs0, d0, ds0, p0, q0, hargs, rfl, rfl, h0, r0⟩ := trodAll_cons hA
  obtain ⟨v1, vs1, d1, ds1, p1, q1, rfl, rfl, rfl, h1, r1⟩ := trodAll_cons r0
  obtain ⟨v2, vs2, d2, ds2, p2, q2, rfl, rfl, rfl, h2, r2⟩ := trodAll_cons r1
  obtain ⟨rfl, rfl, rfl⟩ := trodAll_nil r2
  obtain rfl : args = #[v0, v1, v2] := by cases args; simp_all
  obtain ⟨rfl, rfl⟩ := trodVars_none hV
  have k0 := h0
  have lt0 : ∀ x ∈ p0, x.block < W.heap.size := by obtain ⟨m, hm⟩ := k0; exact DataW.trod_lt m _ _ _ hm
  obtain ⟨m0, rfl, e0⟩ := SpPa.open_spec (hval 0 24 v0 rfl rfl) h0
  obtain ⟨m1, rfl, rfl, rfl, w1⟩ := open_int Tryz.underlying3 (hval 1 3 v1 rfl rfl) h1
  obtain ⟨a2, rfl, rfl, rfl, w2⟩ := open_string Tryz.underlying9 (hval 2 9 v2 rfl rfl) h2
  clear hA0 hval0
  have hn := CtL.gl_of hL hsh
  refine (Ct.names_law m0 m1 a2 w1 w2 e0.1 e0.2.1 e0.2.2 hn).mono fun e W' ⟨he, bel⟩ => ?_
  subst he
  exact ⟨_, rfl, _, _, _, [], _, [], hW', trodAll_mk1 (shut_bool Tryz.underlying4 _), (trodAll_cons_mk (Below.trod laidOut (by kernel_rfl) (of_decide_eq_true (by kernel_rfl)) k0 bel lt0) (trodAll_cons_mk (shut_int Tryz.underlying3 w1) (trodAll_cons_mk (shut_string Tryz.underlying9 w2) trodAll_mk0))), rfl, bel.frame _, fun h => by cases h⟩

theorem over : Rows.crontabNamesRow.holds Tryz.pinned (OpenSpec.ofChange Rows.crontabNamesSpec) :=
  OpenClaim.holds_of_wide 3 Tryz.f3 rfl rfl rfl rfl rfl rfl rfl ⟨rfl, rfl, rfl, rfl, rfl⟩ rfl rfl rfl rfl rfl (by kernel_rfl) Tryz.func3 (by kernel_rfl)
    (of_decide_eq_true (by kernel_rfl)) (by unfold Func.isWrapper; first | (rw [if_pos (by decide +kernel)]; kernel_rfl) | (rw [if_neg (by decide +kernel)]; exact ⟨rfl, rfl⟩))
    (fun os started H enc _ => lifted os started H enc)

theorem proved : Rows.CrontabNamesCardSaid :=
  Claim7.holds_tied_plain_at .later [] [.data, .data, .data, .data, .sentinel, .sentinel, .wider, .pinned] true _ true over (fun _ h => by cases h) (by kernel_rfl) (fun _ h => by cases h) crontabNames_row_tie rfl ⟨rfl, rfl⟩ (by kernel_rfl) rfl
    (fun f fn hf hfn => by
      obtain rfl : f = 3 := Option.some.inj ((show Tryz.prog.funcNamed "compline/complinelaw16.CrontabNames" = some 3 by kernel_rfl).symm.trans hf) |>.symm
      obtain rfl : fn = Tryz.f3 := (Option.some.inj (Tryz.func3.symm.trans hfn)).symm
      exact ⟨by kernel_rfl, fun j t ht => by
        rw [Tryz.params3] at ht
        have hm : t ∈ [24, 3, 9] := by simpa using Array.mem_of_getElem? ht
        have hall : ([24, 3, 9].all fun u => !Tryz.prog.wantsStandIn u) = true := by kernel_rfl
        exact (show Tryz.prog.wantsStandIn t = false by simpa using List.all_eq_true.1 hall t hm)⟩)
    (by kernel_rfl)
#print axioms proved
end Go.Proofs.YtkkanggkbbmfnaaGreatDoor.crontabNames
