
/- commands: as they lie, their bytes (mathematics), which fields a kind has -/
import Derived.Test.YtcodjknhnhdkfaaDoorSpB
import Derived.Test.YtcodjknhnhdkfaaDoorCm3
namespace Go.Proofs.YtcodjknhnhdkfaaDoor.Cm
open Go.RowKit Go.Lib Wn Rf By
set_option linter.unusedVariables false
set_option maxRecDepth 20000
/-- a command as it came -/
structure Cmd where
  kd : Int
  nm : ByteArray
  wk : ByteArray
  tk : Nat
  vl : Int
  sp : Sp.Spc
structure Req where
  cl : Nat
  nu : Nat
  c : Cmd
def Cmd.cells (c : Cmd) : Array Value := #[.int .i64 c.kd, .string c.nm, .string c.wk, .int .u64 c.tk, .int .i64 c.vl, .string c.sp.nm, .string c.sp.tn, .int .i64 c.sp.pr, .int .i64 c.sp.dl, .slice c.sp.a c.sp.n c.sp.c, .int .i64 c.sp.bs, .int .i64 c.sp.cp, .int .i64 c.sp.at', .int .i64 c.sp.ls, .string c.sp.cr, .int .i64 c.sp.ct]
def Req.cells (q : Req) : Array Value := #[.int .u64 q.cl, .int .u64 q.nu, .int .i64 q.c.kd, .string q.c.nm, .string q.c.wk, .int .u64 q.c.tk, .int .i64 q.c.vl, .string q.c.sp.nm, .string q.c.sp.tn, .int .i64 q.c.sp.pr, .int .i64 q.c.sp.dl, .slice q.c.sp.a q.c.sp.n q.c.sp.c, .int .i64 q.c.sp.bs, .int .i64 q.c.sp.cp, .int .i64 q.c.sp.at', .int .i64 q.c.sp.ls, .string q.c.sp.cr, .int .i64 q.c.sp.ct]
def Cmd.wf (c : Cmd) : Prop := Sp.W64 c.kd ∧ U64 c.tk ∧ Sp.W64 c.vl ∧ c.sp.wf
def Req.wf (q : Req) : Prop := U64 q.cl ∧ U64 q.nu ∧ q.c.wf
def bS (k : Int) : Bool := decide (k = 1)
def bW (k : Int) : Bool := decide (k = 2)
def bN (k : Int) : Bool := decide (3 ≤ k) && decide (k ≤ 8)
def bT (k : Int) : Bool := decide (3 ≤ k) && decide (k ≤ 5)
def bV (k : Int) : Bool := decide (k = 4) || decide (k = 9)
def part (b : Bool) (l : List UInt8) : List UInt8 := if b then l else []
/-- a kind, by its fields -/
inductive Cls (k : Int) : Prop
  | spec (h : k = 1)
  | worker (h : k = 2)
  | two (h : k = 3 ∨ k = 5)
  | three (h : k = 4)
  | name (h : k = 6 ∨ k = 7 ∨ k = 8)
  | value (h : k = 9)
  | none (h : k < 1 ∨ 9 < k)
theorem cls (k : Int) : Cls k := by
  by_cases h1 : k = 1
  · exact .spec h1
  by_cases h2 : k = 2
  · exact .worker h2
  by_cases h3 : k = 3 ∨ k = 5
  · exact .two h3
  by_cases h4 : k = 4
  · exact .three h4
  by_cases h5 : k = 6 ∨ k = 7 ∨ k = 8
  · exact .name h5
  by_cases h6 : k = 9
  · exact .value h6
  · exact .none (by omega)
def tailC (c : Cmd) : List UInt8 := part (bS c.kd) (Sp.specB c.sp) ++ (part (bW c.kd) (textB c.wk) ++ (part (bN c.kd) (textB c.nm) ++ (part (bT c.kd) (uvarint c.tk) ++ part (bV c.kd) (Sp.zz c.vl))))
def cmdB (c : Cmd) : List UInt8 := uvarint c.kd.toNat ++ tailC c
def reqB (q : Req) : List UInt8 := uvarint q.cl ++ (uvarint q.nu ++ cmdB q.c)
def isK (k : Int) : Bool := decide (0 ≤ k) && decide (k ≤ 9)
/-- a spec that is none -/
def zsp : Sp.Spc := ⟨⟨#[]⟩, ⟨#[]⟩, 0, 0, Option.none, 0, 0, [], 0, 0, 0, 0, ⟨#[]⟩, 0⟩
/-- two commands the same, as far as is asked -/
def Cmd.eqv (a b : Cmd) : Prop := a.kd = b.kd ∧ a.nm = b.nm ∧ a.wk = b.wk ∧ a.tk = b.tk ∧ a.vl = b.vl ∧ Sp.specB a.sp = Sp.specB b.sp
/-- with the fields that the kind has; the spec's row is another one -/
def Only (c o : Cmd) : Prop := o.kd = c.kd ∧ o.nm = (if bN c.kd then c.nm else ⟨#[]⟩) ∧ o.wk = (if bW c.kd then c.wk else ⟨#[]⟩) ∧ o.tk = (if bT c.kd then c.tk else 0) ∧ o.vl = (if bV c.kd then c.vl else 0) ∧
  o.sp = (if bS c.kd then { c.sp with a := o.sp.a, c := o.sp.c } else zsp)
theorem part_inj {b : Bool} {x y s t : List UInt8} (hi : ∀ s t, x ++ s = y ++ t → x = y ∧ s = t) (h : part b x ++ s = part b y ++ t) : (b = true → x = y) ∧ s = t := by
  unfold part at h
  cases b with
  | true => simp only [if_true] at h; have := hi _ _ h; exact ⟨fun _ => this.1, this.2⟩
  | false => simp only [Bool.false_eq_true, if_false, List.nil_append] at h; exact ⟨(fun h => by cases h), h⟩
theorem spec_cut {x y : Sp.Spc} (hx : x.ds.length = x.n) (hy : y.ds.length = y.n) {s t : List UInt8} (h : Sp.specB x ++ s = Sp.specB y ++ t) : Sp.specB x = Sp.specB y ∧ s = t := by
  have h0 := h
  unfold Sp.specB Sp.headB Sp.tailB at h
  simp only [List.append_assoc] at h
  obtain ⟨h1, h⟩ := Sp.tx_inj h
  obtain ⟨h2, h⟩ := Sp.tx_inj h
  obtain ⟨h3, h⟩ := Sp.zz_inj h
  obtain ⟨h4, h⟩ := Sp.zz_inj h
  obtain ⟨hn, h⟩ := Sp.uv_inj _ _ _ _ _ (Nat.le_refl _) h
  obtain ⟨h5, h⟩ := Sp.row_inj (by rw [hx, hy, hn]) h
  obtain ⟨h6, h⟩ := Sp.zz_inj h
  obtain ⟨h7, h⟩ := Sp.zz_inj h
  obtain ⟨h8, h⟩ := Sp.zz_inj h
  obtain ⟨h9, h⟩ := Sp.zz_inj h
  obtain ⟨h10, h⟩ := Sp.tx_inj h
  obtain ⟨h11, h⟩ := Sp.zz_inj h
  exact ⟨(Sp.eqv_iff hx hy).1 ⟨h1, h2, h3, h4, h5, h6, h7, h8, h9, h10, h11⟩, h⟩
theorem isK_iff {k : Int} : isK k = true ↔ 0 ≤ k ∧ k ≤ 9 := by unfold isK; simp
/-- the bytes tell what counts, and no more -/
theorem req_iff {p q : Req} {a b : Cmd} (hp : isK p.c.kd = true) (hq : isK q.c.kd = true) (dp : p.c.sp.ds.length = p.c.sp.n) (dq : q.c.sp.ds.length = q.c.sp.n) (ha : Only p.c a) (hb : Only q.c b) :
    reqB p = reqB q ↔ p.cl = q.cl ∧ p.nu = q.nu ∧ a.eqv b := by
  have hp' := isK_iff.1 hp
  have hq' := isK_iff.1 hq
  obtain ⟨a1, a2, a3, a4, a5, a6⟩ := ha
  obtain ⟨b1, b2, b3, b4, b5, b6⟩ := hb
  have sa : ∀ {x y : Sp.Spc}, x = { y with a := x.a, c := x.c } → Sp.specB x = Sp.specB y := fun {x y} h => by rw [h]; rfl
  constructor
  · intro h
    unfold reqB cmdB tailC at h
    obtain ⟨h1, h⟩ := uvr_inj _ _ _ _ h
    obtain ⟨h2, h⟩ := uvr_inj _ _ _ _ h
    obtain ⟨h3, h⟩ := uvr_inj _ _ _ _ h
    have hk : p.c.kd = q.c.kd := by omega
    rw [hk] at h
    obtain ⟨h4, h⟩ := part_inj (fun s t => spec_cut dp dq) h
    obtain ⟨h5, h⟩ := part_inj (fun s t h => let q := Sp.tx_inj h; ⟨by rw [q.1], q.2⟩) h
    obtain ⟨h6, h⟩ := part_inj (fun s t h => let q := Sp.tx_inj h; ⟨by rw [q.1], q.2⟩) h
    obtain ⟨h7, h⟩ := part_inj (fun s t h => let q := uvr_inj _ _ _ _ h; ⟨by rw [q.1], q.2⟩) h
    have h8 : bV q.c.kd = true → Sp.zz p.c.vl = Sp.zz q.c.vl := (part_inj (s := []) (t := []) (fun s t h => let q := Sp.zz_inj h; ⟨by rw [q.1], q.2⟩) (by rw [List.append_nil, List.append_nil]; exact h)).1
    have tx : ∀ {x y : ByteArray}, textB x = textB y → x = y := fun {x y} h => (Sp.tx_inj (s := []) (t := []) (by rw [h])).1
    refine ⟨h1, h2, by rw [a1, b1, hk], ?_, ?_, ?_, ?_, ?_⟩
    · rw [a2, b2, hk]
      split
      · exact tx (h6 ‹_›)
      · rfl
    · rw [a3, b3, hk]
      split
      · exact tx (h5 ‹_›)
      · rfl
    · rw [a4, b4, hk]
      split
      · exact (uvr_inj _ _ [] [] (by rw [h7 ‹_›])).1
      · rfl
    · rw [a5, b5, hk]
      split
      · exact (Sp.zz_inj (s := []) (t := []) (by rw [h8 ‹_›])).1
      · rfl
    · rw [hk] at a6
      cases hs : bS q.c.kd with
      | true => rw [hs, if_pos rfl] at a6 b6; rw [sa a6, sa b6]; exact h4 hs
      | false => rw [hs, if_neg (by simp)] at a6 b6; rw [a6, b6]
  · rintro ⟨h1, h2, h3, h4, h5, h6, h7, h8⟩
    have hk : p.c.kd = q.c.kd := by rw [← a1, ← b1, h3]
    rw [a2, b2, hk] at h4
    rw [a3, b3, hk] at h5
    rw [a4, b4, hk] at h6
    rw [a5, b5, hk] at h7
    rw [hk] at a6
    unfold reqB cmdB tailC part
    rw [h1, h2, hk]
    have e1 : (if bS q.c.kd = true then Sp.specB p.c.sp else []) = if bS q.c.kd = true then Sp.specB q.c.sp else [] := by
      cases hs : bS q.c.kd with
      | true => rw [hs, if_pos rfl] at a6 b6; rw [if_pos rfl, if_pos rfl, ← sa a6, ← sa b6]; exact h8
      | false => rfl
    have e2 : (if bW q.c.kd = true then textB p.c.wk else []) = if bW q.c.kd = true then textB q.c.wk else [] := by
      cases hs : bW q.c.kd with
      | true => rw [hs, if_pos rfl, if_pos rfl] at h5; rw [h5]
      | false => rfl
    have e3 : (if bN q.c.kd = true then textB p.c.nm else []) = if bN q.c.kd = true then textB q.c.nm else [] := by
      cases hs : bN q.c.kd with
      | true => rw [hs, if_pos rfl, if_pos rfl] at h4; rw [h4]
      | false => rfl
    have e4 : (if bT q.c.kd = true then uvarint p.c.tk else []) = if bT q.c.kd = true then uvarint q.c.tk else [] := by
      cases hs : bT q.c.kd with
      | true => rw [hs, if_pos rfl, if_pos rfl] at h6; rw [h6]
      | false => rfl
    have e5 : (if bV q.c.kd = true then Sp.zz p.c.vl else []) = if bV q.c.kd = true then Sp.zz q.c.vl else [] := by
      cases hs : bV q.c.kd with
      | true => rw [hs, if_pos rfl, if_pos rfl] at h7; rw [h7]
      | false => rfl
    rw [e1, e2, e3, e4, e5]
end Go.Proofs.YtcodjknhnhdkfaaDoor.Cm
