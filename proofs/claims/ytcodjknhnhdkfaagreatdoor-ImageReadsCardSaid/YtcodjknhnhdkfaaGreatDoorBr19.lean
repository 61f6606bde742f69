/- who stands on whom: what a walk finds (of no program) -/
import Derived.Test.YtcodjknhnhdkfaaGreatDoorBrMv
import Derived.Test.YtcodjknhnhdkfaaGreatDoorBrHs
import Derived.Test.YtcodjknhnhdkfaaGreatDoorAo
import Derived.DeepKeys4
import Derived.Lib.Hide
import Derived.Laws.NewBlocks
import Derived.OwnWalk
import Derived.Deep.QuietTactic
import Derived.BigQuiet
import Derived.StillTailTactics
import Derived.Deep.RegionWith
namespace Go.Proofs.YtcodjknhnhdkfaaGreatDoor.Dg
set_option linter.unusedVariables false
section
variable {I : Type}
/-- in one step or more -/
inductive Re (R : I → I → Bool) (s : I) : I → Prop
  | one {x : I} : R s x = true → Re R s x
  | more {x y : I} : Re R s x → R x y = true → Re R s y
theorem Re.head {R : I → I → Bool} {s x y : I} (h : R s x = true) (k : Re R x y) : Re R s y := by
  induction k with
  | one e => exact .more (.one h) e
  | more _ e ih => exact .more ih e
theorem Re.flip {R : I → I → Bool} {s x : I} (h : Re R s x) : Re (fun a b => R b a) x s := by
  induction h with
  | one e => exact .one e
  | more _ e ih => exact .head e ih
theorem flip_iff {R : I → I → Bool} {s x : I} : Re (fun a b => R b a) x s ↔ Re R s x := ⟨fun h => Re.flip (R := fun a b => R b a) h, Re.flip⟩
theorem Re.last {R : I → I → Bool} {s x : I} (h : Re R s x) : ∃ y, R y x = true := by
  cases h with
  | one e => exact ⟨_, e⟩
  | more _ e => exact ⟨_, e⟩
/-- a walk between its steps -/
structure WI (R : I → I → Bool) (s : I) (F : I → Prop) (rest : List I) : Prop where
  found : ∀ x, F x → Re R s x
  row : ∀ x ∈ rest, x = s ∨ F x
  closed : ∀ x, (x = s ∨ F x) → x ∉ rest → ∀ y, R x y = true → F y
theorem WI.start (R : I → I → Bool) (s : I) : WI R s (fun _ => False) [s] :=
  ⟨fun _ h => h.elim, fun x h => .inl (by simpa using h), fun x h k => by
    rcases h with rfl | h
    · simp at k
    · exact h.elim⟩
theorem WI.done {R : I → I → Bool} {s : I} {F : I → Prop} (h : WI R s F []) (x : I) : F x ↔ Re R s x := by
  constructor
  · exact h.found x
  · intro k
    induction k with
    | one e => exact h.closed s (.inl rfl) (by simp) _ e
    | more _ e ih => exact h.closed _ (.inr ih) (by simp) _ e
/-- a walk within a step: of x these are told -/
structure WJ (R : I → I → Bool) (s x : I) (es : List I) (F : I → Prop) (rest : List I) : Prop where
  found : ∀ z, F z → Re R s z
  row : ∀ z ∈ rest, z = s ∨ F z
  self : x = s ∨ F x
  closed : ∀ z, (z = s ∨ F z) → z ∉ rest → z ≠ x → ∀ y, R z y = true → F y
  told : ∀ y ∈ es, F y
theorem WI.step {R : I → I → Bool} {s x : I} {F : I → Prop} {rest : List I} (h : WI R s F (rest ++ [x])) : WJ R s x [] F rest :=
  ⟨h.found, fun z hz => h.row z (by simp [hz]), h.row x (by simp), fun z hz hn hx => h.closed z hz (by simp [hn, hx]), by simp⟩
theorem WJ.old {R : I → I → Bool} {s x y : I} {es : List I} {F : I → Prop} {rest : List I} (h : WJ R s x es F rest) (hy : F y) : WJ R s x (es ++ [y]) F rest :=
  ⟨h.found, h.row, h.self, h.closed, fun z hz => by
    rw [List.mem_append, List.mem_singleton] at hz
    rcases hz with hz | rfl
    · exact h.told z hz
    · exact hy⟩
theorem WJ.new {R : I → I → Bool} {s x y : I} {es : List I} {F : I → Prop} {rest : List I} (h : WJ R s x es F rest) (hy : R x y = true) : WJ R s x (es ++ [y]) (fun z => z = y ∨ F z) (rest ++ [y]) where
  found z hz := by
    rcases hz with rfl | hz
    · rcases h.self with e | e
      · rw [e] at hy; exact .one hy
      · exact .more (h.found _ e) hy
    · exact h.found z hz
  row z hz := by
    rw [List.mem_append, List.mem_singleton] at hz
    rcases hz with hz | rfl
    · exact (h.row z hz).imp_right .inr
    · exact .inr (.inl rfl)
  self := h.self.imp_right .inr
  closed z hz hn hx u hu := by
    rw [List.mem_append, List.mem_singleton] at hn
    refine .inr (h.closed z ?_ (fun e => hn (.inl e)) hx u hu)
    rcases hz with hz | rfl | hz
    · exact .inl hz
    · exact absurd (.inr rfl) hn
    · exact .inr hz
  told z hz := by
    rw [List.mem_append, List.mem_singleton] at hz
    rcases hz with hz | rfl
    · exact .inr (h.told z hz)
    · exact .inl rfl
theorem WJ.done {R : I → I → Bool} {s x : I} {es : List I} {F : I → Prop} {rest : List I} (h : WJ R s x es F rest) (hes : ∀ y, R x y = true → y ∈ es) : WI R s F rest :=
  ⟨h.found, h.row, fun z hz hn y hy => by
    rcases Classical.em (z = x) with e | e
    · subst e; exact h.told y (hes y hy)
    · exact h.closed z hz hn e y hy⟩
end
end Go.Proofs.YtcodjknhnhdkfaaGreatDoor.Dg
namespace Go.Proofs.YtcodjknhnhdkfaaGreatDoor.DgB
open Go.RowKit Go.Lib Hp Mv Dg
set_option linter.unusedVariables false
set_option maxRecDepth 20000

/-- a key, and whether it is NaN -/
abbrev Id := (List UInt8) × Bool
def kv (k : (List UInt8)) : Value := .string ⟨k.toArray⟩
def ek (x : Id) : Value := .agg #[kv x.1, .bool x.2]
def okK (k : (List UInt8)) : Prop := k.length ≤ maxLen
def wk (x : Id) : Prop := okK x.1
theorem laidOut : laidOutB Tryz.prog = true := by kernel_rfl
theorem idRow : (115 : TypeId) < Tryz.prog.types.size := of_decide_eq_true (by kernel_rfl)
theorem idWide : (match Tryz.prog.underlying 115 with | some (.array _ _) | some (.struct _) => true | _ => false) = true := by rw [Tryz.underlying115]
theorem law : WideMaps.KeyLaw Tryz.prog 115 := deep_law_laid laidOut (m := 2) (by omega) idRow (by kernel_rfl) idWide
theorem cellsId : Tryz.prog.cellsOf 115 = 2 := by kernel_rfl
theorem cellsK : Tryz.prog.cellsOf 9 = 1 := by kernel_rfl
theorem cellsBool : Tryz.prog.cellsOf 4 = 1 := by kernel_rfl
theorem keyT : Tryz.prog.keyType 115 = true := by kernel_rfl
theorem depth : ∃ d, Tryz.prog.types.size = d + 1 := ⟨Tryz.prog.types.size - 1, by have : 0 < Tryz.prog.types.size := of_decide_eq_true (by kernel_rfl); omega⟩
theorem lits_k (d : Nat) {k : (List UInt8)} (h : okK k) : Tryz.prog.keyLits (d + 1) 9 [kv k] = some [.string k] := by
  unfold okK at h
  unfold Program.keyLits
  rw [Tryz.underlying9]
  unfold kv
  have e : (⟨k.toArray⟩ : ByteArray).size = k.length := by show k.toArray.size = _; simp
  simp [e, h]
theorem lits_b (d : Nat) (b : Bool) : Tryz.prog.keyLits (d + 1) 4 [.bool b] = some [.bool b] := by
  unfold Program.keyLits
  rw [Tryz.underlying4]
theorem key_of (x : Id) (h : wk x) : ∃ l, keyOf Tryz.prog 115 (ek x) = some l := by
  obtain ⟨d, hd⟩ := depth
  unfold keyOf
  rw [Tryz.underlying115]
  have hf : (ek x).formed Tryz.prog 115 = true := by unfold ek Value.formed; simp [Tryz.underlying115, cellsId]
  dsimp only
  rw [keyT, hf, hd]
  simp only [Bool.and_true, if_true]
  unfold Program.keyLits
  rw [Tryz.underlying115]
  simp only [ek, Value.cells, cellsId]
  simp [lits_k d h, lits_b d, cellsK, cellsBool]
theorem key_back (v : Value) (l : Lit) (h : keyOf Tryz.prog 115 v = some l) : ∃ x, v = ek x ∧ wk x := by
  obtain ⟨d, hd⟩ := depth
  unfold keyOf at h
  rw [Tryz.underlying115] at h
  dsimp only at h
  rw [keyT, hd] at h
  simp only [Bool.true_and] at h
  split at h
  case isFalse => cases h
  rename_i hf
  simp only [Option.map_eq_some_iff] at h
  obtain ⟨ls, h, _⟩ := h
  have hv : ∃ a b, v = .agg #[a, b] := by
    unfold Value.formed at hf
    rw [Tryz.underlying115] at hf
    cases v <;> simp [cellsId] at hf
    rename_i cs
    obtain ⟨l⟩ := cs
    rcases l with _ | ⟨a, _ | ⟨b, _ | ⟨c, l⟩⟩⟩ <;> simp at hf
    exact ⟨a, b, rfl⟩
  obtain ⟨a, b, rfl⟩ := hv
  unfold Program.keyLits at h
  rw [Tryz.underlying115] at h
  simp [Value.cells, cellsId, cellsK, cellsBool] at h
  cases h1 : Tryz.prog.keyLits (d + 1) 9 [a] with
  | none => rw [h1] at h; simp at h
  | some l1 =>
  cases h2 : Tryz.prog.keyLits (d + 1) 4 [b] with
  | none => rw [h1, h2] at h; simp at h
  | some l2 =>
  unfold Program.keyLits at h1 h2
  rw [Tryz.underlying9] at h1
  rw [Tryz.underlying4] at h2
  have ha : ∃ k, a = kv k ∧ okK k := by
    cases a <;> simp at h1
    rename_i s
    refine ⟨s.data.toList, by unfold kv; simp, ?_⟩
    unfold okK
    have e : s.data.toList.length = s.size := by show s.data.toList.length = s.data.size; simp
    omega
  have hb : ∃ c, b = .bool c := by cases b <;> simp at h2; exact ⟨_, rfl⟩
  obtain ⟨k, rfl, hk⟩ := ha
  obtain ⟨c, rfl⟩ := hb
  exact ⟨(k, c), rfl, hk⟩
theorem ek_inj (x y : Id) (h : ek x = ek y) : x = y := by
  obtain ⟨a, b⟩ := x
  obtain ⟨c, d⟩ := y
  unfold ek kv at h
  simp at h
  exact Prod.ext h.1 h.2
def unit : Value := .agg #[]
theorem kindOf {t te : TypeId} {z : Value} (ht : Tryz.prog.underlying t = some (.map 115 te)) (hz : ∀ w, (zeroValue te).run Tryz.prog w = .ok z w) : Mv.Kind Tryz.prog t 115 te z ek wk where
  map := ht
  zero := hz
  keyed := Maps.Keyed.of_law law
  key := key_of
  inj := ek_inj
  back := key_back
theorem kindN : Mv.Kind Tryz.prog 104 115 118 (.pointer none) ek wk := kindOf Tryz.underlying104 (fun w => by go_simp)
theorem kindS : Mv.Kind Tryz.prog 120 115 136 unit ek wk := kindOf Tryz.underlying120 (fun w => by kernel_rfl)
end Go.Proofs.YtcodjknhnhdkfaaGreatDoor.DgB
namespace Go.Proofs.YtcodjknhnhdkfaaGreatDoor.DgB
open Go.RowKit Go.Lib Hp Mv Dg Ht
set_option linter.unusedVariables false
set_option maxRecDepth 20000

abbrev Mq (w : World) (b n : Nat) (f : Id → Option Value) : Prop := Mv.Mp Tryz.prog 115 ek wk w b n f
/-- what the map of the nodes has -/
def nf (ns : List Id) (nb : Id → Nat) : Id → Option Value := fun x => if x ∈ ns then some (.pointer (some ⟨nb x, 0, none⟩)) else none
/-- what a set has -/
def sf (p : Id → Bool) : Id → Option Value := fun x => if p x = true then some unit else none
theorem sf_some (p : Id → Bool) (x : Id) : (sf p x).isSome = p x := by unfold sf; cases p x <;> rfl
/-- a graph in memory; all blocks of S its own -/
structure Gq (S : Nat → Prop) (w : World) (gb : Nat) (mv : Option Nat) (ns : List Id) (E : Id → Id → Bool) (nb ob ub : Id → Nat) : Prop where
  obj : w.heap[gb]? = some (.cells #[.map mv] 106 (0, 0))
  map : (mv = none ∧ ns = []) ∨ ∃ b, mv = some b ∧ Mq w b ns.length (nf ns nb)
  node : ∀ x ∈ ns, w.heap[nb x]? = some (.cells #[kv x.1, .map (some (ob x)), .map (some (ub x))] 122 (0, 0))
  on : ∀ x ∈ ns, ∃ n, Mq w (ob x) n (sf fun y => E x y)
  users : ∀ x ∈ ns, ∃ n, Mq w (ub x) n (sf fun y => E y x)
  edge : ∀ x y, E x y = true → x ∈ ns ∧ y ∈ ns
  ok : ∀ x ∈ ns, wk x ∧ x.2 = false
  nd : ns.Nodup
  dOO : ∀ x ∈ ns, ∀ y ∈ ns, ob x = ob y → x = y
  dUU : ∀ x ∈ ns, ∀ y ∈ ns, ub x = ub y → x = y
  dOU : ∀ x ∈ ns, ∀ y ∈ ns, ob x ≠ ub y
  dM : ∀ b, mv = some b → ∀ x ∈ ns, ob x ≠ b ∧ ub x ≠ b
  ownG : S gb
  ownM : ∀ b, mv = some b → S b
  ownN : ∀ x ∈ ns, S (nb x) ∧ S (ob x) ∧ S (ub x)
  size : ∀ k, S k → k < w.heap.size
section
variable {S : Nat → Prop} {w : World} {gb : Nat} {mv : Option Nat} {ns : List Id} {E : Id → Id → Bool} {nb ob ub : Id → Nat}
theorem Gq.kept {Y : World} (h : Gq S w gb mv ns E nb ob ub) (hs : w.heap.size ≤ Y.heap.size) (e : ∀ k, S k → Y.heap[k]? = w.heap[k]?) : Gq S Y gb mv ns E nb ob ub where
  obj := (e gb h.ownG).trans h.obj
  map := h.map.imp_right fun ⟨b, h1, h2⟩ => ⟨b, h1, h2.kept (e b (h.ownM b h1))⟩
  node x hx := (e _ (h.ownN x hx).1).trans (h.node x hx)
  on x hx := by obtain ⟨n, hm⟩ := h.on x hx; exact ⟨n, hm.kept (e _ (h.ownN x hx).2.1)⟩
  users x hx := by obtain ⟨n, hm⟩ := h.users x hx; exact ⟨n, hm.kept (e _ (h.ownN x hx).2.2)⟩
  edge := h.edge
  ok := h.ok
  nd := h.nd
  dOO := h.dOO
  dUU := h.dUU
  dOU := h.dOU
  dM := h.dM
  ownG := h.ownG
  ownM := h.ownM
  ownN := h.ownN
  size k hk := Nat.lt_of_lt_of_le (h.size k hk) hs
theorem Gq.below {Y : World} {B : Nat} (h : Gq S w gb mv ns E nb ob ub) (b : Below B w Y) (hB : w.heap.size ≤ B) : Gq S Y gb mv ns E nb ob ub :=
  h.kept b.size fun k hk => b.block k (Nat.lt_of_lt_of_le (h.size k hk) hB)
theorem Gq.fr {S' : Nat → Prop} {Y : World} (h : Gq S w gb mv ns E nb ob ub) (e : Fr S' w Y) (hd : ∀ k, S k → ¬ S' k) : Gq S Y gb mv ns E nb ob ub :=
  h.kept e.size fun k hk => e.block k (h.size k hk) (hd k hk)
theorem Gq.cell (h : Gq S w gb mv ns E nb ob ub) : w.cell? ⟨gb, 0, none⟩ = some (.map mv) := by rw [cell_of_row w gb 0 _ _ _ h.obj]; rfl
theorem Gq.frozen (h : Gq S w gb mv ns E nb ob ub) : w.frozen? ⟨gb, 0, none⟩ = false := by simp [World.frozen?, h.obj]
theorem Gq.nodeC (h : Gq S w gb mv ns E nb ob ub) {x : Id} (hx : x ∈ ns) : w.cell? ⟨nb x, 0, none⟩ = some (kv x.1) ∧ w.cell? ⟨nb x, 1, none⟩ = some (.map (some (ob x))) ∧ w.cell? ⟨nb x, 2, none⟩ = some (.map (some (ub x))) := by
  have e := h.node x hx
  refine ⟨?_, ?_, ?_⟩ <;> (rw [cell_of_row w _ _ _ _ _ e]; rfl)
theorem Gq.look {Y : World} (h : Gq S w gb mv ns E nb ob ub) (e : ∀ b, mv = some b → Y.heap[b]? = w.heap[b]?) {x : Id} (hx : wk x) :
    (Instr.lookup 104 (.map mv) (ek x) false).run Tryz.prog Y = .ok (if x ∈ ns then .pointer (some ⟨nb x, 0, none⟩) else .pointer none) Y := by
  rcases h.map with ⟨rfl, rfl⟩ | ⟨b, rfl, hm⟩
  · rw [look1_nil kindN Y hx, if_neg (by simp)]
  · rw [hm.look1 kindN (e b rfl) hx]
    unfold nf
    split <;> rfl
end
/-- a graph -/
def Gd (S : Nat → Prop) (w : World) (gb : Nat) (ns : List Id) (E : Id → Id → Bool) : Prop := ∃ mv nb ob ub, Gq S w gb mv ns E nb ob ub
theorem results_c1 {fn : Func} {p : Tmp} {ty : TypeId} (h : fn.results = #[.cell p ty]) (tmps : Array Value) (P : Program) (w : World) :
    (results fn tmps).run P w = ((asAddr (tmps.getD p undef)).run P w).andThen fun a w₁ => (loadVar ty a).run P w₁ := by
  simp only [results, h]
  simp [Sem.run_bind, Result.andThen]
theorem below_drewN {B : Nat} {a w : World} (h : Below B a w) (n : Nat) : Below B a (w.drewN n) := ⟨h.os, h.tape, h.output, h.size, h.block⟩
/-- a cell of two -/
theorem cell_id (w : World) (x : Id) : (w.alloc (.cells #[kv x.1, .bool x.2] 115)).cell? ⟨w.heap.size, 0, none⟩ = some (kv x.1) ∧ (w.alloc (.cells #[kv x.1, .bool x.2] 115)).cell? ⟨w.heap.size, 1, none⟩ = some (.bool x.2) := by
  have h := (MapKept.heap_alloc w (.cells #[kv x.1, .bool x.2] 115)).1
  constructor <;> (rw [cell_of_row _ _ _ _ _ _ h]; rfl)
theorem idOf_any (k : (List UInt8)) (w : World) : Calls Tryz.prog 55 #[kv k] w fun e w' => e = .returned (ek (k, false)) ∧ Below w.heap.size w w' := by
  unfold ek kv
  go_enter Tryz.func55, Tryz.ntmps55
  go_wp2_with fail
  (try simp only [Exit.inBlock, Exit.then])
  refine bodyPost_ret (v := .agg #[.string ⟨k.toArray⟩, .bool false]) ?_ rfl ⟨rfl, ?_⟩
  · rw [results_c1 rfl]
    go_simp
  · (repeat' (first | exact Below.refl _ _ | refine Below.setCell ?_ (by simp <;> omega) _ | refine Below.alloc ?_ (by simp <;> omega) _))
theorem new_any (w : World) : Calls Tryz.prog 28 #[] w fun e w' => e = .returned (.pointer (some ⟨w.heap.size, 0, none⟩)) ∧ Gd (fun k => k = w.heap.size) w' w.heap.size [] (fun _ _ => false) ∧ Below w.heap.size w w' := by
  go_enter Tryz.func28, Tryz.ntmps28
  go_wp2_with fail
  go_ret
  refine ⟨by simp, ⟨none, fun _ => 0, fun _ => 0, fun _ => 0, (MapKept.heap_alloc w _).1, .inl ⟨rfl, rfl⟩, ?_, ?_, ?_, ?_, ?_, List.nodup_nil, ?_, ?_, ?_, ?_, rfl, ?_, ?_, ?_⟩, (Below.refl _ _).alloc (Nat.le_refl _) _⟩
  all_goals first | (intro k hk; simp; omega) | (intro b e; cases e) | (intro x hx; simp at hx) | (intro x y h; cases h)
  all_goals simp
section
variable {S : Nat → Prop} {w : World} {gb : Nat} {mv : Option Nat} {ns : List Id} {E : Id → Id → Bool} {nb ob ub : Id → Nat}
theorem has_any (q : Gq S w gb mv ns E nb ob ub) (x : Id) (hx : wk x) : Calls Tryz.prog 56 #[.pointer (some ⟨gb, 0, none⟩), ek x] w fun e w' => e = .returned (.bool (decide (x ∈ ns))) ∧ Below w.heap.size w w' := by
  obtain ⟨V, hV⟩ : ∃ V, V = w.alloc (.cells #[kv x.1, .bool x.2] 115) := ⟨_, rfl⟩
  have hb : Below w.heap.size w V := by rw [hV]; exact (Below.refl _ w).alloc (Nat.le_refl _) _
  have q2 := q.below hb (Nat.le_refl _)
  have c0 := q2.cell
  have hl : ∀ n, (Instr.lookup 104 (.map mv) (.agg #[kv x.1, .bool x.2]) false).run Tryz.prog (V.drewN n) = .ok (if x ∈ ns then .pointer (some ⟨nb x, 0, none⟩) else .pointer none) (V.drewN n) := fun n => q2.look (Y := V.drewN n) (fun b e => rfl) hx
  obtain ⟨c1, c2⟩ := cell_id w x
  rw [← hV] at c1 c2
  have HB := Lib.hid hb
  clear q2 q hb
  unfold ek
  generalize kv x.1 = k1 at *
  generalize x.2 = k2 at *
  by_cases hm : x ∈ ns
  all_goals
    first | rw [if_pos hm] at hl | rw [if_neg hm] at hl
    have HM := Lib.hid hm
    first | rw [decide_eq_true hm] | rw [decide_eq_false hm]
    clear hm
    go_enter Tryz.func56, Tryz.ntmps56
    go_wp2_with fail
    rw [← hV]
    clear hV
    go_quiet (fail)
    go_wp2_with fail
    go_ret
    exact ⟨by simp, below_drewN HB.out _⟩
end
end Go.Proofs.YtcodjknhnhdkfaaGreatDoor.DgB
namespace Go.Proofs.YtcodjknhnhdkfaaGreatDoor.DgB
open Go.RowKit Go.Lib Hp Mv Dg Ht
set_option linter.unusedVariables false
set_option maxRecDepth 20000
theorem same_cell {X V : World} (h : X.heap = V.heap) {a : Addr} {v : Value} (c : V.cell? a = some v) : X.cell? a = some v := by
  unfold World.cell? at c ⊢; rw [h]; exact c
/-- one more -/
def addE (E : Id → Id → Bool) (x o : Id) : Id → Id → Bool := fun a b => E a b || (decide (a = x) && decide (b = o))
theorem addE_iff {E : Id → Id → Bool} {x o a b : Id} : addE E x o a b = true ↔ E a b = true ∨ (a = x ∧ b = o) := by unfold addE; simp
section
variable {S : Nat → Prop} {w : World} {gb : Nat} {mv : Option Nat} {ns : List Id} {E : Id → Id → Bool} {nb ob ub : Id → Nat}
/-- its sets are small -/
theorem Gq.on_le (q : Gq S w gb mv ns E nb ob ub) {x : Id} {n : Nat} (h : Mq w (ob x) n (sf fun y => E x y)) : n ≤ ns.length :=
  h.card_le kindS fun k _ hk => by rw [sf_some] at hk; exact (q.edge _ _ hk).2
theorem Gq.users_le (q : Gq S w gb mv ns E nb ob ub) {x : Id} {n : Nat} (h : Mq w (ub x) n (sf fun y => E y x)) : n ≤ ns.length :=
  h.card_le kindS fun k _ hk => by rw [sf_some] at hk; exact (q.edge _ _ hk).1
/-- what both stores leave -/
theorem Gq.joined {x o : Id} {X Y : World} {n m : Nat} (q : Gq S w gb mv ns E nb ob ub) (hx : x ∈ ns) (ho : o ∈ ns) (g1 : w.grownBy X (some (ob x))) (g2 : X.grownBy Y (some (ub o)))
    (h1 : Mq X (ob x) n (Mv.upd (sf fun y => E x y) o unit)) (h2 : Mq Y (ub o) m (Mv.upd (sf fun y => E y o) x unit)) : Gq S Y gb mv ns (addE E x o) nb ob ub ∧ Fr S w Y := by
  have f1 : Fr S w X := Fr.grown g1 (.inl (q.ownN x hx).2.1)
  have f2 : Fr S X Y := Fr.grown g2 (.inl (q.ownN o ho).2.2)
  have hk : ∀ k, S k → k ≠ ob x → k ≠ ub o → Y.heap[k]? = w.heap[k]? := fun k hk e1 e2 =>
    (g2.block k (Nat.lt_of_lt_of_le (q.size k hk) g1.size) (fun e => e2 (Option.some.inj e))).trans (g1.block k (q.size k hk) (fun e => e1 (Option.some.inj e)))
  obtain ⟨n0, hOx⟩ := q.on x hx
  obtain ⟨m0, hUo⟩ := q.users o ho
  have cO : ∀ y ∈ ns, ∀ {c : Array Value} {t : TypeId} {z : Nat × Nat} {g : Nat}, w.heap[g]? = some (.cells c t z) → g ≠ ob y ∧ g ≠ ub y := fun y hy c t z g h => by
    obtain ⟨_, h3⟩ := q.on y hy
    obtain ⟨_, h4⟩ := q.users y hy
    exact ⟨(h3.ne h).symm, (h4.ne h).symm⟩
  refine ⟨⟨?_, ?_, ?_, ?_, ?_, ?_, q.ok, q.nd, q.dOO, q.dUU, q.dOU, q.dM, q.ownG, q.ownM, q.ownN, fun k hk => Nat.lt_of_lt_of_le (q.size k hk) (Nat.le_trans g1.size g2.size)⟩, f1.trans f2 fun y hy => .inl hy⟩
  · exact (hk gb q.ownG (cO x hx q.obj).1 (cO o ho q.obj).2).trans q.obj
  · exact q.map.imp_right fun ⟨b, e, hm⟩ => ⟨b, e, hm.kept (hk b (q.ownM b e) (fun e2 => (q.dM b e x hx).1 e2.symm) (fun e2 => (q.dM b e o ho).2 e2.symm))⟩
  · intro y hy
    exact (hk _ (q.ownN y hy).1 (cO x hx (q.node y hy)).1 (cO o ho (q.node y hy)).2).trans (q.node y hy)
  · intro y hy
    by_cases e : y = x
    · subst e
      refine ⟨n, (h1.kept (g2.block _ h1.lt fun e => q.dOU y hx o ho (Option.some.inj e))).congr fun k _ => ?_⟩
      unfold Mv.upd sf addE
      by_cases e : k = o <;> simp [e]
    · obtain ⟨n1, h3⟩ := q.on y hy
      refine ⟨n1, (h3.kept (hk _ (q.ownN y hy).2.1 (fun e2 => e (q.dOO y hy x hx e2)) (q.dOU y hy o ho))).congr fun k _ => ?_⟩
      unfold sf addE
      simp [e]
  · intro y hy
    by_cases e : y = o
    · subst e
      refine ⟨m, h2.congr fun k _ => ?_⟩
      unfold Mv.upd sf addE
      by_cases e : k = x <;> simp [e]
    · obtain ⟨n1, h3⟩ := q.users y hy
      refine ⟨n1, (h3.kept (hk _ (q.ownN y hy).2.2 (fun e2 => q.dOU x hx y hy e2.symm) (fun e2 => e (q.dUU y hy o ho e2)))).congr fun k _ => ?_⟩
      unfold sf addE
      simp [e]
  · intro a b h
    rcases addE_iff.1 h with h | ⟨rfl, rfl⟩
    · exact q.edge a b h
    · exact ⟨hx, ho⟩
set_option maxHeartbeats 2000000 in
theorem join_any (q : Gq S w gb mv ns E nb ob ub) (x o : Id) (hx : x ∈ ns) (ho : o ∈ ns) (hn : ns.length ≤ 1000000) : Calls Tryz.prog 57 #[.pointer (some ⟨gb, 0, none⟩), ek x, ek o] w fun e w' => e = .returned (.tuple #[]) ∧ Gq S w' gb mv ns (addE E x o) nb ob ub ∧ Fr S w w' := by
  obtain ⟨V1, hV1⟩ : ∃ V, V = w.alloc (.cells #[kv x.1, .bool x.2] 115) := ⟨_, rfl⟩
  obtain ⟨V, hV⟩ : ∃ V, V = V1.alloc (.cells #[kv o.1, .bool o.2] 115) := ⟨_, rfl⟩
  have hb1 : Below w.heap.size w V1 := by rw [hV1]; exact (Below.refl _ w).alloc (Nat.le_refl _) _
  have hb2 : Below V1.heap.size V1 V := by rw [hV]; exact (Below.refl _ V1).alloc (Nat.le_refl _) _
  have hb : Below w.heap.size w V := hb1.trans (hb2.mono hb1.size)
  have q2 := q.below hb (Nat.le_refl _)
  have c0 := q2.cell
  have cx : V.cell? ⟨w.heap.size, 0, none⟩ = some (kv x.1) ∧ V.cell? ⟨w.heap.size, 1, none⟩ = some (.bool x.2) := by
    obtain ⟨c1, c2⟩ := cell_id w x
    rw [← hV1] at c1 c2
    have hl : w.heap.size < V1.heap.size := by rw [hV1]; simp
    exact ⟨(hb2.cell (p := ⟨w.heap.size, 0, none⟩) hl).trans c1, (hb2.cell (p := ⟨w.heap.size, 1, none⟩) hl).trans c2⟩
  have co : V.cell? ⟨V1.heap.size, 0, none⟩ = some (kv o.1) ∧ V.cell? ⟨V1.heap.size, 1, none⟩ = some (.bool o.2) := by rw [hV]; exact cell_id V1 o
  have hz : V1.heap.size = w.heap.size + 1 := by rw [hV1]; simp
  rw [hz] at co
  obtain ⟨n, hO⟩ := q2.on x hx
  have hon := q2.on_le hO
  obtain ⟨X, hrX, hOX, gX, sX⟩ := Mv.Mp.put kindS (w := V.drew) hO (by unfold maxLen; omega) (q2.ok o ho).1 unit
  have q3 : Gq S V.drew gb mv ns E nb ob ub := q2.kept (Nat.le_refl _) (fun _ _ => rfl)
  have hXo : ∀ k, S k → k ≠ ob x → X.heap[k]? = V.heap[k]? := fun k hk e => gX.block k (q3.size k hk) (fun e2 => e (Option.some.inj e2))
  have hXl : ∀ k, k < V.heap.size → ¬ S k → X.heap[k]? = V.heap[k]? := fun k hk e => gX.block k hk (fun e2 => e (by obtain rfl := Option.some.inj e2; exact (q2.ownN x hx).2.1))
  have n1 : ¬ S w.heap.size := fun e => by have := q.size _ e; omega
  have n2 : ¬ S (w.heap.size + 1) := fun e => by have := q.size _ e; omega
  have hzV : V.heap.size = w.heap.size + 1 + 1 := by rw [hV, ← hz]; simp
  have oc : ∀ g, g ≠ ob x → S g → ∀ k, X.cell? ⟨g, k, none⟩ = V.cell? ⟨g, k, none⟩ := fun g e hg k => by unfold World.cell?; rw [hXo g hg e]
  have oc2 : ∀ g, g < V.heap.size → ¬ S g → ∀ k, X.cell? ⟨g, k, none⟩ = V.cell? ⟨g, k, none⟩ := fun g e hg k => by unfold World.cell?; rw [hXl g e hg]
  have cxX : X.cell? ⟨w.heap.size, 0, none⟩ = some (kv x.1) ∧ X.cell? ⟨w.heap.size, 1, none⟩ = some (.bool x.2) := by rw [oc2 _ (by omega) n1, oc2 _ (by omega) n1]; exact cx
  have coX : X.cell? ⟨w.heap.size + 1, 0, none⟩ = some (kv o.1) ∧ X.cell? ⟨w.heap.size + 1, 1, none⟩ = some (.bool o.2) := by rw [oc2 _ (by omega) n2, oc2 _ (by omega) n2]; exact co
  have c0X : X.cell? ⟨gb, 0, none⟩ = some (.map mv) := by rw [oc _ (hO.ne q2.obj).symm q2.ownG]; exact c0
  have ndo : X.cell? ⟨nb o, 2, none⟩ = some (.map (some (ub o))) := by rw [oc _ (hO.ne (q2.node o ho)).symm (q2.ownN o ho).1]; exact (q2.nodeC ho).2.2
  have ndx := (q2.nodeC hx).2.1
  obtain ⟨m, hU⟩ := q2.users o ho
  have hUn := q2.users_le hU
  have hUX := hU.kept (hXo _ (q2.ownN o ho).2.2 (fun e => q2.dOU x hx o ho e.symm))
  obtain ⟨Y, hrY, hUY, gY, sY⟩ := Mv.Mp.put kindS (w := X.drew) hUX (by unfold maxLen; omega) (q2.ok x hx).1 unit
  have lx : ∀ Z : World, Z.heap = V.heap → (Instr.lookup 104 (.map mv) (.agg #[kv x.1, .bool x.2]) false).run Tryz.prog Z = .ok (.pointer (some ⟨nb x, 0, none⟩)) Z := fun Z h => by
    have := q2.look (Y := Z) (fun b e => by rw [h]) (q2.ok x hx).1
    rw [if_pos hx] at this; exact this
  have lo : ∀ Z : World, Z.heap = X.heap → (Instr.lookup 104 (.map mv) (.agg #[kv o.1, .bool o.2]) false).run Tryz.prog Z = .ok (.pointer (some ⟨nb o, 0, none⟩)) Z := fun Z h => by
    have := q2.look (Y := Z) (fun b e => by rw [h]; exact hXo b (q2.ownM b e) (fun e2 => (q2.dM b e x hx).1 e2.symm)) (q2.ok o ho).1
    rw [if_pos ho] at this; exact this
  obtain ⟨hJ, hF⟩ := q3.joined hx ho gX (⟨gY.os, gY.tape, gY.output, gY.size, gY.block⟩ : X.grownBy Y (some (ub o))) hOX hUY
  have HJ := Lib.hid (And.intro hJ (And.intro hF hb))
  clear hJ hF hb q3 q2 q hO hon hU hUn hUX gX gY sX sY hOX hUY hXo hXl n1 n2 oc oc2 hb1 hb2 hx ho hn
  have hzH := Lib.hid hz
  have hzV2 := Lib.hid hzV
  have HV := Lib.hid (And.intro hV1 hV)
  clear hzV
  unfold ek at hrX hrY ⊢
  generalize kv x.1 = x1 at *
  generalize kv o.1 = o1 at *
  generalize x.2 = x2 at *
  generalize o.2 = o2 at *
  generalize nb x = nx at *
  generalize nb o = no at *
  generalize ob x = ox at *
  generalize ub o = uo at *
  unfold unit at hrX hrY
  have hmix : Tryz.prog.follows .mixedOrders = true := by kernel_rfl
  go_enter Tryz.func57, Tryz.ntmps57
  go_wp2_with fail
  rw [← hV1]
  rw [← hV]
  clear hV hV1
  refine begin' 99 (fun _ => True) hmix trivial (fun _ => ?_)
  refine later [11] (fun Z => Z.heap = V.heap) (rfl) (fun hS0 => ?_)
  refine Ht.takeS 10 (i := 0) ⟨some 6, _, _, _, _, _⟩ (.pointer (some ⟨gb, 0, none⟩)) rfl (by kernel_rfl) (by kernel_rfl) (by kernel_rfl) (by kernel_rfl) (by kernel_rfl) hS0 (Or.inl ⟨by rfl, by (intro X hX; go_simp)⟩) ?_
  simp only [Act.put, List.setIfInBounds_toArray, List.set_cons_zero, List.set_cons_succ]
  refine Ht.takeS 10 (i := 1) ⟨some 7, _, _, _, _, _⟩ (.pointer (some ⟨gb, 0, none⟩)) rfl (by kernel_rfl) (by kernel_rfl) (by kernel_rfl) (by kernel_rfl) (by kernel_rfl) hS0 (Or.inl ⟨by rfl, by (intro X hX; go_simp)⟩) ?_
  simp only [Act.put, List.setIfInBounds_toArray, List.set_cons_zero, List.set_cons_succ]
  refine Ht.takeS 10 (i := 2) ⟨some 8, _, _, _, _, _⟩ (.pointer (some ⟨gb, 0, none⟩)) rfl (by kernel_rfl) (by kernel_rfl) (by kernel_rfl) (by kernel_rfl) (by kernel_rfl) hS0 (Or.inl ⟨by rfl, by (intro X hX; go_simp)⟩) ?_
  simp only [Act.put, List.setIfInBounds_toArray, List.set_cons_zero, List.set_cons_succ]
  refine Ht.takeS 10 (i := 3) ⟨some 9, _, _, _, _, _⟩ (.map mv) rfl (by kernel_rfl) (by kernel_rfl) (by kernel_rfl) (by kernel_rfl) (by kernel_rfl) hS0 (Or.inl ⟨by rfl, by (intro X hX; have := same_cell hX c0; go_simp)⟩) ?_
  simp only [Act.put, List.setIfInBounds_toArray, List.set_cons_zero, List.set_cons_succ]
  refine Ht.takeS 10 (i := 4) ⟨some 10, _, _, _, _, _⟩ (.agg #[x1, .bool x2]) rfl (by kernel_rfl) (by kernel_rfl) (by kernel_rfl) (by kernel_rfl) (by kernel_rfl) hS0 (Or.inl ⟨by rfl, by (intro X hX; have := And.intro (same_cell hX cx.1) (same_cell hX cx.2); go_simp)⟩) ?_
  simp only [Act.put, List.setIfInBounds_toArray, List.set_cons_zero, List.set_cons_succ]
  refine Ht.takeS 10 (i := 5) ⟨some 11, _, _, _, _, _⟩ (.pointer (some ⟨nx, 0, none⟩)) rfl (by kernel_rfl) (by kernel_rfl) (by kernel_rfl) (by kernel_rfl) (by kernel_rfl) hS0 (Or.inl ⟨by rfl, by (intro X hX; have := lx X hX; go_simp)⟩) ?_
  simp only [Act.put, List.setIfInBounds_toArray, List.set_cons_zero, List.set_cons_succ]
  refine Ht.takeS 10 (i := 6) ⟨some 12, _, _, _, _, _⟩ (.pointer (some ⟨nx, 0, none⟩)) rfl (by kernel_rfl) (by kernel_rfl) (by kernel_rfl) (by kernel_rfl) (by kernel_rfl) hS0 (Or.inl ⟨by rfl, by (intro X hX; go_simp)⟩) ?_
  simp only [Act.put, List.setIfInBounds_toArray, List.set_cons_zero, List.set_cons_succ]
  refine Ht.takeS 10 (i := 7) ⟨some 13, _, _, _, _, _⟩ (.pointer (some ⟨nx, 1, none⟩)) rfl (by kernel_rfl) (by kernel_rfl) (by kernel_rfl) (by kernel_rfl) (by kernel_rfl) hS0 (Or.inl ⟨by rfl, by (intro X hX; go_simp)⟩) ?_
  simp only [Act.put, List.setIfInBounds_toArray, List.set_cons_zero, List.set_cons_succ]
  refine Ht.takeS 10 (i := 8) ⟨some 14, _, _, _, _, _⟩ (.map (some ox)) rfl (by kernel_rfl) (by kernel_rfl) (by kernel_rfl) (by kernel_rfl) (by kernel_rfl) hS0 (Or.inl ⟨by rfl, by (intro X hX; have := same_cell hX ndx; go_simp)⟩) ?_
  simp only [Act.put, List.setIfInBounds_toArray, List.set_cons_zero, List.set_cons_succ]
  refine Ht.takeS 10 (i := 9) ⟨some 15, _, _, _, _, _⟩ (.agg #[o1, .bool o2]) rfl (by kernel_rfl) (by kernel_rfl) (by kernel_rfl) (by kernel_rfl) (by kernel_rfl) hS0 (Or.inl ⟨by rfl, by (intro X hX; have := And.intro (same_cell hX co.1) (same_cell hX co.2); go_simp)⟩) ?_
  simp only [Act.put, List.setIfInBounds_toArray, List.set_cons_zero, List.set_cons_succ]
  refine Ht.takeS 10 (i := 10) ⟨some 16, _, _, _, _, _⟩ (.agg #[]) rfl (by kernel_rfl) (by kernel_rfl) (by kernel_rfl) (by kernel_rfl) (by kernel_rfl) hS0 (Or.inl ⟨by rfl, by (intro X hX; go_simp)⟩) ?_
  simp only [Act.put, List.setIfInBounds_toArray, List.set_cons_zero, List.set_cons_succ]
  refine Ht.stepS (i := 11) ⟨none, _, _, _, _, _⟩ rfl (by kernel_rfl) (by rfl) (fun K hK => ?_)
  go_simp
  refine hK _ _ (fun hn => absurd (by decide) hn) (fun hnx => ?_)
  clear hK K hnx
  try simp only [Act.put, List.setIfInBounds_toArray, List.set_cons_zero, List.set_cons_succ]
  refine doneS (by kernel_rfl) ?_
  go_wp2_with fail
  refine begin' 99 (fun _ => True) hmix trivial (fun _ => ?_)
  refine later [11] (fun Z => Z.heap = X.heap) (rfl) (fun hS0 => ?_)
  refine Ht.takeS 10 (i := 0) ⟨some 17, _, _, _, _, _⟩ (.pointer (some ⟨gb, 0, none⟩)) rfl (by kernel_rfl) (by kernel_rfl) (by kernel_rfl) (by kernel_rfl) (by kernel_rfl) hS0 (Or.inl ⟨by rfl, by (intro X hX; go_simp)⟩) ?_
  simp only [Act.put, List.setIfInBounds_toArray, List.set_cons_zero, List.set_cons_succ]
  refine Ht.takeS 10 (i := 1) ⟨some 18, _, _, _, _, _⟩ (.pointer (some ⟨gb, 0, none⟩)) rfl (by kernel_rfl) (by kernel_rfl) (by kernel_rfl) (by kernel_rfl) (by kernel_rfl) hS0 (Or.inl ⟨by rfl, by (intro X hX; go_simp)⟩) ?_
  simp only [Act.put, List.setIfInBounds_toArray, List.set_cons_zero, List.set_cons_succ]
  refine Ht.takeS 10 (i := 2) ⟨some 19, _, _, _, _, _⟩ (.pointer (some ⟨gb, 0, none⟩)) rfl (by kernel_rfl) (by kernel_rfl) (by kernel_rfl) (by kernel_rfl) (by kernel_rfl) hS0 (Or.inl ⟨by rfl, by (intro X hX; go_simp)⟩) ?_
  simp only [Act.put, List.setIfInBounds_toArray, List.set_cons_zero, List.set_cons_succ]
  refine Ht.takeS 10 (i := 3) ⟨some 20, _, _, _, _, _⟩ (.map mv) rfl (by kernel_rfl) (by kernel_rfl) (by kernel_rfl) (by kernel_rfl) (by kernel_rfl) hS0 (Or.inl ⟨by rfl, by (intro X hX; have := same_cell hX c0X; go_simp)⟩) ?_
  simp only [Act.put, List.setIfInBounds_toArray, List.set_cons_zero, List.set_cons_succ]
  refine Ht.takeS 10 (i := 4) ⟨some 21, _, _, _, _, _⟩ (.agg #[o1, .bool o2]) rfl (by kernel_rfl) (by kernel_rfl) (by kernel_rfl) (by kernel_rfl) (by kernel_rfl) hS0 (Or.inl ⟨by rfl, by (intro X hX; have := And.intro (same_cell hX coX.1) (same_cell hX coX.2); go_simp)⟩) ?_
  simp only [Act.put, List.setIfInBounds_toArray, List.set_cons_zero, List.set_cons_succ]
  refine Ht.takeS 10 (i := 5) ⟨some 22, _, _, _, _, _⟩ (.pointer (some ⟨no, 0, none⟩)) rfl (by kernel_rfl) (by kernel_rfl) (by kernel_rfl) (by kernel_rfl) (by kernel_rfl) hS0 (Or.inl ⟨by rfl, by (intro X hX; have := lo X hX; go_simp)⟩) ?_
  simp only [Act.put, List.setIfInBounds_toArray, List.set_cons_zero, List.set_cons_succ]
  refine Ht.takeS 10 (i := 6) ⟨some 23, _, _, _, _, _⟩ (.pointer (some ⟨no, 0, none⟩)) rfl (by kernel_rfl) (by kernel_rfl) (by kernel_rfl) (by kernel_rfl) (by kernel_rfl) hS0 (Or.inl ⟨by rfl, by (intro X hX; go_simp)⟩) ?_
  simp only [Act.put, List.setIfInBounds_toArray, List.set_cons_zero, List.set_cons_succ]
  refine Ht.takeS 10 (i := 7) ⟨some 24, _, _, _, _, _⟩ (.pointer (some ⟨no, 2, none⟩)) rfl (by kernel_rfl) (by kernel_rfl) (by kernel_rfl) (by kernel_rfl) (by kernel_rfl) hS0 (Or.inl ⟨by rfl, by (intro X hX; go_simp)⟩) ?_
  simp only [Act.put, List.setIfInBounds_toArray, List.set_cons_zero, List.set_cons_succ]
  refine Ht.takeS 10 (i := 8) ⟨some 25, _, _, _, _, _⟩ (.map (some uo)) rfl (by kernel_rfl) (by kernel_rfl) (by kernel_rfl) (by kernel_rfl) (by kernel_rfl) hS0 (Or.inl ⟨by rfl, by (intro X hX; have := same_cell hX ndo; go_simp)⟩) ?_
  simp only [Act.put, List.setIfInBounds_toArray, List.set_cons_zero, List.set_cons_succ]
  refine Ht.takeS 10 (i := 9) ⟨some 26, _, _, _, _, _⟩ (.agg #[x1, .bool x2]) rfl (by kernel_rfl) (by kernel_rfl) (by kernel_rfl) (by kernel_rfl) (by kernel_rfl) hS0 (Or.inl ⟨by rfl, by (intro X hX; have := And.intro (same_cell hX cxX.1) (same_cell hX cxX.2); go_simp)⟩) ?_
  simp only [Act.put, List.setIfInBounds_toArray, List.set_cons_zero, List.set_cons_succ]
  refine Ht.takeS 10 (i := 10) ⟨some 27, _, _, _, _, _⟩ (.agg #[]) rfl (by kernel_rfl) (by kernel_rfl) (by kernel_rfl) (by kernel_rfl) (by kernel_rfl) hS0 (Or.inl ⟨by rfl, by (intro X hX; go_simp)⟩) ?_
  simp only [Act.put, List.setIfInBounds_toArray, List.set_cons_zero, List.set_cons_succ]
  refine Ht.stepS (i := 11) ⟨none, _, _, _, _, _⟩ rfl (by kernel_rfl) (by rfl) (fun K hK => ?_)
  go_simp
  refine hK _ _ (fun hn => absurd (by decide) hn) (fun hnx => ?_)
  clear hK K hnx
  try simp only [Act.put, List.setIfInBounds_toArray, List.set_cons_zero, List.set_cons_succ]
  refine doneS (by kernel_rfl) ?_
  go_wp2_with fail
  go_end0
  exact ⟨by simp, HJ.out.1, (Fr.of_below HJ.out.2.2).drew.trans HJ.out.2.1 fun k hk => .inl hk⟩
end
end Go.Proofs.YtcodjknhnhdkfaaGreatDoor.DgB
