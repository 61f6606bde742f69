
/- wheels: how they lie -/
import Derived.Test.YtcafiehlhdoibaaWhM
import Derived.Test.YtcafiehlhdoibaaHs
import Derived.Test.YtcafiehlhdoibaaAo
import Derived.Maps.RangeWalk
import Derived.Sort.MapsRangeIn
namespace Go.Proofs.Ytcafiehlhdoibaa.Wh
open Go.RowKit Go.Lib Go.Sort Go.Maps Go.ChangeMaps Go.MapKept Hp
set_option linter.unusedVariables false
set_option linter.unusedSectionVars false

def ek (k : K) : Value := .string ⟨k.toArray⟩
def kl (k : K) : Lit := .string k
def wk (k : K) : Prop := k.length ≤ maxLen
def er (t : Int) : Value := .int .i64 t
theorem key_of (k : K) (hk : wk k) : keyOf Try.prog 9 (ek k) = some (kl k) := Hp.keyOf_str Try.underlying9 hk
theorem kindOf {t : TypeId} (ht : Try.prog.underlying t = some (.map 9 2)) : Kind Try.prog t 9 2 .i64 ek kl wk where
  map := ht
  elem := Try.underlying2
  zero w := by go_simp
  keyed := Maps.string_keyed Try.underlying9
  key := key_of
  inj k k' h := by simpa [kl] using h
theorem kindA : Kind Try.prog 53 9 2 .i64 ek kl wk := kindOf Try.underlying53
theorem kindS : Kind Try.prog 63 9 2 .i64 ek kl wk := kindOf Try.underlying63
abbrev Mq (w : World) (b n : Nat) (f : K → Option Int) : Prop := Mp Try.prog 9 2 .i64 kl wk w b n f
theorem wf_tk {t : Int} (h : Tk t) : (Lit.int .i64 t).wf = true := by
  have h1 := h.1
  have h2 := h.2
  unfold MT at h2
  simp [Lit.wf, IntKind.min, IntKind.max, IntKind.signed, IntKind.bits]; omega
/-- all cells of timers, in a row -/
def cs : List (K × Int) → List Value
  | [] => []
  | x :: l => ek x.1 :: er x.2 :: cs l
theorem cs_len : ∀ l : List (K × Int), (cs l).length = l.length * 2
  | [] => rfl
  | x :: l => by simp [cs, cs_len l]; omega
theorem cs_app : ∀ l m : List (K × Int), cs (l ++ m) = cs l ++ cs m
  | [], m => rfl
  | x :: l, m => by simp [cs, cs_app l m]
theorem el_zero (x : K × Int) (l : List (K × Int)) : el (x :: l) 0 = x := rfl
theorem el_succ (x : K × Int) (l : List (K × Int)) (i : Nat) : el (x :: l) (i + 1) = el l i := rfl
theorem cs_get : ∀ (l : List (K × Int)) (i : Nat), i < l.length → (cs l)[i * 2]? = some (ek (el l i).1) ∧ (cs l)[i * 2 + 1]? = some (er (el l i).2)
  | [], _, h => by simp at h
  | x :: l, 0, _ => by simp [cs, el_zero]
  | x :: l, i + 1, h => by
    have ih := cs_get l i (by simpa using h)
    rw [el_succ, show (i + 1) * 2 = i * 2 + 1 + 1 by omega]
    simpa [cs] using ih
theorem cs_one (l : List (K × Int)) : ∀ u ∈ cs l, u.oneCell' = true := by
  induction l with
  | nil => intro u h; simp [cs] at h
  | cons x l ih =>
    intro u h
    simp only [cs, List.mem_cons] at h
    rcases h with rfl | rfl | h
    · rfl
    · rfl
    · exact ih u h
theorem own_shape {w : World} {B : Nat} {e : TypeId} {k : Nat} {v : Value} {n : Nat} {xs : List Value} (h : w.ownsRow B e k v n xs) : ∃ ao cp, v = .slice ao n cp := by
  rcases h.2 with ⟨rfl, rfl⟩ | ⟨g, cap, cur, rfl, _⟩
  · exact ⟨none, 0, rfl⟩
  · exact ⟨_, cap, rfl⟩
theorem infoT : (Try.prog.info? 42).map (fun i => (i.zero, i.size, i.bytes)) = some (some (.agg #[.string ⟨#[]⟩, .int .i64 0]), 2, 24) := by kernel_rfl
/-- timers in a row of one's own -/
abbrev Own (w : World) (B : Nat) (v : Value) (l : List (K × Int)) : Prop := w.ownsRow B 42 2 v l.length (cs l)
/-- timers that may be read -/
def Src (w : World) (v : Value) (l : List (K × Int)) : Prop :=
  (l = [] ∧ v = .slice none 0 0) ∨ ∃ g c, v = .slice (some ⟨g, 0, none⟩) l.length c ∧ ∀ i, i < l.length → w.cell? ⟨g, i * 2, none⟩ = some (ek (el l i).1) ∧ w.cell? ⟨g, i * 2 + 1, none⟩ = some (er (el l i).2)
theorem src_own {w : World} {B : Nat} {v : Value} {l : List (K × Int)} (h : Own w B v l) : Src w v l := by
  rcases h.2 with ⟨rfl, h0⟩ | ⟨g, cap, cur, rfl, hB, h1, hf, hc, h2, h3⟩
  · exact .inl ⟨List.eq_nil_of_length_eq_zero h0, rfl⟩
  · refine .inr ⟨g, cap, rfl, fun i hi => ?_⟩
    have hg := cs_get l i hi
    rw [← h3, List.getElem?_take_of_lt (by omega), List.getElem?_take_of_lt (by omega), Array.getElem?_toList, Array.getElem?_toList] at hg
    rw [cell_of_row w g _ cur _ _ h1, cell_of_row w g _ cur _ _ h1]
    exact hg
theorem Src.shape {w : World} {v : Value} {l : List (K × Int)} (h : Src w v l) : ∃ a c, v = .slice a l.length c := by
  rcases h with ⟨rfl, rfl⟩ | ⟨g, c, rfl, _⟩
  · exact ⟨none, 0, rfl⟩
  · exact ⟨_, c, rfl⟩
theorem Src.kept {X Y : World} {v : Value} {l : List (K × Int)} (h : Src X v l) (e : ∀ a n c, v = .slice (some a) n c → Y.heap[a.block]? = X.heap[a.block]?) : Src Y v l := by
  rcases h with h | ⟨g, c, h1, h2⟩
  · exact .inl h
  · have hb := e _ _ _ h1
    have hc : ∀ k, Y.cell? ⟨g, k, none⟩ = X.cell? ⟨g, k, none⟩ := fun k => by unfold World.cell?; rw [hb]
    exact .inr ⟨g, c, h1, fun i hi => by rw [hc, hc]; exact h2 i hi⟩
theorem own_base {w : World} {B B' : Nat} {t : TypeId} {k n : Nat} {v : Value} {xs : List Value} (h : w.ownsRow B t k v n xs) (hB : B' ≤ B) : w.ownsRow B' t k v n xs :=
  ⟨h.1, h.2.imp_right fun ⟨g, cap, cur, h1, h2, h3⟩ => ⟨g, cap, cur, h1, Nat.le_trans hB h2, h3⟩⟩
theorem own_kept {w Y : World} {B : Nat} {t : TypeId} {k n : Nat} {v : Value} {xs : List Value} (h : w.ownsRow B t k v n xs) (e : ∀ b, v.ownBlock = some b → Y.heap[b]? = w.heap[b]?) : Y.ownsRow B t k v n xs := by
  rcases h with ⟨h0, h | ⟨g, cap, cur, rfl, h1, h2, h3⟩⟩
  · exact ⟨h0, .inl h⟩
  · refine ⟨h0, .inr ⟨g, cap, cur, rfl, h1, (e g ?_).trans h2, h3⟩⟩
    rfl
/-! ## maps -/
/-- what a slot's map holds -/
def Sl (w : World) (ob : Option Nat) (f : K → Option Int) : Prop := match ob with
  | none => ∀ k, f k = none
  | some b => ∃ n, Mq w b n f
theorem Sl.kept {w Y : World} {ob : Option Nat} {f : K → Option Int} (h : Sl w ob f) (e : ∀ b, ob = some b → Y.heap[b]? = w.heap[b]?) : Sl Y ob f := by
  cases ob with
  | none => exact h
  | some b => obtain ⟨n, h⟩ := h; exact ⟨n, h.kept (e b rfl)⟩
theorem Sl.lt {w : World} {b : Nat} {f : K → Option Int} (h : Sl w (some b) f) : b < w.heap.size := by obtain ⟨n, h⟩ := h; exact h.lt
/-- a range over a map under way: these were told -/
def Rgs (w : World) (ob : Option Nat) (r : Nat) (f : K → Option Int) (es : List (K × Int)) (cnt : Nat) : Prop := match ob with
  | none => w.heap[r]? = some (.mapIter none 0 #[] 0) ∧ cnt = 0 ∧ es = [] ∧ ∀ k, f k = none
  | some b => ∃ (n : Nat) (D : DataW Unit) (lf : Lit → Bool), w.ranges Try.prog 9 (plainElem Try.prog 2) b r n D lf cnt ∧ (∀ k, wk k → ∀ z, D.atKey (kl k) z = match f k with | some i => .lit (.int .i64 i) | none => z) ∧
      Ls (fun k => if lf (kl k) = true then none else f k) es
/-- how many are still to come -/
def rl (w : World) (ob : Option Nat) (r : Nat) : Nat := match ob with
  | none => 0
  | some b => w.rangeLeft b r
theorem Rgs.left_eq {w : World} {ob : Option Nat} {r : Nat} {f : K → Option Int} {es : List (K × Int)} {cnt : Nat} (h : Rgs w ob r f es cnt) : rl w ob r = cnt := by
  cases ob with
  | none => exact h.2.1.symm
  | some b => obtain ⟨n, D, lf, h, _⟩ := h; exact h.left_eq
theorem ranges_kept {w Y : World} {b r n : Nat} {P : Program} {k : TypeId} {R : Value → Option (DataW Unit × List MemPlace)} {D : DataW Unit} {left : Lit → Bool} {cnt : Nat} (h : w.ranges P k R b r n D left cnt) (e1 : Y.heap[b]? = w.heap[b]?) (e2 : Y.heap[r]? = w.heap[r]?) : Y.ranges P k R b r n D left cnt := by
  obtain ⟨es, clock, since, seen, c0, hb, F, hs, hD, hr, rest⟩ := h
  exact ⟨es, clock, since, seen, c0, e1.trans hb, F, hs, hD, e2.trans hr, rest⟩
theorem Rgs.kept {w Y : World} {ob : Option Nat} {r : Nat} {f : K → Option Int} {es : List (K × Int)} {cnt : Nat} (h : Rgs w ob r f es cnt) (e1 : ∀ b, ob = some b → Y.heap[b]? = w.heap[b]?) (e2 : Y.heap[r]? = w.heap[r]?) : Rgs Y ob r f es cnt := by
  cases ob with
  | none => exact ⟨e2.trans h.1, h.2⟩
  | some b => obtain ⟨n, D, lf, h, h2⟩ := h; exact ⟨n, D, lf, ranges_kept h (e1 b rfl) e2, h2⟩
theorem Rgs.lt {w : World} {ob : Option Nat} {r : Nat} {f : K → Option Int} {es : List (K × Int)} {cnt : Nat} (h : Rgs w ob r f es cnt) : r < w.heap.size := by
  cases ob with
  | none => exact (Array.getElem?_eq_some_iff.1 h.1).1
  | some b => obtain ⟨n, D, lf, h, _⟩ := h; exact h.lt
theorem Rgs.sub {w : World} {ob : Option Nat} {r : Nat} {f : K → Option Int} {es : List (K × Int)} {cnt : Nat} (h : Rgs w ob r f es cnt) : ∀ k t, (k, t) ∈ es → f k = some t := by
  intro k t hm
  cases ob with
  | none => obtain ⟨_, _, rfl, _⟩ := h; simp at hm
  | some b =>
    obtain ⟨n, D, lf, _, _, h⟩ := h
    rw [h.2] at hm
    dsimp only at hm
    split at hm
    · cases hm
    · exact hm
theorem Rgs.nodup {w : World} {ob : Option Nat} {r : Nat} {f : K → Option Int} {es : List (K × Int)} {cnt : Nat} (h : Rgs w ob r f es cnt) : (es.map (·.1)).Nodup := by
  cases ob with
  | none => obtain ⟨_, _, rfl, _⟩ := h; simp
  | some b => obtain ⟨n, D, lf, _, _, h⟩ := h; exact h.1
section
variable {ops : Array Oper} {rest : List Oper} {o : Oper} {a : Act} {Q : Exit → Act → World → Prop}
theorem wpList_range_sl (w : World) (hg : o.guard = none) (m : Operand) (t : TypeId) (hop : o.op = Op.range t m) (ht : Try.prog.underlying t = some (.map 9 2)) (ob : Option Nat) (f : K → Option Int)
    (hm : a.eval m = .map ob) (h : Sl w ob f) (hwk : ∀ k t, f k = some t → wk k)
    (hK : ∀ w' cnt, Rgs w' ob w.heap.size f [] cnt → w.grownBy w' none → w'.heap.size = w.heap.size + 1 → wpList Try.prog ops Q rest (a.put o.dst (.pointer (some ⟨w.heap.size, 0, none⟩))) w') :
    wpList Try.prog ops Q (o :: rest) a w := by
  cases ob with
  | none =>
    refine wpList_plain hg fun K' hK' => ?_
    unfold Oper.wp
    simp [execOp, hop, hm, run_range_nilMap w t _ _ ht, Result.andThen]
    exact hK' _ _ (hK _ 0 ⟨(MapKept.heap_alloc w _).1, rfl, rfl, h⟩ (World.grownBy_alloc w _ none) (by simp))
  | some b =>
    obtain ⟨n, D, hm1, hn, hD⟩ := h
    refine wpList_range_own w hg m t hop 9 2 (Maps.string_keyed Try.underlying9) ht _ b n D hm hm1 fun w' h1 h2 h3 => hK w' _ ⟨n, D, _, h1, hD, ?_⟩ h2 h3
    have e : (fun k => if Maps.has D (kl k) = true then none else f k) = fun _ => none := by
      funext k
      cases e : f k with
      | none => simp
      | some t => rw [has_of (kindOf ht) (hD k (hwk k t e)), e]; rfl
    rw [e]
    exact Ls.nil
theorem key_inv {key : Value} {l : Lit} (h : keyOf Try.prog 9 key = some l) : ∃ k, key = ek k ∧ l = kl k ∧ wk k := by
  obtain ⟨s, rfl⟩ := Maps.keyOf_string_inv Try.underlying9 h
  simp [keyOf, Try.underlying9, mapKey] at h
  refine ⟨s.data.toList, by simp [ek], ?_, ?_⟩
  · unfold kl; first | exact h.2.symm | (rw [← h.2]) | simp [← h.2]
  · unfold wk; have := h.1; first | simpa using this | (have e : s.data.toList.length = s.size := by show s.data.toList.length = s.data.size; simp
                                                        omega)
theorem wpList_next_sl (w : World) (hg : o.guard = none) (it : Operand) (hop : o.op = Op.next it false) (ob : Option Nat) (r : Nat) (f : K → Option Int) (es : List (K × Int)) (cnt : Nat)
    (hit : a.eval it = .pointer (some ⟨r, 0, none⟩)) (h : Rgs w ob r f es cnt)
    (hDone : Ls f es → wpList Try.prog ops Q rest (a.put o.dst (.tuple #[.bool false])) w)
    (hMore : ∀ (k : K) (t : Int) (w' : World) (cnt' : Nat), wk k → f k = some t → Rgs w' ob r f (es ++ [(k, t)]) cnt' → cnt' < cnt → w.grownBy w' (some r) → w'.heap.size = w.heap.size →
      (Instr.entry (.pointer (some ⟨r, 0, none⟩))).run Try.prog w' = .ok (.tuple #[ek k, er t]) w' → wpList Try.prog ops Q rest (a.put o.dst (.tuple #[.bool true, ek k, er t])) w') :
    wpList Try.prog ops Q (o :: rest) a w := by
  cases ob with
  | none =>
    obtain ⟨h1, h2, rfl, h4⟩ := h
    refine wpList_plain hg fun K' hK' => ?_
    have hrun : (Instr.next (.pointer (some ⟨r, 0, none⟩)) false o.type).run Try.prog w = .ok (.tuple #[.bool false]) w := by
      simp [Instr.next, getObj, Sem.run_bind, Sem.run, h1, Result.andThen, pure]
    unfold Oper.wp
    simp [execOp, hop, hit, hrun, Result.andThen]
    refine hK' _ _ (hDone ?_)
    have : f = fun _ => none := funext h4
    rw [this]; exact Ls.nil
  | some b =>
    obtain ⟨n, D, lf, h1, h2, h3⟩ := h
    refine wpList_plain hg fun K' hK' => ?_
    unfold Oper.wp
    rcases h1.next (Maps.string_keyed Try.underlying9) o.type with ⟨h0, hl, hrun⟩ | ⟨key, v, l, y, w', cnt', hkey, hlk, hv, hat, hrun, hrg, hlt, hgr, hsz, hen⟩
    · simp [execOp, hop, hit, hrun, Result.andThen]
      refine hK' _ _ (hDone ?_)
      have e : (fun k => if lf (kl k) = true then none else f k) = f := by
        funext k; rw [hl]; simp
      rw [e] at h3; exact h3
    · obtain ⟨k, rfl, rfl, hwk⟩ := key_inv hkey
      obtain ⟨c, rfl, rfl, _⟩ := plainElem_int_inv Try.underlying2 hv
      have hf : f k = some c := by
        cases e : f k with
        | none =>
          have h4 := h2 k hwk .nil
          rw [hat, e] at h4; cases h4
        | some i =>
          have h4 := h2 k hwk .nil
          rw [hat, e] at h4
          simp at h4
          rw [h4]
      simp [execOp, hop, hit, hrun, Result.andThen]
      refine hK' _ _ (hMore k c w' cnt' hwk hf ⟨n, D, _, hrg, h2, ?_⟩ hlt hgr hsz hen)
      have e : (fun k' => if (lf (kl k') && !(kl k').sameKey (kl k)) = true then none else f k') = upd (fun k => if lf (kl k) = true then none else f k) k c := by
        funext k'
        unfold upd
        by_cases e : k' = k
        · subst e
          rw [if_pos rfl, WideAt.sameKey_self ((Maps.string_keyed Try.underlying9).key hkey)]
          simp [hf]
        · rw [if_neg e, Maps.sameKey_ne (fun e2 => e (by simpa [kl] using e2))]
          simp
      rw [e]
      exact h3.put (by simp [hlk]) c
end
theorem len_sub {α : Type} : ∀ (a b : List α), a.Nodup → (∀ x ∈ a, x ∈ b) → a.length ≤ b.length
  | [], b, _, _ => Nat.zero_le _
  | x :: a, b, hn, hs => by
    obtain ⟨s, t, rfl⟩ := List.append_of_mem (hs x (by simp))
    have hn' := List.nodup_cons.1 hn
    have := len_sub a (s ++ t) hn'.2 fun y hy => by
      have h1 := hs y (by simp [hy])
      rw [List.mem_append, List.mem_cons] at h1
      rw [List.mem_append]
      rcases h1 with h1 | rfl | h1
      · exact .inl h1
      · exact absurd hy hn'.1
      · exact .inr h1
    simp at this ⊢
    omega
/-- a map has no more entries than there are timers -/
theorem mq_le {w : World} {b m : Nat} {g f : K → Option Int} {l : List (K × Int)} (h : Mq w b m g) (hs : ∀ k t, g k = some t → f k = some t) (hl : Ls f l) : m ≤ l.length := by
  obtain ⟨D, ⟨es, clock, hb, F, hsz, rfl⟩, hn, hD⟩ := h
  have e1 : m = es.toList.length := by rw [← hn]; simp [Maps.size, length_sorted]
  have hnd : (es.toList.map (·.key)).Nodup := F.stamped.2.2
  have := len_sub (es.toList.map (·.key)) (l.map fun x => ek x.1) hnd fun v hv => by
    obtain ⟨x, hx, rfl⟩ := List.mem_map.1 hv
    obtain ⟨y, hy⟩ := F.reads x hx
    obtain ⟨k, hk, hk2, hwk⟩ := key_inv (Go.WideElems.rd_key hy)
    have hrg := Go.WideElems.rg_of hy
    have hhas : Maps.has (DataW.map ((es.toList.map (Go.WideElems.rg Try.prog 9 (plainElem Try.prog 2))).foldr DataW.insert [])) (kl k) = true :=
      List.any_eq_true.2 ⟨_, mem_sorted.2 (List.mem_map.2 ⟨x, hx, rfl⟩), by rw [hrg, hk2]; exact WideAt.sameKey_self ((Maps.string_keyed Try.underlying9).key (key_of k hwk))⟩
    rw [has_of kindA (hD k hwk)] at hhas
    obtain ⟨t, ht⟩ := Option.isSome_iff_exists.1 hhas
    exact List.mem_map.2 ⟨(k, t), (hl.2 k t).2 (hs k t ht), hk.symm⟩
  simp at this
  simp at e1
  omega
/-- 'clear' of a slot's map -/
theorem run_clear {w : World} {ob : Option Nat} {f : K → Option Int} (h : Sl w ob f) (ty : TypeId) :
    ∃ w', (Builtin.clear_ #[63] ty #[.map ob]).run Try.prog w = .ok (.tuple #[]) w' ∧ Sl w' ob (fun _ => none) ∧ w.grownBy w' ob ∧ w'.heap.size = w.heap.size := by
  cases ob with
  | none =>
    refine ⟨w, ?_, fun _ => rfl, ⟨rfl, rfl, rfl, Nat.le_refl _, fun _ _ _ => rfl⟩, rfl⟩
    simp [Builtin.clear_, run_underlying Try.underlying63, Result.andThen]
  | some b =>
    obtain ⟨n, hm⟩ := h
    obtain ⟨es, clock, hb⟩ := hm.at
    refine ⟨ChangeMaps.setBlock w b (.map #[] clock), ?_, ⟨0, .map [], ⟨#[], clock, heap_setBlock_same hb _, ⟨Nat.zero_le _, MapKept.stamped_empty clock, fun x hx => by simp at hx⟩, Nat.le_refl _, rfl⟩, rfl, fun _ _ _ => rfl⟩, ⟨rfl, rfl, rfl, by simp [ChangeMaps.setBlock], fun i _ hi => heap_setBlock_other hb _ (fun e => hi (by rw [e]))⟩, by simp [ChangeMaps.setBlock]⟩
    simp [Builtin.clear_, run_underlying Try.underlying63, MapKept.run_getObj_map hb, MapKept.run_setObj_map _ hb, Result.andThen, ChangeMaps.setBlock]
end Go.Proofs.Ytcafiehlhdoibaa.Wh
