/- a map of whatever values, told by a function of its keys (of no program) -/
import Derived.Test.YtcodjknhnhdkfaaGreatDoorBr07
import Derived.Maps.RangeWalk
namespace Go.Proofs.YtcodjknhnhdkfaaGreatDoor.Mv
open Go.RowKit Go.Maps Go.WideElems Go.ChangeMaps Go.MapKept
set_option linter.unusedVariables false
set_option linter.unusedSectionVars false

abbrev rv (v : Value) : Option (DataW Value × List MemPlace) := some (.held v, [])
/-- a map's type: its key's, its element's, the element's zero value, how a key lies -/
structure Kind (P : Program) (t tk te : TypeId) (z : Value) {K : Type} (ek : K → Value) (wk : K → Prop) : Prop where
  map : P.underlying t = some (.map tk te)
  zero : ∀ w, (zeroValue te).run P w = .ok z w
  keyed : Keyed P tk
  key : ∀ k, wk k → ∃ l, keyOf P tk (ek k) = some l
  inj : ∀ k k', ek k = ek k' → k = k'
  back : ∀ v l, keyOf P tk v = some l → ∃ k, v = ek k ∧ wk k
def kl (P : Program) (tk : TypeId) {K : Type} (ek : K → Value) (k : K) : Lit := (keyOf P tk (ek k)).getD .nil
def Mp (P : Program) (tk : TypeId) {K : Type} (ek : K → Value) (wk : K → Prop) (w : World) (b n : Nat) (f : K → Option Value) : Prop :=
  ∃ D : DataW Value, w.ownsMap P tk rv b n D ∧ Maps.size D = n ∧ ∀ k, wk k → ∀ z, D.atKey (kl P tk ek k) z = match f k with | some v => .held v | none => z
def upd {K : Type} [DecidableEq K] (f : K → Option Value) (k : K) (v : Value) : K → Option Value := fun k' => if k' = k then some v else f k'
section
variable {P : Program} {t tk te : TypeId} {z : Value} {K : Type} [DecidableEq K] {ek : K → Value} {wk : K → Prop}
theorem Kind.at (κ : Kind P t tk te z ek wk) {k : K} (hk : wk k) : keyOf P tk (ek k) = some (kl P tk ek k) := by
  obtain ⟨l, h⟩ := κ.key k hk
  unfold kl; rw [h]; rfl
theorem Kind.kinj (κ : Kind P t tk te z ek wk) {k k' : K} (hk : wk k) (hk' : wk k') (e : kl P tk ek k = kl P tk ek k') : k = k' :=
  κ.inj _ _ (κ.keyed.inj (κ.at hk) (e ▸ κ.at hk'))
theorem mp_made (w : World) : Mp P tk ek wk (w.alloc (.map #[] 0)) w.heap.size 0 (fun _ => none) :=
  ⟨.map [], World.ownsMap_made w _ _ _, rfl, fun _ _ _ => rfl⟩
theorem Mp.congr {w : World} {b n : Nat} {f g : K → Option Value} (h : Mp P tk ek wk w b n f) (e : ∀ k, wk k → f k = g k) : Mp P tk ek wk w b n g := by
  obtain ⟨D, h1, h2, h3⟩ := h
  exact ⟨D, h1, h2, fun k hk z => by rw [← e k hk]; exact h3 k hk z⟩
theorem Mp.kept {w Y : World} {b n : Nat} {f : K → Option Value} (h : Mp P tk ek wk w b n f) (e : Y.heap[b]? = w.heap[b]?) : Mp P tk ek wk Y b n f := by
  obtain ⟨D, ⟨es, clock, h1, h2⟩, h3⟩ := h
  exact ⟨D, ⟨es, clock, e.trans h1, h2⟩, h3⟩
theorem Mp.obj {w : World} {b n : Nat} {f : K → Option Value} (h : Mp P tk ek wk w b n f) : ∃ es clock, w.heap[b]? = some (.map es clock) := by
  obtain ⟨D, ⟨es, clock, h1, _⟩, _⟩ := h
  exact ⟨es, clock, h1⟩
theorem Mp.lt {w : World} {b n : Nat} {f : K → Option Value} (h : Mp P tk ek wk w b n f) : b < w.heap.size := by
  obtain ⟨es, c, e⟩ := h.obj
  exact (Array.getElem?_eq_some_iff.1 e).1
theorem Mp.ne {w : World} {b n g : Nat} {f : K → Option Value} {c : Array Value} {t : TypeId} {x : Nat × Nat} (h : Mp P tk ek wk w b n f) (k : w.heap[g]? = some (.cells c t x)) : b ≠ g := fun e => by
  obtain ⟨es, c2, h⟩ := h.obj
  rw [e, k] at h; cases h
theorem has_of (κ : Kind P t tk te z ek wk) {D : DataW Value} {f : K → Option Value} {k : K} (h : ∀ z, D.atKey (kl P tk ek k) z = match f k with | some v => .held v | none => z) : Maps.has D (kl P tk ek k) = (f k).isSome := by
  cases e : f k with
  | none => rw [e] at h; exact Maps.has_false_of_atKey h
  | some i => rw [e] at h; exact Maps.has_true_of_atKey h
theorem held_of {o : Option Value} {z v : Value} {ps : List MemPlace} (h : rv v = some ((match o with | some u => .held u | none => .held z), ps)) : v = o.getD z := by
  cases o with
  | none => simp only [Option.some.injEq, Prod.mk.injEq, DataW.held.injEq] at h; exact h.1
  | some u => simp only [Option.some.injEq, Prod.mk.injEq, DataW.held.injEq] at h; exact h.1
theorem Mp.look (κ : Kind P t tk te z ek wk) {w Y : World} {b n : Nat} {f : K → Option Value} (h : Mp P tk ek wk w b n f) (e : Y.heap[b]? = w.heap[b]?) {k : K} (hk : wk k) :
    (Instr.lookup t (.map (some b)) (ek k) true).run P Y = .ok (.tuple #[(f k).getD z, .bool (f k).isSome]) Y := by
  obtain ⟨D, hm, hn, hD⟩ := h.kept e
  obtain ⟨v, ps, hr, hv⟩ := hm.look_ok κ.keyed κ.map (κ.zero Y) (zd := .held z) (zp := []) rfl (κ.at hk)
  rw [has_of κ (hD k hk)] at hr
  rw [hD k hk] at hv
  rw [hr, held_of hv]
theorem Mp.look1 (κ : Kind P t tk te z ek wk) {w Y : World} {b n : Nat} {f : K → Option Value} (h : Mp P tk ek wk w b n f) (e : Y.heap[b]? = w.heap[b]?) {k : K} (hk : wk k) :
    (Instr.lookup t (.map (some b)) (ek k) false).run P Y = .ok ((f k).getD z) Y := by
  obtain ⟨D, hm, hn, hD⟩ := h.kept e
  obtain ⟨v, ps, hr, hv⟩ := hm.lookup κ.keyed κ.map (κ.zero Y) (zd := .held z) (zp := []) rfl (κ.at hk)
  rw [hD k hk] at hv
  rw [hr, held_of hv]
theorem look1_nil (κ : Kind P t tk te z ek wk) (Y : World) {k : K} (hk : wk k) : (Instr.lookup t (.map none) (ek k) false).run P Y = .ok z Y :=
  Maps.look_nil false κ.keyed κ.map (κ.zero Y) (κ.at hk)
theorem Mp.put (κ : Kind P t tk te z ek wk) {w : World} {b n : Nat} {f : K → Option Value} (h : Mp P tk ek wk w b n f) (hn : n < maxLen) {k : K} (hk : wk k) (x : Value) :
    ∃ w2, (Instr.mapUpdate t (.map (some b)) (ek k) x).run P w = .ok () w2 ∧ Mp P tk ek wk w2 b (if (f k).isSome then n else n + 1) (upd f k x) ∧ w.grownBy w2 (some b) ∧ w2.heap.size = w.heap.size := by
  obtain ⟨D, hm, hsz, hD⟩ := h
  obtain ⟨w2, hr, hm2, hg2⟩ := hm.store κ.keyed κ.map hn (κ.at hk) (d := .held x) (ps := []) rfl
  have hI := hm.tidy κ.keyed
  have hs := Maps.size_put (k := kl P tk ek k) hI (.held x)
  rw [has_of κ (hD k hk), hsz] at hs
  have hg : w.grownBy w2 (some b) ∧ w2.heap.size = w.heap.size := by
    obtain ⟨es, clock, es2, clock2, hb, rfl⟩ := hg2
    exact ⟨⟨rfl, rfl, rfl, by simp [ChangeMaps.setBlock], fun i _ hi => heap_setBlock_other hb _ (fun e => hi (by rw [e]))⟩, by simp [ChangeMaps.setBlock]⟩
  refine ⟨w2, hr, ⟨_, ?_, hs, fun k' hk' z => ?_⟩, hg⟩
  · obtain ⟨es, clock, hb, F, hs2, e2⟩ := hm2
    exact ⟨es, clock, hb, F, by rw [← hs, e2]; simp [Maps.size, length_sorted], e2⟩
  · unfold upd
    by_cases e : k' = k
    · rw [if_pos e, e, Maps.atKey_put_same hI.isMap (κ.keyed.key (κ.at hk))]
    · rw [if_neg e, Maps.atKey_put_other (fun e2 => e (κ.kinj hk' hk e2)), hD k' hk' z]
theorem Mp.len (κ : Kind P t tk te z ek wk) {w Y : World} {b n : Nat} {f : K → Option Value} (h : Mp P tk ek wk w b n f) (e : Y.heap[b]? = w.heap[b]?) (ty : TypeId) : (Builtin.len_ #[t] ty #[.map (some b)]).run P Y = .ok (.int .i64 (n : Nat)) Y := by
  obtain ⟨D, hm, hsz, hD⟩ := h.kept e
  rw [← hsz]
  exact hm.len κ.map ty
theorem len_sub {α : Type} : ∀ (a b : List α), a.Nodup → (∀ x ∈ a, x ∈ b) → a.length ≤ b.length
  | [], b, _, _ => Nat.zero_le _
  | x :: a, b, hn, hs => by
    obtain ⟨s, t, rfl⟩ := List.append_of_mem (hs x (by simp))
    have hn' := List.nodup_cons.1 hn
    have := len_sub a (s ++ t) hn'.2 fun y hy => by
      have h1 := hs y (by simp [hy])
      rw [List.mem_append, List.mem_cons] at h1
      rw [List.mem_append]
      rcases h1 with h1 | rfl | h1
      · exact .inl h1
      · exact absurd hy hn'.1
      · exact .inr h1
    simp at this ⊢
    omega
/-- how many entries -/
theorem Mp.keys (κ : Kind P t tk te z ek wk) {w : World} {b n : Nat} {f : K → Option Value} (h : Mp P tk ek wk w b n f) : ∃ l : List K, l.Nodup ∧ l.length = n ∧ ∀ k, k ∈ l ↔ wk k ∧ (f k).isSome = true := by
  obtain ⟨D, ⟨es, clock, hb, F, hsz, rfl⟩, hn, hD⟩ := h
  have e1 : n = es.toList.length := by rw [← hn]; simp [Maps.size, length_sorted]
  have hnd : (es.toList.map (·.key)).Nodup := F.stamped.2.2
  have hex : ∀ x ∈ es.toList, ∃ k, x.key = ek k ∧ wk k := fun x hx => by
    obtain ⟨y, hy⟩ := F.reads x hx
    exact κ.back _ _ (Go.WideElems.rd_key hy)
  have hl : ∀ (xs : List MapEntry), (∀ x ∈ xs, ∃ k, x.key = ek k ∧ wk k) → ∃ l : List K, l.map ek = xs.map (·.key) ∧ ∀ k ∈ l, wk k := by
    intro xs
    induction xs with
    | nil => intro _; exact ⟨[], rfl, by simp⟩
    | cons x xs ih =>
      intro h
      obtain ⟨l, h1, h2⟩ := ih fun y hy => h y (by simp [hy])
      obtain ⟨k, h3, h4⟩ := h x (by simp)
      exact ⟨k :: l, by simp [h1, h3], by simpa using ⟨h4, h2⟩⟩
  obtain ⟨l, h1, h2⟩ := hl es.toList hex
  refine ⟨l, ?_, ?_, fun k => ?_⟩
  · rw [← h1] at hnd
    rw [List.nodup_iff_pairwise_ne] at hnd ⊢
    rw [List.pairwise_map] at hnd
    exact hnd.imp fun h e => h (by rw [e])
  · rw [e1]; have := congrArg List.length h1; simpa using this
  · constructor
    · intro hk
      refine ⟨h2 k hk, ?_⟩
      have : ek k ∈ es.toList.map (·.key) := by rw [← h1]; exact List.mem_map.2 ⟨k, hk, rfl⟩
      obtain ⟨x, hx, hxk⟩ := List.mem_map.1 this
      obtain ⟨y, hy⟩ := F.reads x hx
      have hrg := Go.WideElems.rg_of hy
      have hky : keyOf P tk x.key = some y.1 := Go.WideElems.rd_key hy
      have hhas : Maps.has (DataW.map ((es.toList.map (Go.WideElems.rg P tk rv)).foldr DataW.insert [])) (kl P tk ek k) = true :=
        List.any_eq_true.2 ⟨_, mem_sorted.2 (List.mem_map.2 ⟨x, hx, rfl⟩), by
          rw [hrg]
          have : kl P tk ek k = y.1 := by rw [hxk, κ.at (h2 k hk)] at hky; exact Option.some.inj hky
          rw [this]
          exact WideAt.sameKey_self (κ.keyed.key hky)⟩
      rw [has_of κ (hD k (h2 k hk))] at hhas
      exact hhas
    · rintro ⟨hk, hs⟩
      have hhas := has_of κ (hD k hk)
      rw [hs] at hhas
      obtain ⟨p, hp, hpk⟩ := List.any_eq_true.1 hhas
      obtain ⟨x, hx, rfl⟩ := List.mem_map.1 (mem_sorted.1 hp)
      have e2 := WideAt.sameKey_eq hpk
      obtain ⟨y, hy⟩ := F.reads x hx
      rw [Go.WideElems.rg_of hy] at e2
      obtain ⟨k', h3, h4⟩ := hex x hx
      have hky : keyOf P tk x.key = some y.1 := Go.WideElems.rd_key hy
      rw [h3, κ.at h4, e2] at hky
      have : k' = k := κ.kinj h4 hk (by first | exact Option.some.inj hky | exact (Option.some.inj hky).symm)
      subst this
      have : ek k' ∈ l.map ek := by rw [h1]; exact List.mem_map.2 ⟨x, hx, h3⟩
      obtain ⟨k2, h5, h6⟩ := List.mem_map.1 this
      rw [← κ.inj _ _ h6]; exact h5
theorem Mp.card (κ : Kind P t tk te z ek wk) {w : World} {b n : Nat} {f : K → Option Value} (h : Mp P tk ek wk w b n f) {l : List K} (hn : l.Nodup) (hl : ∀ k, k ∈ l ↔ wk k ∧ (f k).isSome = true) : n = l.length := by
  obtain ⟨l', h1, h2, h3⟩ := h.keys κ
  have a := len_sub l l' hn fun x hx => (h3 x).2 ((hl x).1 hx)
  have b := len_sub l' l h1 fun x hx => (hl x).2 ((h3 x).1 hx)
  omega
theorem Mp.card_le (κ : Kind P t tk te z ek wk) {w : World} {b n : Nat} {f : K → Option Value} (h : Mp P tk ek wk w b n f) {l : List K} (hl : ∀ k, wk k → (f k).isSome = true → k ∈ l) : n ≤ l.length := by
  obtain ⟨l', h1, h2, h3⟩ := h.keys κ
  rw [← h2]
  exact len_sub l' l h1 fun x hx => hl x ((h3 x).1 hx).1 ((h3 x).1 hx).2
/-! ## a range -/
/-- a range over a map under way: these were told -/
def Rgs (P : Program) (tk : TypeId) {K : Type} (ek : K → Value) (wk : K → Prop) (w : World) (b r : Nat) (f : K → Option Value) (es : List K) (cnt : Nat) : Prop :=
  ∃ (n : Nat) (D : DataW Value) (lf : Lit → Bool), w.ranges P tk rv b r n D lf cnt ∧ (∀ k, wk k → ∀ z, D.atKey (kl P tk ek k) z = match f k with | some v => .held v | none => z) ∧
    es.Nodup ∧ ∀ k, k ∈ es ↔ wk k ∧ (f k).isSome = true ∧ lf (kl P tk ek k) = false
theorem ranges_kept {w Y : World} {b r n : Nat} {P : Program} {k : TypeId} {H : Type} {R : Value → Option (DataW H × List MemPlace)} {D : DataW H} {left : Lit → Bool} {cnt : Nat} (h : w.ranges P k R b r n D left cnt) (e1 : Y.heap[b]? = w.heap[b]?) (e2 : Y.heap[r]? = w.heap[r]?) : Y.ranges P k R b r n D left cnt := by
  obtain ⟨es, clock, since, seen, c0, hb, F, hs, hD, hr, rest⟩ := h
  exact ⟨es, clock, since, seen, c0, e1.trans hb, F, hs, hD, e2.trans hr, rest⟩
theorem Rgs.kept {w Y : World} {b r : Nat} {f : K → Option Value} {es : List K} {cnt : Nat} (h : Rgs P tk ek wk w b r f es cnt) (e1 : Y.heap[b]? = w.heap[b]?) (e2 : Y.heap[r]? = w.heap[r]?) : Rgs P tk ek wk Y b r f es cnt := by
  obtain ⟨n, D, lf, h, h2⟩ := h; exact ⟨n, D, lf, ranges_kept h e1 e2, h2⟩
theorem Rgs.left_eq {w : World} {b r : Nat} {f : K → Option Value} {es : List K} {cnt : Nat} (h : Rgs P tk ek wk w b r f es cnt) : w.rangeLeft b r = cnt := by
  obtain ⟨n, D, lf, h, _⟩ := h; exact h.left_eq
theorem Rgs.lt {w : World} {b r : Nat} {f : K → Option Value} {es : List K} {cnt : Nat} (h : Rgs P tk ek wk w b r f es cnt) : r < w.heap.size := by
  obtain ⟨n, D, lf, h, _⟩ := h; exact h.lt
theorem Rgs.mem {w : World} {b r : Nat} {f : K → Option Value} {es : List K} {cnt : Nat} (h : Rgs P tk ek wk w b r f es cnt) {k : K} (hk : k ∈ es) : wk k ∧ (f k).isSome = true := by
  obtain ⟨n, D, lf, _, _, _, h⟩ := h; exact ⟨((h k).1 hk).1, ((h k).1 hk).2.1⟩
theorem Rgs.nodup {w : World} {b r : Nat} {f : K → Option Value} {es : List K} {cnt : Nat} (h : Rgs P tk ek wk w b r f es cnt) : es.Nodup := by
  obtain ⟨n, D, lf, _, _, h, _⟩ := h; exact h
section
variable {ops : Array Oper} {rest : List Oper} {o : Oper} {a : Act} {Q : Exit → Act → World → Prop}
theorem Mp.range (κ : Kind P t tk te z ek wk) {w : World} {b n : Nat} {f : K → Option Value} (h : Mp P tk ek wk w b n f) :
    ∃ w' cnt, (Instr.range t (.map (some b))).run P w = .ok (.pointer (some ⟨w.heap.size, 0, none⟩)) w' ∧ Rgs P tk ek wk w' b w.heap.size f [] cnt ∧ w.grownBy w' none ∧ w'.heap.size = w.heap.size + 1 := by
  obtain ⟨D, hm, hn, hD⟩ := h
  obtain ⟨w', h1, h2, h3, h4⟩ := hm.range κ.keyed κ.map
  refine ⟨w', _, h1, ⟨n, D, _, h2, hD, List.nodup_nil, fun k => ?_⟩, h3, h4⟩
  simp only [List.not_mem_nil, false_iff, not_and]
  intro hk hs
  rw [has_of κ (hD k hk), hs]
  simp
theorem wpList_next (κ : Kind P t tk te z ek wk) (w : World) (hg : o.guard = none) (it : Operand) (hop : o.op = Op.next it false) (b r : Nat) (f : K → Option Value) (es : List K) (cnt : Nat)
    (hit : a.eval it = .pointer (some ⟨r, 0, none⟩)) (h : Rgs P tk ek wk w b r f es cnt)
    (hDone : (∀ k, wk k → (f k).isSome = true → k ∈ es) → wpList P ops Q rest (a.put o.dst (.tuple #[.bool false])) w)
    (hMore : ∀ (k : K) (v : Value) (w' : World) (cnt' : Nat), wk k → f k = some v → k ∉ es → Rgs P tk ek wk w' b r f (es ++ [k]) cnt' → cnt' < cnt → w.grownBy w' (some r) → w'.heap.size = w.heap.size →
      (Instr.entry (.pointer (some ⟨r, 0, none⟩))).run P w' = .ok (.tuple #[ek k, v]) w' → wpList P ops Q rest (a.put o.dst (.tuple #[.bool true, ek k, v])) w') :
    wpList P ops Q (o :: rest) a w := by
  obtain ⟨n, D, lf, h1, h2, h3, h4⟩ := h
  refine wpList_plain hg fun K' hK' => ?_
  unfold Oper.wp
  rcases h1.next κ.keyed o.type with ⟨h0, hl, hrun⟩ | ⟨key, v, l, y, w', cnt', hkey, hlk, hv, hat, hrun, hrg, hlt, hgr, hsz, hen⟩
  · simp [execOp, hop, hit, hrun, Result.andThen]
    exact hK' _ _ (hDone fun k hk hs => (h4 k).2 ⟨hk, hs, hl _⟩)
  · obtain ⟨k, rfl, hwk⟩ := κ.back _ _ hkey
    have hkl := κ.at hwk
    rw [hkey] at hkl
    obtain rfl := Option.some.inj hkl
    simp only [Option.some.injEq] at hv
    subst hv
    have hf : f k = some v := by
      cases e : f k with
      | none =>
        have h5 := h2 k hwk .nil
        rw [hat, e] at h5; cases h5
      | some i =>
        have h5 := h2 k hwk .nil
        rw [hat, e] at h5
        simp only [DataW.held.injEq] at h5
        rw [h5]
    simp [execOp, hop, hit, hrun, Result.andThen]
    have hne : k ∉ es := fun hm => by have := ((h4 k).1 hm).2.2; rw [hlk] at this; cases this
    refine hK' _ _ (hMore k v w' cnt' hwk hf hne ⟨n, D, _, hrg, h2, ?_, fun k' => ?_⟩ hlt hgr hsz hen)
    · rw [List.nodup_append]
      exact ⟨h3, by simp, by simp; exact fun x hx e => hne (e ▸ hx)⟩
    · rw [List.mem_append, h4 k', List.mem_singleton]
      by_cases e : k' = k
      · subst e
        simp only [or_true, true_iff]
        refine ⟨hwk, by rw [hf]; rfl, ?_⟩
        rw [WideAt.sameKey_self (κ.keyed.key hkey)]; simp
      · constructor
        · rintro (⟨g1, g2, g3⟩ | g)
          · exact ⟨g1, g2, by rw [g3]; rfl⟩
          · exact absurd g e
        · rintro ⟨g1, g2, g3⟩
          refine .inl ⟨g1, g2, ?_⟩
          rw [Maps.sameKey_ne (fun e2 => e (κ.kinj g1 hwk e2))] at g3
          simpa using g3
end
end
end Go.Proofs.YtcodjknhnhdkfaaGreatDoor.Mv
