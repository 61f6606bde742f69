/- graphs: a node more -/
import Derived.Test.YtcodjknhnhdkfaaGreatDoorBr19
import Derived.Test.YtcodjknhnhdkfaaGreatDoorBrHf
import Derived.Shelf.Abstract
namespace Go.Proofs.YtcodjknhnhdkfaaGreatDoor.DgB
open Go.RowKit Go.Lib Hp Mv Dg Ht
set_option linter.unusedVariables false
set_option maxRecDepth 20000
def put {α : Type} (f : Id → α) (x : Id) (v : α) : Id → α := fun y => if y = x then v else f y
theorem put_same {α : Type} (f : Id → α) (x : Id) (v : α) : put f x v x = v := by unfold put; rw [if_pos rfl]
theorem put_ne {α : Type} (f : Id → α) {x y : Id} (v : α) (h : y ≠ x) : put f x v y = f y := by unfold put; rw [if_neg h]
theorem empty_map {V : World} {b c : Nat} (h : V.heap[b]? = some (.map #[] c)) : Mq V b 0 (fun _ => none) :=
  ⟨.map [], ⟨#[], c, h, ⟨Nat.zero_le _, MapKept.stamped_empty c, fun x hx => by simp at hx⟩, Nat.le_refl _, rfl⟩, rfl, fun _ _ _ => rfl⟩
section
variable {S : Nat → Prop} {w : World} {gb : Nat} {mv : Option Nat} {ns : List Id} {E : Id → Id → Bool} {nb ob ub : Id → Nat}
/-- the first map -/
theorem Gq.withMap {Y : World} {M : Nat} (q : Gq S w gb none ns E nb ob ub) (hg : Y.heap[gb]? = some (.cells #[.map (some M)] 106 (0, 0))) (hM : Y.heap[M]? = some (.map #[] 0)) (f : Fr S w Y) (hl : w.heap.size ≤ M) :
    Gq (fun k => S k ∨ k = M) Y gb (some M) ns E nb ob ub := by
  have hns : ns = [] := by
    rcases q.map with ⟨_, h⟩ | ⟨b, h, _⟩
    · exact h
    · cases h
  subst hns
  have hMs := (Array.getElem?_eq_some_iff.1 hM).1
  refine ⟨hg, .inr ⟨M, rfl, ?_⟩, by simp, by simp, by simp, q.edge, by simp, List.nodup_nil, by simp, by simp, by simp, by simp, .inl q.ownG, fun b e => .inr (Option.some.inj e).symm, by simp, fun k hk => ?_⟩
  · exact (empty_map hM).congr fun k _ => by unfold nf; simp
  · rcases hk with hk | rfl
    · exact Nat.lt_of_lt_of_le (q.size k hk) f.size
    · exact hMs
theorem Gq.mapMade (q : Gq S w gb none ns E nb ob ub) :
    Gq (fun k => S k ∨ k = w.heap.size) ((w.setCell ⟨gb, 0, none⟩ (.map (some w.heap.size))).alloc (.map #[] 0)) gb (some w.heap.size) ns E nb ob ub ∧ Fr S w ((w.setCell ⟨gb, 0, none⟩ (.map (some w.heap.size))).alloc (.map #[] 0)) := by
  have hg := q.size gb q.ownG
  have sz : (w.setCell ⟨gb, 0, none⟩ (.map (some w.heap.size))).heap.size = w.heap.size := by simp
  have h1 := MapKept.heap_alloc (w.setCell ⟨gb, 0, none⟩ (.map (some w.heap.size))) (.map #[] 0)
  rw [sz] at h1
  have f : Fr S w ((w.setCell ⟨gb, 0, none⟩ (.map (some w.heap.size))).alloc (.map #[] 0)) :=
    ⟨rfl, rfl, rfl, by simp, fun k hk hn => (h1.2 k hk).trans (heap_setCell_other _ _ _ _ (by show k ≠ gb; intro e; exact hn (e ▸ q.ownG)))⟩
  exact ⟨q.withMap ((h1.2 gb hg).trans (by rw [Lib.heap_setCell_same q.obj]; rfl)) h1.1 f (Nat.le_refl _), f⟩
/-- a node that is there alone -/
theorem Gq.added {x : Id} {V Y : World} {b n' o' u' : Nat} (q : Gq S w gb (some b) ns E nb ob ub) (hx : x ∉ ns) (hwk : wk x ∧ x.2 = false) (hb : Below w.heap.size w V)
    (hN : V.heap[n']? = some (.cells #[kv x.1, .map (some o'), .map (some u')] 122 (0, 0))) (hO : V.heap[o']? = some (.map #[] 0)) (hU : V.heap[u']? = some (.map #[] 0))
    (ln : w.heap.size ≤ n') (lo : w.heap.size ≤ o') (lu : w.heap.size ≤ u') (hd : o' ≠ u') (hg : V.grownBy Y (some b)) (hm : Mq Y b (ns.length + 1) (Mv.upd (nf ns nb) x (.pointer (some ⟨n', 0, none⟩)))) :
    Gq (fun k => S k ∨ w.heap.size ≤ k ∧ (k = n' ∨ k = o' ∨ k = u')) Y gb (some b) (ns ++ [x]) E (put nb x n') (put ob x o') (put ub x u') ∧ Fr S w Y := by
  have q2 := q.below hb (Nat.le_refl _)
  have hbS := q.ownM b rfl
  have hbl := q.size b hbS
  have ne : ∀ k ∈ ns, k ≠ x := fun k hk e => hx (e ▸ hk)
  have hbm : ∃ n f, Mq V b n f := by
    rcases q2.map with ⟨h, _⟩ | ⟨b', h, hm⟩
    · cases h
    · obtain rfl := Option.some.inj h; exact ⟨_, _, hm⟩
  obtain ⟨nM, fM, hbm⟩ := hbm
  have kp : ∀ k, k < V.heap.size → k ≠ b → Y.heap[k]? = V.heap[k]? := fun k hk e => hg.block k hk (fun e2 => e (Option.some.inj e2))
  have lt : ∀ {k : Nat} {o : Obj}, V.heap[k]? = some o → k < V.heap.size := fun h => (Array.getElem?_eq_some_iff.1 h).1
  have sz : ∀ k, S k → k < V.heap.size := fun k hk => q2.size k hk
  have mem : ∀ k, k ∈ ns ++ [x] → k ∈ ns ∨ k = x := fun k hk => by simpa using hk
  have old : ∀ k ∈ ns, S (nb k) ∧ S (ob k) ∧ S (ub k) := q.ownN
  have so : ∀ k, S k → k < w.heap.size := q.size
  refine ⟨⟨?_, .inr ⟨b, rfl, ?_⟩, ?_, ?_, ?_, ?_, ?_, ?_, ?_, ?_, ?_, ?_, .inl q.ownG, fun b' e => .inl (q.ownM b' e), ?_, ?_⟩, ?_⟩
  · exact (kp gb (sz gb q.ownG) (hbm.ne q2.obj).symm).trans q2.obj
  · rw [show (ns ++ [x]).length = ns.length + 1 by simp]
    refine hm.congr fun k _ => ?_
    unfold Mv.upd nf
    by_cases e : k = x
    · subst e; rw [if_pos rfl, if_pos (by simp), put_same]
    · rw [if_neg e, put_ne _ _ e]
      by_cases h : k ∈ ns
      · rw [if_pos h, if_pos (by simp [h])]
      · rw [if_neg h, if_neg (by simp [h, e])]
  · intro k hk
    rcases mem k hk with hk | rfl
    · rw [put_ne _ _ (ne k hk), put_ne _ _ (ne k hk), put_ne _ _ (ne k hk)]
      exact (kp _ (lt (q2.node k hk)) (hbm.ne (q2.node k hk)).symm).trans (q2.node k hk)
    · rw [put_same, put_same, put_same]
      exact (kp _ (lt hN) (hbm.ne hN).symm).trans hN
  · intro k hk
    rcases mem k hk with hk | rfl
    · rw [put_ne _ _ (ne k hk)]
      obtain ⟨n, h⟩ := q2.on k hk
      exact ⟨n, h.kept (kp _ h.lt (q.dM b rfl k hk).1)⟩
    · rw [put_same]
      refine ⟨0, ((empty_map hO).kept (kp _ (lt hO) (by omega))).congr fun y _ => ?_⟩
      unfold sf
      rw [if_neg (fun e => hx (q.edge _ _ e).1)]
  · intro k hk
    rcases mem k hk with hk | rfl
    · rw [put_ne _ _ (ne k hk)]
      obtain ⟨n, h⟩ := q2.users k hk
      exact ⟨n, h.kept (kp _ h.lt (q.dM b rfl k hk).2)⟩
    · rw [put_same]
      refine ⟨0, ((empty_map hU).kept (kp _ (lt hU) (by omega))).congr fun y _ => ?_⟩
      unfold sf
      rw [if_neg (fun e => hx (q.edge _ _ e).2)]
  · intro a c h
    have := q.edge a c h
    exact ⟨by simp [this.1], by simp [this.2]⟩
  · intro k hk
    rcases mem k hk with hk | rfl
    · exact q.ok k hk
    · exact hwk
  · rw [List.nodup_append]
    exact ⟨q.nd, by simp, by intro a ha c hc e; rw [List.mem_singleton] at hc; exact hx (by rw [← hc, ← e]; exact ha)⟩
  · intro k hk y hy e
    rcases mem k hk with h1 | h1 <;> rcases mem y hy with h2 | h2
    · rw [put_ne _ _ (ne k h1), put_ne _ _ (ne y h2)] at e; exact q.dOO k h1 y h2 e
    · rw [put_ne _ _ (ne k h1), h2, put_same] at e; have := so _ (old k h1).2.1; omega
    · rw [put_ne _ _ (ne y h2), h1, put_same] at e; have := so _ (old y h2).2.1; omega
    · rw [h1, h2]
  · intro k hk y hy e
    rcases mem k hk with h1 | h1 <;> rcases mem y hy with h2 | h2
    · rw [put_ne _ _ (ne k h1), put_ne _ _ (ne y h2)] at e; exact q.dUU k h1 y h2 e
    · rw [put_ne _ _ (ne k h1), h2, put_same] at e; have := so _ (old k h1).2.2; omega
    · rw [put_ne _ _ (ne y h2), h1, put_same] at e; have := so _ (old y h2).2.2; omega
    · rw [h1, h2]
  · intro k hk y hy e
    rcases mem k hk with h1 | h1 <;> rcases mem y hy with h2 | h2
    · rw [put_ne _ _ (ne k h1), put_ne _ _ (ne y h2)] at e; exact q.dOU k h1 y h2 e
    · rw [put_ne _ _ (ne k h1), h2, put_same] at e; have := so _ (old k h1).2.1; omega
    · rw [put_ne _ _ (ne y h2), h1, put_same] at e; have := so _ (old y h2).2.2; omega
    · rw [h1, h2, put_same, put_same] at e; exact hd e
  · intro b' e k hk
    obtain rfl := Option.some.inj e
    rcases mem k hk with hk | rfl
    · rw [put_ne _ _ (ne k hk), put_ne _ _ (ne k hk)]; exact q.dM _ rfl k hk
    · rw [put_same, put_same]; omega
  · intro k hk
    rcases mem k hk with hk | rfl
    · rw [put_ne _ _ (ne k hk), put_ne _ _ (ne k hk), put_ne _ _ (ne k hk)]
      exact ⟨.inl (old k hk).1, .inl (old k hk).2.1, .inl (old k hk).2.2⟩
    · rw [put_same, put_same, put_same]
      exact ⟨.inr ⟨ln, .inl rfl⟩, .inr ⟨lo, .inr (.inl rfl)⟩, .inr ⟨lu, .inr (.inr rfl)⟩⟩
  · intro k hk
    refine Nat.lt_of_lt_of_le ?_ hg.size
    rcases hk with hk | ⟨_, rfl | rfl | rfl⟩
    · exact sz k hk
    · exact lt hN
    · exact lt hO
    · exact lt hU
  · exact (Fr.of_below hb).trans (Fr.grown (S := S) hg (.inl hbS)) fun k hk => .inl hk
end
/-- a row of keys that came in -/
def Ks (S : Nat → Prop) (w : World) (v : Value) (ks : List (List UInt8)) : Prop :=
  (ks = [] ∧ v = .slice none 0 0) ∨ ∃ g c, v = .slice (some ⟨g, 0, none⟩) ks.length c ∧ ¬ S g ∧ g < w.heap.size ∧ ∀ i k, ks[i]? = some k → w.cell? ⟨g, i, none⟩ = some (kv k)
theorem Ks.shape {S : Nat → Prop} {w : World} {v : Value} {ks : List (List UInt8)} (h : Ks S w v ks) : ∃ a c, v = .slice a ks.length c ∧ (ks ≠ [] → ∃ g, a = some ⟨g, 0, none⟩ ∧ ¬ S g ∧ g < w.heap.size ∧ ∀ i k, ks[i]? = some k → w.cell? ⟨g, i, none⟩ = some (kv k)) := by
  rcases h with ⟨rfl, rfl⟩ | ⟨g, c, rfl, h1, h2, h3⟩
  · exact ⟨none, 0, rfl, fun h => absurd rfl h⟩
  · exact ⟨_, c, rfl, fun _ => ⟨g, rfl, h1, h2, h3⟩⟩
/-- many more -/
def addL (E : Id → Id → Bool) (x : Id) (ks : List (List UInt8)) : Id → Id → Bool := fun a b => E a b || (decide (a = x) && decide (b ∈ ks.map fun k => (k, false)))
theorem addL_iff {E : Id → Id → Bool} {x a b : Id} {ks : List (List UInt8)} : addL E x ks a b = true ↔ E a b = true ∨ (a = x ∧ ∃ k ∈ ks, b = (k, false)) := by
  unfold addL; simp only [Bool.or_eq_true, Bool.and_eq_true, decide_eq_true_eq, List.mem_map]
  constructor
  · rintro (h | ⟨h, k, h1, h2⟩)
    · exact .inl h
    · exact .inr ⟨h, k, h1, h2.symm⟩
  · rintro (h | ⟨h, k, h1, h2⟩)
    · exact .inl h
    · exact .inr ⟨h, k, h1, h2.symm⟩
theorem bool_ext {f g : Id → Id → Bool} (h : ∀ a b, f a b = true ↔ g a b = true) : f = g := by
  funext a b
  have := h a b
  cases h1 : f a b <;> cases h2 : g a b <;> simp_all
theorem addL_nil (E : Id → Id → Bool) (x : Id) : addL E x [] = E := bool_ext fun a b => by rw [addL_iff]; simp
theorem addL_snoc (E : Id → Id → Bool) (x : Id) (ks : List (List UInt8)) (k : (List UInt8)) : addE (addL E x ks) x (k, false) = addL E x (ks ++ [k]) := bool_ext fun a b => by
  rw [addE_iff, addL_iff, addL_iff]
  constructor
  · rintro ((h | ⟨h, k', h1, h2⟩) | ⟨h1, h2⟩)
    · exact .inl h
    · exact .inr ⟨h, k', by simp [h1], h2⟩
    · exact .inr ⟨h1, k, by simp, h2⟩
  · rintro (h | ⟨h, k', h1, h2⟩)
    · exact .inl (.inl h)
    · simp only [List.mem_append, List.mem_singleton] at h1
      rcases h1 with h1 | rfl
      · exact .inl (.inr ⟨h, k', h1, h2⟩)
      · exact .inr ⟨h, h2⟩
end Go.Proofs.YtcodjknhnhdkfaaGreatDoor.DgB
namespace Go.Proofs.YtcodjknhnhdkfaaGreatDoor.DgB
open Go.RowKit Go.Lib Hp Mv Dg Ht
set_option linter.unusedVariables false
set_option maxRecDepth 20000
attribute [local go_sem] Oper.semAt_some
/-- a node on its way in -/
structure Ad (S : Nat → Prop) (w : World) (k : (List UInt8)) (v : Value) (ks : List (List UInt8)) (B gb : Nat) (T : Nat → Prop) (X : World) (b : Option Nat) (ns : List Id) (E : Id → Id → Bool) (nb ob ub : Id → Nat) : Prop where
  q : Gq T X gb b ns E nb ob ub
  fr : Fr S w X
  new : ∀ j, T j → S j ∨ w.heap.size ≤ j
  id : X.cell? ⟨B, 0, none⟩ = some (kv k) ∧ X.cell? ⟨B, 1, none⟩ = some (.bool false)
  nid : ¬ T B
  row : Ks T X v ks
theorem Ks.fr {S T S' : Nat → Prop} {X Y : World} {v : Value} {ks : List (List UInt8)} (h : Ks S X v ks) (f : Fr S' X Y) (hs : ∀ j, S' j → S j ∨ X.heap.size ≤ j) (ht : ∀ j, j < X.heap.size → T j → S j) : Ks T Y v ks := by
  rcases h with h | ⟨g, c, rfl, h1, h2, h3⟩
  · exact .inl h
  · have hn : ¬ S' g := fun e => (hs g e).elim h1 (by omega)
    exact .inr ⟨g, c, rfl, fun e => h1 (ht g h2 e), Nat.lt_of_lt_of_le h2 f.size, fun i k hk => f.cell (h3 i k hk) hn⟩
/-- on, where what turned is the graph's or new -/
theorem Ad.go {S : Nat → Prop} {w : World} {k : (List UInt8)} {v : Value} {ks : List (List UInt8)} {B gb : Nat} {T T' S' : Nat → Prop} {X Y : World} {b b' : Option Nat} {ns ns' : List Id} {E E' : Id → Id → Bool} {nb ob ub nb' ob' ub' : Id → Nat}
    (h : Ad S w k v ks B gb T X b ns E nb ob ub) (q : Gq T' Y gb b' ns' E' nb' ob' ub') (f : Fr S' X Y) (hs : ∀ j, S' j → T j ∨ X.heap.size ≤ j) (ht : ∀ j, T' j → T j ∨ X.heap.size ≤ j) : Ad S w k v ks B gb T' Y b' ns' E' nb' ob' ub' := by
  have hB : B < X.heap.size := World.block_lt_of_cell? _ _ h.id.1
  have nB : ¬ S' B := fun e => (hs B e).elim h.nid (by omega)
  have sz := h.fr.size
  exact ⟨q, h.fr.trans f fun x hx => (hs x hx).elim (h.new x) (fun e => .inr (by omega)), fun j hj => (ht j hj).elim (h.new j) (fun e => .inr (by omega)), ⟨f.cell h.id.1 nB, f.cell h.id.2 nB⟩, fun e => (ht B e).elim h.nid (by omega), h.row.fr f hs fun j hj e => (ht j e).elim (fun e => e) (by omega)⟩
theorem Ad.below {S : Nat → Prop} {w : World} {k : (List UInt8)} {v : Value} {ks : List (List UInt8)} {B gb : Nat} {T : Nat → Prop} {X Y : World} {b : Option Nat} {ns : List Id} {E : Id → Id → Bool} {nb ob ub : Id → Nat}
    (h : Ad S w k v ks B gb T X b ns E nb ob ub) (hb : Below X.heap.size X Y) : Ad S w k v ks B gb T Y b ns E nb ob ub :=
  h.go (h.q.below hb (Nat.le_refl _)) (Fr.of_below (S := fun _ => False) hb) (fun j e => e.elim) (fun j e => .inl e)
section
variable {S : Nat → Prop} {w : World} {gb : Nat} {mv : Option Nat} {ns : List Id} {E : Id → Id → Bool} {nb ob ub : Id → Nat}
theorem eql_nil (W : World) : (binOp .eql 104 (.map none) (.map none)).run Tryz.prog W = .ok (.bool true) W := by kernel_rfl
theorem eql_some (b : Nat) (W : World) : (binOp .eql 104 (.map (some b)) (.map none)).run Tryz.prog W = .ok (.bool false) W := by kernel_rfl
theorem below_new (w : World) (o : Obj) : Below w.heap.size w (w.alloc o) := (Below.refl _ w).alloc (Nat.le_refl _) _
theorem two_maps (X : World) (o : Obj) : (((X.drew.alloc (.map #[] 0)).alloc (.map #[] 0)).alloc o).heap[X.heap.size]? = some (.map #[] 0) ∧ (((X.drew.alloc (.map #[] 0)).alloc (.map #[] 0)).alloc o).heap[X.heap.size + 1]? = some (.map #[] 0) ∧
    (((X.drew.alloc (.map #[] 0)).alloc (.map #[] 0)).alloc o).heap[X.heap.size + 1 + 1]? = some o ∧ Below X.heap.size X (((X.drew.alloc (.map #[] 0)).alloc (.map #[] 0)).alloc o) := by
  have h1 := MapKept.heap_alloc X.drew (.map #[] 0)
  have h2 := MapKept.heap_alloc (X.drew.alloc (.map #[] 0)) (.map #[] 0)
  have h3 := MapKept.heap_alloc ((X.drew.alloc (.map #[] 0)).alloc (.map #[] 0)) o
  have s1 : (X.drew.alloc (.map #[] 0)).heap.size = X.heap.size + 1 := by simp
  have s2 : ((X.drew.alloc (.map #[] 0)).alloc (.map #[] 0)).heap.size = X.heap.size + 1 + 1 := by simp
  rw [s1] at h2
  rw [s2] at h3
  have s0 : X.drew.heap.size = X.heap.size := rfl
  rw [s0] at h1
  exact ⟨(h3.2 _ (by omega)).trans ((h2.2 _ (by omega)).trans h1.1), (h3.2 _ (by omega)).trans h2.1, h3.1, (((Below.refl _ X).drew.alloc (Nat.le_refl _) _).alloc (by simp) _).alloc (by simp; omega) _⟩
set_option maxHeartbeats 4000000 in
theorem add_any (q : Gq S w gb mv ns E nb ob ub) (k : (List UInt8)) (hk : okK k) (hnew : (k, false) ∉ ns) (v : Value) (ks : List (List UInt8)) (hv : Ks S w v ks) (hok : ∀ o ∈ ks, okK o) (hall : ∀ o ∈ ks, (o, false) ∈ ns) (hn : ns.length ≤ 900000) (hl : ks.length ≤ 900000) :
    Calls Tryz.prog 39 #[.pointer (some ⟨gb, 0, none⟩), kv k, v] w fun e w' => e = .returned (.int .i64 0) ∧ ∃ S', Gd S' w' gb (ns ++ [(k, false)]) (addL E (k, false) ks) ∧ Fr S w w' ∧ ∀ b, S' b → S b ∨ w.heap.size ≤ b := by
  obtain ⟨a, c, rfl, hsh⟩ := hv.shape
  obtain ⟨n, hln⟩ : ∃ n, n = ks.length := ⟨_, rfl⟩
  rw [← hln]
  have HQ := Lib.hid (And.intro q (And.intro hk (And.intro hnew (And.intro hok (And.intro hall (And.intro hn (And.intro hl (And.intro hsh (And.intro hln hv)))))))))
  clear q hk hnew hv hok hall hn hl hsh hln
  have hmix : Tryz.prog.follows .mixedOrders = true := by kernel_rfl
  unfold kv
  have hmm := @run_makeMap Tryz.prog
  go_enter Tryz.func39, Tryz.ntmps39
  go_wp2_with fail
  refine (idOf_any k _).mono ?_
  rintro e W1 ⟨rfl, hb1⟩
  have HB1 := Lib.hid hb1
  clear hb1
  unfold ek kv
  go_wp2_with fail
  obtain ⟨W2, hW2⟩ : ∃ V, V = W1.alloc (.cells #[.string ⟨k.toArray⟩, .bool false] 115) := ⟨_, rfl⟩
  have hb2 : Below W1.heap.size W1 W2 := by rw [hW2]; exact below_new _ _
  have hid2 := cell_id W1 (k, false)
  unfold kv at hid2
  rw [← hW2] at hid2 ⊢
  have hz2 : W2.heap.size = W1.heap.size + 1 := by rw [hW2]; simp
  clear hW2
  obtain ⟨B, hB⟩ : ∃ B, B = W1.heap.size := ⟨_, rfl⟩
  rw [← hB] at hid2 hz2 hb2 ⊢
  have hbB : Below w.heap.size w W2 := HB1.out.trans (hb2.mono (by rw [hB]; exact HB1.out.size))
  have q2 := HQ.out.1.below hbB (Nat.le_refl _)
  have hBS : w.heap.size ≤ B := by rw [hB]; exact HB1.out.size
  have H2 := Lib.hid (And.intro hbB (And.intro q2 (And.intro hid2 (And.intro hz2 hBS))))
  clear hbB hid2 hz2 hBS hb2 hB HB1
  refine (has_any q2 (k, false) HQ.out.2.1).mono ?_
  rintro e W3 ⟨rfl, hb3⟩
  rw [decide_eq_false HQ.out.2.2.1]
  have H3 := Lib.hid hb3
  clear hb3 q2
  go_wp2_with fail
  go_loopw [21] (fun iv wr => ∃ i : Nat, iv = .int .i64 ((i : Nat) : Int) ∧ i ≤ ks.length ∧ Below W2.heap.size W2 wr) (fun iv _ => ks.length - (RowKit.intOf iv).toNat)
  case atStart => exact ⟨0, rfl, Nat.zero_le _, H3.out⟩
  case round =>
    obtain ⟨i, rfl, hi, hwr⟩ := hrel
    by_cases hlt : i < ks.length
    · obtain ⟨g, rfl, hgS, hgl, hgc⟩ := HQ.out.2.2.2.2.2.2.2.1 (fun e => by rw [e] at hlt; simp at hlt)
      obtain ⟨o, ho⟩ : ∃ o, ks[i]? = some o := ⟨_, List.getElem?_eq_getElem hlt⟩
      have hom := List.mem_of_getElem? ho
      have hoS := HQ.out.2.2.2.2.1 o hom
      have hltx : ((i : Nat) : Int) < ((n : Nat) : Int) := by have := HQ.out.2.2.2.2.2.2.2.2.1; omega
      have hc : wr.cell? ⟨g, i, none⟩ = some (kv o) := by
        have h1 := hgc i o ho
        have h2 : W2.cell? ⟨g, i, none⟩ = some (kv o) := (H2.out.1.cell (p := ⟨g, i, none⟩) hgl).trans h1
        exact (hwr.cell (p := ⟨g, i, none⟩) (Nat.lt_of_lt_of_le hgl H2.out.1.size)).trans h2
      unfold kv at hc
      have q3 := H2.out.2.1.below hwr (Nat.le_refl _)
      have HR := Lib.hid (And.intro hi (And.intro hlt (And.intro hwr (And.intro q3 (And.intro hoS hom)))))
      clear hi hlt hwr q3 hgS hgl hgc ho hoS hom
      go_wp2_with fail
      refine (idOf_any o _).mono ?_
      rintro e X1 ⟨rfl, hx1⟩
      have HX := Lib.hid hx1
      have q4 := HR.out.2.2.2.1.below hx1 (Nat.le_refl _)
      clear hx1
      go_wp2_with fail
      refine (has_any q4 (o, false) (HQ.out.2.2.2.1 o HR.out.2.2.2.2.2)).mono ?_
      rintro e X2 ⟨rfl, hx2⟩
      rw [decide_eq_true HR.out.2.2.2.2.1]
      have HY := Lib.hid hx2
      clear hx2 q4
      have hi1 : i + 1 ≤ 900000 := by have := HR.out.2.1; have := HQ.out.2.2.2.2.2.2.1; omega
      have hw1 : wrap64 (((i : Nat) : Int) + 1) = ((i + 1 : Nat) : Int) := by unfold wrap64; omega
      clear hi1
      go_wp2_with fail
      go_roundw
      case rel =>
        have b1 := HR.out.2.2.1
        have b2 := HX.out
        have b3 := HY.out
        exact ⟨i + 1, by rw [hw1], HR.out.2.1, (b1.trans (b2.mono b1.size)).trans (b3.mono (Nat.le_trans b1.size b2.size))⟩
      case measure => have := HR.out.2.1; rw [hw1]; simp [RowKit.intOf]; omega
    · have hie : i = n := by have := HQ.out.2.2.2.2.2.2.2.2.1; omega
      have hltx : ¬ ((i : Nat) : Int) < ((n : Nat) : Int) := by omega
      have hA : Ad S w k (.slice a ks.length c) ks B gb S wr mv ns E nb ob ub := by
        have hb := H2.out.1.trans (hwr.mono H2.out.1.size)
        have hid := H2.out.2.2.1
        have hB : B < W2.heap.size := World.block_lt_of_cell? _ _ hid.1
        exact ⟨H2.out.2.1.below hwr (Nat.le_refl _), Fr.of_below hb, fun j e => .inl e, ⟨(hwr.cell (p := ⟨B, 0, none⟩) hB).trans hid.1, (hwr.cell (p := ⟨B, 1, none⟩) hB).trans hid.2⟩, fun e => by have := HQ.out.1.size _ e; have := H2.out.2.2.2.2; omega, HQ.out.2.2.2.2.2.2.2.2.2.fr (Fr.of_below (S := fun _ => False) hb) (fun j e => e.elim) (fun j _ e => e)⟩
      have HA := Lib.hid hA
      have c0 := hA.q.cell
      have f0 := hA.q.frozen
      have hgl := hA.q.size gb hA.q.ownG
      clear hwr hlt hi hA
      subst hie
      obtain rfl | ⟨b, rfl⟩ : mv = none ∨ ∃ b, mv = some b := by cases mv <;> simp
      · have e0 := eql_nil wr
        clear H2 H3
        go_wp2_with fail
        obtain ⟨q, f⟩ := HA.out.q.mapMade
        have hA := HA.out.go q f (fun j e => .inl e) (fun j e => e.imp_right fun e => by omega)
        clear q f e0 c0 f0 HA
        obtain ⟨T, hT⟩ : ∃ T : Nat → Prop, T = fun k => S k ∨ k = wr.heap.size := ⟨_, rfl⟩
        obtain ⟨X, hX⟩ : ∃ X, X = (wr.setCell ⟨gb, 0, none⟩ (.map (some wr.heap.size))).alloc (.map #[] 0) := ⟨_, rfl⟩
        obtain ⟨b, hb⟩ : ∃ b, b = wr.heap.size := ⟨_, rfl⟩
        rw [← hT, ← hX, ← hb] at hA
        rw [← hX]
        clear hT hX hb hgl
        have HA := Lib.hid hA
        have cg := hA.q.cell
        have ci := hA.id
        unfold kv at ci
        clear hA
        have bl : ∀ Z : World, Below X.heap.size X Z → Z.cell? ⟨gb, 0, none⟩ = some (.map (some b)) ∧ Z.cell? ⟨B, 0, none⟩ = some (.string ⟨k.toArray⟩) ∧ Z.cell? ⟨B, 1, none⟩ = some (.bool false) := fun Z hb => by
          have h := HA.out.below hb
          have h2 := h.id
          unfold kv at h2
          exact ⟨h.q.cell, h2.1, h2.2⟩
        have HBL := Lib.hid bl
        clear bl
        go_wp2_with fail
        refine begin' 10 (fun Z => Z.cell? ⟨gb, 0, none⟩ = some (.map (some b)) ∧ Z.cell? ⟨B, 0, none⟩ = some (.string ⟨k.toArray⟩) ∧ Z.cell? ⟨B, 1, none⟩ = some (.bool false)) hmix ⟨cg, ci⟩ (fun hS0 => ?_)
        refine Ht.takeD 8 (i := 0) ⟨some 40, _, _, _, _, _⟩ (.pointer (some ⟨gb, 0, none⟩)) rfl (by kernel_rfl) (by kernel_rfl) (by decide) (by kernel_rfl) (by kernel_rfl) (by kernel_rfl) hS0 (Or.inl ⟨by rfl, by (intro X hX; go_simp)⟩) ?_
        simp only [Act.put, List.setIfInBounds_toArray, List.set_cons_zero, List.set_cons_succ]
        refine Ht.takeD 8 (i := 1) ⟨some 41, _, _, _, _, _⟩ (.pointer (some ⟨gb, 0, none⟩)) rfl (by kernel_rfl) (by kernel_rfl) (by decide) (by kernel_rfl) (by kernel_rfl) (by kernel_rfl) hS0 (Or.inl ⟨by rfl, by (intro X hX; go_simp)⟩) ?_
        simp only [Act.put, List.setIfInBounds_toArray, List.set_cons_zero, List.set_cons_succ]
        refine Ht.takeD 8 (i := 2) ⟨some 42, _, _, _, _, _⟩ (.pointer (some ⟨gb, 0, none⟩)) rfl (by kernel_rfl) (by kernel_rfl) (by decide) (by kernel_rfl) (by kernel_rfl) (by kernel_rfl) hS0 (Or.inl ⟨by rfl, by (intro X hX; go_simp)⟩) ?_
        simp only [Act.put, List.setIfInBounds_toArray, List.set_cons_zero, List.set_cons_succ]
        refine Ht.takeD 8 (i := 3) ⟨some 43, _, _, _, _, _⟩ (.map (some b)) rfl (by kernel_rfl) (by kernel_rfl) (by decide) (by kernel_rfl) (by kernel_rfl) (by kernel_rfl) hS0 (Or.inl ⟨by rfl, by (intro X hX; have := hX.1; go_simp)⟩) ?_
        simp only [Act.put, List.setIfInBounds_toArray, List.set_cons_zero, List.set_cons_succ]
        refine Ht.takeD 8 (i := 4) ⟨some 44, _, _, _, _, _⟩ (.agg #[.string ⟨k.toArray⟩, .bool false]) rfl (by kernel_rfl) (by kernel_rfl) (by decide) (by kernel_rfl) (by kernel_rfl) (by kernel_rfl) hS0 (Or.inl ⟨by rfl, by (intro X hX; have := hX.2; go_simp)⟩) ?_
        simp only [Act.put, List.setIfInBounds_toArray, List.set_cons_zero, List.set_cons_succ]
        refine Ht.takeD 8 (i := 5) ⟨some 45, _, _, _, _, _⟩ (.string ⟨k.toArray⟩) rfl (by kernel_rfl) (by kernel_rfl) (by decide) (by kernel_rfl) (by kernel_rfl) (by kernel_rfl) hS0 (Or.inl ⟨by rfl, by (intro X hX; go_simp)⟩) ?_
        simp only [Act.put, List.setIfInBounds_toArray, List.set_cons_zero, List.set_cons_succ]
        refine Ht.fork (i := 6) (j := 7) ⟨some 46, _, _, _, _, _⟩ ⟨some 47, _, _, _, _, _⟩ rfl rfl (by kernel_rfl) (by rfl) (by rfl) (fun K hK => ?_) (fun K hK => ?_)
        · go_simp
          have b1 : Below X.heap.size X (X.drew.alloc (.map #[] 0)) := (Below.refl _ X).drew.alloc (Nat.le_refl _) _
          refine hK _ _ (fun hn => HBL.out _ b1) (fun hnx => ?_)
          clear hK K hnx
          try simp only [Act.put, List.setIfInBounds_toArray, List.set_cons_zero, List.set_cons_succ]
          refine Ht.step (i := 7) ⟨some 47, _, _, _, _, _⟩ rfl (by kernel_rfl) (by rfl) (fun K hK => ?_)
          go_simp
          have b2 : Below X.heap.size X ((X.drew.alloc (.map #[] 0)).alloc (.map #[] 0)) := b1.alloc (by simp) _
          refine hK _ _ (fun hn => HBL.out _ b2) (fun hnx => ?_)
          clear hK K hnx
          try simp only [Act.put, List.setIfInBounds_toArray, List.set_cons_zero, List.set_cons_succ]
          refine Ht.takeD 8 (i := 8) ⟨some 48, _, _, _, _, _⟩ (.agg #[.string ⟨k.toArray⟩, .map (some (X.heap.size)), .map (some (X.heap.size + 1))]) rfl (by kernel_rfl) (by kernel_rfl) (by decide) (by kernel_rfl) (by kernel_rfl) (by kernel_rfl) (HBL.out _ b2) (Or.inl ⟨by rfl, by (intro X hX; go_simp)⟩) ?_
          simp only [Act.put, List.setIfInBounds_toArray, List.set_cons_zero, List.set_cons_succ]
          refine Ht.step (i := 9) ⟨some 49, _, _, _, _, _⟩ rfl (by kernel_rfl) (by rfl) (fun K hK => ?_)
          go_simp
          have b3 := (two_maps X (.cells #[.string ⟨k.toArray⟩, .map (some (X.heap.size)), .map (some (X.heap.size + 1))] 122)).2.2.2
          refine hK _ _ (fun hn => HBL.out _ b3) (fun hnx => ?_)
          clear hK K hnx
          try simp only [Act.put, List.setIfInBounds_toArray, List.set_cons_zero, List.set_cons_succ]
          obtain ⟨m1, m2, m3, m4⟩ := two_maps X (.cells #[.string ⟨k.toArray⟩, .map (some (X.heap.size)), .map (some (X.heap.size + 1))] 122)
          obtain ⟨U, hU⟩ : ∃ U, U = (((X.drew.alloc (.map #[] 0)).alloc (.map #[] 0)).alloc (.cells #[.string ⟨k.toArray⟩, .map (some (X.heap.size)), .map (some (X.heap.size + 1))] 122)) := ⟨_, rfl⟩
          rw [← hU] at m1 m2 m3 m4
          have hqU := HA.out.below m4
          have hmU : Mq U b ns.length (nf ns nb) := by
            rcases hqU.q.map with ⟨e, _⟩ | ⟨b', e, h⟩
            · cases e
            · obtain rfl := Option.some.inj e; exact h
          obtain ⟨Y, hrY, hmY, gY, sY⟩ := Mv.Mp.put kindN (w := U) hmU (by have := HQ.out.2.2.2.2.2.1; unfold maxLen; omega) (k := (k, false)) HQ.out.2.1 (.pointer (some ⟨X.heap.size + 1 + 1, 0, none⟩))
          rw [show (nf ns nb (k, false)).isSome = false by unfold nf; rw [if_neg HQ.out.2.2.1]; rfl] at hmY
          obtain ⟨qY, fY⟩ := HA.out.q.added HQ.out.2.2.1 ⟨HQ.out.2.1, rfl⟩ m4 m3 m1 m2 (by omega) (by omega) (by omega) (by omega) gY hmY
          have hAY := HA.out.go qY fY (fun j e => .inl e) (fun j e => e.imp_right fun e => e.1)
          clear qY fY hmY gY sY hmU hqU m1 m2 m3 m4 b1 b2 b3 hS0 cg ci
          unfold ek kv at hrY
          refine Ht.step (i := 10) ⟨none, _, _, _, _, _⟩ rfl (by kernel_rfl) (by rfl) (fun K hK => ?_)
          change Oper.wp _ _ _ (((X.drew.alloc (.map #[] 0)).alloc (.map #[] 0)).alloc (.cells #[.string ⟨k.toArray⟩, .map (some (X.heap.size)), .map (some (X.heap.size + 1))] 122)) _ _
          rw [← hU]
          clear hU
          go_simp
          refine hK _ _ (fun hn => absurd rfl hn) (fun hnx => ?_)
          clear hK K hnx
          try simp only [Act.put, List.setIfInBounds_toArray, List.set_cons_zero, List.set_cons_succ]
          refine done (by kernel_rfl) ?_
          have HAY := Lib.hid hAY
          clear hAY HBL
          go_wp2_with fail
          go_loopw [52] (fun iv wr2 => ∃ j : Nat, iv = .int .i64 ((j : Nat) : Int) ∧ j ≤ ks.length ∧ ∃ T' b' nb' ob' ub', Ad S w k (.slice a ks.length c) ks B gb T' wr2 b' (ns ++ [(k, false)]) (addL E (k, false) (ks.take j)) nb' ob' ub') (fun iv _ => ks.length - (RowKit.intOf iv).toNat)
          case atStart => exact ⟨0, rfl, Nat.zero_le _, _, _, _, _, _, by rw [List.take_zero, addL_nil]; exact HAY.out⟩
          case round =>
            obtain ⟨j, rfl, hj, T', b', nb', ob', ub', hA2⟩ := hrel
            by_cases hlt : j < ks.length
            · obtain ⟨g, rfl, _⟩ := HQ.out.2.2.2.2.2.2.2.1 (fun e => by rw [e] at hlt; simp at hlt)
              obtain ⟨o, ho⟩ : ∃ o, ks[j]? = some o := ⟨_, List.getElem?_eq_getElem hlt⟩
              have hom := List.mem_of_getElem? ho
              have hoS := HQ.out.2.2.2.2.1 o hom
              have hltx : ((j : Nat) : Int) < ((i : Nat) : Int) := by have := HQ.out.2.2.2.2.2.2.2.2.1; omega
              have hc : wr.cell? ⟨g, j, none⟩ = some (kv o) := by
                rcases hA2.row with ⟨e, _⟩ | ⟨g2, c2, e, _, _, h3⟩
                · rw [e] at hlt; simp at hlt
                · simp only [Value.slice.injEq, Option.some.injEq, Addr.mk.injEq] at e
                  rw [e.1.1]; exact h3 j o ho
              unfold kv at hc
              have ci := hA2.id
              unfold kv at ci
              have HR := Lib.hid (And.intro hj (And.intro hlt (And.intro hA2 (And.intro hoS (And.intro hom ho)))))
              clear hj hlt hA2 hoS hom ho
              have hj1 : j + 1 ≤ 900000 := by have := HR.out.2.1; have := HQ.out.2.2.2.2.2.2.1; omega
              have hw1 : wrap64 (((j : Nat) : Int) + 1) = ((j + 1 : Nat) : Int) := by unfold wrap64; omega
              clear hj1
              go_wp2_with fail
              refine begin' 4 (fun Z => Z.cell? ⟨B, 0, none⟩ = some (.string ⟨k.toArray⟩) ∧ Z.cell? ⟨B, 1, none⟩ = some (.bool false)) hmix ci (fun hS0 => ?_)
              refine Ht.takeD 8 (i := 0) ⟨some 56, _, _, _, _, _⟩ (.pointer (some ⟨gb, 0, none⟩)) rfl (by kernel_rfl) (by kernel_rfl) (by decide) (by kernel_rfl) (by kernel_rfl) (by kernel_rfl) hS0 (Or.inl ⟨by rfl, by (intro X hX; go_simp)⟩) ?_
              simp only [Act.put, List.setIfInBounds_toArray, List.set_cons_zero, List.set_cons_succ]
              refine Ht.takeD 8 (i := 1) ⟨some 57, _, _, _, _, _⟩ (.agg #[.string ⟨k.toArray⟩, .bool false]) rfl (by kernel_rfl) (by kernel_rfl) (by decide) (by kernel_rfl) (by kernel_rfl) (by kernel_rfl) hS0 (Or.inl ⟨by rfl, by (intro X hX; have := hX; go_simp)⟩) ?_
              simp only [Act.put, List.setIfInBounds_toArray, List.set_cons_zero, List.set_cons_succ]
              refine Ht.takeD 8 (i := 2) ⟨some 58, _, _, _, _, _⟩ (.string ⟨o.toArray⟩) rfl (by kernel_rfl) (by kernel_rfl) (by decide) (by kernel_rfl) (by kernel_rfl) (by kernel_rfl) hS0 (Or.inl ⟨by rfl, by (intro X hX; go_simp)⟩) ?_
              simp only [Act.put, List.setIfInBounds_toArray, List.set_cons_zero, List.set_cons_succ]
              refine Ht.step (i := 3) ⟨some 59, _, _, _, _, _⟩ rfl (by kernel_rfl) (by rfl) (fun K hK => ?_)
              refine Ht.enter 55 #[.string ⟨o.toArray⟩] (by have hen := fun args w => enters_of (P := Tryz.prog) Tryz.func55 (by kernel_rfl) rfl args w; go_simp) (idOf_any o _) ?_
              rintro e Z1 ⟨rfl, hz1⟩
              have hz1 : Below wr.heap.size wr.drew Z1 := hz1
              have a1 := HR.out.2.2.1.below ((Below.refl _ wr).drew.trans hz1)
              have ci1 := a1.id
              unfold kv at ci1
              unfold ek kv
              refine ⟨_, rfl, hK _ _ (fun _ => ci1) (fun _ => ?_)⟩
              clear hK K
              simp only [Act.put, List.setIfInBounds_toArray, List.set_cons_zero, List.set_cons_succ]
              have HZ := Lib.hid a1
              clear hz1 a1
              refine Ht.step (i := 4) ⟨some 60, _, _, _, _, _⟩ rfl (by kernel_rfl) (by rfl) (fun K hK => ?_)
              refine Ht.enter 57 #[.pointer (some ⟨gb, 0, none⟩), .agg #[.string ⟨k.toArray⟩, .bool false], .agg #[.string ⟨o.toArray⟩, .bool false]] (by have hen := fun args w => enters_of (P := Tryz.prog) Tryz.func57 (by kernel_rfl) rfl args w; go_simp) (join_any HZ.out.q (k, false) (o, false) (by simp) (by have := HR.out.2.2.2.1; simp [this]) (by have := HQ.out.2.2.2.2.2.1; simp; omega)) ?_
              rintro e Z2 ⟨rfl, hq2, hf2⟩
              have a2 := HZ.out.go hq2 hf2 (fun x e => .inl e) (fun x e => .inl e)
              rw [addL_snoc] at a2
              have ht : ks.take j ++ [o] = ks.take (j + 1) := by rw [List.take_add_one, HR.out.2.2.2.2.2]; rfl
              rw [ht] at a2
              refine ⟨_, rfl, hK _ _ (fun hn2 => absurd rfl hn2) (fun _ => ?_)⟩
              clear hK K
              simp only [Act.put, List.setIfInBounds_toArray, List.set_cons_zero, List.set_cons_succ]
              refine done (by kernel_rfl) ?_
              have HZ2 := Lib.hid a2
              clear a2 hq2 hf2 ht ci ci1 hS0 hc
              go_wp2_with fail
              go_roundw
              case rel => exact ⟨j + 1, by rw [hw1], HR.out.2.1, _, _, _, _, _, HZ2.out⟩
              case measure => have := HR.out.2.1; rw [hw1]; simp [RowKit.intOf]; omega
            · have hje : j = ks.length := by omega
              have hltx : ¬ ((j : Nat) : Int) < ((i : Nat) : Int) := by have := HQ.out.2.2.2.2.2.2.2.2.1; omega
              have HA2 := Lib.hid (And.intro hA2 hje)
              clear hA2 hj hlt hje
              go_wp2_with fail
              go_ret
              have h := HA2.out.1
              rw [HA2.out.2, List.take_length] at h
              exact ⟨by simp, _, ⟨_, _, _, _, h.q⟩, h.fr, h.new⟩
        · go_simp
          have b1 : Below X.heap.size X (X.drew.alloc (.map #[] 0)) := (Below.refl _ X).drew.alloc (Nat.le_refl _) _
          refine hK _ _ (fun hn => HBL.out _ b1) (fun hnx => ?_)
          clear hK K hnx
          try simp only [Act.put, List.setIfInBounds_toArray, List.set_cons_zero, List.set_cons_succ]
          refine Ht.step (i := 6) ⟨some 46, _, _, _, _, _⟩ rfl (by kernel_rfl) (by rfl) (fun K hK => ?_)
          go_simp
          have b2 : Below X.heap.size X ((X.drew.alloc (.map #[] 0)).alloc (.map #[] 0)) := b1.alloc (by simp) _
          refine hK _ _ (fun hn => HBL.out _ b2) (fun hnx => ?_)
          clear hK K hnx
          try simp only [Act.put, List.setIfInBounds_toArray, List.set_cons_zero, List.set_cons_succ]
          refine Ht.takeD 8 (i := 8) ⟨some 48, _, _, _, _, _⟩ (.agg #[.string ⟨k.toArray⟩, .map (some (X.heap.size + 1)), .map (some (X.heap.size))]) rfl (by kernel_rfl) (by kernel_rfl) (by decide) (by kernel_rfl) (by kernel_rfl) (by kernel_rfl) (HBL.out _ b2) (Or.inl ⟨by rfl, by (intro X hX; go_simp)⟩) ?_
          simp only [Act.put, List.setIfInBounds_toArray, List.set_cons_zero, List.set_cons_succ]
          refine Ht.step (i := 9) ⟨some 49, _, _, _, _, _⟩ rfl (by kernel_rfl) (by rfl) (fun K hK => ?_)
          go_simp
          have b3 := (two_maps X (.cells #[.string ⟨k.toArray⟩, .map (some (X.heap.size + 1)), .map (some (X.heap.size))] 122)).2.2.2
          refine hK _ _ (fun hn => HBL.out _ b3) (fun hnx => ?_)
          clear hK K hnx
          try simp only [Act.put, List.setIfInBounds_toArray, List.set_cons_zero, List.set_cons_succ]
          obtain ⟨m1, m2, m3, m4⟩ := two_maps X (.cells #[.string ⟨k.toArray⟩, .map (some (X.heap.size + 1)), .map (some (X.heap.size))] 122)
          obtain ⟨U, hU⟩ : ∃ U, U = (((X.drew.alloc (.map #[] 0)).alloc (.map #[] 0)).alloc (.cells #[.string ⟨k.toArray⟩, .map (some (X.heap.size + 1)), .map (some (X.heap.size))] 122)) := ⟨_, rfl⟩
          rw [← hU] at m1 m2 m3 m4
          have hqU := HA.out.below m4
          have hmU : Mq U b ns.length (nf ns nb) := by
            rcases hqU.q.map with ⟨e, _⟩ | ⟨b', e, h⟩
            · cases e
            · obtain rfl := Option.some.inj e; exact h
          obtain ⟨Y, hrY, hmY, gY, sY⟩ := Mv.Mp.put kindN (w := U) hmU (by have := HQ.out.2.2.2.2.2.1; unfold maxLen; omega) (k := (k, false)) HQ.out.2.1 (.pointer (some ⟨X.heap.size + 1 + 1, 0, none⟩))
          rw [show (nf ns nb (k, false)).isSome = false by unfold nf; rw [if_neg HQ.out.2.2.1]; rfl] at hmY
          obtain ⟨qY, fY⟩ := HA.out.q.added HQ.out.2.2.1 ⟨HQ.out.2.1, rfl⟩ m4 m3 m2 m1 (by omega) (by omega) (by omega) (by omega) gY hmY
          have hAY := HA.out.go qY fY (fun j e => .inl e) (fun j e => e.imp_right fun e => e.1)
          clear qY fY hmY gY sY hmU hqU m1 m2 m3 m4 b1 b2 b3 hS0 cg ci
          unfold ek kv at hrY
          refine Ht.step (i := 10) ⟨none, _, _, _, _, _⟩ rfl (by kernel_rfl) (by rfl) (fun K hK => ?_)
          change Oper.wp _ _ _ (((X.drew.alloc (.map #[] 0)).alloc (.map #[] 0)).alloc (.cells #[.string ⟨k.toArray⟩, .map (some (X.heap.size + 1)), .map (some (X.heap.size))] 122)) _ _
          rw [← hU]
          clear hU
          go_simp
          refine hK _ _ (fun hn => absurd rfl hn) (fun hnx => ?_)
          clear hK K hnx
          try simp only [Act.put, List.setIfInBounds_toArray, List.set_cons_zero, List.set_cons_succ]
          refine done (by kernel_rfl) ?_
          have HAY := Lib.hid hAY
          clear hAY HBL
          go_wp2_with fail
          go_loopw [52] (fun iv wr2 => ∃ j : Nat, iv = .int .i64 ((j : Nat) : Int) ∧ j ≤ ks.length ∧ ∃ T' b' nb' ob' ub', Ad S w k (.slice a ks.length c) ks B gb T' wr2 b' (ns ++ [(k, false)]) (addL E (k, false) (ks.take j)) nb' ob' ub') (fun iv _ => ks.length - (RowKit.intOf iv).toNat)
          case atStart => exact ⟨0, rfl, Nat.zero_le _, _, _, _, _, _, by rw [List.take_zero, addL_nil]; exact HAY.out⟩
          case round =>
            obtain ⟨j, rfl, hj, T', b', nb', ob', ub', hA2⟩ := hrel
            by_cases hlt : j < ks.length
            · obtain ⟨g, rfl, _⟩ := HQ.out.2.2.2.2.2.2.2.1 (fun e => by rw [e] at hlt; simp at hlt)
              obtain ⟨o, ho⟩ : ∃ o, ks[j]? = some o := ⟨_, List.getElem?_eq_getElem hlt⟩
              have hom := List.mem_of_getElem? ho
              have hoS := HQ.out.2.2.2.2.1 o hom
              have hltx : ((j : Nat) : Int) < ((i : Nat) : Int) := by have := HQ.out.2.2.2.2.2.2.2.2.1; omega
              have hc : wr.cell? ⟨g, j, none⟩ = some (kv o) := by
                rcases hA2.row with ⟨e, _⟩ | ⟨g2, c2, e, _, _, h3⟩
                · rw [e] at hlt; simp at hlt
                · simp only [Value.slice.injEq, Option.some.injEq, Addr.mk.injEq] at e
                  rw [e.1.1]; exact h3 j o ho
              unfold kv at hc
              have ci := hA2.id
              unfold kv at ci
              have HR := Lib.hid (And.intro hj (And.intro hlt (And.intro hA2 (And.intro hoS (And.intro hom ho)))))
              clear hj hlt hA2 hoS hom ho
              have hj1 : j + 1 ≤ 900000 := by have := HR.out.2.1; have := HQ.out.2.2.2.2.2.2.1; omega
              have hw1 : wrap64 (((j : Nat) : Int) + 1) = ((j + 1 : Nat) : Int) := by unfold wrap64; omega
              clear hj1
              go_wp2_with fail
              refine begin' 4 (fun Z => Z.cell? ⟨B, 0, none⟩ = some (.string ⟨k.toArray⟩) ∧ Z.cell? ⟨B, 1, none⟩ = some (.bool false)) hmix ci (fun hS0 => ?_)
              refine Ht.takeD 8 (i := 0) ⟨some 56, _, _, _, _, _⟩ (.pointer (some ⟨gb, 0, none⟩)) rfl (by kernel_rfl) (by kernel_rfl) (by decide) (by kernel_rfl) (by kernel_rfl) (by kernel_rfl) hS0 (Or.inl ⟨by rfl, by (intro X hX; go_simp)⟩) ?_
              simp only [Act.put, List.setIfInBounds_toArray, List.set_cons_zero, List.set_cons_succ]
              refine Ht.takeD 8 (i := 1) ⟨some 57, _, _, _, _, _⟩ (.agg #[.string ⟨k.toArray⟩, .bool false]) rfl (by kernel_rfl) (by kernel_rfl) (by decide) (by kernel_rfl) (by kernel_rfl) (by kernel_rfl) hS0 (Or.inl ⟨by rfl, by (intro X hX; have := hX; go_simp)⟩) ?_
              simp only [Act.put, List.setIfInBounds_toArray, List.set_cons_zero, List.set_cons_succ]
              refine Ht.takeD 8 (i := 2) ⟨some 58, _, _, _, _, _⟩ (.string ⟨o.toArray⟩) rfl (by kernel_rfl) (by kernel_rfl) (by decide) (by kernel_rfl) (by kernel_rfl) (by kernel_rfl) hS0 (Or.inl ⟨by rfl, by (intro X hX; go_simp)⟩) ?_
              simp only [Act.put, List.setIfInBounds_toArray, List.set_cons_zero, List.set_cons_succ]
              refine Ht.step (i := 3) ⟨some 59, _, _, _, _, _⟩ rfl (by kernel_rfl) (by rfl) (fun K hK => ?_)
              refine Ht.enter 55 #[.string ⟨o.toArray⟩] (by have hen := fun args w => enters_of (P := Tryz.prog) Tryz.func55 (by kernel_rfl) rfl args w; go_simp) (idOf_any o _) ?_
              rintro e Z1 ⟨rfl, hz1⟩
              have hz1 : Below wr.heap.size wr.drew Z1 := hz1
              have a1 := HR.out.2.2.1.below ((Below.refl _ wr).drew.trans hz1)
              have ci1 := a1.id
              unfold kv at ci1
              unfold ek kv
              refine ⟨_, rfl, hK _ _ (fun _ => ci1) (fun _ => ?_)⟩
              clear hK K
              simp only [Act.put, List.setIfInBounds_toArray, List.set_cons_zero, List.set_cons_succ]
              have HZ := Lib.hid a1
              clear hz1 a1
              refine Ht.step (i := 4) ⟨some 60, _, _, _, _, _⟩ rfl (by kernel_rfl) (by rfl) (fun K hK => ?_)
              refine Ht.enter 57 #[.pointer (some ⟨gb, 0, none⟩), .agg #[.string ⟨k.toArray⟩, .bool false], .agg #[.string ⟨o.toArray⟩, .bool false]] (by have hen := fun args w => enters_of (P := Tryz.prog) Tryz.func57 (by kernel_rfl) rfl args w; go_simp) (join_any HZ.out.q (k, false) (o, false) (by simp) (by have := HR.out.2.2.2.1; simp [this]) (by have := HQ.out.2.2.2.2.2.1; simp; omega)) ?_
              rintro e Z2 ⟨rfl, hq2, hf2⟩
              have a2 := HZ.out.go hq2 hf2 (fun x e => .inl e) (fun x e => .inl e)
              rw [addL_snoc] at a2
              have ht : ks.take j ++ [o] = ks.take (j + 1) := by rw [List.take_add_one, HR.out.2.2.2.2.2]; rfl
              rw [ht] at a2
              refine ⟨_, rfl, hK _ _ (fun hn2 => absurd rfl hn2) (fun _ => ?_)⟩
              clear hK K
              simp only [Act.put, List.setIfInBounds_toArray, List.set_cons_zero, List.set_cons_succ]
              refine done (by kernel_rfl) ?_
              have HZ2 := Lib.hid a2
              clear a2 hq2 hf2 ht ci ci1 hS0 hc
              go_wp2_with fail
              go_roundw
              case rel => exact ⟨j + 1, by rw [hw1], HR.out.2.1, _, _, _, _, _, HZ2.out⟩
              case measure => have := HR.out.2.1; rw [hw1]; simp [RowKit.intOf]; omega
            · have hje : j = ks.length := by omega
              have hltx : ¬ ((j : Nat) : Int) < ((i : Nat) : Int) := by have := HQ.out.2.2.2.2.2.2.2.2.1; omega
              have HA2 := Lib.hid (And.intro hA2 hje)
              clear hA2 hj hlt hje
              go_wp2_with fail
              go_ret
              have h := HA2.out.1
              rw [HA2.out.2, List.take_length] at h
              exact ⟨by simp, _, ⟨_, _, _, _, h.q⟩, h.fr, h.new⟩
      · have e0 := eql_some b wr
        clear H2 H3
        go_wp2_with fail
        have hA := HA.out
        clear e0 c0 f0 HA
        obtain ⟨T, hT⟩ : ∃ T : Nat → Prop, T = S := ⟨_, rfl⟩
        obtain ⟨X, hX⟩ : ∃ X, X = wr := ⟨_, rfl⟩
        rw [← hX] at hA ⊢
        rw [show Ad S w k (.slice a ks.length c) ks B gb S X (some b) ns E nb ob ub = Ad S w k (.slice a ks.length c) ks B gb T X (some b) ns E nb ob ub by rw [hT]] at hA
        clear hT hX hgl
        have HA := Lib.hid hA
        have cg := hA.q.cell
        have ci := hA.id
        unfold kv at ci
        clear hA
        have bl : ∀ Z : World, Below X.heap.size X Z → Z.cell? ⟨gb, 0, none⟩ = some (.map (some b)) ∧ Z.cell? ⟨B, 0, none⟩ = some (.string ⟨k.toArray⟩) ∧ Z.cell? ⟨B, 1, none⟩ = some (.bool false) := fun Z hb => by
          have h := HA.out.below hb
          have h2 := h.id
          unfold kv at h2
          exact ⟨h.q.cell, h2.1, h2.2⟩
        have HBL := Lib.hid bl
        clear bl
        go_wp2_with fail
        refine begin' 10 (fun Z => Z.cell? ⟨gb, 0, none⟩ = some (.map (some b)) ∧ Z.cell? ⟨B, 0, none⟩ = some (.string ⟨k.toArray⟩) ∧ Z.cell? ⟨B, 1, none⟩ = some (.bool false)) hmix ⟨cg, ci⟩ (fun hS0 => ?_)
        refine Ht.takeD 8 (i := 0) ⟨some 40, _, _, _, _, _⟩ (.pointer (some ⟨gb, 0, none⟩)) rfl (by kernel_rfl) (by kernel_rfl) (by decide) (by kernel_rfl) (by kernel_rfl) (by kernel_rfl) hS0 (Or.inl ⟨by rfl, by (intro X hX; go_simp)⟩) ?_
        simp only [Act.put, List.setIfInBounds_toArray, List.set_cons_zero, List.set_cons_succ]
        refine Ht.takeD 8 (i := 1) ⟨some 41, _, _, _, _, _⟩ (.pointer (some ⟨gb, 0, none⟩)) rfl (by kernel_rfl) (by kernel_rfl) (by decide) (by kernel_rfl) (by kernel_rfl) (by kernel_rfl) hS0 (Or.inl ⟨by rfl, by (intro X hX; go_simp)⟩) ?_
        simp only [Act.put, List.setIfInBounds_toArray, List.set_cons_zero, List.set_cons_succ]
        refine Ht.takeD 8 (i := 2) ⟨some 42, _, _, _, _, _⟩ (.pointer (some ⟨gb, 0, none⟩)) rfl (by kernel_rfl) (by kernel_rfl) (by decide) (by kernel_rfl) (by kernel_rfl) (by kernel_rfl) hS0 (Or.inl ⟨by rfl, by (intro X hX; go_simp)⟩) ?_
        simp only [Act.put, List.setIfInBounds_toArray, List.set_cons_zero, List.set_cons_succ]
        refine Ht.takeD 8 (i := 3) ⟨some 43, _, _, _, _, _⟩ (.map (some b)) rfl (by kernel_rfl) (by kernel_rfl) (by decide) (by kernel_rfl) (by kernel_rfl) (by kernel_rfl) hS0 (Or.inl ⟨by rfl, by (intro X hX; have := hX.1; go_simp)⟩) ?_
        simp only [Act.put, List.setIfInBounds_toArray, List.set_cons_zero, List.set_cons_succ]
        refine Ht.takeD 8 (i := 4) ⟨some 44, _, _, _, _, _⟩ (.agg #[.string ⟨k.toArray⟩, .bool false]) rfl (by kernel_rfl) (by kernel_rfl) (by decide) (by kernel_rfl) (by kernel_rfl) (by kernel_rfl) hS0 (Or.inl ⟨by rfl, by (intro X hX; have := hX.2; go_simp)⟩) ?_
        simp only [Act.put, List.setIfInBounds_toArray, List.set_cons_zero, List.set_cons_succ]
        refine Ht.takeD 8 (i := 5) ⟨some 45, _, _, _, _, _⟩ (.string ⟨k.toArray⟩) rfl (by kernel_rfl) (by kernel_rfl) (by decide) (by kernel_rfl) (by kernel_rfl) (by kernel_rfl) hS0 (Or.inl ⟨by rfl, by (intro X hX; go_simp)⟩) ?_
        simp only [Act.put, List.setIfInBounds_toArray, List.set_cons_zero, List.set_cons_succ]
        refine Ht.fork (i := 6) (j := 7) ⟨some 46, _, _, _, _, _⟩ ⟨some 47, _, _, _, _, _⟩ rfl rfl (by kernel_rfl) (by rfl) (by rfl) (fun K hK => ?_) (fun K hK => ?_)
        · go_simp
          have b1 : Below X.heap.size X (X.drew.alloc (.map #[] 0)) := (Below.refl _ X).drew.alloc (Nat.le_refl _) _
          refine hK _ _ (fun hn => HBL.out _ b1) (fun hnx => ?_)
          clear hK K hnx
          try simp only [Act.put, List.setIfInBounds_toArray, List.set_cons_zero, List.set_cons_succ]
          refine Ht.step (i := 7) ⟨some 47, _, _, _, _, _⟩ rfl (by kernel_rfl) (by rfl) (fun K hK => ?_)
          go_simp
          have b2 : Below X.heap.size X ((X.drew.alloc (.map #[] 0)).alloc (.map #[] 0)) := b1.alloc (by simp) _
          refine hK _ _ (fun hn => HBL.out _ b2) (fun hnx => ?_)
          clear hK K hnx
          try simp only [Act.put, List.setIfInBounds_toArray, List.set_cons_zero, List.set_cons_succ]
          refine Ht.takeD 8 (i := 8) ⟨some 48, _, _, _, _, _⟩ (.agg #[.string ⟨k.toArray⟩, .map (some (X.heap.size)), .map (some (X.heap.size + 1))]) rfl (by kernel_rfl) (by kernel_rfl) (by decide) (by kernel_rfl) (by kernel_rfl) (by kernel_rfl) (HBL.out _ b2) (Or.inl ⟨by rfl, by (intro X hX; go_simp)⟩) ?_
          simp only [Act.put, List.setIfInBounds_toArray, List.set_cons_zero, List.set_cons_succ]
          refine Ht.step (i := 9) ⟨some 49, _, _, _, _, _⟩ rfl (by kernel_rfl) (by rfl) (fun K hK => ?_)
          go_simp
          have b3 := (two_maps X (.cells #[.string ⟨k.toArray⟩, .map (some (X.heap.size)), .map (some (X.heap.size + 1))] 122)).2.2.2
          refine hK _ _ (fun hn => HBL.out _ b3) (fun hnx => ?_)
          clear hK K hnx
          try simp only [Act.put, List.setIfInBounds_toArray, List.set_cons_zero, List.set_cons_succ]
          obtain ⟨m1, m2, m3, m4⟩ := two_maps X (.cells #[.string ⟨k.toArray⟩, .map (some (X.heap.size)), .map (some (X.heap.size + 1))] 122)
          obtain ⟨U, hU⟩ : ∃ U, U = (((X.drew.alloc (.map #[] 0)).alloc (.map #[] 0)).alloc (.cells #[.string ⟨k.toArray⟩, .map (some (X.heap.size)), .map (some (X.heap.size + 1))] 122)) := ⟨_, rfl⟩
          rw [← hU] at m1 m2 m3 m4
          have hqU := HA.out.below m4
          have hmU : Mq U b ns.length (nf ns nb) := by
            rcases hqU.q.map with ⟨e, _⟩ | ⟨b', e, h⟩
            · cases e
            · obtain rfl := Option.some.inj e; exact h
          obtain ⟨Y, hrY, hmY, gY, sY⟩ := Mv.Mp.put kindN (w := U) hmU (by have := HQ.out.2.2.2.2.2.1; unfold maxLen; omega) (k := (k, false)) HQ.out.2.1 (.pointer (some ⟨X.heap.size + 1 + 1, 0, none⟩))
          rw [show (nf ns nb (k, false)).isSome = false by unfold nf; rw [if_neg HQ.out.2.2.1]; rfl] at hmY
          obtain ⟨qY, fY⟩ := HA.out.q.added HQ.out.2.2.1 ⟨HQ.out.2.1, rfl⟩ m4 m3 m1 m2 (by omega) (by omega) (by omega) (by omega) gY hmY
          have hAY := HA.out.go qY fY (fun j e => .inl e) (fun j e => e.imp_right fun e => e.1)
          clear qY fY hmY gY sY hmU hqU m1 m2 m3 m4 b1 b2 b3 hS0 cg ci
          unfold ek kv at hrY
          refine Ht.step (i := 10) ⟨none, _, _, _, _, _⟩ rfl (by kernel_rfl) (by rfl) (fun K hK => ?_)
          change Oper.wp _ _ _ (((X.drew.alloc (.map #[] 0)).alloc (.map #[] 0)).alloc (.cells #[.string ⟨k.toArray⟩, .map (some (X.heap.size)), .map (some (X.heap.size + 1))] 122)) _ _
          rw [← hU]
          clear hU
          go_simp
          refine hK _ _ (fun hn => absurd rfl hn) (fun hnx => ?_)
          clear hK K hnx
          try simp only [Act.put, List.setIfInBounds_toArray, List.set_cons_zero, List.set_cons_succ]
          refine done (by kernel_rfl) ?_
          have HAY := Lib.hid hAY
          clear hAY HBL
          go_wp2_with fail
          go_loopw [52] (fun iv wr2 => ∃ j : Nat, iv = .int .i64 ((j : Nat) : Int) ∧ j ≤ ks.length ∧ ∃ T' b' nb' ob' ub', Ad S w k (.slice a ks.length c) ks B gb T' wr2 b' (ns ++ [(k, false)]) (addL E (k, false) (ks.take j)) nb' ob' ub') (fun iv _ => ks.length - (RowKit.intOf iv).toNat)
          case atStart => exact ⟨0, rfl, Nat.zero_le _, _, _, _, _, _, by rw [List.take_zero, addL_nil]; exact HAY.out⟩
          case round =>
            obtain ⟨j, rfl, hj, T', b', nb', ob', ub', hA2⟩ := hrel
            by_cases hlt : j < ks.length
            · obtain ⟨g, rfl, _⟩ := HQ.out.2.2.2.2.2.2.2.1 (fun e => by rw [e] at hlt; simp at hlt)
              obtain ⟨o, ho⟩ : ∃ o, ks[j]? = some o := ⟨_, List.getElem?_eq_getElem hlt⟩
              have hom := List.mem_of_getElem? ho
              have hoS := HQ.out.2.2.2.2.1 o hom
              have hltx : ((j : Nat) : Int) < ((i : Nat) : Int) := by have := HQ.out.2.2.2.2.2.2.2.2.1; omega
              have hc : wr.cell? ⟨g, j, none⟩ = some (kv o) := by
                rcases hA2.row with ⟨e, _⟩ | ⟨g2, c2, e, _, _, h3⟩
                · rw [e] at hlt; simp at hlt
                · simp only [Value.slice.injEq, Option.some.injEq, Addr.mk.injEq] at e
                  rw [e.1.1]; exact h3 j o ho
              unfold kv at hc
              have ci := hA2.id
              unfold kv at ci
              have HR := Lib.hid (And.intro hj (And.intro hlt (And.intro hA2 (And.intro hoS (And.intro hom ho)))))
              clear hj hlt hA2 hoS hom ho
              have hj1 : j + 1 ≤ 900000 := by have := HR.out.2.1; have := HQ.out.2.2.2.2.2.2.1; omega
              have hw1 : wrap64 (((j : Nat) : Int) + 1) = ((j + 1 : Nat) : Int) := by unfold wrap64; omega
              clear hj1
              go_wp2_with fail
              refine begin' 4 (fun Z => Z.cell? ⟨B, 0, none⟩ = some (.string ⟨k.toArray⟩) ∧ Z.cell? ⟨B, 1, none⟩ = some (.bool false)) hmix ci (fun hS0 => ?_)
              refine Ht.takeD 8 (i := 0) ⟨some 56, _, _, _, _, _⟩ (.pointer (some ⟨gb, 0, none⟩)) rfl (by kernel_rfl) (by kernel_rfl) (by decide) (by kernel_rfl) (by kernel_rfl) (by kernel_rfl) hS0 (Or.inl ⟨by rfl, by (intro X hX; go_simp)⟩) ?_
              simp only [Act.put, List.setIfInBounds_toArray, List.set_cons_zero, List.set_cons_succ]
              refine Ht.takeD 8 (i := 1) ⟨some 57, _, _, _, _, _⟩ (.agg #[.string ⟨k.toArray⟩, .bool false]) rfl (by kernel_rfl) (by kernel_rfl) (by decide) (by kernel_rfl) (by kernel_rfl) (by kernel_rfl) hS0 (Or.inl ⟨by rfl, by (intro X hX; have := hX; go_simp)⟩) ?_
              simp only [Act.put, List.setIfInBounds_toArray, List.set_cons_zero, List.set_cons_succ]
              refine Ht.takeD 8 (i := 2) ⟨some 58, _, _, _, _, _⟩ (.string ⟨o.toArray⟩) rfl (by kernel_rfl) (by kernel_rfl) (by decide) (by kernel_rfl) (by kernel_rfl) (by kernel_rfl) hS0 (Or.inl ⟨by rfl, by (intro X hX; go_simp)⟩) ?_
              simp only [Act.put, List.setIfInBounds_toArray, List.set_cons_zero, List.set_cons_succ]
              refine Ht.step (i := 3) ⟨some 59, _, _, _, _, _⟩ rfl (by kernel_rfl) (by rfl) (fun K hK => ?_)
              refine Ht.enter 55 #[.string ⟨o.toArray⟩] (by have hen := fun args w => enters_of (P := Tryz.prog) Tryz.func55 (by kernel_rfl) rfl args w; go_simp) (idOf_any o _) ?_
              rintro e Z1 ⟨rfl, hz1⟩
              have hz1 : Below wr.heap.size wr.drew Z1 := hz1
              have a1 := HR.out.2.2.1.below ((Below.refl _ wr).drew.trans hz1)
              have ci1 := a1.id
              unfold kv at ci1
              unfold ek kv
              refine ⟨_, rfl, hK _ _ (fun _ => ci1) (fun _ => ?_)⟩
              clear hK K
              simp only [Act.put, List.setIfInBounds_toArray, List.set_cons_zero, List.set_cons_succ]
              have HZ := Lib.hid a1
              clear hz1 a1
              refine Ht.step (i := 4) ⟨some 60, _, _, _, _, _⟩ rfl (by kernel_rfl) (by rfl) (fun K hK => ?_)
              refine Ht.enter 57 #[.pointer (some ⟨gb, 0, none⟩), .agg #[.string ⟨k.toArray⟩, .bool false], .agg #[.string ⟨o.toArray⟩, .bool false]] (by have hen := fun args w => enters_of (P := Tryz.prog) Tryz.func57 (by kernel_rfl) rfl args w; go_simp) (join_any HZ.out.q (k, false) (o, false) (by simp) (by have := HR.out.2.2.2.1; simp [this]) (by have := HQ.out.2.2.2.2.2.1; simp; omega)) ?_
              rintro e Z2 ⟨rfl, hq2, hf2⟩
              have a2 := HZ.out.go hq2 hf2 (fun x e => .inl e) (fun x e => .inl e)
              rw [addL_snoc] at a2
              have ht : ks.take j ++ [o] = ks.take (j + 1) := by rw [List.take_add_one, HR.out.2.2.2.2.2]; rfl
              rw [ht] at a2
              refine ⟨_, rfl, hK _ _ (fun hn2 => absurd rfl hn2) (fun _ => ?_)⟩
              clear hK K
              simp only [Act.put, List.setIfInBounds_toArray, List.set_cons_zero, List.set_cons_succ]
              refine done (by kernel_rfl) ?_
              have HZ2 := Lib.hid a2
              clear a2 hq2 hf2 ht ci ci1 hS0 hc
              go_wp2_with fail
              go_roundw
              case rel => exact ⟨j + 1, by rw [hw1], HR.out.2.1, _, _, _, _, _, HZ2.out⟩
              case measure => have := HR.out.2.1; rw [hw1]; simp [RowKit.intOf]; omega
            · have hje : j = ks.length := by omega
              have hltx : ¬ ((j : Nat) : Int) < ((i : Nat) : Int) := by have := HQ.out.2.2.2.2.2.2.2.2.1; omega
              have HA2 := Lib.hid (And.intro hA2 hje)
              clear hA2 hj hlt hje
              go_wp2_with fail
              go_ret
              have h := HA2.out.1
              rw [HA2.out.2, List.take_length] at h
              exact ⟨by simp, _, ⟨_, _, _, _, h.q⟩, h.fr, h.new⟩
        · go_simp
          have b1 : Below X.heap.size X (X.drew.alloc (.map #[] 0)) := (Below.refl _ X).drew.alloc (Nat.le_refl _) _
          refine hK _ _ (fun hn => HBL.out _ b1) (fun hnx => ?_)
          clear hK K hnx
          try simp only [Act.put, List.setIfInBounds_toArray, List.set_cons_zero, List.set_cons_succ]
          refine Ht.step (i := 6) ⟨some 46, _, _, _, _, _⟩ rfl (by kernel_rfl) (by rfl) (fun K hK => ?_)
          go_simp
          have b2 : Below X.heap.size X ((X.drew.alloc (.map #[] 0)).alloc (.map #[] 0)) := b1.alloc (by simp) _
          refine hK _ _ (fun hn => HBL.out _ b2) (fun hnx => ?_)
          clear hK K hnx
          try simp only [Act.put, List.setIfInBounds_toArray, List.set_cons_zero, List.set_cons_succ]
          refine Ht.takeD 8 (i := 8) ⟨some 48, _, _, _, _, _⟩ (.agg #[.string ⟨k.toArray⟩, .map (some (X.heap.size + 1)), .map (some (X.heap.size))]) rfl (by kernel_rfl) (by kernel_rfl) (by decide) (by kernel_rfl) (by kernel_rfl) (by kernel_rfl) (HBL.out _ b2) (Or.inl ⟨by rfl, by (intro X hX; go_simp)⟩) ?_
          simp only [Act.put, List.setIfInBounds_toArray, List.set_cons_zero, List.set_cons_succ]
          refine Ht.step (i := 9) ⟨some 49, _, _, _, _, _⟩ rfl (by kernel_rfl) (by rfl) (fun K hK => ?_)
          go_simp
          have b3 := (two_maps X (.cells #[.string ⟨k.toArray⟩, .map (some (X.heap.size + 1)), .map (some (X.heap.size))] 122)).2.2.2
          refine hK _ _ (fun hn => HBL.out _ b3) (fun hnx => ?_)
          clear hK K hnx
          try simp only [Act.put, List.setIfInBounds_toArray, List.set_cons_zero, List.set_cons_succ]
          obtain ⟨m1, m2, m3, m4⟩ := two_maps X (.cells #[.string ⟨k.toArray⟩, .map (some (X.heap.size + 1)), .map (some (X.heap.size))] 122)
          obtain ⟨U, hU⟩ : ∃ U, U = (((X.drew.alloc (.map #[] 0)).alloc (.map #[] 0)).alloc (.cells #[.string ⟨k.toArray⟩, .map (some (X.heap.size + 1)), .map (some (X.heap.size))] 122)) := ⟨_, rfl⟩
          rw [← hU] at m1 m2 m3 m4
          have hqU := HA.out.below m4
          have hmU : Mq U b ns.length (nf ns nb) := by
            rcases hqU.q.map with ⟨e, _⟩ | ⟨b', e, h⟩
            · cases e
            · obtain rfl := Option.some.inj e; exact h
          obtain ⟨Y, hrY, hmY, gY, sY⟩ := Mv.Mp.put kindN (w := U) hmU (by have := HQ.out.2.2.2.2.2.1; unfold maxLen; omega) (k := (k, false)) HQ.out.2.1 (.pointer (some ⟨X.heap.size + 1 + 1, 0, none⟩))
          rw [show (nf ns nb (k, false)).isSome = false by unfold nf; rw [if_neg HQ.out.2.2.1]; rfl] at hmY
          obtain ⟨qY, fY⟩ := HA.out.q.added HQ.out.2.2.1 ⟨HQ.out.2.1, rfl⟩ m4 m3 m2 m1 (by omega) (by omega) (by omega) (by omega) gY hmY
          have hAY := HA.out.go qY fY (fun j e => .inl e) (fun j e => e.imp_right fun e => e.1)
          clear qY fY hmY gY sY hmU hqU m1 m2 m3 m4 b1 b2 b3 hS0 cg ci
          unfold ek kv at hrY
          refine Ht.step (i := 10) ⟨none, _, _, _, _, _⟩ rfl (by kernel_rfl) (by rfl) (fun K hK => ?_)
          change Oper.wp _ _ _ (((X.drew.alloc (.map #[] 0)).alloc (.map #[] 0)).alloc (.cells #[.string ⟨k.toArray⟩, .map (some (X.heap.size + 1)), .map (some (X.heap.size))] 122)) _ _
          rw [← hU]
          clear hU
          go_simp
          refine hK _ _ (fun hn => absurd rfl hn) (fun hnx => ?_)
          clear hK K hnx
          try simp only [Act.put, List.setIfInBounds_toArray, List.set_cons_zero, List.set_cons_succ]
          refine done (by kernel_rfl) ?_
          have HAY := Lib.hid hAY
          clear hAY HBL
          go_wp2_with fail
          go_loopw [52] (fun iv wr2 => ∃ j : Nat, iv = .int .i64 ((j : Nat) : Int) ∧ j ≤ ks.length ∧ ∃ T' b' nb' ob' ub', Ad S w k (.slice a ks.length c) ks B gb T' wr2 b' (ns ++ [(k, false)]) (addL E (k, false) (ks.take j)) nb' ob' ub') (fun iv _ => ks.length - (RowKit.intOf iv).toNat)
          case atStart => exact ⟨0, rfl, Nat.zero_le _, _, _, _, _, _, by rw [List.take_zero, addL_nil]; exact HAY.out⟩
          case round =>
            obtain ⟨j, rfl, hj, T', b', nb', ob', ub', hA2⟩ := hrel
            by_cases hlt : j < ks.length
            · obtain ⟨g, rfl, _⟩ := HQ.out.2.2.2.2.2.2.2.1 (fun e => by rw [e] at hlt; simp at hlt)
              obtain ⟨o, ho⟩ : ∃ o, ks[j]? = some o := ⟨_, List.getElem?_eq_getElem hlt⟩
              have hom := List.mem_of_getElem? ho
              have hoS := HQ.out.2.2.2.2.1 o hom
              have hltx : ((j : Nat) : Int) < ((i : Nat) : Int) := by have := HQ.out.2.2.2.2.2.2.2.2.1; omega
              have hc : wr.cell? ⟨g, j, none⟩ = some (kv o) := by
                rcases hA2.row with ⟨e, _⟩ | ⟨g2, c2, e, _, _, h3⟩
                · rw [e] at hlt; simp at hlt
                · simp only [Value.slice.injEq, Option.some.injEq, Addr.mk.injEq] at e
                  rw [e.1.1]; exact h3 j o ho
              unfold kv at hc
              have ci := hA2.id
              unfold kv at ci
              have HR := Lib.hid (And.intro hj (And.intro hlt (And.intro hA2 (And.intro hoS (And.intro hom ho)))))
              clear hj hlt hA2 hoS hom ho
              have hj1 : j + 1 ≤ 900000 := by have := HR.out.2.1; have := HQ.out.2.2.2.2.2.2.1; omega
              have hw1 : wrap64 (((j : Nat) : Int) + 1) = ((j + 1 : Nat) : Int) := by unfold wrap64; omega
              clear hj1
              go_wp2_with fail
              refine begin' 4 (fun Z => Z.cell? ⟨B, 0, none⟩ = some (.string ⟨k.toArray⟩) ∧ Z.cell? ⟨B, 1, none⟩ = some (.bool false)) hmix ci (fun hS0 => ?_)
              refine Ht.takeD 8 (i := 0) ⟨some 56, _, _, _, _, _⟩ (.pointer (some ⟨gb, 0, none⟩)) rfl (by kernel_rfl) (by kernel_rfl) (by decide) (by kernel_rfl) (by kernel_rfl) (by kernel_rfl) hS0 (Or.inl ⟨by rfl, by (intro X hX; go_simp)⟩) ?_
              simp only [Act.put, List.setIfInBounds_toArray, List.set_cons_zero, List.set_cons_succ]
              refine Ht.takeD 8 (i := 1) ⟨some 57, _, _, _, _, _⟩ (.agg #[.string ⟨k.toArray⟩, .bool false]) rfl (by kernel_rfl) (by kernel_rfl) (by decide) (by kernel_rfl) (by kernel_rfl) (by kernel_rfl) hS0 (Or.inl ⟨by rfl, by (intro X hX; have := hX; go_simp)⟩) ?_
              simp only [Act.put, List.setIfInBounds_toArray, List.set_cons_zero, List.set_cons_succ]
              refine Ht.takeD 8 (i := 2) ⟨some 58, _, _, _, _, _⟩ (.string ⟨o.toArray⟩) rfl (by kernel_rfl) (by kernel_rfl) (by decide) (by kernel_rfl) (by kernel_rfl) (by kernel_rfl) hS0 (Or.inl ⟨by rfl, by (intro X hX; go_simp)⟩) ?_
              simp only [Act.put, List.setIfInBounds_toArray, List.set_cons_zero, List.set_cons_succ]
              refine Ht.step (i := 3) ⟨some 59, _, _, _, _, _⟩ rfl (by kernel_rfl) (by rfl) (fun K hK => ?_)
              refine Ht.enter 55 #[.string ⟨o.toArray⟩] (by have hen := fun args w => enters_of (P := Tryz.prog) Tryz.func55 (by kernel_rfl) rfl args w; go_simp) (idOf_any o _) ?_
              rintro e Z1 ⟨rfl, hz1⟩
              have hz1 : Below wr.heap.size wr.drew Z1 := hz1
              have a1 := HR.out.2.2.1.below ((Below.refl _ wr).drew.trans hz1)
              have ci1 := a1.id
              unfold kv at ci1
              unfold ek kv
              refine ⟨_, rfl, hK _ _ (fun _ => ci1) (fun _ => ?_)⟩
              clear hK K
              simp only [Act.put, List.setIfInBounds_toArray, List.set_cons_zero, List.set_cons_succ]
              have HZ := Lib.hid a1
              clear hz1 a1
              refine Ht.step (i := 4) ⟨some 60, _, _, _, _, _⟩ rfl (by kernel_rfl) (by rfl) (fun K hK => ?_)
              refine Ht.enter 57 #[.pointer (some ⟨gb, 0, none⟩), .agg #[.string ⟨k.toArray⟩, .bool false], .agg #[.string ⟨o.toArray⟩, .bool false]] (by have hen := fun args w => enters_of (P := Tryz.prog) Tryz.func57 (by kernel_rfl) rfl args w; go_simp) (join_any HZ.out.q (k, false) (o, false) (by simp) (by have := HR.out.2.2.2.1; simp [this]) (by have := HQ.out.2.2.2.2.2.1; simp; omega)) ?_
              rintro e Z2 ⟨rfl, hq2, hf2⟩
              have a2 := HZ.out.go hq2 hf2 (fun x e => .inl e) (fun x e => .inl e)
              rw [addL_snoc] at a2
              have ht : ks.take j ++ [o] = ks.take (j + 1) := by rw [List.take_add_one, HR.out.2.2.2.2.2]; rfl
              rw [ht] at a2
              refine ⟨_, rfl, hK _ _ (fun hn2 => absurd rfl hn2) (fun _ => ?_)⟩
              clear hK K
              simp only [Act.put, List.setIfInBounds_toArray, List.set_cons_zero, List.set_cons_succ]
              refine done (by kernel_rfl) ?_
              have HZ2 := Lib.hid a2
              clear a2 hq2 hf2 ht ci ci1 hS0 hc
              go_wp2_with fail
              go_roundw
              case rel => exact ⟨j + 1, by rw [hw1], HR.out.2.1, _, _, _, _, _, HZ2.out⟩
              case measure => have := HR.out.2.1; rw [hw1]; simp [RowKit.intOf]; omega
            · have hje : j = ks.length := by omega
              have hltx : ¬ ((j : Nat) : Int) < ((i : Nat) : Int) := by have := HQ.out.2.2.2.2.2.2.2.2.1; omega
              have HA2 := Lib.hid (And.intro hA2 hje)
              clear hA2 hj hlt hje
              go_wp2_with fail
              go_ret
              have h := HA2.out.1
              rw [HA2.out.2, List.take_length] at h
              exact ⟨by simp, _, ⟨_, _, _, _, h.q⟩, h.fr, h.new⟩


end
end Go.Proofs.YtcodjknhnhdkfaaGreatDoor.DgB
