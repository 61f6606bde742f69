/- a scheduler whole: its core and its four parts, each in blocks of its own -/
import Derived.Test.YtcodjknhnhdkfaaGreatDoorBr10
import Derived.Test.YtcodjknhnhdkfaaGreatDoorBr14
import Derived.Test.YtcodjknhnhdkfaaGreatDoorBr16
import Derived.Test.YtcodjknhnhdkfaaGreatDoorBr18
import Derived.Test.YtcodjknhnhdkfaaGreatDoorBr22
namespace Go.Proofs.YtcodjknhnhdkfaaGreatDoor.Im
open Go.RowKit Go.Lib Hp
set_option linter.unusedVariables false
set_option linter.unusedSectionVars false
set_option maxRecDepth 20000
/-- what is put in the i-th family's place -/
def put (S : Nat → Nat → Prop) (i : Nat) (T : Nat → Prop) : Nat → Nat → Prop := fun j => if j = i then T else S j
/-- families of blocks, none in two -/
structure Fam (S : Nat → Nat → Prop) (w : World) : Prop where
  dis : ∀ i j k, S i k → S j k → i = j
  lt : ∀ i k, S i k → k < w.heap.size
theorem Fam.put {S : Nat → Nat → Prop} {w w' : World} (h : Fam S w) {i : Nat} {T : Nat → Prop} (hs : w.heap.size ≤ w'.heap.size) (hT : ∀ k, T k → (S i k ∨ w.heap.size ≤ k) ∧ k < w'.heap.size) : Fam (put S i T) w' where
  dis a b k ha hb := by
    unfold Im.put at ha hb
    by_cases ea : a = i <;> by_cases eb : b = i
    · rw [ea, eb]
    · rw [if_pos ea] at ha
      rw [if_neg eb] at hb
      rcases (hT k ha).1 with q | q
      · exact absurd (h.dis i b k q hb).symm eb
      · have := h.lt b k hb; omega
    · rw [if_neg ea] at ha
      rw [if_pos eb] at hb
      rcases (hT k hb).1 with q | q
      · exact absurd (h.dis i a k q ha).symm ea
      · have := h.lt a k ha; omega
    · rw [if_neg ea] at ha
      rw [if_neg eb] at hb
      exact h.dis a b k ha hb
  lt a k ha := by
    unfold Im.put at ha
    by_cases ea : a = i
    · rw [if_pos ea] at ha
      exact (hT k ha).2
    · rw [if_neg ea] at ha
      have := h.lt a k ha
      omega
theorem Fam.old {S : Nat → Nat → Prop} {w w' : World} (h : Fam S w) (hs : w.heap.size ≤ w'.heap.size) : Fam S w' := ⟨h.dis, fun i k hk => Nat.lt_of_lt_of_le (h.lt i k hk) hs⟩
/-- a job, and the row of its Deps, in blocks of C -/
structure Jin (C : Nat → Prop) (w : World) (b : Nat) (j : Jb) : Prop where
  own : C b
  obj : w.heap[b]? = some (.cells j.cs.toArray 42 (0, 0))
  ds : Jd w j
  dep : j.sp.n = 0 ∨ ∃ g cur, j.sp.a = some ⟨g, 0, none⟩ ∧ C g ∧ w.heap[g]? = some (.cells cur 9 (0, 0))
  name : wk (nmK j)
  few : j.sp.n ≤ 1000000
theorem Jin.kept {C C' : Nat → Prop} {w Y : World} {b : Nat} {j : Jb} (h : Jin C w b j) (e : ∀ k, C k → Y.heap[k]? = w.heap[k]?) (hC : ∀ k, C k → C' k) : Jin C' Y b j where
  own := hC b h.own
  obj := (e b h.own).trans h.obj
  ds := by
    refine ⟨h.ds.1, h.ds.2.1, ?_⟩
    rcases h.dep with h0 | ⟨g, cur, h1, h2, h3⟩
    · exact .inl h0
    · rcases h.ds.2.2 with h0 | ⟨b', o, k1, k2⟩
      · exact .inl h0
      · rw [h1] at k1
        obtain ⟨rfl, rfl⟩ : g = b' ∧ 0 = o := by simpa using k1
        exact .inr ⟨g, 0, h1, fun i hi => (World.cell?_of_block (w := w) (a := ⟨g, 0 + i, none⟩) (e g h2)).trans (k2 i hi)⟩
  dep := h.dep.imp_right fun ⟨g, cur, h1, h2, h3⟩ => ⟨g, cur, h1, hC g h2, (e g h2).trans h3⟩
  name := h.name
  few := h.few
/-- what is a scheduler's own: its fields, the map of its jobs, and these -/
structure Core (C : Nat → Prop) (w : World) (sb mb gb rb wb lb : Nat) (jb : K → Nat) (each : Int) (order : Nat) (js : List Jb) : Prop where
  row : w.heap[sb]? = some (.cells #[.int .i64 each, .int .u64 order, .map (some mb), .pointer (some ⟨gb, 0, none⟩), .pointer (some ⟨rb, 0, none⟩), .pointer (some ⟨wb, 0, none⟩), .pointer (some ⟨lb, 0, none⟩)] 72 (0, 0))
  sbC : C sb
  mbC : C mb
  map : Mq w mb js.length (jf js jb)
  job : ∀ j ∈ js, Jin C w (jb (nmK j)) j
  nd : (js.map nmK).Nodup
theorem Core.kept {C : Nat → Prop} {w Y : World} {sb mb gb rb wb lb : Nat} {jb : K → Nat} {each : Int} {order : Nat} {js : List Jb} (h : Core C w sb mb gb rb wb lb jb each order js) (e : ∀ k, C k → Y.heap[k]? = w.heap[k]?) : Core C Y sb mb gb rb wb lb jb each order js where
  row := (e sb h.sbC).trans h.row
  sbC := h.sbC
  mbC := h.mbC
  map := h.map.kept (e mb h.mbC)
  job j hj := (h.job j hj).kept e fun _ hk => hk
  nd := h.nd
/-- a scheduler, whole; m bounds what its parts have -/
structure Sd (S : Nat → Nat → Prop) (w : World) (sb mb gb rb wb lb : Nat) (jb : K → Nat) (now each : Int) (order : Nat) (ns : List DgB.Id) (js : List Jb) (m : Nat) : Prop where
  fam : Fam S w
  core : Core (S 0) w sb mb gb rb wb lb jb each order js
  g : (∃ E, DgB.Gd (S 1) w gb ns E) ∧ ns.length ≤ m
  r : ∃ M, Nx.Rv (S 2) w rb M ∧ M.length ≤ m
  t : ∃ T, Wh.Wv (S 3) w wb now 128 T ∧ T.length ≤ m
  l : ∃ nm c M H, Qt.Lv (S 4) w lb each nm c M H ∧ c ≤ m
theorem Lv.kept {S : Nat → Prop} {w Y : World} {lb nm c : Nat} {ea : Int} {M H : Qt.K → Option Int} (h : Qt.Lv S w lb ea nm c M H) (hs : w.heap.size ≤ Y.heap.size) (e : ∀ k, S k → Y.heap[k]? = w.heap[k]?) : Qt.Lv S Y lb ea nm c M H := by
  obtain ⟨mo, ho, nh, q, hn⟩ := h
  exact ⟨mo, ho, nh, q.kept hs e, hn⟩
theorem Gd.kept {S : Nat → Prop} {w Y : World} {gb : Nat} {ns : List DgB.Id} {E : DgB.Id → DgB.Id → Bool} (h : DgB.Gd S w gb ns E) (hs : w.heap.size ≤ Y.heap.size) (e : ∀ k, S k → Y.heap[k]? = w.heap[k]?) : DgB.Gd S Y gb ns E := by
  obtain ⟨mv, nb, ob, ub, q⟩ := h
  exact ⟨mv, nb, ob, ub, q.kept hs e⟩
section
variable {S : Nat → Nat → Prop} {w : World} {sb mb gb rb wb lb : Nat} {jb : K → Nat} {now each : Int} {order : Nat} {ns : List DgB.Id} {js : List Jb} {m : Nat}
theorem Sd.old {Y : World} (h : Sd S w sb mb gb rb wb lb jb now each order ns js m) (b : Below w.heap.size w Y) : Sd S Y sb mb gb rb wb lb jb now each order ns js m where
  fam := h.fam.old b.size
  core := h.core.kept fun k hk => b.block k (h.fam.lt _ _ hk)
  g := ⟨let ⟨E, q⟩ := h.g.1; ⟨E, Gd.kept q b.size fun k hk => b.block k (h.fam.lt _ _ hk)⟩, h.g.2⟩
  r := let ⟨M, q, hm⟩ := h.r; ⟨M, q.kept b.size fun k hk => b.block k (h.fam.lt _ _ hk), hm⟩
  t := let ⟨T, q, hm⟩ := h.t; ⟨T, q.kept b.size fun k hk => b.block k (h.fam.lt _ _ hk), hm⟩
  l := let ⟨nm, c, M, H, q, hm⟩ := h.l; ⟨nm, c, M, H, Lv.kept q b.size fun k hk => b.block k (h.fam.lt _ _ hk), hm⟩
theorem Sd.more {m' : Nat} (h : Sd S w sb mb gb rb wb lb jb now each order ns js m) (hm : m ≤ m') : Sd S w sb mb gb rb wb lb jb now each order ns js m' where
  fam := h.fam
  core := h.core
  g := ⟨h.g.1, by have := h.g.2; omega⟩
  r := let ⟨M, q, hq⟩ := h.r; ⟨M, q, by omega⟩
  t := let ⟨T, q, hq⟩ := h.t; ⟨T, q, by omega⟩
  l := let ⟨nm, c, M, H, q, hq⟩ := h.l; ⟨nm, c, M, H, q, by omega⟩
/-- all blocks but those of the i-th family are kept -/
theorem Fam.keep {Y : World} (h : Fam S w) {i : Nat} (f : Fr (S i) w Y) {j : Nat} (hj : j ≠ i) : ∀ k, S j k → Y.heap[k]? = w.heap[k]? := fun k hk => f.block k (h.lt _ _ hk) (fun e => hj (h.dis j i k hk e))
/-- the graph has changed -/
theorem Sd.setG {Y : World} {T : Nat → Prop} {ns' : List DgB.Id} {E : DgB.Id → DgB.Id → Bool} (h : Sd S w sb mb gb rb wb lb jb now each order ns js m) (f : Fr (S 1) w Y) (q : DgB.Gd T Y gb ns' E) (hT : ∀ k, T k → (S 1 k ∨ w.heap.size ≤ k) ∧ k < Y.heap.size) (hm : ns'.length ≤ m) : Sd (put S 1 T) Y sb mb gb rb wb lb jb now each order ns' js m where
  fam := h.fam.put f.size hT
  core := h.core.kept (h.fam.keep f (by decide))
  g := ⟨⟨E, q⟩, hm⟩
  r := let ⟨M, q, hq⟩ := h.r; ⟨M, q.kept f.size (h.fam.keep f (by decide)), hq⟩
  t := let ⟨T, q, hq⟩ := h.t; ⟨T, q.kept f.size (h.fam.keep f (by decide)), hq⟩
  l := let ⟨nm, c, M, H, q, hq⟩ := h.l; ⟨nm, c, M, H, Lv.kept q f.size (h.fam.keep f (by decide)), hq⟩
theorem Sd.setR {Y : World} {T : Nat → Prop} {M : List Nx.O} (h : Sd S w sb mb gb rb wb lb jb now each order ns js m) (f : Fr (S 2) w Y) (q : Nx.Rv T Y rb M) (hT : ∀ k, T k → (S 2 k ∨ w.heap.size ≤ k) ∧ k < Y.heap.size) (hm : M.length ≤ m) : Sd (put S 2 T) Y sb mb gb rb wb lb jb now each order ns js m where
  fam := h.fam.put f.size hT
  core := h.core.kept (h.fam.keep f (by decide))
  g := ⟨let ⟨E, q⟩ := h.g.1; ⟨E, Gd.kept q f.size (h.fam.keep f (by decide))⟩, h.g.2⟩
  r := ⟨M, q, hm⟩
  t := let ⟨T, q, hq⟩ := h.t; ⟨T, q.kept f.size (h.fam.keep f (by decide)), hq⟩
  l := let ⟨nm, c, M, H, q, hq⟩ := h.l; ⟨nm, c, M, H, Lv.kept q f.size (h.fam.keep f (by decide)), hq⟩
theorem Sd.setT {Y : World} {T : Nat → Prop} {L : List (Wh.K × Int)} (h : Sd S w sb mb gb rb wb lb jb now each order ns js m) (f : Fr (S 3) w Y) (q : Wh.Wv T Y wb now 128 L) (hT : ∀ k, T k → (S 3 k ∨ w.heap.size ≤ k) ∧ k < Y.heap.size) (hm : L.length ≤ m) : Sd (put S 3 T) Y sb mb gb rb wb lb jb now each order ns js m where
  fam := h.fam.put f.size hT
  core := h.core.kept (h.fam.keep f (by decide))
  g := ⟨let ⟨E, q⟩ := h.g.1; ⟨E, Gd.kept q f.size (h.fam.keep f (by decide))⟩, h.g.2⟩
  r := let ⟨M, q, hq⟩ := h.r; ⟨M, q.kept f.size (h.fam.keep f (by decide)), hq⟩
  t := ⟨L, q, hm⟩
  l := let ⟨nm, c, M, H, q, hq⟩ := h.l; ⟨nm, c, M, H, Lv.kept q f.size (h.fam.keep f (by decide)), hq⟩
theorem Sd.setL {Y : World} {T : Nat → Prop} {nm c : Nat} {M H : Qt.K → Option Int} (h : Sd S w sb mb gb rb wb lb jb now each order ns js m) (f : Fr (S 4) w Y) (q : Qt.Lv T Y lb each nm c M H) (hT : ∀ k, T k → (S 4 k ∨ w.heap.size ≤ k) ∧ k < Y.heap.size) (hm : c ≤ m) : Sd (put S 4 T) Y sb mb gb rb wb lb jb now each order ns js m where
  fam := h.fam.put f.size hT
  core := h.core.kept (h.fam.keep f (by decide))
  g := ⟨let ⟨E, q⟩ := h.g.1; ⟨E, Gd.kept q f.size (h.fam.keep f (by decide))⟩, h.g.2⟩
  r := let ⟨M, q, hq⟩ := h.r; ⟨M, q.kept f.size (h.fam.keep f (by decide)), hq⟩
  t := let ⟨T, q, hq⟩ := h.t; ⟨T, q.kept f.size (h.fam.keep f (by decide)), hq⟩
  l := ⟨nm, c, M, H, q, hm⟩
end
end Go.Proofs.YtcodjknhnhdkfaaGreatDoor.Im
