
/- the document's answer for an expression: names, numbers -/
import Derived.Test.YtheaimlfngaaoaaDoorRc1
namespace Go.Proofs.YtheaimlfngaaoaaDoor.Cn
open Go.RowKit Go.Lib Go.Proofs.YtheaimlfngaaoaaDoor.Ht
set_option linter.unusedVariables false

/-- a field's names, as the document's answer lists them -/
def nsx : Nat → List L
  | 3 => [[], [106, 97, 110], [102, 101, 98], [109, 97, 114], [97, 112, 114], [109, 97, 121], [106, 117, 110], [106, 117, 108], [97, 117, 103], [115, 101, 112], [111, 99, 116], [110, 111, 118], [100, 101, 99]]
  | 4 => [[115, 117, 110], [109, 111, 110], [116, 117, 101], [119, 101, 100], [116, 104, 117], [102, 114, 105], [115, 97, 116]]
  | _ => []
theorem nsx_hit {i k : Nat} {s : L} (hi : i < 5) (h : (nsx i)[k]? = some s) (h0 : s ≠ []) : numT (fds i) s = (k, true) := by
  have hk := (List.getElem?_eq_some_iff.1 h).1
  have : i = 0 ∨ i = 1 ∨ i = 2 ∨ i = 3 ∨ i = 4 := by omega
  rcases this with rfl | rfl | rfl | rfl | rfl
  · simp [nsx] at hk
  · simp [nsx] at hk
  · simp [nsx] at hk
  · have key : ∀ k, k < 13 → k ≠ 0 → numT (fds 3) ((nsx 3).getD k []) = (k, true) := by decide +kernel
    have e : (nsx 3).getD k [] = s := by simp [List.getD, h]
    have hk0 : k ≠ 0 := fun e0 => by subst e0; exact h0 (by simpa [nsx] using h.symm)
    rw [← e]; exact key k hk hk0
  · have key : ∀ k, k < 7 → numT (fds 4) ((nsx 4).getD k []) = (k, true) := by decide +kernel
    have e : (nsx 4).getD k [] = s := by simp [List.getD, h]
    rw [← e]; exact key k hk
theorem nmI_at {s : L} : ∀ {n : L} {j : Nat}, nmI s n = some j → s = (n.drop (3 * j)).take 3 ∧ 3 * j + 3 ≤ n.length
  | [], j, h => by simp [nmI] at h
  | [a], j, h => by simp [nmI] at h
  | [a, b], j, h => by simp [nmI] at h
  | a :: b :: c :: r, j, h => by
    unfold nmI at h
    by_cases e : [a, b, c] = s
    · rw [if_pos e] at h
      obtain rfl := Option.some.inj h
      exact ⟨e.symm, by simp⟩
    · rw [if_neg e, Option.map_eq_some_iff] at h
      obtain ⟨m, hm, rfl⟩ := h
      obtain ⟨h1, h2⟩ := nmI_at hm
      refine ⟨?_, by simp only [List.length_cons]; omega⟩
      rw [show 3 * (m + 1) = 3 * m + 1 + 1 + 1 by omega]
      exact h1
theorem nsx_miss {i : Nat} {s : L} (hi : i < 5) (h : ∀ (j : Nat) (x : L), (nsx i)[j]? = some x → x = [] ∨ x ≠ s) : numT (fds i) s = dgT s := by
  refine numT_none ?_
  cases e : nmI s (fds i).nm with
  | none => rfl
  | some j =>
    exfalso
    obtain ⟨h1, h2⟩ := nmI_at e
    have : i = 0 ∨ i = 1 ∨ i = 2 ∨ i = 3 ∨ i = 4 := by omega
    rcases this with rfl | rfl | rfl | rfl | rfl
    · simp [fds] at h2
    · simp [fds] at h2
    · simp [fds] at h2
    · have hj : j < 12 := by have : (fds 3).nm.length = 36 := rfl; omega
      have key : ∀ j, j < 12 → (nsx 3)[j + 1]? = some (((fds 3).nm.drop (3 * j)).take 3) ∧ ((fds 3).nm.drop (3 * j)).take 3 ≠ [] := by decide +kernel
      rcases h _ _ (key j hj).1 with h3 | h3
      · exact (key j hj).2 h3
      · exact h3 h1.symm
    · have hj : j < 7 := by have : (fds 4).nm.length = 21 := rfl; omega
      have key : ∀ j, j < 7 → (nsx 4)[j]? = some (((fds 4).nm.drop (3 * j)).take 3) ∧ ((fds 4).nm.drop (3 * j)).take 3 ≠ [] := by decide +kernel
      rcases h _ _ (key j hj).1 with h3 | h3
      · exact (key j hj).2 h3
      · exact h3 h1.symm
theorem own_made {w : World} {e : TypeId} {xs : List Value} (hm : xs.length ≤ 1000) : (w.alloc (.cells xs.toArray e)).ownsRow w.heap.size e 1 (.slice (some ⟨w.heap.size, 0, none⟩) xs.length xs.length) xs.length xs :=
  ⟨by simp, .inr ⟨w.heap.size, xs.length, _, rfl, Nat.le_refl _, heap_alloc_new w _, Nat.le_refl _, by unfold maxLen; omega, by simp, by simp⟩⟩
theorem row_at {w : World} {B : Nat} {e : TypeId} {g n cap : Nat} {xs : List Value} (h : w.ownsRow B e 1 (.slice (some ⟨g, 0, none⟩) n cap) n xs) {k : Nat} {x : Value} (hx : xs[k]? = some x) : w.cell? ⟨g, k, none⟩ = some x := by
  have := h.cells (g := g) rfl k x hx
  have hadd : (⟨g, 0, none⟩ : Addr).add k = ⟨g, k, none⟩ := by unfold Addr.add; split <;> simp_all
  rwa [hadd] at this
set_option maxRecDepth 20000 in
set_option maxHeartbeats 4000000 in
theorem rnames_any (i : Nat) (hi : i < 5) (w : World) :
    Calls Tryd.prog 57 #[.int .i64 (i : Nat)] w fun e w' => (∃ v, e = .returned v ∧ w'.ownsRow w.heap.size 9 1 v (nsx i).length (strs (nsx i))) ∧ Below w.heap.size w w' := by
  have : i = 0 ∨ i = 1 ∨ i = 2 ∨ i = 3 ∨ i = 4 := by omega
  rcases this with rfl | rfl | rfl | rfl | rfl
  all_goals
    go_enter Tryd.func57, Tryd.ntmps57
    go_wp2_with fail
    go_ret
    first
      | exact ⟨⟨_, rfl, World.ownsRow_nil _ _ _ _⟩, Below.refl _ _⟩
      | exact ⟨⟨_, rfl, own_made (xs := strs (nsx 3)) (by decide)⟩, (Below.refl _ _).alloc (Nat.le_refl _) _⟩
      | exact ⟨⟨_, rfl, own_made (xs := strs (nsx 4)) (by decide)⟩, (Below.refl _ _).alloc (Nat.le_refl _) _⟩
/-- a number, or below 0 -/
def nI (f : Fd) (s : L) : Int := if (numT f s).2 = true then ((numT f s).1 : Nat) else -1
def dI (s : L) : Int := if (dgT s).2 = true then ((dgT s).1 : Nat) else -1
set_option maxRecDepth 20000 in
set_option maxHeartbeats 8000000 in
theorem rnumber_any (i : Nat) (hi : i < 5) (s : L) (hs : s.length ≤ 1000) (w : World) :
    Calls Tryd.prog 38 #[.int .i64 (i : Nat), S s] w fun e w' => e = .returned (.int .i64 (nI (fds i) s)) ∧ Below w.heap.size w w' := by
  have hz := size_S s
  have hsI : ((s.length : Nat) : Int) ≤ 1000 := by omega
  have hnm := rnames_any i hi w
  have HN := Lib.hid hnm
  have HI := Lib.hid hi
  clear hnm hi
  obtain ⟨R, hR⟩ : ∃ R, R = nI (fds i) s := ⟨_, rfl⟩
  rw [← hR]
  have HR := Lib.hid hR
  clear hR
  go_enter Tryd.func38, Tryd.ntmps38
  go_wp2_with fail
  refine HN.out.mono ?_
  rintro e w1 ⟨⟨v, rfl, hown⟩, hb⟩
  have hlen : (nsx i).length ≤ 13 := by
    have := HI.out
    have : i = 0 ∨ i = 1 ∨ i = 2 ∨ i = 3 ∨ i = 4 := by omega
    rcases this with rfl | rfl | rfl | rfl | rfl <;> decide
  obtain ⟨n, hn⟩ : ∃ n, n = (nsx i).length := ⟨_, rfl⟩
  rw [← hn] at hown hlen
  obtain ⟨ao, cp, rfl⟩ : ∃ ao cp, v = .slice ao n cp := by
    rcases hown.2 with ⟨rfl, h9⟩ | ⟨g, cap, cur, rfl, _⟩
    · exact ⟨_, _, by rw [h9]⟩
    · exact ⟨_, _, rfl⟩
  have HO := Lib.hid (And.intro hown (And.intro hn hb))
  clear hown hn hb
  go_wp2_with fail
  go_loopw [12] (fun x wr => ∃ k : Nat, x = .int .i64 (k : Nat) ∧ k ≤ n ∧ (∀ (j : Nat) (x : L), j < k → (nsx i)[j]? = some x → x = [] ∨ x ≠ s) ∧ wr = w1) (fun x _ => 20 - (RowKit.intOf x).toNat)
  case atStart => exact ⟨0, rfl, Nat.zero_le _, fun j x h => absurd h (Nat.not_lt_zero j), rfl⟩
  case round =>
    obtain ⟨k, rfl, hk, hno, rfl⟩ := hrel
    have HK := Lib.hid hno
    clear hno
    by_cases hlt : k < n
    · have hltI : ((k : Nat) : Int) < ((n : Nat) : Int) := by omega
      obtain ⟨x, hx⟩ : ∃ x, (nsx i)[k]? = some x := by rw [List.getElem?_eq_getElem (by rw [← HO.out.2.1]; exact hlt)]; exact ⟨_, rfl⟩
      obtain ⟨g, rfl⟩ : ∃ g, ao = some ⟨g, 0, none⟩ := by
        rcases HO.out.1.2 with ⟨h1, h9⟩ | ⟨g, cap, cur, h1, _⟩
        · omega
        · cases h1; exact ⟨_, rfl⟩
      have hcell : wr.cell? ⟨g, k, none⟩ = some (S x) := row_at HO.out.1 (by rw [List.getElem?_map, hx]; rfl)
      have HX := Lib.hid hx
      clear hx
      by_cases h0 : x = []
      · subst h0
        by_cases hse : s = []
        · have h1 : (([] : L) == s) = true := by simpa using hse
          go_wp2_with fail
          all_goals
            refine ⟨⟨k + 1, by simp, by omega, ?_, trivial⟩, by simp [RowKit.intOf]; omega⟩
            intro j y hj hy
            by_cases hjk : j = k
            · subst hjk; rw [HX.out] at hy; exact .inl (Option.some.inj hy).symm
            · exact HK.out j y (by omega) hy
        · have h1 : (([] : L) == s) = false := by simpa using hse
          go_wp2_with fail
          all_goals
            refine ⟨⟨k + 1, by simp, by omega, ?_, trivial⟩, by simp [RowKit.intOf]; omega⟩
            intro j y hj hy
            by_cases hjk : j = k
            · subst hjk; rw [HX.out] at hy; exact .inl (Option.some.inj hy).symm
            · exact HK.out j y (by omega) hy
      · by_cases he : x = s
        · subst he
          have hie : x.isEmpty = false := by cases x <;> simp_all
          have hnum := nsx_hit HI.out HX.out h0
          have HM := Lib.hid hnum
          clear hnum h0
          go_wp2_with fail
          go_ret
          exact ⟨by rw [HR.out]; unfold nI; rw [HM.out]; rfl, HO.out.2.2⟩
        · have hb1 : (x == s) = false := by simpa using he
          have hie : x.isEmpty = false := by cases x <;> simp_all
          have HE := Lib.hid he
          clear he h0
          go_wp2_with fail
          refine ⟨⟨k + 1, by simp, by omega, ?_, trivial⟩, by simp [RowKit.intOf]; omega⟩
          intro j y hj hy
          by_cases hjk : j = k
          · subst hjk; rw [HX.out] at hy; exact .inr (by rw [← Option.some.inj hy]; exact HE.out)
          · exact HK.out j y (by omega) hy
    · have hkn : k = n := by omega
      have hltI : ¬ ((k : Nat) : Int) < ((n : Nat) : Int) := by omega
      have hR2 : R = dI s := by
        rw [HR.out]
        unfold nI dI
        rw [nsx_miss HI.out fun j x hx => HK.out j x (by rw [hkn, HO.out.2.1]; exact (List.getElem?_eq_some_iff.1 hx).1) hx]
      have HR2 := Lib.hid hR2
      clear hR2 hkn hlt
      by_cases h1 : s.length < 1 ∨ 2 < s.length
      · have hbad : dI s = -1 := by unfold dI; rw [dgT_len (by omega) (by omega)]; rfl
        have HB := Lib.hid hbad
        clear hbad
        rcases (show ((s.length : Nat) : Int) < 1 ∨ (1 ≤ ((s.length : Nat) : Int) ∧ (2 : Int) < ((s.length : Nat) : Int)) by omega) with h | ⟨h, h'⟩
        all_goals
          clear h1
          go_wp2_with fail
          go_ret
          exact ⟨by rw [HR2.out, HB.out]; rfl, HO.out.2.2⟩
      · have l1 : 1 ≤ ((s.length : Nat) : Int) := by omega
        have l2 : ((s.length : Nat) : Int) ≤ 2 := by omega
        go_wp2_with fail
        go_loopw [7, 8] (fun x y w9 => ∃ k : Nat, x = .int .i64 (val (s.take k) : Nat) ∧ y = .int .i64 (k : Nat) ∧ k ≤ s.length ∧ (s.take k).all isD = true ∧ w9 = wr) (fun _ y _ => 2 - (RowKit.intOf y).toNat)
        case atStart => exact ⟨0, rfl, rfl, Nat.zero_le _, rfl, rfl⟩
        case round =>
          obtain ⟨k, rfl, rfl, hk, ha, rfl⟩ := hrel
          have hv := val_le (l := s.take k) (by rw [List.length_take]; omega) ha
          by_cases hlt : k < s.length
          · have hkI : ((k : Nat) : Int) < ((s.length : Nat) : Int) := by omega
            have hkb : (0 : Int) ≤ (k : Nat) ∧ ((k : Nat) : Int) < ((⟨s.toArray⟩ : ByteArray).size : Nat) := by rw [size_S]; omega
            obtain ⟨b, hb⟩ : ∃ b, s[k] = b := ⟨_, rfl⟩
            have hbb : (⟨s.toArray⟩ : ByteArray)[k]'(by rw [size_S]; exact hlt) = b := hb
            have hb8 := b.toNat_lt
            have hget : s[k]? = some b := by rw [List.getElem?_eq_getElem hlt, hb]
            have HG := Lib.hid (And.intro hget (And.intro ha hlt))
            clear hget ha hb
            obtain ⟨V, hV⟩ : ∃ V, V = val (s.take k) := ⟨_, rfl⟩
            rw [← hV] at hv ⊢
            have HV := Lib.hid hV
            clear hV
            by_cases hd : isD b = true
            · obtain ⟨d1, d2⟩ := (isD_iff b).1 hd
              have HD := Lib.hid hd
              clear hd
              go_wp2_with fail
              refine ⟨⟨k + 1, ?_, by simp, by omega, ?_, trivial⟩, by simp [RowKit.intOf]; omega⟩
              · rw [List.take_add_one, HG.out.1]
                simp only [Option.toList]
                rw [val_snoc, ← HV.out]
                exact congrArg (Value.int .i64) (by omega)
              · rw [List.take_add_one, HG.out.1]
                simp only [Option.toList, List.all_append, HG.out.2.1, Bool.true_and]
                simp [HD.out]
            · have hd' : b.toNat < 48 ∨ (48 ≤ b.toNat ∧ 57 < b.toNat) := by rw [isD_iff] at hd; omega
              have hres : dI s = -1 := by unfold dI; rw [dgT_bad HG.out.1 (Bool.eq_false_iff.2 hd)]; rfl
              have HB := Lib.hid hres
              clear hd hres
              rcases hd' with h | ⟨h, h'⟩
              all_goals
                go_wp2_with fail
                go_ret
                exact ⟨by rw [HR2.out, HB.out]; rfl, HO.out.2.2⟩
          · have hkN : k = s.length := by omega
            have hkI : ¬ ((k : Nat) : Int) < ((s.length : Nat) : Int) := by omega
            rw [hkN, List.take_length] at ha
            have hres : dI s = (val s : Nat) := by unfold dI; rw [dgT_val (by omega) ha]; rfl
            have e1 : val (s.take k) = val s := by rw [hkN, List.take_length]
            rw [e1]
            have HB := Lib.hid hres
            clear e1 hkN hres ha hv
            go_wp2_with fail
            go_ret
            exact ⟨by rw [HR2.out, HB.out]; rfl, HO.out.2.2⟩
end Go.Proofs.YtheaimlfngaaoaaDoor.Cn
