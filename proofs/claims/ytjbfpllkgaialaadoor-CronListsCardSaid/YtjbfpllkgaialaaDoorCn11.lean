
/- expressions: CronLists' walk -/
import Derived.Test.YtjbfpllkgaialaaDoorCn10
namespace Go.Proofs.YtjbfpllkgaialaaDoor.Cn
open Go.RowKit Go.Lib Go.Proofs.YtjbfpllkgaialaaDoor.Ht
set_option linter.unusedVariables false

/-- three expressions that lie in blocks -/
def Three (b1 b2 b3 : Nat) (X Y Z : Ex) (W : World) : Prop := W.heap[b1]? = some (.cells (exC X) 25 (0, 0)) ∧ W.heap[b2]? = some (.cells (exC Y) 25 (0, 0)) ∧ W.heap[b3]? = some (.cells (exC Z) 25 (0, 0))
theorem Three.old {b1 b2 b3 : Nat} {X Y Z : Ex} {W W' : World} (h : Three b1 b2 b3 X Y Z W) (hb : Below W.heap.size W W') : Three b1 b2 b3 X Y Z W' := ⟨old_blk hb h.1, old_blk hb h.2.1, old_blk hb h.2.2⟩
theorem AtIs.some {e : Ex} {t : Int} {b : Bool} (h : AtIs e t b) (e' : Ex) : ∃ c, AtIs e' t c := by
  rcases h with ⟨h1, rfl⟩ | ⟨h1, y, mo, d, wd, hh, mi, hi, rfl⟩
  · exact ⟨false, .inl ⟨h1, rfl⟩⟩
  · exact ⟨_, .inr ⟨h1, y, mo, d, wd, hh, mi, hi, rfl⟩⟩
theorem parse_ok (s : L) (w : World) (hg : Gl w) {n : Nat} {X : Ex} (hn : n = parseE s) (hX : X = parseV s) :
    Calls Tryd.prog 8 #[S s] w fun e w' => e = .returned (.tuple #[exv X, .int .i64 (n : Nat)]) ∧ Below w.heap.size w w' := by
  rw [hn, hX]; exact parse_any s w hg
set_option maxRecDepth 20000 in
set_option maxHeartbeats 8000000 in
theorem lists_in (a b r : L) (t : Int) (ht : Ca.I64 t) (la : a.length ≤ 20) (lb : b.length ≤ 20) (lr : r.length ≤ 60) (w : World) (hg : Gl w) :
    Calls Tryd.prog 6 #[S a, S b, S r, .int .i64 t] w fun e w' => e = .returned (.bool true) ∧ Below w.heap.size w w' := by
  have hza := size_S a
  have hzb := size_S b
  have hzr := size_S r
  have hs1 : (⟨a.toArray⟩ : ByteArray) ++ ⟨#[32]⟩ ++ ⟨r.toArray⟩ = ⟨(a ++ 32 :: r).toArray⟩ := by
    have := str_app a [32]; have h2 := str_app (a ++ [32]) r
    rw [show (⟨#[32]⟩ : ByteArray) = ⟨([32] : L).toArray⟩ from rfl, this, h2, List.append_assoc]; rfl
  have hs2 : (⟨b.toArray⟩ : ByteArray) ++ ⟨#[32]⟩ ++ ⟨r.toArray⟩ = ⟨(b ++ 32 :: r).toArray⟩ := by
    have := str_app b [32]; have h2 := str_app (b ++ [32]) r
    rw [show (⟨#[32]⟩ : ByteArray) = ⟨([32] : L).toArray⟩ from rfl, this, h2, List.append_assoc]; rfl
  have hs3 : (⟨a.toArray⟩ : ByteArray) ++ ⟨#[44]⟩ ++ ⟨b.toArray⟩ ++ ⟨#[32]⟩ ++ ⟨r.toArray⟩ = ⟨((a ++ 44 :: b) ++ 32 :: r).toArray⟩ := by
    rw [show (⟨#[32]⟩ : ByteArray) = ⟨([32] : L).toArray⟩ from rfl, show (⟨#[44]⟩ : ByteArray) = ⟨([44] : L).toArray⟩ from rfl, str_app, str_app, str_app, str_app]
    simp
  obtain ⟨ab, hab⟩ : ∃ ab, ab = a ++ b := ⟨_, rfl⟩
  have hs4 : (⟨a.toArray⟩ : ByteArray) ++ ⟨b.toArray⟩ = ⟨ab.toArray⟩ := (str_app a b).trans (by rw [hab])
  have hablen : ab.length = a.length + b.length := by rw [hab, List.length_append]
  have HAB := Lib.hid hab
  clear hab
  obtain ⟨X, hX⟩ : ∃ X, X = parseV (a ++ 32 :: r) := ⟨_, rfl⟩
  obtain ⟨Y, hY⟩ : ∃ X, X = parseV (b ++ 32 :: r) := ⟨_, rfl⟩
  obtain ⟨Z, hZ⟩ : ∃ X, X = parseV ((a ++ 44 :: b) ++ 32 :: r) := ⟨_, rfl⟩
  obtain ⟨e, he⟩ : ∃ n, n = parseE (a ++ 32 :: r) := ⟨_, rfl⟩
  obtain ⟨f, hf⟩ : ∃ n, n = parseE (b ++ 32 :: r) := ⟨_, rfl⟩
  obtain ⟨g, hge⟩ : ∃ n, n = parseE ((a ++ 44 :: b) ++ 32 :: r) := ⟨_, rfl⟩
  have p1 := fun W hW => parse_ok (a ++ 32 :: r) W hW he hX
  have p2 := fun W hW => parse_ok (b ++ 32 :: r) W hW hf hY
  have h3 : (a ++ 44 :: b) ++ 32 :: r = a ++ 44 :: (b ++ 32 :: r) := by rw [List.append_assoc]; rfl
  have p3 := fun W hW => parse_ok ((a ++ 44 :: b) ++ 32 :: r) W hW hge hZ
  rw [h3] at p3
  have hlst := fun (h1 : (32 : UInt8) ∉ a) (h2 : (32 : UInt8) ∉ b) => lst h1 h2 la lb lr
  have HL := Lib.hid (And.intro hlst (And.intro hX (And.intro hY (And.intro hZ (And.intro he (And.intro hf hge))))))
  have HP := Lib.hid (And.intro p1 (And.intro p2 p3))
  have laI : ((a.length : Nat) : Int) ≤ 20 := by omega
  have lbI : ((b.length : Nat) : Int) ≤ 20 := by omega
  have lrI : ((r.length : Nat) : Int) ≤ 60 := by omega
  clear hX hY hZ he hf hge p1 p2 p3 hlst h3
  have HG := Lib.hid hg
  have HT := Lib.hid ht
  clear hg ht
  have hmix : Tryd.prog.follows .mixedOrders = true := by kernel_rfl
  go_enter Tryd.func6, Tryd.ntmps6
  go_wp2_with fail
  refine (lives07_any w HG.out).mono ?_
  rintro q w1 ⟨rfl, hb1⟩
  have H1 := Lib.hid hb1
  clear hb1
  go_wp2_with fail
  refine (HP.out.1 w1 (HG.out.old H1.out)).mono ?_
  rintro q w2 ⟨rfl, hb⟩
  have hb2 := H1.out.trans (hb.mono H1.out.size)
  obtain ⟨a1, a2, a3⟩ := cell_new w2 (exC X) 25
  have H2 := Lib.hid (And.intro (hb2.trans (a1.mono hb2.size)) a2)
  clear hb hb2 a1 a2 a3
  go_wp2_with fail
  refine (HP.out.2.1 _ (HG.out.old H2.out.1)).mono ?_
  rintro q w3 ⟨rfl, hb⟩
  have hx3 := old_blk hb H2.out.2
  have hb3 := H2.out.1.trans (hb.mono H2.out.1.size)
  obtain ⟨a1, a2, a3⟩ := cell_new w3 (exC Y) 25
  have H3 := Lib.hid (And.intro (hb3.trans (a1.mono hb3.size)) (And.intro (old_blk a1 hx3) a2))
  clear hb hb3 a1 a2 a3 hx3
  go_wp2_with fail
  refine (HP.out.2.2 _ (HG.out.old H3.out.1)).mono ?_
  rintro q w4 ⟨rfl, hb⟩
  have hx4 := old_blk hb H3.out.2.1
  have hy4 := old_blk hb H3.out.2.2
  have hb4 := H3.out.1.trans (hb.mono H3.out.1.size)
  obtain ⟨a1, a2, a3⟩ := cell_new w4 (exC Z) 25
  obtain ⟨V, hV⟩ : ∃ V, V = w4.alloc (.cells (exC Z) 25) := ⟨_, rfl⟩
  have H4 := Lib.hid (show Below w.heap.size w V ∧ Three w2.heap.size w3.heap.size w4.heap.size X Y Z V from by
    rw [hV]; exact ⟨hb4.trans (a1.mono hb4.size), old_blk a1 hx4, old_blk a1 hy4, a2⟩)
  clear hb hb4 a1 a2 a3 hx4 hy4
  go_wp2_with fail
  rw [← hV]
  clear hV
  have hlen : IntKind.i64.wrap (((a.length : Nat) : Int) + ((b.length : Nat) : Int)) = ((ab.length : Nat) : Int) := by
    rw [IntWalk.i64_in _ (by omega)]; omega
  have hzab := size_S ab
  have hl40 : ab.length ≤ 40 := by omega
  go_loopw [66] (fun i wr => ∃ m : Nat, i = .int .i64 (m : Nat) ∧ m ≤ ab.length ∧ (32 : UInt8) ∉ ab.take m ∧ wr = V) (fun i _ => 41 - (RowKit.intOf i).toNat)
  case atStart => exact ⟨0, rfl, Nat.zero_le _, by simp, rfl⟩
  case round =>
    obtain ⟨m, rfl, hm, hno, rfl⟩ := hrel
    have HN := Lib.hid hno
    clear hno
    by_cases hlt : m < ab.length
    · have hkb : (0 : Int) ≤ (m : Nat) ∧ ((m : Nat) : Int) < ((⟨ab.toArray⟩ : ByteArray).size : Nat) := by rw [hzab]; omega
      have hltI : ((m : Nat) : Int) < ((ab.length : Nat) : Int) := by omega
      have hltL : ((m : Nat) : Int) < ((a.length : Nat) : Int) + ((b.length : Nat) : Int) := by omega
      obtain ⟨c, hc⟩ : ∃ c, ab[m] = c := ⟨_, rfl⟩
      have hcc : (⟨ab.toArray⟩ : ByteArray)[m]'(by rw [hzab]; exact hlt) = c := hc
      have HC := Lib.hid (show ab[m]? = some c by rw [List.getElem?_eq_getElem hlt, hc])
      clear hc
      by_cases h32 : c = 32
      · have hc32 : c.toNat = 32 := by rw [h32]; rfl
        clear h32
        go_wp2_with fail
        go_ret
        exact ⟨rfl, H4.out.1⟩
      · have hc32 : c.toNat ≠ 32 := fun h => h32 (UInt8.toNat_inj.1 (by rw [h]; rfl))
        have H32 := Lib.hid h32
        clear h32
        go_wp2_with fail
        refine ⟨⟨m + 1, by simp, by omega, ?_, trivial⟩, by simp [RowKit.intOf]; omega⟩
        rw [List.take_add_one, HC.out, List.mem_append, not_or]
        exact ⟨HN.out, by simp; exact fun h => H32.out h.symm⟩
    · have hmN : m = ab.length := by omega
      have hltI : ¬ ((m : Nat) : Int) < ((ab.length : Nat) : Int) := by omega
      have hltL : ¬ ((m : Nat) : Int) < ((a.length : Nat) : Int) + ((b.length : Nat) : Int) := by omega
      have hno := HN.out
      rw [hmN, List.take_length, HAB.out, List.mem_append, not_or] at hno
      have hL := HL.out.1 hno.1 hno.2
      have hokx : ExOk X := by rw [HL.out.2.1]; exact exOk_parse _
      have hoky : ExOk Y := by rw [HL.out.2.2.1]; exact exOk_parse _
      have hokz : ExOk Z := by rw [HL.out.2.2.2.1]; exact exOk_parse _
      clear hno hmN hlt
      by_cases hef : e = 0 ∧ f = 0
      · obtain ⟨rfl, rfl⟩ := hef
        have hg0 : g = 0 := by rw [HL.out.2.2.2.2.2.2]; exact hL.good HL.out.2.2.2.2.1.symm HL.out.2.2.2.2.2.1.symm
        subst hg0
        have hmin : Z.a = X.a ||| Y.a := by
          have := hL.min HL.out.2.2.2.2.1.symm HL.out.2.2.2.2.2.1.symm
          rwa [← HL.out.2.1, ← HL.out.2.2.1, ← HL.out.2.2.2.1] at this
        have htick : ∀ (t : Int) (x y z : Bool), AtIs X t x → AtIs Y t y → AtIs Z t z → z = (x || y) := by
          have := hL.tick HL.out.2.2.2.2.1.symm HL.out.2.2.2.2.2.1.symm
          rwa [← HL.out.2.1, ← HL.out.2.2.1, ← HL.out.2.2.2.1] at this
        have hor : bits .or .u64 (X.a : Int) (Y.a : Int) = ((Z.a : Nat) : Int) := by rw [hmin]; exact u64_or_nat _ _ hokx.a hoky.a
        have HO := Lib.hid (And.intro hor htick)
        have KX := fun W => at_any X hokx t HT.out W
        have KY := fun W => at_any Y hoky t HT.out W
        have KZ := fun W => at_any Z hokz t HT.out W
        have HK := Lib.hid (And.intro KX (And.intro KY KZ))
        have HS1 := Lib.hid (show Three w2.heap.size w3.heap.size w4.heap.size X Y Z wr.drew from H4.out.2)
        clear hor htick hmin KX KY KZ hL hokx hoky hokz
        go_wp2_with fail
        -- REGION14
        refine begin' 27 (Three w2.heap.size w3.heap.size w4.heap.size X Y Z) hmix HS1.out (fun hS0 => ?_)
        refine Ht.takeN (i := 0) ⟨some 84, _, _, _, _, _⟩ (.int .i64 0) rfl (Nat.le_refl 27) (by kernel_rfl) (by kernel_rfl) (by kernel_rfl) (by kernel_rfl) hS0 (Or.inl ⟨by rfl, by (intro X hX; go_simp)⟩) ?_
        simp only [Act.put, List.setIfInBounds_toArray, List.set_cons_zero, List.set_cons_succ]
        refine Ht.takeN (i := 1) ⟨some 85, _, _, _, _, _⟩ (.bool true) rfl (Nat.le_refl 27) (by kernel_rfl) (by kernel_rfl) (by kernel_rfl) (by kernel_rfl) hS0 (Or.inl ⟨by rfl, by (intro X hX; go_simp)⟩) ?_
        simp only [Act.put, List.setIfInBounds_toArray, List.set_cons_zero, List.set_cons_succ]
        refine Ht.takeN (i := 2) ⟨some 86, _, _, _, _, _⟩ (.bool true) rfl (Nat.le_refl 27) (by kernel_rfl) (by kernel_rfl) (by kernel_rfl) (by kernel_rfl) hS0 (Or.inl ⟨by rfl, by (intro X hX; go_simp)⟩) ?_
        simp only [Act.put, List.setIfInBounds_toArray, List.set_cons_zero, List.set_cons_succ]
        refine Ht.takeN (i := 3) ⟨some 87, _, _, _, _, _⟩ (.pointer (some ⟨w4.heap.size, 0, none⟩)) rfl (Nat.le_refl 27) (by kernel_rfl) (by kernel_rfl) (by kernel_rfl) (by kernel_rfl) hS0 (Or.inl ⟨by rfl, by (intro X hX; go_simp)⟩) ?_
        simp only [Act.put, List.setIfInBounds_toArray, List.set_cons_zero, List.set_cons_succ]
        refine Ht.takeN (i := 4) ⟨some 88, _, _, _, _, _⟩ (u Z.a) rfl (Nat.le_refl 27) (by kernel_rfl) (by kernel_rfl) (by kernel_rfl) (by kernel_rfl) hS0 (Or.inl ⟨by rfl, by (intro X hX; obtain ⟨⟨c0, c1, c2, c3, c4, c5, c6⟩, _⟩ := seven hX.2.2; go_simp)⟩) ?_
        simp only [Act.put, List.setIfInBounds_toArray, List.set_cons_zero, List.set_cons_succ]
        refine Ht.takeN (i := 5) ⟨some 89, _, _, _, _, _⟩ (.pointer (some ⟨w2.heap.size, 0, none⟩)) rfl (Nat.le_refl 27) (by kernel_rfl) (by kernel_rfl) (by kernel_rfl) (by kernel_rfl) hS0 (Or.inl ⟨by rfl, by (intro X hX; go_simp)⟩) ?_
        simp only [Act.put, List.setIfInBounds_toArray, List.set_cons_zero, List.set_cons_succ]
        refine Ht.takeN (i := 6) ⟨some 90, _, _, _, _, _⟩ (u X.a) rfl (Nat.le_refl 27) (by kernel_rfl) (by kernel_rfl) (by kernel_rfl) (by kernel_rfl) hS0 (Or.inl ⟨by rfl, by (intro X hX; obtain ⟨⟨c0, c1, c2, c3, c4, c5, c6⟩, _⟩ := seven hX.1; go_simp)⟩) ?_
        simp only [Act.put, List.setIfInBounds_toArray, List.set_cons_zero, List.set_cons_succ]
        refine Ht.takeN (i := 7) ⟨some 91, _, _, _, _, _⟩ (.pointer (some ⟨w3.heap.size, 0, none⟩)) rfl (Nat.le_refl 27) (by kernel_rfl) (by kernel_rfl) (by kernel_rfl) (by kernel_rfl) hS0 (Or.inl ⟨by rfl, by (intro X hX; go_simp)⟩) ?_
        simp only [Act.put, List.setIfInBounds_toArray, List.set_cons_zero, List.set_cons_succ]
        refine Ht.takeN (i := 8) ⟨some 92, _, _, _, _, _⟩ (u Y.a) rfl (Nat.le_refl 27) (by kernel_rfl) (by kernel_rfl) (by kernel_rfl) (by kernel_rfl) hS0 (Or.inl ⟨by rfl, by (intro X hX; obtain ⟨⟨c0, c1, c2, c3, c4, c5, c6⟩, _⟩ := seven hX.2.1; go_simp)⟩) ?_
        simp only [Act.put, List.setIfInBounds_toArray, List.set_cons_zero, List.set_cons_succ]
        refine Ht.takeN (i := 9) ⟨some 93, _, _, _, _, _⟩ (u Z.a) rfl (Nat.le_refl 27) (by kernel_rfl) (by kernel_rfl) (by kernel_rfl) (by kernel_rfl) hS0 (Or.inl ⟨by rfl, by (intro X hX; have := HO.out.1; go_simp)⟩) ?_
        simp only [Act.put, List.setIfInBounds_toArray, List.set_cons_zero, List.set_cons_succ]
        refine Ht.takeN (i := 10) ⟨some 94, _, _, _, _, _⟩ (.bool true) rfl (Nat.le_refl 27) (by kernel_rfl) (by kernel_rfl) (by kernel_rfl) (by kernel_rfl) hS0 (Or.inl ⟨by rfl, by (intro X hX; go_simp)⟩) ?_
        simp only [Act.put, List.setIfInBounds_toArray, List.set_cons_zero, List.set_cons_succ]
        refine Ht.takeN (i := 11) ⟨some 95, _, _, _, _, _⟩ (.bool true) rfl (Nat.le_refl 27) (by kernel_rfl) (by kernel_rfl) (by kernel_rfl) (by kernel_rfl) hS0 (Or.inl ⟨by rfl, by (intro X hX; go_simp)⟩) ?_
        simp only [Act.put, List.setIfInBounds_toArray, List.set_cons_zero, List.set_cons_succ]
        refine Ht.takeN (i := 12) ⟨some 96, _, _, _, _, _⟩ (.bool true) rfl (Nat.le_refl 27) (by kernel_rfl) (by kernel_rfl) (by kernel_rfl) (by kernel_rfl) hS0 (Or.inl ⟨by rfl, by (intro X hX; go_simp)⟩) ?_
        simp only [Act.put, List.setIfInBounds_toArray, List.set_cons_zero, List.set_cons_succ]
        refine Ht.takeN (i := 13) ⟨some 97, _, _, _, _, _⟩ (exv Z) rfl (Nat.le_refl 27) (by kernel_rfl) (by kernel_rfl) (by kernel_rfl) (by kernel_rfl) hS0 (Or.inl ⟨by rfl, by (intro X hX; obtain ⟨⟨c0, c1, c2, c3, c4, c5, c6⟩, _⟩ := seven hX.2.2; go_simp)⟩) ?_
        simp only [Act.put, List.setIfInBounds_toArray, List.set_cons_zero, List.set_cons_succ]
        refine Ht.takeN (i := 14) ⟨some 98, _, _, _, _, _⟩ (.int .i64 t) rfl (Nat.le_refl 27) (by kernel_rfl) (by kernel_rfl) (by kernel_rfl) (by kernel_rfl) hS0 (Or.inl ⟨by rfl, by (intro X hX; go_simp)⟩) ?_
        simp only [Act.put, List.setIfInBounds_toArray, List.set_cons_zero, List.set_cons_succ]
        refine Ht.takeN (i := 16) ⟨some 100, _, _, _, _, _⟩ (exv X) rfl (Nat.le_refl 27) (by kernel_rfl) (by kernel_rfl) (by kernel_rfl) (by kernel_rfl) hS0 (Or.inl ⟨by rfl, by (intro X hX; obtain ⟨⟨c0, c1, c2, c3, c4, c5, c6⟩, _⟩ := seven hX.1; go_simp)⟩) ?_
        simp only [Act.put, List.setIfInBounds_toArray, List.set_cons_zero, List.set_cons_succ]
        refine Ht.takeN (i := 17) ⟨some 101, _, _, _, _, _⟩ (.int .i64 t) rfl (Nat.le_refl 27) (by kernel_rfl) (by kernel_rfl) (by kernel_rfl) (by kernel_rfl) hS0 (Or.inl ⟨by rfl, by (intro X hX; go_simp)⟩) ?_
        simp only [Act.put, List.setIfInBounds_toArray, List.set_cons_zero, List.set_cons_succ]
        refine Ht.step (i := 15) ⟨some 99, _, _, _, _, _⟩ rfl (by kernel_rfl) (by rfl) (fun K hK => ?_)
        refine Ht.enter 9 #[exv Z, .int .i64 t] (by have hen := fun args w => enters_of (P := Tryd.prog) Tryd.func9 (by kernel_rfl) rfl args w; go_simp) (HK.out.2.2 _) ?_
        rintro e A1 ⟨⟨bz, rfl, hz⟩, hb1⟩
        have hS1 := hS0.old hb1
        have HB1 := Lib.hid hb1
        clear hb1
        refine ⟨_, rfl, hK _ _ (fun _ => hS1) (fun _ => ?_)⟩
        clear hK K
        simp only [Act.put, List.setIfInBounds_toArray, List.set_cons_zero, List.set_cons_succ]
        refine Ht.step (i := 18) ⟨some 102, _, _, _, _, _⟩ rfl (by kernel_rfl) (by rfl) (fun K hK => ?_)
        refine Ht.enter 9 #[exv X, .int .i64 t] (by have hen := fun args w => enters_of (P := Tryd.prog) Tryd.func9 (by kernel_rfl) rfl args w; go_simp) (HK.out.1 _) ?_
        rintro e A2 ⟨⟨bx, rfl, hx⟩, hb2⟩
        have hS2 := hS1.old hb2
        have HB2 := Lib.hid (HB1.out.trans (hb2.mono HB1.out.size))
        clear hb2
        refine ⟨_, rfl, hK _ _ (fun _ => hS2) (fun _ => ?_)⟩
        clear hK K
        simp only [Act.put, List.setIfInBounds_toArray, List.set_cons_zero, List.set_cons_succ]
        cases bx
        · refine Ht.takeN (i := 19) ⟨some 103, _, _, _, _, _⟩ (.bool false) rfl (Nat.le_refl 27) (by kernel_rfl) (by kernel_rfl) (by kernel_rfl) (by kernel_rfl) hS2 (Or.inl ⟨by rfl, by (intro X hX; go_simp)⟩) ?_
          simp only [Act.put, List.setIfInBounds_toArray, List.set_cons_zero, List.set_cons_succ]
          refine Ht.takeN (i := 20) ⟨some 104, _, _, _, _, _⟩ (exv Y) rfl (Nat.le_refl 27) (by kernel_rfl) (by kernel_rfl) (by kernel_rfl) (by kernel_rfl) hS2 (Or.inl ⟨by rfl, by (intro X hX; obtain ⟨⟨c0, c1, c2, c3, c4, c5, c6⟩, _⟩ := seven hX.2.1; go_simp)⟩) ?_
          simp only [Act.put, List.setIfInBounds_toArray, List.set_cons_zero, List.set_cons_succ]
          refine Ht.takeN (i := 21) ⟨some 105, _, _, _, _, _⟩ (.int .i64 t) rfl (Nat.le_refl 27) (by kernel_rfl) (by kernel_rfl) (by kernel_rfl) (by kernel_rfl) hS2 (Or.inl ⟨by rfl, by (intro X hX; go_simp)⟩) ?_
          simp only [Act.put, List.setIfInBounds_toArray, List.set_cons_zero, List.set_cons_succ]
          refine Ht.step (i := 22) ⟨some 106, _, _, _, _, _⟩ rfl (by kernel_rfl) (by rfl) (fun K hK => ?_)
          refine Ht.enter 9 #[exv Y, .int .i64 t] (by have hen := fun args w => enters_of (P := Tryd.prog) Tryd.func9 (by kernel_rfl) rfl args w; go_simp) (HK.out.2.1 _) ?_
          rintro e A3 ⟨⟨bY, rfl, hy⟩, hb3⟩
          have hS3 := hS2.old hb3
          have HB3 := Lib.hid (HB2.out.trans (hb3.mono HB2.out.size))
          clear hb3
          obtain rfl : bz = bY := (HO.out.2 t _ _ _ hx hy hz).trans (Bool.false_or _)
          refine ⟨_, rfl, hK _ _ (fun _ => hS3) (fun _ => ?_)⟩
          clear hK K
          simp only [Act.put, List.setIfInBounds_toArray, List.set_cons_zero, List.set_cons_succ]
          refine Ht.takeN (i := 23) ⟨some 107, _, _, _, _, _⟩ (.bool bz) rfl (Nat.le_refl 27) (by kernel_rfl) (by kernel_rfl) (by kernel_rfl) (by kernel_rfl) hS3 (Or.inl ⟨by rfl, by (intro X hX; go_simp)⟩) ?_
          simp only [Act.put, List.setIfInBounds_toArray, List.set_cons_zero, List.set_cons_succ]
          refine Ht.takeN (i := 24) ⟨some 108, _, _, _, _, _⟩ (.bool true) rfl (Nat.le_refl 27) (by kernel_rfl) (by kernel_rfl) (by kernel_rfl) (by kernel_rfl) hS3 (Or.inl ⟨by rfl, by (intro X hX; cases bz <;> go_simp)⟩) ?_
          simp only [Act.put, List.setIfInBounds_toArray, List.set_cons_zero, List.set_cons_succ]
          refine Ht.takeN (i := 25) ⟨some 109, _, _, _, _, _⟩ (.bool true) rfl (Nat.le_refl 27) (by kernel_rfl) (by kernel_rfl) (by kernel_rfl) (by kernel_rfl) hS3 (Or.inl ⟨by rfl, by (intro X hX; go_simp)⟩) ?_
          simp only [Act.put, List.setIfInBounds_toArray, List.set_cons_zero, List.set_cons_succ]
          refine Ht.takeN (i := 26) ⟨some 8, _, _, _, _, _⟩ (.bool true) rfl (Nat.le_refl 27) (by kernel_rfl) (by kernel_rfl) (by kernel_rfl) (by kernel_rfl) hS3 (Or.inl ⟨by rfl, by (intro X hX; go_simp)⟩) ?_
          simp only [Act.put, List.setIfInBounds_toArray, List.set_cons_zero, List.set_cons_succ]
          refine done (by kernel_rfl) ?_
          go_wp2_with fail
          go_ret
          exact ⟨rfl, H4.out.1.trans ((Below.trans (Below.drew (Below.refl wr.heap.size wr)) HB3.out).mono H4.out.1.size)⟩
        · refine Ht.takeN (i := 19) ⟨some 103, _, _, _, _, _⟩ (.bool true) rfl (Nat.le_refl 27) (by kernel_rfl) (by kernel_rfl) (by kernel_rfl) (by kernel_rfl) hS2 (Or.inl ⟨by rfl, by (intro X hX; go_simp)⟩) ?_
          simp only [Act.put, List.setIfInBounds_toArray, List.set_cons_zero, List.set_cons_succ]
          refine Ht.takeN (i := 20) ⟨some 104, _, _, _, _, _⟩ (undef) rfl (Nat.le_refl 27) (by kernel_rfl) (by kernel_rfl) (by kernel_rfl) (by kernel_rfl) hS2 (Or.inr ⟨by rfl, rfl⟩) ?_
          simp only [Act.put, List.setIfInBounds_toArray, List.set_cons_zero, List.set_cons_succ]
          refine Ht.takeN (i := 21) ⟨some 105, _, _, _, _, _⟩ (undef) rfl (Nat.le_refl 27) (by kernel_rfl) (by kernel_rfl) (by kernel_rfl) (by kernel_rfl) hS2 (Or.inr ⟨by rfl, rfl⟩) ?_
          simp only [Act.put, List.setIfInBounds_toArray, List.set_cons_zero, List.set_cons_succ]
          refine Ht.takeN (i := 22) ⟨some 106, _, _, _, _, _⟩ (undef) rfl (Nat.le_refl 27) (by kernel_rfl) (by kernel_rfl) (by kernel_rfl) (by kernel_rfl) hS2 (Or.inr ⟨by rfl, rfl⟩) ?_
          simp only [Act.put, List.setIfInBounds_toArray, List.set_cons_zero, List.set_cons_succ]
          refine Ht.takeN (i := 23) ⟨some 107, _, _, _, _, _⟩ (.bool true) rfl (Nat.le_refl 27) (by kernel_rfl) (by kernel_rfl) (by kernel_rfl) (by kernel_rfl) hS2 (Or.inl ⟨by rfl, by (intro X hX; go_simp)⟩) ?_
          simp only [Act.put, List.setIfInBounds_toArray, List.set_cons_zero, List.set_cons_succ]
          obtain ⟨bY, hy⟩ := hx.some Y
          obtain rfl : bz = true := (HO.out.2 t _ _ _ hx hy hz).trans (Bool.true_or _)
          refine Ht.takeN (i := 24) ⟨some 108, _, _, _, _, _⟩ (.bool true) rfl (Nat.le_refl 27) (by kernel_rfl) (by kernel_rfl) (by kernel_rfl) (by kernel_rfl) hS2 (Or.inl ⟨by rfl, by (intro X hX; go_simp)⟩) ?_
          simp only [Act.put, List.setIfInBounds_toArray, List.set_cons_zero, List.set_cons_succ]
          refine Ht.takeN (i := 25) ⟨some 109, _, _, _, _, _⟩ (.bool true) rfl (Nat.le_refl 27) (by kernel_rfl) (by kernel_rfl) (by kernel_rfl) (by kernel_rfl) hS2 (Or.inl ⟨by rfl, by (intro X hX; go_simp)⟩) ?_
          simp only [Act.put, List.setIfInBounds_toArray, List.set_cons_zero, List.set_cons_succ]
          refine Ht.takeN (i := 26) ⟨some 8, _, _, _, _, _⟩ (.bool true) rfl (Nat.le_refl 27) (by kernel_rfl) (by kernel_rfl) (by kernel_rfl) (by kernel_rfl) hS2 (Or.inl ⟨by rfl, by (intro X hX; go_simp)⟩) ?_
          simp only [Act.put, List.setIfInBounds_toArray, List.set_cons_zero, List.set_cons_succ]
          refine done (by kernel_rfl) ?_
          go_wp2_with fail
          go_ret
          exact ⟨rfl, H4.out.1.trans ((Below.trans (Below.drew (Below.refl wr.heap.size wr)) HB2.out).mono H4.out.1.size)⟩
      · have hgn : g ≠ 0 := by rw [HL.out.2.2.2.2.2.2]; exact hL.bad (by rw [← HL.out.2.2.2.2.1, ← HL.out.2.2.2.2.2.1]; omega)
        have hgI : ((g : Int) != 0) = true := by simp; omega
        clear hL hokx hoky hokz
        by_cases he0 : e = 0
        · have hf0 : f ≠ 0 := by omega
          have hfI : ((f : Int) != 0) = true := by simp; omega
          subst he0
          clear hef
          go_wp2_with fail
          go_ret
          exact ⟨rfl, H4.out.1⟩
        · have heI : ((e : Int) != 0) = true := by simp; omega
          clear hef
          go_wp2_with fail
          go_ret
          exact ⟨rfl, H4.out.1⟩
end Go.Proofs.YtjbfpllkgaialaaDoor.Cn
