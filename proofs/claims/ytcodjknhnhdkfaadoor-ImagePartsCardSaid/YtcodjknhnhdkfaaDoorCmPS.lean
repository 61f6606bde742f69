
/- rows that are written: Put, S -/
import Derived.Test.YtcodjknhnhdkfaaDoorCm3
namespace Go.Proofs.YtcodjknhnhdkfaaDoor.Cm
open Go.RowKit Go.Lib Wn Rf By
set_option linter.unusedVariables false
set_option maxRecDepth 20000
set_option maxHeartbeats 2000000 in
theorem put_s (B pb : Nat) (a : Option Addr) (n c : Nat) (xs : List ByteArray) (bs : List UInt8) (w : World) (hd : Da Value.string w a n xs) (ha : 0 < n → ∀ b o, a = some ⟨b, o, none⟩ → b < B) (hx : ∀ x ∈ xs, x.size ≤ 1000000000) (hpb : pb < B) (hB : B ≤ w.heap.size) (hw : Wr B w pb bs)
    (hlen : bs.length + (xs.flatMap textB).length ≤ 1000000000) (hn : n ≤ 1000000000) :
    Calls Tryd.prog 42 #[.pointer (some ⟨pb, 0, none⟩), .slice a n c, .func (.func 35) #[] #[]] w (Put1 B pb (bs ++ (uvarint n ++ xs.flatMap textB)) w) := by
  have hmf : ∀ (fn : Fn) (first cap : Array Value) (w : World), (Instr.makeFunc fn first cap).run Tryd.prog w = .ok (.func fn first cap) w := fun _ _ _ _ => rfl
  have hu : U64 n := by unfold U64; omega
  have hul := uvarint_length64 hu
  obtain ⟨v0, hp0, hown0⟩ := id hw
  obtain ⟨ao, cp, hao⟩ := own_shape hown0
  subst hao
  have hc0 := cell_of_one hp0
  have hsz := lt_of_block hp0
  obtain ⟨V, hV⟩ : ∃ V, V = (w.alloc (.cells #[.pointer (some ⟨pb, 0, none⟩)] 38)).alloc (.cells #[.int .i64 bs.length] 3) := ⟨_, rfl⟩
  have hb : Below w.heap.size w V := by rw [hV]; exact ((Below.refl _ _).alloc (Nat.le_refl _) _).alloc (by simp) _
  have h3 : V.heap[w.heap.size]? = some (.cells #[.pointer (some ⟨pb, 0, none⟩)] 38 (0, 0)) := by rw [hV]; exact ((Below.refl (w.heap.size + 1) _).alloc (by simp) _ |>.block _ (by omega)).trans (heap_alloc_new w _)
  have hsV : V.heap.size = w.heap.size + 2 := by rw [hV]; simp
  have hwV : Wr B V pb bs := hw.below hb hsz (fun k hk => hk)
  have hat : n = 0 ∨ ∃ b o, a = some ⟨b, o, none⟩ ∧ b < B ∧ b ≠ pb ∧ ∀ i (h : i < xs.length), V.cell? ⟨b, o + i, none⟩ = some (Value.string xs[i]) := by
    rcases hd.2.2 with h0 | ⟨b, o, h1, h2⟩
    · exact .inl h0
    · by_cases h0 : n = 0
      · exact .inl h0
      · refine .inr ⟨b, o, h1, ha (by omega) b o h1, ?_, fun i hi => (hb.cell (World.block_lt_of_cell? w _ (h2 i hi))).trans (h2 i hi)⟩
        rintro rfl
        have q := h2 0 (by rw [hd.1]; omega)
        simp only [World.cell?, hp0] at q
        rcases Nat.eq_zero_or_pos o with z | z
        · subst z; simp at q
        · rw [show (#[Value.slice ao bs.length cp])[o + 0]? = none by simp; omega] at q
          cases q
  have H0 := Lib.hid (num_w B pb n bs V hu hpb (by omega) hwV (by omega))
  have HF0 : Fr B pb w V := Fr.ofBelow hb hB
  have HX := Lib.hid (And.intro hat (And.intro hx (And.intro hd.1 (And.intro HF0 (And.intro hb (And.intro h3 hsV))))))
  clear hat hd hwV hp0 hown0 hw hb HF0 h3
  have hwr : IntKind.u64.wrap (n : Int) = n := by rw [IntKind.wrap_u64]; omega
  go_enter_defers Tryd.func42, Tryd.ntmps42
  go_wp2_with fail
  rw [← hV]
  have HV := Lib.hid hV
  clear hV
  refine H0.out.mono ?_
  rintro e w1 ⟨rfl, hw1, hf1⟩
  have hlt1 := hf1.size
  have b3 : w1.heap[w.heap.size]? = some (.cells #[.pointer (some ⟨pb, 0, none⟩)] 38 (0, 0)) := by
    rw [hf1.more w.heap.size (by omega) (by omega) (fun cur q => by rw [HX.out.2.2.2.2.2.1] at q; simp at q)]
    exact HX.out.2.2.2.2.2.1
  have H1 := Lib.hid (And.intro hw1 hf1)
  clear hw1 hf1 hlt1 b3 H0
  go_wp2_with fail
  go_loopw [24] (fun s24 wr => ∃ k : Nat, s24 = .int .i64 k ∧ k ≤ n ∧ Wr B wr pb (bs ++ (uvarint n ++ (xs.take k).flatMap textB)) ∧ Fr B pb V wr) (fun s24 _ => n - (RowKit.intOf s24).toNat)
  case atStart => exact ⟨0, rfl, Nat.zero_le _, by simpa using H1.out.1, H1.out.2⟩
  case round =>
    obtain ⟨k, rfl, hk, hwk, hfk⟩ := hrel
    have hB' : B ≤ wr.heap.size := by have := hfk.size; omega
    have b3 : wr.heap[w.heap.size]? = some (.cells #[.pointer (some ⟨pb, 0, none⟩)] 38 (0, 0)) := by
      rw [hfk.more w.heap.size (by omega) (by omega) (fun cur q => by rw [HX.out.2.2.2.2.2.1] at q; simp at q)]
      exact HX.out.2.2.2.2.2.1
    have c3 := cell_of_one b3
    clear b3
    by_cases hlt : k < n
    · have hkl : k < xs.length := by rw [HX.out.2.2.1]; exact hlt
      rcases HX.out.1 with h0 | ⟨b, o, rfl, hbB, hbp, hcell⟩
      · omega
      obtain ⟨x, hx'⟩ : ∃ x, x = xs[k] := ⟨_, rfl⟩
      have hc : wr.cell? ⟨b, o + k, none⟩ = some (.string x) := by rw [hfk.cell (p := ⟨b, o + k, none⟩) hbB hbp, hcell k hkl, hx']
      have hxk := HX.out.2.1 x (by rw [hx']; exact List.getElem_mem _)
      have hlk : (bs ++ (uvarint n ++ (xs.take k).flatMap textB)).length ≤ 10000000000 := by
        have := flat_take textB xs k
        simp only [List.length_append]
        omega
      have HE := Lib.hid (text_w B pb x _ wr hxk hpb hB' hwk hlk)
      have HK := Lib.hid (And.intro hfk (And.intro hx' hcell))
      clear hwk hlk hfk hxk hx' hcell hB'
      go_wp2_with fail
      refine HE.out.mono ?_
      rintro e w2 ⟨rfl, hw2, hf2⟩
      have H2 := Lib.hid (And.intro hw2 hf2)
      clear hw2 hf2 HE
      go_wp2_with fail
      go_roundw
      case rel =>
        refine ⟨k + 1, rfl, hlt, ?_, HK.out.1.trans H2.out.2⟩
        rw [flat_succ textB hkl, ← List.append_assoc (uvarint n), ← List.append_assoc bs, ← HK.out.2.1]
        exact H2.out.1
      case measure => simp only [RowKit.intOf]; omega
    · have hkn : k = n := by omega
      subst hkn
      have hto : xs.take k = xs := by rw [List.take_of_length_le]; have := HX.out.2.2.1; omega
      rw [hto] at hwk
      have HZ := Lib.hid (And.intro hwk (HX.out.2.2.2.1.trans hfk))
      clear hwk hfk
      go_wp2_with fail
      refine leaves_cons (f := 47) (args := #[.pointer (some ⟨w.heap.size, 0, none⟩), .pointer (some ⟨w.heap.size + 1, 0, none⟩)]) (by simp) (by simp [go_sem]) ?_
      refine (putSF_idle ⟨w.heap.size, 0, none⟩ ⟨w.heap.size + 1, 0, none⟩ _).mono ?_
      rintro e u' w'' ⟨rfl, rfl, rfl⟩
      simp [Leaves, settle, results, Tryd.results42, go_sem]
      exact ⟨rfl, HZ.out⟩
end Go.Proofs.YtcodjknhnhdkfaaDoor.Cm
