
/- frames: the contracts of low, Bytes, the law's bytes, same -/
import Derived.Test.YtjblkmjdepdekaaDoorFmM
import Derived.Test.YtjblkmjdepdekaaDoorCrMo
import Derived.Test.YtjblkmjdepdekaaDoorRs
import Derived.Lib.SmallJoins
namespace Go.Proofs.YtjblkmjdepdekaaDoor.Fm
open Go.RowKit Go.Lib Go.Proofs.YtjblkmjdepdekaaDoor.By Go.Proofs.YtjblkmjdepdekaaDoor.Oc Go.Proofs.YtjblkmjdepdekaaDoor.Cr

set_option maxHeartbeats 1000000 in
theorem low_any (s : Nat) (w : World) (hs : U32 s) :
    Calls Tryd.prog 51 #[.int .u32 s] w fun e w' => e = .returned (.agg #[.int .u8 (((s : Nat) : Int) % 256), .int .u8 (((s : Nat) : Int) / 256 % 256), .int .u8 (((s : Nat) : Int) / 65536 % 256), .int .u8 (((s : Nat) : Int) / 16777216 % 256)]) ∧ Below w.heap.size w w' := by
  unfold U32 at hs
  go_enter Tryd.func51, Tryd.ntmps51
  go_wp2
  (try simp only [Exit.inBlock, Exit.then])
  refine bodyPost_ret (v := .agg #[.int .u8 (((s : Nat) : Int) % 256), .int .u8 (((s : Nat) : Int) / 256 % 256), .int .u8 (((s : Nat) : Int) / 65536 % 256), .int .u8 (((s : Nat) : Int) / 16777216 % 256)]) ?_ rfl ⟨rfl, ?_⟩
  · rw [results_cell1 rfl]
    go_simp
    omega
  · (repeat' (first | exact Below.refl _ _ | refine Below.setCell ?_ (by simp <;> omega) _ | refine Below.alloc ?_ (by simp <;> omega) _))

/-- a record's value -/
def recV (k : UInt8) (a : Option Addr) (len cap : Nat) : Value := .agg #[.int .u8 (k.toNat : Nat), .slice a len cap]

set_option maxHeartbeats 1000000 in
theorem frBytes_long (s : Nat) (k : UInt8) (a : Option Addr) (len cap : Nat) (w : World) (hl : 1024 < len) :
    Calls Tryd.prog 32 #[.int .u32 s, .agg #[.int .u8 (k.toNat : Nat), .slice a len cap]] w fun e w' => e = .returned (.tuple #[.slice none 0 0, .int .u32 0, .int .i64 15]) ∧ Below w.heap.size w w' := by
  go_enter Tryd.func32, Tryd.ntmps32
  go_wp2
  go_ret3
  exact ⟨rfl, (Below.refl _ _).alloc (Nat.le_refl _) _⟩

theorem isB_two (w : World) (c k : UInt8) : IsB (w.alloc (.cells #[.int .u8 (c.toNat : Nat), .int .u8 (k.toNat : Nat)] 5)) (some ⟨w.heap.size, 0, none⟩) 2 2 [c, k] :=
  ⟨rfl, .inr ⟨_, rfl, by simp, by simp [maxLen], fun j u hu => by
    match j, hu with
    | 0, hu | 1, hu => simp [byteCells] at hu; subst hu; simp [Addr.add]⟩⟩
theorem isB_four (w : World) (s : Nat) : IsB (w.alloc (.cells #[.int .u8 (((s : Nat) : Int) % 256), .int .u8 (((s : Nat) : Int) / 256 % 256), .int .u8 (((s : Nat) : Int) / 65536 % 256), .int .u8 (((s : Nat) : Int) / 16777216 % 256)] 98)) (some ⟨w.heap.size, 0, none⟩) 4 4 (le4 s) :=
  ⟨rfl, .inr ⟨_, rfl, by simp, by simp [maxLen], fun j u hu => by
    match j, hu with
    | 0, hu | 1, hu | 2, hu | 3, hu => simp [byteCells, le4] at hu; subst hu; simp [Addr.add]⟩⟩

set_option maxRecDepth 20000 in
set_option maxHeartbeats 2000000 in
theorem frBytes_ok (s : Nat) (k : UInt8) (a : Option Addr) (len cap : Nat) (d : List UInt8) (w : World) (hs : U32 s) (hd0 : IsB w a len cap d) (hl : len ≤ 1024) (hn : Nibs w) :
    Calls Tryd.prog 32 #[.int .u32 s, .agg #[.int .u8 (k.toNat : Nat), .slice a len cap]] w fun e w' => ∃ ao cp, e = .returned (.tuple #[.slice ao (fb s k d).length cp, .int .u32 (fs s k d : Nat), .int .i64 0]) ∧ w'.ownsRow w.heap.size 5 1 (.slice ao (fb s k d).length cp) (fb s k d).length (byteCells (fb s k d)) ∧ Below w.heap.size w w' := by
  obtain rfl : d.length = len := hd0.1
  have HD := Lib.hid hd0
  have HS := Lib.hid hs
  have HN := Lib.hid hn
  have hk := k.toNat_lt
  clear hd0 hs hn
  go_enter Tryd.func32, Tryd.ntmps32
  go_wp2_with fail
  obtain ⟨W0, hW0⟩ : ∃ W0, W0 = ((w.alloc (.cells #[.int .u8 (k.toNat : Nat), .slice a d.length cap] 34)).alloc (.cells #[.slice none 0 0] 93)).alloc (.cells #[.int .u8 197, .int .u8 (k.toNat : Nat)] 5) := ⟨_, rfl⟩
  have hx : W0.heap[w.heap.size]? = some (.cells #[.int .u8 (k.toNat : Nat), .slice a d.length cap] 34 (0, 0)) := by
    rw [hW0]
    exact heap_old ((Below.refl _ _).alloc (Nat.le_refl _) _) (heap_old ((Below.refl _ _).alloc (Nat.le_refl _) _) (heap_alloc_new w _))
  have hw0 : Wr (w.heap.size + 2) W0 (w.heap.size + 1) [] := by
    rw [hW0]
    refine wr_nil (heap_old ((Below.refl _ _).alloc (Nat.le_refl _) _) ?_)
    have := heap_alloc_new (w.alloc (.cells #[.int .u8 (k.toNat : Nat), .slice a d.length cap] 34)) (.cells #[.slice none 0 0] 93)
    simpa using this
  have hib : IsB W0 (some ⟨w.heap.size + 1 + 1, 0, none⟩) 2 2 [197, k] := by
    have := isB_two ((w.alloc (.cells #[.int .u8 (k.toNat : Nat), .slice a d.length cap] 34)).alloc (.cells #[.slice none 0 0] 93)) 197 k
    rw [hW0]; simpa using this
  have hb0 : Below w.heap.size w W0 := by
    rw [hW0]; exact (((Below.refl _ _).alloc (Nat.le_refl _) _).alloc (by simp) _).alloc (by simp; omega) _
  have hz0 : W0.heap.size = w.heap.size + 3 := by rw [hW0]; simp
  rw [← hW0]
  clear hW0
  refine (raw_any (w.heap.size + 2) (w.heap.size + 1) _ 2 2 [197, k] [] W0 (by omega) (by omega) hw0 hib (by simp)).mono ?_
  rintro e W1 ⟨rfl, hw1, hf1⟩
  have hb1 : Below w.heap.size w W1 := hb0.trans (hf1.below (by omega) (by omega))
  have hx1 : W1.heap[w.heap.size]? = some (.cells #[.int .u8 (k.toNat : Nat), .slice a d.length cap] 34 (0, 0)) := (hf1.block _ (by omega) (by omega)).trans hx
  have hz1 : w.heap.size + 3 ≤ W1.heap.size := by have := hf1.size; omega
  obtain ⟨⟨c0, c1⟩, _⟩ := two_cells hx1
  have H1 := Lib.hid (And.intro hw1 (And.intro hb1 hx1))
  clear hx hw0 hib hb0 hz0 hw1 hf1 hb1 hx1
  go_wp2_with fail
  have hU : U64 d.length := by unfold U64; omega
  have hul := uv_two (n := d.length) (by omega)
  refine (num_any (w.heap.size + 2) (w.heap.size + 1) d.length _ W1 hU (by omega) (by omega) H1.out.1 (by simp)).mono ?_
  rintro e W2 ⟨rfl, hw2, hf2⟩
  have hb2 : Below w.heap.size w W2 := H1.out.2.1.trans (hf2.below (by omega) (by omega))
  have hx2 : W2.heap[w.heap.size]? = some (.cells #[.int .u8 (k.toNat : Nat), .slice a d.length cap] 34 (0, 0)) := (hf2.block _ (by omega) (by omega)).trans H1.out.2.2
  have hz2 : w.heap.size + 3 ≤ W2.heap.size := by have := hf2.size; omega
  obtain ⟨⟨c0, c1⟩, _⟩ := two_cells hx2
  have H2 := Lib.hid (And.intro hw2 (And.intro hb2 hx2))
  clear hw2 hf2 hb2 hx2 H1 hz1
  go_wp2_with fail
  refine (raw_any (w.heap.size + 2) (w.heap.size + 1) a d.length cap d _ W2 (by omega) (by omega) H2.out.1 (HD.out.old H2.out.2.1) (by simp; omega)).mono ?_
  rintro e W3 ⟨rfl, hw3, hf3⟩
  have hb3 : Below w.heap.size w W3 := H2.out.2.1.trans (hf3.below (by omega) (by omega))
  have hz3 : w.heap.size + 3 ≤ W3.heap.size := by have := hf3.size; omega
  have he3 : [] ++ [197, k] ++ uvarint d.length ++ d = hd k d := by unfold hd; simp
  rw [he3] at hw3
  have hhl : (hd k d).length ≤ 1100 := by rw [hd_len]; omega
  have H3 := Lib.hid (And.intro hw3 hb3)
  clear hw3 hf3 hb3 H2 hz2 he3
  go_wp2_with fail
  refine (bytes_any _ _ (hd k d) W3 H3.out.1 (by omega)).mono ?_
  rintro e W4 ⟨v4, rfl, hown4, hb4⟩
  obtain ⟨a4, c4, rfl, hib4⟩ := isB_own hown4
  have hb4' : Below w.heap.size w W4 := H3.out.2.trans (hb4.mono (by omega))
  have hz4 : W3.heap.size ≤ W4.heap.size := hb4.size
  have H4 := Lib.hid (And.intro hown4 (And.intro hib4 hb4'))
  clear hown4 hib4 hb4 hb4' H3
  go_wp2_with fail
  refine (more_any s a4 (hd k d).length c4 (hd k d) W4 HS.out H4.out.2.1 (HN.out.old H4.out.2.2)).mono ?_
  rintro e W4' ⟨rfl, rfl⟩
  go_wp2_with fail
  refine (low_any (more s (hd k d)) W4 (more_u32 _ _)).mono ?_
  rintro e W5 ⟨rfl, hb5⟩
  have hb5' : Below w.heap.size w W5 := H4.out.2.2.trans (hb5.mono (by omega))
  have hown5 := own_below H4.out.1 hb5 (Nat.le_refl _)
  have hz5 : W4.heap.size ≤ W5.heap.size := hb5.size
  have hib5 := isB_four W5 (more s (hd k d))
  have hb6 : Below w.heap.size w (W5.alloc (.cells #[.int .u8 (((more s (hd k d) : Nat) : Int) % 256), .int .u8 (((more s (hd k d) : Nat) : Int) / 256 % 256), .int .u8 (((more s (hd k d) : Nat) : Int) / 65536 % 256), .int .u8 (((more s (hd k d) : Nat) : Int) / 16777216 % 256)] 98)) := hb5'.alloc (by omega) _
  have hown6 := hown5.alloc (.cells #[.int .u8 (((more s (hd k d) : Nat) : Int) % 256), .int .u8 (((more s (hd k d) : Nat) : Int) / 256 % 256), .int .u8 (((more s (hd k d) : Nat) : Int) / 65536 % 256), .int .u8 (((more s (hd k d) : Nat) : Int) / 16777216 % 256)] 98)
  have H6 := Lib.hid (And.intro hown6 (And.intro hib5 hb6))
  clear hb5 hb5' hown5 hib5 hb6 hown6 H4
  go_wp2_with (at_builtin; refine wpList_append_bytes rfl _ _ rfl W3.heap.size _ (hd k d).length (hd k d) rfl H6.out.1 (some ⟨W5.heap.size, 0, none⟩) 4 4 (le4 (more s (hd k d))) rfl H6.out.2.1 ?c1 ?c2 ?_)
  case c1 => omega
  case c2 => simp; omega
  · intro ao cp w7 hown7 hg7
    have hb7 : Below w.heap.size w w7 := H6.out.2.2.grown hg7 (by simp; omega) (fun k hk => by have := (H6.out.1.lt k hk).1; omega)
    have e7 : (fb s k d).length = (hd k d).length + 4 := fb_len s k d
    have hown7' := Joins.ownsRow_le hown7 (show w.heap.size ≤ W3.heap.size by omega)
    have H7 := Lib.hid (And.intro hown7' hb7)
    clear hown7 hown7' hg7 hb7 H6
    go_wp2_with fail
    go_ret3
    rw [e7]
    exact ⟨_, _, rfl, H7.out⟩
end Go.Proofs.YtjblkmjdepdekaaDoor.Fm
