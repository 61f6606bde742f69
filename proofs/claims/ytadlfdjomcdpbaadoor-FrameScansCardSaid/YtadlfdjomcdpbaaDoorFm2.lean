/- frames: the contracts of the law's bytes, Size, same -/
import Derived.Test.YtadlfdjomcdpbaaDoorFm1
import Derived.Deep.AppendLies
import Derived.Deep.RegionLaw
namespace Go.Proofs.YtadlfdjomcdpbaaDoor.Fm
open Go.RowKit Go.Lib Go.Proofs.YtadlfdjomcdpbaaDoor.By Go.Proofs.YtadlfdjomcdpbaaDoor.Oc Go.Proofs.YtadlfdjomcdpbaaDoor.Cr

/-- 'append(own, text...)' at a step of a region that draws -/
theorem step_append_str {w : World} {ops : Array Oper} {o : Oper} {a : Act} {K : Act → World → Prop} {Q : Exit → Act → World → Prop} {E : Prop} (hgd : o.guard = none) (sl x : Operand)
    (ho : o.op = .call { callee := .builtin .append, args := #[sl, x], argTypes := #[23, 9] })
    (base : Nat) (v : Value) (n : Nat) (bs : List UInt8) (hs : a.eval sl = v) (hown : w.ownsRow base 5 1 v n (byteCells bs)) (l : List UInt8) (hx : a.eval x = .string ⟨l.toArray⟩)
    (hb : n + l.length ≤ 1000000000000) (hbase : base ≤ w.heap.size)
    (h : ∀ ao cp w', w'.ownsRow base 5 1 (.slice ao (n + l.length) cp) (n + l.length) (byteCells (bs ++ l)) → Below base w w' → K (a.put o.dst (.slice ao (n + l.length) cp)) w') :
    if Region.wanted o (yielded ops a.tmps) = true then Oper.wp Tryd.prog o a w K Q else E := by
  have hw : Region.wanted o (yielded ops a.tmps) = true := by simp [Region.wanted, hgd]
  rw [if_pos hw]
  obtain ⟨i0, hi, hz0, hz1, hz2⟩ := info_parts info5
  have hsz : (⟨l.toArray⟩ : ByteArray).size = l.length := bytes_size l
  obtain ⟨v', w', hr, h2, h3, h4⟩ := run_append_own_string (P := Tryd.prog) w base 23 9 o.type 5 i0 Tryd.underlying23 Tryd.underlying9 hi hz0 hz1 hz2 v n _ hown ⟨l.toArray⟩ (by rw [hsz]; unfold maxLen; omega) (by rw [hsz]; omega) hbase
  rw [hsz] at h2
  obtain ⟨ao, cp, rfl⟩ := own_shape h2
  unfold Oper.wp execOp
  simp only [ho, resolve, invoke, builtin, Sem.run_bind, Sem.run_pure, Result.andThen_ok, List.map_toArray, List.map_cons, List.map_nil, hs, hx, hr]
  refine h ao cp w' ?_ ((Below.refl base w).grown h3 hbase fun k hk => (hown.lt k hk).1)
  rw [byteCells_append]; exact h2

theorem text_l (d : List UInt8) : textB ⟨d.toArray⟩ = uvarint d.length ++ d := by
  unfold textB; rw [bytes_size]
theorem own_two (w : World) (k : UInt8) {B : Nat} (hB : B ≤ w.heap.size) : (w.alloc (.cells #[.int .u8 197, .int .u8 (k.toNat : Nat)] 5)).ownsRow B 5 1 (.slice (some ⟨w.heap.size, 0, none⟩) 2 2) 2 (byteCells [197, k]) :=
  World.ownsRow_lit w #[.int .u8 197, .int .u8 (k.toNat : Nat)] 2 hB (by simp [maxLen]) rfl

theorem isB_four8 (w : World) (s : Nat) (hs : U32 s) : IsB (w.alloc (.cells #[.int .u8 (((s : Nat) : Int) % 256), .int .u8 (((s : Nat) : Int) / 256 % 256), .int .u8 (((s : Nat) : Int) / 65536 % 256), .int .u8 (((s : Nat) : Int) / 16777216)] 5)) (some ⟨w.heap.size, 0, none⟩) 4 4 (le4 s) :=
  ⟨rfl, .inr ⟨_, rfl, by simp, by simp [maxLen], fun j u hu => by
    have h3 : s / 16777216 < 256 := by unfold U32 at hs; omega
    match j, hu with
    | 0, hu | 1, hu | 2, hu => simp [byteCells, le4] at hu; subst hu; simp [Addr.add]
    | 3, hu => simp [byteCells, le4] at hu; subst hu; simp [Addr.add]; omega⟩⟩

set_option maxRecDepth 20000 in
set_option maxHeartbeats 4000000 in
theorem bytes_l (s : Nat) (k : UInt8) (a : Option Addr) (len cap : Nat) (d : List UInt8) (w : World) (hs : U32 s) (hd0 : IsB w a len cap d) (hl : len ≤ 1024) (hn : Nibs w) :
    Calls Tryd.prog 8 #[.int .u32 s, .agg #[.int .u8 (k.toNat : Nat), .slice a len cap]] w fun e w' => ∃ ao cp, e = .returned (.tuple #[.slice ao (fb s k d).length cp, .int .u32 (fs s k d : Nat)]) ∧ w'.ownsRow w.heap.size 5 1 (.slice ao (fb s k d).length cp) (fb s k d).length (byteCells (fb s k d)) ∧ Below w.heap.size w w' := by
  obtain rfl : d.length = len := hd0.1
  have HD := Lib.hid hd0
  have HS := Lib.hid hs
  have HN := Lib.hid hn
  have hk := k.toNat_lt
  clear hd0 hs hn
  go_enter Tryd.func8, Tryd.ntmps8
  go_wp2_with fail
  obtain ⟨W0, hW0⟩ : ∃ W0, W0 = w.alloc (.cells #[.int .u8 (k.toNat : Nat), .slice a d.length cap] 25) := ⟨_, rfl⟩
  have hx : W0.heap[w.heap.size]? = some (.cells #[.int .u8 (k.toNat : Nat), .slice a d.length cap] 25 (0, 0)) := by rw [hW0]; exact heap_alloc_new w _
  have hb0 : Below w.heap.size w W0 := by rw [hW0]; exact (Below.refl _ _).alloc (Nat.le_refl _) _
  have hz0 : W0.heap.size = w.heap.size + 1 := by rw [hW0]; simp
  rw [← hW0]
  clear hW0
  obtain ⟨⟨c0, c1⟩, _⟩ := two_cells hx
  have hz0' : w.heap.size < W0.heap.size := by omega
  have hcv1 : (convert 23 9 (.slice a d.length cap)).run Tryd.prog W0.drew = .ok (.string ⟨d.toArray⟩) W0.drew := str_of (show IsB W0.drew a d.length cap d from HD.out.old hb0.drew)
  have hcv2 : (convert 23 9 (.slice a d.length cap)).run Tryd.prog (W0.alloc (.cells #[.int .u8 197, .int .u8 (k.toNat : Nat)] 5)).drew = .ok (.string ⟨d.toArray⟩) (W0.alloc (.cells #[.int .u8 197, .int .u8 (k.toNat : Nat)] 5)).drew :=
    str_of (show IsB (W0.alloc (.cells #[.int .u8 197, .int .u8 (k.toNat : Nat)] 5)).drew a d.length cap d from HD.out.old (hb0.alloc (by omega) _).drew)
  have HX := Lib.hid (And.intro hx (And.intro hb0 hz0))
  have hul := uv_two (n := d.length) (by omega)
  have hc1 : 2 + (uvarint d.length ++ d).length ≤ 1000000000000 := by rw [List.length_append]; omega
  have hle0 : w.heap.size ≤ W0.drew.heap.size := by rw [World.size_drew]; omega
  have hown1 : (W0.alloc (.cells #[.int .u8 197, .int .u8 (k.toNat : Nat)] 5)).drew.ownsRow w.heap.size 5 1 (.slice (some ⟨W0.heap.size, 0, none⟩) 2 2) 2 (byteCells [197, k]) := own_two W0.drew k hle0
  clear hx hb0 hz0
  go_region_law (first
    | (go_simp; go_at_call 21; refine (ref_text ⟨d.toArray⟩ _ ?_).mono ?_; (rw [bytes_size]; omega); rintro e w' ⟨rfl, hb'⟩; (try (have hk0 : w'.cell? ⟨w.heap.size, 0, none⟩ = some (.int .u8 (k.toNat : Nat)) := (hb'.cell (p := ⟨w.heap.size, 0, none⟩) hz0').trans c0)); rw [text_l])
    | (apply step_append_str (base := w.heap.size) (n := 2) (bs := [197, k]) (l := uvarint d.length ++ d)
       case hgd => rfl
       case ho => rfl
       case hs => rfl
       case hx => rfl
       case hb => exact hc1
       case hown => first
         | exact own_below hown1 hb' (Nat.le_refl _)
         | exact own_two _ k (Nat.le_trans hle0 hb'.size)
       case hbase => (have := hb'.size; (try simp only [World.size_alloc, World.size_drew] at this ⊢); omega)
       intro ao cp w9 hown9 hg9))
  all_goals
    have hw' : Below w.heap.size w w' := by
      first
        | exact HX.out.2.1.drew.trans (hb'.mono (by simp only [World.size_drew]; omega))
        | exact (HX.out.2.1.alloc (by omega) _).drew.trans (hb'.mono (by simp only [World.size_drew, World.size_alloc]; omega))
    have hb9 : Below w.heap.size w w9 := by
      first
        | exact hw'.trans hg9
        | exact (hw'.alloc hw'.size _).trans hg9
    have e9 : [197, k] ++ (uvarint d.length ++ d) = hd k d := rfl
    have el9 : 2 + (uvarint d.length ++ d).length = (hd k d).length := by rw [hd_len, List.length_append]; omega
    have el8 : 2 + ((uvarint d.length).length + d.length) = (hd k d).length := by rw [hd_len]; omega
    rw [e9, el9] at hown9
    simp only [el8]
    have hhl : (hd k d).length ≤ 1100 := by rw [hd_len]; omega
    obtain ⟨x9, y9, hv9, hib9⟩ := isB_own hown9
    simp only [Value.slice.injEq, true_and] at hv9
    obtain ⟨rfl, rfl⟩ := hv9
    have hz9 : w.heap.size ≤ w9.heap.size := hb9.size
    have H9 := Lib.hid (And.intro hown9 (And.intro hib9 hb9))
    clear hown9 hg9 hib9 hb9 hw' hb' hcv1 hcv2 hown1
    go_wp2_with fail
    refine (more_any s ao (hd k d).length cp (hd k d) w9 HS.out H9.out.2.1 (HN.out.old H9.out.2.2)).mono ?_
    rintro e w9' ⟨rfl, rfl⟩
    have hib5 := isB_four8 w9 (more s (hd k d)) (more_u32 _ _)
    have H6 := Lib.hid (And.intro hib5 (And.intro (H9.out.1.alloc (.cells #[.int .u8 (((more s (hd k d) : Nat) : Int) % 256), .int .u8 (((more s (hd k d) : Nat) : Int) / 256 % 256), .int .u8 (((more s (hd k d) : Nat) : Int) / 65536 % 256), .int .u8 (((more s (hd k d) : Nat) : Int) / 16777216)] 5)) (H9.out.2.2.alloc hz9 (.cells #[.int .u8 (((more s (hd k d) : Nat) : Int) % 256), .int .u8 (((more s (hd k d) : Nat) : Int) / 256 % 256), .int .u8 (((more s (hd k d) : Nat) : Int) / 65536 % 256), .int .u8 (((more s (hd k d) : Nat) : Int) / 16777216)] 5))))
    have hmu : more s (hd k d) < 4294967296 := more_u32 _ _
    clear hib5 H9
    go_wp2_with (at_builtin; refine wpList_append_bytes rfl _ _ rfl w.heap.size _ (hd k d).length (hd k d) rfl H6.out.2.1 (some ⟨w9.heap.size, 0, none⟩) 4 4 (le4 (more s (hd k d))) rfl H6.out.1 ?c1 ?c2 ?_)
    case c1 => omega
    case c2 => simp; omega
    · intro ao cp w7 hown7 hg7
      have hb7 : Below w.heap.size w w7 := H6.out.2.2.grown hg7 (by simp; omega) (fun k hk => by have := (H6.out.2.1.lt k hk).1; omega)
      have e7 : (fb s k d).length = (hd k d).length + 4 := fb_len s k d
      have H7 := Lib.hid (And.intro hown7 hb7)
      clear hown7 hg7 hb7 H6
      go_wp2_with fail
      go_ret2
      rw [e7]
      exact ⟨_, _, rfl, H7.out⟩
end Go.Proofs.YtadlfdjomcdpbaaDoor.Fm
