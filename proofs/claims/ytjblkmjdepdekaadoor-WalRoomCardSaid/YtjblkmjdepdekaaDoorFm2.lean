
/- frames: the contracts of the law's bytes, Size, same -/
import Derived.Test.YtjblkmjdepdekaaDoorFm1
import Derived.Deep.AppendLies
import Derived.Deep.RegionLaw
namespace Go.Proofs.YtjblkmjdepdekaaDoor.Fm
open Go.RowKit Go.Lib Go.Proofs.YtjblkmjdepdekaaDoor.By Go.Proofs.YtjblkmjdepdekaaDoor.Oc Go.Proofs.YtjblkmjdepdekaaDoor.Cr

/-- 'append(own, text...)' at a step of a region that draws -/
theorem step_append_str {w : World} {ops : Array Oper} {o : Oper} {a : Act} {K : Act → World → Prop} {Q : Exit → Act → World → Prop} {E : Prop} (hgd : o.guard = none) (sl x : Operand)
    (ho : o.op = .call { callee := .builtin .append, args := #[sl, x], argTypes := #[32, 9] })
    (base : Nat) (v : Value) (n : Nat) (bs : List UInt8) (hs : a.eval sl = v) (hown : w.ownsRow base 5 1 v n (byteCells bs)) (l : List UInt8) (hx : a.eval x = .string ⟨l.toArray⟩)
    (hb : n + l.length ≤ 1000000000000) (hbase : base ≤ w.heap.size)
    (h : ∀ ao cp w', w'.ownsRow base 5 1 (.slice ao (n + l.length) cp) (n + l.length) (byteCells (bs ++ l)) → Below base w w' → K (a.put o.dst (.slice ao (n + l.length) cp)) w') :
    if Region.wanted o (yielded ops a.tmps) = true then Oper.wp Tryd.prog o a w K Q else E := by
  have hw : Region.wanted o (yielded ops a.tmps) = true := by simp [Region.wanted, hgd]
  rw [if_pos hw]
  obtain ⟨i0, hi, hz0, hz1, hz2⟩ := info_parts info5
  have hsz : (⟨l.toArray⟩ : ByteArray).size = l.length := bytes_size l
  obtain ⟨v', w', hr, h2, h3, h4⟩ := run_append_own_string (P := Tryd.prog) w base 32 9 o.type 5 i0 Tryd.underlying32 Tryd.underlying9 hi hz0 hz1 hz2 v n _ hown ⟨l.toArray⟩ (by rw [hsz]; unfold maxLen; omega) (by rw [hsz]; omega) hbase
  rw [hsz] at h2
  obtain ⟨ao, cp, rfl⟩ := own_shape h2
  unfold Oper.wp execOp
  simp only [ho, resolve, invoke, builtin, Sem.run_bind, Sem.run_pure, Result.andThen_ok, List.map_toArray, List.map_cons, List.map_nil, hs, hx, hr]
  refine h ao cp w' ?_ ((Below.refl base w).grown h3 hbase fun k hk => (hown.lt k hk).1)
  rw [byteCells_append]; exact h2

theorem text_l (d : List UInt8) : textB ⟨d.toArray⟩ = uvarint d.length ++ d := by
  unfold textB; rw [bytes_size]
theorem own_two (w : World) (k : UInt8) {B : Nat} (hB : B ≤ w.heap.size) : (w.alloc (.cells #[.int .u8 197, .int .u8 (k.toNat : Nat)] 5)).ownsRow B 5 1 (.slice (some ⟨w.heap.size, 0, none⟩) 2 2) 2 (byteCells [197, k]) :=
  World.ownsRow_lit w #[.int .u8 197, .int .u8 (k.toNat : Nat)] 2 hB (by simp [maxLen]) rfl

theorem isB_four8 (w : World) (s : Nat) (hs : U32 s) : IsB (w.alloc (.cells #[.int .u8 (((s : Nat) : Int) % 256), .int .u8 (((s : Nat) : Int) / 256 % 256), .int .u8 (((s : Nat) : Int) / 65536 % 256), .int .u8 (((s : Nat) : Int) / 16777216)] 5)) (some ⟨w.heap.size, 0, none⟩) 4 4 (le4 s) :=
  ⟨rfl, .inr ⟨_, rfl, by simp, by simp [maxLen], fun j u hu => by
    have h3 : s / 16777216 < 256 := by unfold U32 at hs; omega
    match j, hu with
    | 0, hu | 1, hu | 2, hu => simp [byteCells, le4] at hu; subst hu; simp [Addr.add]
    | 3, hu => simp [byteCells, le4] at hu; subst hu; simp [Addr.add]; omega⟩⟩

end Go.Proofs.YtjblkmjdepdekaaDoor.Fm
