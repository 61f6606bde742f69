
/- expressions: CronLists' walk, whole -/
import Derived.Test.YtjbfpllkgaialaaDoorCn11
namespace Go.Proofs.YtjbfpllkgaialaaDoor.Cn
open Go.RowKit Go.Lib Go.Proofs.YtjbfpllkgaialaaDoor.Ht
set_option linter.unusedVariables false

set_option maxHeartbeats 4000000 in
theorem lists_long (a b r : L) (t : Int) (hl : 20 < a.length ∨ (a.length ≤ 20 ∧ 20 < b.length) ∨ (a.length ≤ 20 ∧ b.length ≤ 20 ∧ 60 < r.length)) (w : World) (hg : Gl w) :
    Calls Tryd.prog 6 #[S a, S b, S r, .int .i64 t] w fun e w' => e = .returned (.bool true) ∧ Below w.heap.size w w' := by
  have hza := size_S a
  have hzb := size_S b
  have hzr := size_S r
  have hlI : (20 : Int) < (a.length : Nat) ∨ (((a.length : Nat) : Int) ≤ 20 ∧ (20 : Int) < (b.length : Nat)) ∨ (((a.length : Nat) : Int) ≤ 20 ∧ ((b.length : Nat) : Int) ≤ 20 ∧ (60 : Int) < (r.length : Nat)) := by omega
  clear hl
  have HG := Lib.hid hg
  clear hg
  go_enter Tryd.func6, Tryd.ntmps6
  go_wp2_with fail
  refine (lives07_any w HG.out).mono ?_
  rintro q w1 ⟨rfl, hb1⟩
  have H1 := Lib.hid hb1
  clear hb1
  rcases hlI with h1 | ⟨h1, h2⟩ | ⟨h1, h2, h3⟩
  all_goals
    go_wp2_with fail
    refine (lives07_any w1 (HG.out.old H1.out)).mono ?_
    rintro q w2 ⟨rfl, hb2⟩
    go_wp2_with fail
    go_ret
    exact ⟨rfl, H1.out.trans (hb2.mono H1.out.size)⟩
theorem lists_walk (a b r : L) (t : Int) (ht : Ca.I64 t) (w : World) (hg : Gl w) :
    Calls Tryd.prog 6 #[S a, S b, S r, .int .i64 t] w fun e w' => e = .returned (.bool true) ∧ Below w.heap.size w w' := by
  by_cases h : a.length ≤ 20 ∧ b.length ≤ 20 ∧ r.length ≤ 60
  · exact lists_in a b r t ht h.1 h.2.1 h.2.2 w hg
  · exact lists_long a b r t (by omega) w hg
theorem S_of (a : ByteArray) : Value.string a = S a.data.toList := by cases a; simp [S]
theorem i64_of {x : Int} (w : (Lit.int .i64 x).wf = true) : Ca.I64 x := by simpa [Ca.I64, Lit.wf, IntKind.min, IntKind.max, IntKind.signed, IntKind.bits] using w
theorem lists_law (a b r : ByteArray) (t : Int) (ht : (Lit.int .i64 t).wf = true) (w : World) (hg : Gl w) :
    Calls Tryd.prog 6 #[.string a, .string b, .string r, .int .i64 t] w fun e w' => e = .returned (.bool true) ∧ Below w.heap.size w w' := by
  rw [S_of a, S_of b, S_of r]
  exact lists_walk _ _ _ t (i64_of ht) w hg
end Go.Proofs.YtjbfpllkgaialaaDoor.Cn
