/- Puzzles, the program: fits, hiddenPlaces, DoesFit. -/
import Derived.Test.YtenpmjinbjlpbaaPzD
import Derived.Laws.StructEq
namespace Go.Proofs.Ytenpmjinbjlpbaa
open Go.RowKit

theorem eq_clue (a b x y z u : Int) (w : World) : (binOp .eql 35 (.agg #[.int .i64 a, .int .i64 b, .int .i64 x]) (.agg #[.int .i64 y, .int .i64 z, .int .i64 u])).run Try.prog w = .ok (.bool (a == y && b == z && x == u)) w := by
  rw [run_eql_struct]
  have h := run_equalIn_struct (P := Try.prog) w 9999 35 #[.int .i64 a, .int .i64 b, .int .i64 x] #[.int .i64 y, .int .i64 z, .int .i64 u] (by kernel_rfl) (by kernel_rfl)
  rw [h]
  clear h
  have hi : ∀ (w : World) (m n : Int), (Op.equalIn 9999 3 (.int .i64 m) (.int .i64 n)).run Try.prog w = .ok (m == n) w := fun w m n => run_equalIn_int w 9998 3 .i64 .i64 m n Try.underlying3
  simp only [Program.fieldsOf, Try.underlying35]
  generalize (9999 : Nat) = d at hi ⊢
  cases h1 : (a == y) <;> cases h2 : (b == z) <;> cases h3 : (x == u) <;> simp [go_sem, Op.eqFields, part, hi, h1, h2, h3]
end Go.Proofs.Ytenpmjinbjlpbaa
