/- l1Put: a number put into an increasing list. -/
import Derived.Test.YtodcacifpjakdaaPlM
import Derived.Test.YtodcacifpjakdaaStep
namespace Go.Proofs.Ytodcacifpjakdaa
open Go.RowKit

theorem intInfoP : (Try.prog.info? 3).map (fun i => (i.zero, i.size, i.bytes)) = some (some (.int .i64 0), intS.size, 8) := by kernel_rfl
theorem slAt_oneP {w : World} {g : Nat} {x : Int} {e : TypeId} {m : Nat × Nat} (h : w.heap[g]? = some (.cells #[.int .i64 x] e m)) : SlAt intS w (some ⟨g, 0, none⟩) [x] := by
  refine .inr ⟨g, 0, rfl, (Array.getElem?_eq_some_iff.1 h).1, fun k y hk j hj => ?_⟩
  cases k with
  | succ k => simp at hk
  | zero =>
    simp only [List.getElem?_cons_zero, Option.some.injEq] at hk
    subst hk
    simp only [Nat.zero_mul, Nat.zero_add]
    rw [cell_of_row w g j _ _ _ h, ← Array.getElem?_toList]
    rfl

theorem SlOwn.allocP {α : Type} {S : Shape α} {w : World} {B : Nat} {e : TypeId} {v : Value} {l : List α} (h : SlOwn S w B e v l) (o : Obj) : SlOwn S (w.alloc o) B e v l := h.below ((Below.refl _ _).alloc (Nat.le_refl _) _)

end Go.Proofs.Ytodcacifpjakdaa
