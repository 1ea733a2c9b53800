/- Ants that are read, in a block below a bound: they last while blocks above it turn. -/
import Derived.Test.YtdoikeglaolipaaMark
namespace Go.Proofs.Ytdoikeglaolipaa
open Go.RowKit

def SlLt (w : World) (hi : Nat) (A : Option Addr) (l : List (Int × Int)) : Prop :=
  l = [] ∨ ∃ b off, A = some ⟨b, off, none⟩ ∧ b < hi ∧ ∀ k, k < l.length → w.cell? ⟨b, off + k * 2, none⟩ = some (.int .i64 (l.getD k (0, 0)).1) ∧ w.cell? ⟨b, off + k * 2 + 1, none⟩ = some (.int .i64 (l.getD k (0, 0)).2)
theorem slLt_of {w : World} {A : Option Addr} {l : List (Int × Int)} (h : AntsAt w A l) : SlLt w w.heap.size A l := by
  rcases h with h | ⟨b, off, hA, h⟩
  · exact .inl h
  · cases l with
    | nil => exact .inl rfl
    | cons x l => exact .inr ⟨b, off, hA, World.block_lt_of_cell? _ _ (h 0 (by simp)).1, h⟩
theorem SlLt.below {w w' : World} {hi : Nat} {A : Option Addr} {l : List (Int × Int)} (h : SlLt w hi A l) (hb : Below w.heap.size w w') : SlLt w' hi A l := by
  rcases h with h | ⟨b, off, hA, hlt, h⟩
  · exact .inl h
  · exact .inr ⟨b, off, hA, hlt, fun k hk => ⟨Below.cell_some hb (h k hk).1, Below.cell_some hb (h k hk).2⟩⟩
theorem SlLt.grown {w w' : World} {hi : Nat} {A : Option Addr} {l : List (Int × Int)} {row : Option Nat} (h : SlLt w hi A l) (hg : w.grownBy w' row) (hr : ∀ k, row = some k → hi ≤ k) : SlLt w' hi A l := by
  rcases h with h | ⟨b, off, hA, hlt, h⟩
  · exact .inl h
  · have hne : some b ≠ row := fun e => by have := hr b e.symm; omega
    exact .inr ⟨b, off, hA, hlt, fun k hk => ⟨hg.cell (h k hk).1 hne, hg.cell (h k hk).2 hne⟩⟩
theorem SlLt.ants {w : World} {hi : Nat} {A : Option Addr} {l : List (Int × Int)} (h : SlLt w hi A l) : AntsAt w A l := by
  rcases h with h | ⟨b, off, hA, _, h⟩
  · exact .inl h
  · exact .inr ⟨b, off, hA, h⟩
end Go.Proofs.Ytdoikeglaolipaa
