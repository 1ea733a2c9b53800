/- Words: the contracts of the laws' marks on slices of integers, and how arguments are opened. -/
import Derived.Test.YthfacfoclekcbaaChecked
import Derived.Test.YthfacfoclekcbaaSl
import Derived.ProofKit
import Derived.OpenShut
import Derived.ShutString
import Derived.ChangeOld
import Derived.Lib.SmallJoins
import Derived.Deep.SlicePairs
namespace Go.Proofs.Ythfacfoclekcbaa
open Go.ChangeShapes Go.WideShapes Go.ChangeAt Go.RowKit Go.Deep Go.Joins

theorem own : ownKnob Try.prog.godebug = none := by kernel_rfl
theorem laidOut : laidOutB Try.prog = true := by kernel_rfl
theorem cellsInt : Try.prog.cellsOf 3 = 1 := by kernel_rfl

/-! ### what only one row changes -/
theorem grown_cell {w w' : World} {row : Option Nat} {lo hi : Nat} {p : Addr} {v : Value} (hg : w.grownBy w' row) (hr : ∀ k, row = some k → lo ≤ k ∧ k < hi) (hp : p.block < lo ∨ hi ≤ p.block) (hc : w.cell? p = some v) : w'.cell? p = some v :=
  hg.cell hc (fun e => by have := hr p.block e.symm; omega)
theorem grown_own {α : Type} {S : Shape α} {w w' : World} {row : Option Nat} {lo hi B : Nat} {e : TypeId} {v : Value} {l : List α} (hg : w.grownBy w' row) (hr : ∀ k, row = some k → lo ≤ k ∧ k < hi) (h : SlOwn S w B e v l)
    (hv : ∀ k, v.ownBlock = some k → k < lo ∨ hi ≤ k) : SlOwn S w' B e v l := by
  refine h.kept hg ?_
  cases hb : v.ownBlock with
  | none => exact .inl rfl
  | some k =>
    refine .inr (fun e => ?_)
    have h1 := hr k e.symm
    have h2 := hv k hb
    omega
theorem grown_below {w w' : World} {row : Option Nat} {B lo hi : Nat} (hg : w.grownBy w' row) (hr : ∀ k, row = some k → lo ≤ k ∧ k < hi) (hB : B ≤ lo) (hw : B ≤ w.heap.size) : Below B w w' :=
  (Below.refl _ _).grown hg hw (fun k hk => Nat.le_trans hB (hr k hk).1)
theorem grown_trans {a b c : World} {row : Option Nat} (h : a.grownBy b row) (k : b.grownBy c row) : a.grownBy c row :=
  ⟨k.os.trans h.os, k.tape.trans h.tape, k.output.trans h.output, Nat.le_trans h.size k.size, fun i hi hne => (k.block i (Nat.lt_of_lt_of_le hi h.size) hne).trans (h.block i hi hne)⟩

/-! ### integers -/
def intMarks (k : Int) (n : Nat) : List Int := (List.range n).map fun (i : Nat) => k + (i : Int)
theorem intMarks_len (k : Int) (n : Nat) : (intMarks k n).length = n := by simp [intMarks]
theorem intMarks_at (k : Int) (n j : Nat) (h : j < n) : (intMarks k n)[j]? = some (k + (j : Int)) := by simp [intMarks, h]
theorem intMarks_set (k : Int) (l : List Int) (j : Nat) (h : j < l.length) : (intMarks k j ++ l.drop j).set j (k + (j : Int)) = intMarks k (j + 1) ++ l.drop (j + 1) := by
  rw [List.set_append_right _ _ (by rw [intMarks_len]; omega), intMarks_len, Nat.sub_self, List.drop_eq_getElem_cons h, List.set_cons_zero]
  unfold intMarks
  rw [List.range_succ, List.map_append, List.append_assoc]
  rfl

theorem SlOwn.int_store {w : World} {B g n c : Nat} {e : TypeId} {l : List Int} (h : SlOwn intS w B e (.slice (some ⟨g, 0, none⟩) n c) l) {j : Nat} (hj : j < l.length) (x : Int) :
    ∃ v0, w.cell? ⟨g, j, none⟩ = some v0 ∧ w.frozen? ⟨g, j, none⟩ = false ∧ SlOwn intS (w.setCell ⟨g, j, none⟩ (.int .i64 x)) B e (.slice (some ⟨g, 0, none⟩) n c) (l.set j x) ∧ w.grownBy (w.setCell ⟨g, j, none⟩ (.int .i64 x)) (some g) := by
  have hn : n = l.length := by
    rcases h.2 with ⟨h', _⟩ | ⟨g', cap', cur, h', _⟩
    · simp at h'
    · simp only [Value.slice.injEq] at h'
      exact h'.2.1
  subst hn
  have s0 := World.ownsRow.stored h j (.int .i64 x)
  have hr : ∀ (m : List Int) (i : Nat), (intS.row m).set i (.int .i64 x) = intS.row (m.set i x) := by
    intro m
    induction m with
    | nil => intro i; simp [Shape.row]
    | cons y m ih =>
      intro i
      cases i with
      | zero => rfl
      | succ i => rw [Shape.row_cons]; show _ :: (intS.row m).set i _ = _; rw [ih i]; rfl
  have hx : (intS.row l)[j]? = some (.int .i64 (l[j]'hj)) := by
    have := intS.row_at l j _ (List.getElem?_eq_getElem hj) 0 (by decide)
    simpa [intS] using this
  refine ⟨_, (World.ownsRow.cellAt h j (by show j < l.length * 1; omega)).trans hx, World.ownsRow.frozenAt h _, ?_, s0.2⟩
  show World.ownsRow _ _ _ _ _ _ _
  rw [List.length_set, ← hr]
  exact s0.1

theorem own_some {α : Type} {S : Shape α} {w : World} {B n c : Nat} {e : TypeId} {A : Option Addr} {l : List α} (h : SlOwn S w B e (.slice A n c) l) (hn : 0 < l.length) : ∃ g, A = some ⟨g, 0, none⟩ ∧ n = l.length := by
  rcases h.2 with ⟨_, h0⟩ | ⟨g, cap, cur, hv, _⟩
  · omega
  · simp only [Value.slice.injEq] at hv
    exact ⟨g, hv.1, hv.2.1⟩

end Go.Proofs.Ythfacfoclekcbaa
