/- Crews compared as a whole. -/
import Derived.Test.YtdoikeglaolipaaWayC
import Derived.Laws.StructEq
import Derived.ChangeKeysEq
namespace Go.Proofs.Ytdoikeglaolipaa
open Go.RowKit

theorem antIn_eq (d : Nat) (x1 x2 y1 y2 : Int) (w : World) : (Op.equalIn (d + 2) 59 (.agg #[.int .i64 x1, .int .i64 x2]) (.agg #[.int .i64 y1, .int .i64 y2])).run Try.prog w = .ok (decide ((x1, x2) = (y1, y2))) w := by
  rw [run_equalIn_struct w (d + 1) 59 _ _ (by kernel_rfl) (by kernel_rfl)]
  simp [Program.fieldsOf, Try.underlying59, Op.eqFields, go_sem]
  split
  · rename_i h
    split
    · rename_i h2; simp [h, h2]
    · rename_i h2; simp [h2]
  · rename_i h; simp [h]
theorem crewCells : Try.prog.cellsOf 59 = 2 := by kernel_rfl
theorem crewPad (m : List (Int × Int)) (h : m.length ≤ 16) : crewV (padA m) = crewV m := by
  have e : crewV (padA m) = pairS.row (padA m) ++ List.replicate (32 - (padA m).length * 2) (Value.int .i64 0) := rfl
  rw [e, padA_len m h, padA_row]
  simp
theorem crew_part (m : List (Int × Int)) (h : m.length ≤ 16) {i : Nat} (hi : i < 16) (w : World) :
    (part 59 (crewV m).toArray (i * 2)).run Try.prog w = .ok (.agg #[.int .i64 ((padA m).getD i (0, 0)).1, .int .i64 ((padA m).getD i (0, 0)).2]) w := by
  have hk : i < (padA m).length := by rw [padA_len m h]; exact hi
  have he := crew_take (padA m) hk
  rw [crewPad m h] at he
  rw [getD_lt' hk]
  simp [part, Try.sizeOf59, Try.isAgg59, Result.andThen, he]
theorem crew_items (a b : List (Int × Int)) (ha : a.length ≤ 16) (hb : b.length ≤ 16) (d : Nat) (w : World) : ∀ is : List Nat, (∀ i ∈ is, i < 16) →
    (Op.eqItems (d + 2) 59 2 (crewV a).toArray (crewV b).toArray is).run Try.prog w = .ok (is.all fun i => decide ((padA a).getD i (0, 0) = (padA b).getD i (0, 0))) w
  | [], _ => rfl
  | i :: is, h => by
    have hi := h i (by simp)
    have ih := crew_items a b ha hb d w is (fun j hj => h j (by simp [hj]))
    simp only [Op.eqItems, Sem.run_bind, crew_part a ha hi, crew_part b hb hi, Result.andThen_ok, antIn_eq]
    rw [List.all_cons]
    by_cases he : (padA a).getD i (0, 0) = (padA b).getD i (0, 0)
    · simp only [he, decide_true, Bool.not_true, Bool.false_eq_true, if_false, Bool.true_and]
      exact ih
    · have he' : ¬ ((((padA a).getD i (0, 0)).1, ((padA a).getD i (0, 0)).2) = (((padA b).getD i (0, 0)).1, ((padA b).getD i (0, 0)).2)) := he
      simp only [decide_eq_false he', Bool.not_false, if_true, Bool.false_and]
      rfl
theorem padA_get (a : List (Int × Int)) {i : Nat} (h : i < a.length) : (padA a).getD i (0, 0) = a[i]'h := by
  unfold padA
  rw [List.getD_eq_getElem?_getD, List.getElem?_append_left h, List.getElem?_eq_getElem h]
  rfl
theorem pad_all (a b : List (Int × Int)) (ha : a.length ≤ 16) (hb : b.length ≤ 16) (hab : a.length = b.length) : ((List.range 16).all fun i => decide ((padA a).getD i (0, 0) = (padA b).getD i (0, 0))) = decide (a = b) := by
  by_cases h : a = b
  · subst h; simp
  · rw [decide_eq_false h, List.all_eq_false]
    refine Classical.byContradiction fun hn => h ?_
    apply List.ext_getElem hab
    intro i h1 h2
    have hi : i < 16 := by omega
    have h3 : (padA a).getD i (0, 0) = (padA b).getD i (0, 0) := by
      refine Classical.byContradiction fun h4 => hn ⟨i, List.mem_range.2 hi, by simpa using h4⟩
    rw [padA_get a h1, padA_get b h2] at h3
    exact h3
theorem crew_neq (a b : List (Int × Int)) (ha : a.length ≤ 16) (hb : b.length ≤ 16) (hab : a.length = b.length) (w : World) :
    (binOp .neq 61 (.agg (crewV a).toArray) (.agg (crewV b).toArray)).run Try.prog w = .ok (.bool (!decide (a = b))) w := by
  obtain ⟨ai, hi, _⟩ := info_parts antIK
  rw [run_neq_struct, run_equalIn_array w 9999 _ _ Try.underlying61 hi, crewCells]
  rw [crew_items a b ha hb 9997 w _ (fun i hi => List.mem_range.1 hi), pad_all a b ha hb hab]
  rfl
end Go.Proofs.Ytdoikeglaolipaa
