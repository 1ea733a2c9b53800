/- Two arrays of twelve bytes compared. -/
import Derived.Test.YtodcacifpjakdaaJoin
import Derived.ChangeKeysEq
namespace Go.Proofs.Ytodcacifpjakdaa
open Go.RowKit

def padL (x : List Int) : List Int := x ++ List.replicate (12 - x.length) 0
theorem chV_pad (x : List Int) (h : x.length ≤ 12) : chV x = (padL x).map (Value.int .u8) := by
  have e : byteS.row x = x.map (Value.int .u8) := by
    induction x with
    | nil => rfl
    | cons y x ih => rw [Shape.row_cons, ih (by simp at h; omega)]; rfl
  unfold chV padL
  rw [List.take_append, List.take_of_length_le (by rw [rowB_len]; exact h), rowB_len, List.take_replicate, e, List.map_append, List.map_replicate]
  congr 2
  omega
theorem padL_len (x : List Int) (h : x.length ≤ 12) : (padL x).length = 12 := by unfold padL; rw [List.length_append, List.length_replicate]; omega
theorem padL_inj {x y : List Int} (h : x.length = y.length) (e : padL x = padL y) : x = y := by
  unfold padL at e
  rw [h] at e
  exact List.append_cancel_right e
theorem mapM_some {α β : Type} (f : α → Option β) (g : α → β) : ∀ (is : List α), (∀ i ∈ is, f i = some (g i)) → is.mapM f = some (is.map g)
  | [], _ => rfl
  | i :: is, h => by
    rw [List.mapM_cons, h i List.mem_cons_self, mapM_some f g is (fun j hj => h j (List.mem_cons_of_mem _ hj))]
    rfl
theorem cellsU8 : Try.prog.cellsOf 5 = 1 := by kernel_rfl
theorem plainU8 : Try.prog.plainKey 5 = true := by kernel_rfl
theorem chArr : Try.prog.underlying 66 = some (.array 12 5) := by kernel_rfl
theorem lits12 (l : List Int) (hl : l.length = 12) (hb : ∀ b ∈ l, 0 ≤ b ∧ b ≤ 255) :
    (List.range 12).mapM (fun i => Try.prog.keyLits 1 5 (((l.map (Value.int .u8)).toArray.toList.drop (i * Try.prog.cellsOf 5)).take (Try.prog.cellsOf 5))) = some ((List.range 12).map fun i => [Lit.int .u8 (l.getD i 0)]) := by
  refine mapM_some _ _ _ fun i hi => ?_
  have hi' : i < l.length := by rw [hl]; exact List.mem_range.1 hi
  rw [cellsU8, Nat.mul_one]
  have e : ((l.map (Value.int .u8)).toArray.toList.drop i).take 1 = [Value.int .u8 (l.getD i 0)] := by
    rw [List.drop_eq_getElem_cons (by simpa using hi')]
    simp [List.getD_eq_getElem?_getD, hi']
  rw [e]
  have hm := hb _ (List.getElem_mem hi')
  have hw : (Lit.int .u8 (l.getD i 0)).wf = true := by
    rw [List.getD_eq_getElem?_getD, List.getElem?_eq_getElem hi']
    exact WalkArith.wf_u8 hm
  unfold Program.keyLits
  rw [Try.underlying5]
  simp only [hw, and_self, if_true]
theorem eq12 (l m : List Int) (hl : l.length = 12) (hm : m.length = 12) (bl : ∀ b ∈ l, 0 ≤ b ∧ b ≤ 255) (bm : ∀ b ∈ m, 0 ≤ b ∧ b ≤ 255) (w : World) :
    (Op.equalIn 10000 66 (.agg (l.map (Value.int .u8)).toArray) (.agg (m.map (Value.int .u8)).toArray)).run Try.prog w = .ok (decide (l = m)) w := by
  obtain ⟨i0, hi, _⟩ := info_parts byteI
  have h1 := run_equalIn_array (P := Try.prog) w 9999 (t := 66) (l.map (Value.int .u8)).toArray (m.map (Value.int .u8)).toArray chArr hi
  obtain ⟨r, hr, hiff⟩ := run_eqItems_plain (P := Try.prog) w 9998 plainU8 (l.map (Value.int .u8)).toArray (m.map (Value.int .u8)).toArray (D := 1) (D' := 1) (List.range 12) _ _ (lits12 l hl bl) (lits12 m hm bm)
  have hrm : r = decide (l = m) := by
    have key : (((List.range 12).map fun i => [Lit.int .u8 (l.getD i 0)]).flatten = ((List.range 12).map fun i => [Lit.int .u8 (m.getD i 0)]).flatten) ↔ l = m := by
      constructor
      · intro h
        apply List.ext_getElem (by omega)
        intro i h1 h2
        have h3 := congrArg (fun L => L[i]?) h
        have e : ∀ q : List Int, ((List.range 12).map fun i => [Lit.int .u8 (q.getD i 0)]).flatten = (List.range 12).map fun i => Lit.int .u8 (q.getD i 0) := fun q => by
          induction (List.range 12) with
          | nil => rfl
          | cons a s ih => rw [List.map_cons, List.flatten_cons, ih]; rfl
        rw [e, e] at h3
        simp only [List.getElem?_map, List.getElem?_range (show i < 12 by omega), Option.map_some, Option.some.injEq, Lit.int.injEq, true_and] at h3
        rw [List.getD_eq_getElem?_getD, List.getD_eq_getElem?_getD, List.getElem?_eq_getElem h1, List.getElem?_eq_getElem h2] at h3
        exact h3
      · intro h; rw [h]
    cases r with
    | true => rw [decide_eq_true (key.1 (hiff.1 rfl))]
    | false =>
      rw [decide_eq_false]
      intro h
      have := hiff.2 (key.2 h)
      cases this
  rw [← hrm]
  show (Op.equalIn (9999 + 1) _ _ _).run Try.prog w = _
  rw [h1]; exact hr
end Go.Proofs.Ytodcacifpjakdaa
