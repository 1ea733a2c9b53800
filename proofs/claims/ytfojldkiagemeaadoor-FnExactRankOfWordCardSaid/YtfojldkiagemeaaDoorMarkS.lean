/- Words: the laws' marks on slices of texts. -/
import Derived.Test.YtfojldkiagemeaaDoorMarkW
import Derived.Test.YtfojldkiagemeaaDoorWoW
import Derived.Laws.IdiomStrings
namespace Go.Proofs.YtfojldkiagemeaaDoor
open Go.RowKit

/-- a mark's digits -/
def mtF : Nat → Nat → List UInt8
  | 0, _ => []
  | f + 1, k => if k = 0 then [] else mtF f (k / 10) ++ [UInt8.ofNat (48 + k % 10)]
def mtR (k : Nat) : List UInt8 := mtF k k
theorem mtF_fuel : ∀ f g k : Nat, k ≤ f → k ≤ g → mtF f k = mtF g k := by
  intro f
  induction f with
  | zero => intro g k hf _; obtain rfl : k = 0 := by omega
            cases g with
            | zero => rfl
            | succ g => rw [mtF, mtF, if_pos rfl]
  | succ f ih =>
    intro g k hf hg
    cases g with
    | zero => obtain rfl : k = 0 := by omega
              rw [mtF, mtF, if_pos rfl]
    | succ g =>
      rw [mtF, mtF]
      by_cases h : k = 0
      · rw [if_pos h, if_pos h]
      · rw [if_neg h, if_neg h, ih g (k / 10) (by omega) (by omega)]
theorem mtR_zero : mtR 0 = [] := rfl
theorem mtR_step {k : Nat} (h : k ≠ 0) : mtR k = mtR (k / 10) ++ [UInt8.ofNat (48 + k % 10)] := by
  obtain ⟨j, rfl⟩ := Nat.exists_eq_succ_of_ne_zero h
  unfold mtR
  rw [mtF, if_neg h, mtF_fuel j ((j + 1) / 10) ((j + 1) / 10) (by omega) (Nat.le_refl _)]
/-- a mark's last digit and the rest -/
theorem dig_facts (k : Nat) (h0 : k ≠ 0) (hk : k ≤ 2097152) : ∃ (q m : Nat) (u : UInt8), q < k ∧ m < 10 ∧ (k : Int).tdiv 10 = (q : Int) ∧ (k : Int).tmod 10 = (m : Int) ∧ mtR k = mtR q ++ [u] ∧ u = UInt8.ofNat (48 + m) := by
  refine ⟨k / 10, k % 10, _, by omega, by omega, ?_, ?_, mtR_step h0, rfl⟩
  · rw [Int.tdiv_eq_ediv_of_nonneg (by omega)]; omega
  · rw [Int.tmod_eq_emod_of_nonneg (by omega)]; omega
theorem mtR_len (k : Nat) : (mtR k).length ≤ k := by
  induction k using Nat.strongRecOn with
  | _ k ih =>
    by_cases h : k = 0
    · subst h; rw [mtR_zero]; exact Nat.le_refl _
    · have := ih (k / 10) (by omega)
      rw [mtR_step h, List.length_append, List.length_singleton]
      omega
def mkT (k : Nat) : ByteArray := mkB (109 :: mtR k)
def strMarks (k : Int) (n : Nat) : List ByteArray := (List.range n).map fun (i : Nat) => mkT (k + (i : Int)).toNat
theorem strMarks_len (k : Int) (n : Nat) : (strMarks k n).length = n := by simp [strMarks]
theorem strMarks_at (k : Int) (n j : Nat) (h : j < n) : (strMarks k n)[j]? = some (mkT (k + (j : Int)).toNat) := by simp [strMarks, h]
theorem strMarks_set (k : Int) (l : List ByteArray) (j : Nat) (h : j < l.length) : (strMarks k j ++ l.drop j).set j (mkT (k + (j : Int)).toNat) = strMarks k (j + 1) ++ l.drop (j + 1) := by
  rw [List.set_append_right _ _ (by rw [strMarks_len]; omega), strMarks_len, Nat.sub_self, List.drop_eq_getElem_cons h, List.set_cons_zero]
  unfold strMarks
  rw [List.range_succ, List.map_append, List.append_assoc]
  rfl

theorem bytes1W (W : World) (b : Nat) (v : Int) (h : W.cell? ⟨b, 0, none⟩ = some (.int .u8 v)) (h0 : 0 ≤ v) (h1 : v < 256) :
    (convert 53 9 (.slice (some ⟨b, 0, none⟩) 1 1)).run Tryd.prog W = .ok (.string ⟨#[UInt8.ofNat v.toNat]⟩) W := by
  have := run_convert_bytes_back (P := Tryd.prog) W 53 9 5 ⟨b, 0, none⟩ 1 [UInt8.ofNat v.toNat] Tryd.underlying53 Tryd.underlying5 Tryd.underlying9 (fun j hj => by
    have hj0 : j = 0 := by simpa using hj
    subst hj0
    simp only [List.getElem_cons_zero]
    have e : (Addr.add ⟨b, 0, none⟩ 0 : Addr) = ⟨b, 0, none⟩ := by simp [Addr.add]
    rw [e, h]
    congr 2
    have : v.toNat < 256 := by omega
    simp [Nat.mod_eq_of_lt this]
    omega)
  simpa using this
theorem conv1W (w : World) (v : Int) (h0 : 0 ≤ v) (h1 : v < 256) :
    (convert 53 9 (.slice (some ⟨w.heap.size, 0, none⟩) 1 1)).run Tryd.prog (w.alloc (Obj.cells #[.int .u8 v] 5)) = .ok (.string ⟨#[UInt8.ofNat v.toNat]⟩) (w.alloc (Obj.cells #[.int .u8 v] 5)) :=
  bytes1W _ _ v (by simp) h0 h1


theorem SlOwn.str_store {w : World} {B g n c : Nat} {e : TypeId} {l : List ByteArray} (h : SlOwn strS w B e (.slice (some ⟨g, 0, none⟩) n c) l) {j : Nat} (hj : j < l.length) (x : ByteArray) :
    ∃ v0, w.cell? ⟨g, j, none⟩ = some v0 ∧ w.frozen? ⟨g, j, none⟩ = false ∧ SlOwn strS (w.setCell ⟨g, j, none⟩ (.string x)) B e (.slice (some ⟨g, 0, none⟩) n c) (l.set j x) ∧ w.grownBy (w.setCell ⟨g, j, none⟩ (.string x)) (some g) := by
  have hn : n = l.length := by
    rcases h.2 with ⟨h', _⟩ | ⟨g', cap', cur, h', _⟩
    · simp at h'
    · simp only [Value.slice.injEq] at h'
      exact h'.2.1
  subst hn
  have s0 := World.ownsRow.stored h j (.string x)
  have hr : ∀ (m : List ByteArray) (i : Nat), (strS.row m).set i (.string x) = strS.row (m.set i x) := by
    intro m
    induction m with
    | nil => intro i; simp [Shape.row]
    | cons y m ih =>
      intro i
      cases i with
      | zero => rfl
      | succ i => rw [Shape.row_cons]; show _ :: (strS.row m).set i _ = _; rw [ih i]; rfl
  have hx : (strS.row l)[j]? = some (.string (l[j]'hj)) := by
    have := strS.row_at l j _ (List.getElem?_eq_getElem hj) 0 (by decide)
    simpa [strS] using this
  refine ⟨_, (World.ownsRow.cellAt h j (by show j < l.length * 1; omega)).trans hx, World.ownsRow.frozenAt h _, ?_, s0.2⟩
  show World.ownsRow _ _ _ _ _ _ _
  rw [List.length_set, ← hr]
  exact s0.1

end Go.Proofs.YtfojldkiagemeaaDoor
