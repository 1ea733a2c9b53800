/- The program's HalfwayBox, BoxPlace, BoxWay. -/
import Derived.Test.YthokkdipbckolaaBoxE
namespace Go.Proofs.Ythokkdipbckolaa
open Go.RowKit

def bhL (L : Int) (l : List (Int × Int)) : Int := if boxB L l then L else 0
def bhA (L : Int) (l : List (Int × Int)) : List (Int × Int) := if boxB L l then bxA L L l else []
theorem bhA_le (L : Int) (l : List (Int × Int)) : (bhA L l).length ≤ 16 := by
  unfold bhA
  split
  · rename_i h
    have := boxB_len h
    rw [bxA_len]
    omega
  · exact Nat.zero_le _
theorem half_ok (L : Int) (l : List (Int × Int)) : bfOk L l L = boxB L l ∧ bfL L l L = bhL L l ∧ bfA L l L = bhA L l := by
  have h : bfOk L l L = boxB L l := by
    unfold bfOk
    cases hg : boxB L l with
    | false => rfl
    | true =>
      have := boxB_len hg
      show timeB L = true
      unfold timeB
      simp
      omega
  unfold bfL bfA bhL bhA
  rw [h]
  exact ⟨rfl, rfl, rfl⟩
theorem implHalfwayBox_any (L : Int) (A : Option Addr) (c : Nat) (l : List (Int × Int)) (w : World) (hcap : l.length ≤ c) (hA : AntsAt w A l) :
    Calls Try.prog 30 #[.agg #[.int .i64 L, .slice A l.length c]] w fun e w' => ∃ A' n' c', e = .returned (.tuple #[.agg #[.int .i64 (bhL L l), .slice A' n' c'], .bool (boxB L l)]) ∧ n' = (bhA L l).length ∧ AntsOwn w' w.heap.size 53 (.slice A' n' c') (bhA L l) ∧ Below w.heap.size w w' := by
  have HA := Lib.hid ((hA.alloc (Obj.cells #[Value.int IntKind.i64 L, Value.slice A l.length c] 29)).alloc (Obj.cells #[Value.int IntKind.i64 0, Value.slice none 0 0] 29))
  have HC := Lib.hid (implBoxAfter_any L A c l L _ hcap HA.out)
  have e := half_ok L l
  rw [e.1, e.2.1, e.2.2] at HC
  clear hA e hcap
  generalize bhL L l = vL at *
  generalize boxB L l = vB at *
  generalize bhA L l = vA at *
  go_enter Try.func30, Try.ntmps30
  go_wp2_with fail
  refine HC.out.mono ?_
  rintro e w1 ⟨A1, n1, c1, rfl, hn, ho, hb⟩
  have hs : w.heap.size + 2 ≤ w1.heap.size := by have := hb.size; simp at this; omega
  have r0 : w1.cell? ⟨w.heap.size + 1, 0, none⟩ = some (.int .i64 0) := by rw [hb.cell (p := ⟨w.heap.size + 1, 0, none⟩) (by simp)]; simp [go_sem]
  have r1 : w1.cell? ⟨w.heap.size + 1, 1, none⟩ = some (.slice none 0 0) := by rw [hb.cell (p := ⟨w.heap.size + 1, 1, none⟩) (by simp)]; simp [go_sem]
  have f0 : w1.frozen? ⟨w.heap.size + 1, 0, none⟩ = false := by rw [hb.frozen (p := ⟨w.heap.size + 1, 0, none⟩) (by simp)]; simp [go_sem]
  have f1 : w1.frozen? ⟨w.heap.size + 1, 1, none⟩ = false := by rw [hb.frozen (p := ⟨w.heap.size + 1, 1, none⟩) (by simp)]; simp [go_sem]
  have HB := Lib.hid (((Below.refl _ w).alloc (Nat.le_refl _) (Obj.cells #[Value.int IntKind.i64 L, Value.slice A l.length c] 29)).alloc (by simp) (Obj.cells #[Value.int IntKind.i64 0, Value.slice none 0 0] 29) |>.trans (hb.mono (by simp; omega)))
  have HO := Lib.hid ho
  have HN := Lib.hid hn
  clear hb ho hn HC
  go_wp2
  refine bodyPost_ret (v := .tuple #[.agg #[.int .i64 vL, .slice A1 n1 c1], .bool vB]) (by simp [results, Try.results30, go_sem, r0, r1]) rfl ⟨A1, n1, c1, rfl, HN.out, ?_, ?_⟩
  · exact ownsRow_base (ownsRow_setCell_below (ownsRow_setCell_below HO.out (by simp) _) (by simp) _) (by simp; omega)
  · exact (HB.out.setCell (by simp) _).setCell (by simp) _
end Go.Proofs.Ythokkdipbckolaa
