/- Desks: FirstDesk, both sides. -/
import Derived.Test.YtenpmjinbjlpbaaDoorParsX
import Derived.Test.YtenpmjinbjlpbaaDoorHelpDk
namespace Go.Proofs.YtenpmjinbjlpbaaDoor
open Go.RowKit

def fdA : List (Int × Int) := [(2, 1), (6, 1), (10, -1), (16, -1)]
def fdW : ByteArray := ⟨#[114, 108]⟩
def fdT : ByteArray := ⟨#[50, 48, 58, 114, 50, 114, 54, 108, 49, 48, 108, 49, 54]⟩
theorem fd_reads : pRod 58 fdT.data.toList = some (20, fdA) := by decide +kernel
theorem fd_L : pL 58 fdT.data.toList = 20 := by unfold pL; rw [fd_reads]; rfl
theorem fd_A : pA 58 fdT.data.toList = fdA := by unfold pA; rw [fd_reads]; rfl
theorem fd_Ok : pOk 58 fdT.data.toList = true := by unfold pOk; rw [fd_reads]; rfl

theorem own_new {α : Type} {S : Shape α} {w : World} {g B n : Nat} {e : TypeId} {cur : Array Value} {l : List α} (h : w.heap[g]? = some (.cells cur e (0, 0))) (hc : cur.toList = S.row l) (hB : B ≤ g) (hn : n = l.length) (hm : n ≤ maxLen) : SlOwn S w B e (.slice (some ⟨g, 0, none⟩) n n) l := by
  subst hn
  have hs : cur.size = l.length * S.size := by rw [← Array.length_toList, hc, S.row_length]
  refine ⟨S.row_length l, .inr ⟨g, l.length, cur, rfl, hB, h, Nat.le_refl _, hm, hs, ?_⟩⟩
  rw [hc, List.take_of_length_le (by rw [S.row_length]; exact Nat.le_refl _)]

set_option maxRecDepth 100000 in
set_option maxHeartbeats 2000000 in
theorem specFirst_any (w : World) :
    Calls Tryd.prog 7 #[] w fun e w' => ∃ A c, e = .returned (.agg #[.int .i64 20, .slice A fdA.length c, .string fdW]) ∧ SlOwn pairS w' w.heap.size 58 (.slice A fdA.length c) fdA ∧ Below w.heap.size w w' := by
  obtain ⟨W, hW⟩ : ∃ W, W = (w.alloc (Obj.cells #[Value.int IntKind.i64 20, Value.slice (some ⟨w.heap.size + 1, 0, none⟩) 4 4, Value.string ⟨#[114, 108]⟩] 26)).alloc (Obj.cells #[Value.int IntKind.i64 2, Value.int IntKind.i64 1, Value.int IntKind.i64 6, Value.int IntKind.i64 1, Value.int IntKind.i64 10, Value.int IntKind.i64 (-1), Value.int IntKind.i64 16, Value.int IntKind.i64 (-1)] 58) := ⟨_, rfl⟩
  have hb : Below w.heap.size w W := by rw [hW]; exact ((Below.refl _ _).alloc (Nat.le_refl _) _).alloc (by simp) _
  have r0 : W.cell? ⟨w.heap.size, 0, none⟩ = some (.int .i64 20) := by rw [hW]; simp [go_sem]
  have r1 : W.cell? ⟨w.heap.size, 1, none⟩ = some (.slice (some ⟨w.heap.size + 1, 0, none⟩) 4 4) := by rw [hW]; simp [go_sem]
  have r2 : W.cell? ⟨w.heap.size, 2, none⟩ = some (.string ⟨#[114, 108]⟩) := by rw [hW]; simp [go_sem]
  have HO : Hid (SlOwn pairS W w.heap.size 58 (.slice (some ⟨w.heap.size + 1, 0, none⟩) fdA.length 4) fdA) := by
    refine own_new (cur := #[Value.int IntKind.i64 2, Value.int IntKind.i64 1, Value.int IntKind.i64 6, Value.int IntKind.i64 1, Value.int IntKind.i64 10, Value.int IntKind.i64 (-1), Value.int IntKind.i64 16, Value.int IntKind.i64 (-1)]) ?_ rfl (Nat.le_succ _) rfl (by decide)
    rw [hW]
    exact heap_new (by simp)
  have HB := Lib.hid hb
  clear hb
  go_enter Tryd.func7, Tryd.ntmps7
  go_wp2_with fail
  rw [← hW]
  exact bodyPost_ret (v := .agg #[.int .i64 20, .slice (some ⟨w.heap.size + 1, 0, none⟩) 4 4, .string ⟨#[114, 108]⟩]) (by simp [results, Tryd.results7, go_sem, r0, r1, r2]) rfl ⟨_, 4, rfl, HO.out, HB.out⟩
set_option maxRecDepth 100000 in
set_option maxHeartbeats 2000000 in
theorem implFirst_any (w : World) (hE : Errs w) (hT : Tab w) (hM : MaxL w) :
    Calls Tryd.prog 8 #[] w fun e w' => ∃ A c, e = .returned (.agg #[.int .i64 20, .slice A fdA.length c, .string fdW]) ∧ SlOwn pairS w' w.heap.size 58 (.slice A fdA.length c) fdA ∧ Below w.heap.size w w' := by
  obtain ⟨W, hW⟩ : ∃ W, W = w.alloc (Obj.cells #[Value.int IntKind.i64 0, Value.slice none 0 0, Value.string ⟨#[]⟩] 26) := ⟨_, rfl⟩
  have hb : Below w.heap.size w W := by rw [hW]; exact (Below.refl _ _).alloc (Nat.le_refl _) _
  have hsW : w.heap.size < W.heap.size := by rw [hW]; simp
  have r0 : W.cell? ⟨w.heap.size, 0, none⟩ = some (.int .i64 0) := by rw [hW]; simp [go_sem]
  have r1 : W.cell? ⟨w.heap.size, 1, none⟩ = some (.slice none 0 0) := by rw [hW]; simp [go_sem]
  have r2 : W.cell? ⟨w.heap.size, 2, none⟩ = some (.string ⟨#[]⟩) := by rw [hW]; simp [go_sem]
  have rf : ∀ o, W.frozen? ⟨w.heap.size, o, none⟩ = false := fun o => by rw [hW]; simp [go_sem]
  have HP : Hid (Calls Tryd.prog 25 #[.string ⟨#[50, 48, 58, 114, 50, 114, 54, 108, 49, 48, 108, 49, 54]⟩] W fun e w' => ∃ A n c', e = .returned (.tuple #[.agg #[.int .i64 20, .slice A n c'], .bool true]) ∧ n = fdA.length ∧ SlOwn pairS w' W.heap.size 58 (.slice A n c') fdA ∧ Below W.heap.size W w') := by
    have h := parseRod_any fdT (by decide) W (hE.below hb) (hT.below hb) (hM.below hb)
    rw [fd_L, fd_A, fd_Ok] at h
    exact h
  have HB := Lib.hid hb
  clear hb hE hT hM
  go_enter Tryd.func8, Tryd.ntmps8
  go_wp2_with fail
  try rw [← hW]
  refine HP.out.mono ?_
  rintro e w1 ⟨A1, n1, k1, rfl, hn1, ho, hb1⟩
  subst hn1
  have HB1 := Lib.hid (HB.out.trans (hb1.mono HB.out.size))
  have hs1 := hb1.size
  have r0 := Below.cell_some hb1 r0
  have r1 := Below.cell_some hb1 r1
  have r2 := Below.cell_some hb1 r2
  have q0 := alloc_some r0 (Obj.cells #[Value.int IntKind.i64 20, Value.slice A1 fdA.length k1] 24)
  have q1 := alloc_some r1 (Obj.cells #[Value.int IntKind.i64 20, Value.slice A1 fdA.length k1] 24)
  have q2 := alloc_some r2 (Obj.cells #[Value.int IntKind.i64 20, Value.slice A1 fdA.length k1] 24)
  have g : ∀ o, (w1.alloc (Obj.cells #[Value.int IntKind.i64 20, Value.slice A1 fdA.length k1] 24)).frozen? ⟨w.heap.size, o, none⟩ = false := fun o => (((Below.refl _ w1).alloc (Nat.le_refl _) _).frozen (p := ⟨w.heap.size, o, none⟩) (by simp only; omega)).trans ((hb1.frozen (p := ⟨w.heap.size, o, none⟩) (by simp only; omega)).trans (rf o))
  have g0 := g 0
  have g1 := g 1
  have g2 := g 2
  have HO := Lib.hid (SlOwn.below ho ((Below.refl _ _).alloc (Nat.le_refl _) (Obj.cells #[Value.int IntKind.i64 20, Value.slice A1 fdA.length k1] 24)))
  clear hW rf hb1 ho g
  go_wp2
  refine bodyPost_ret (v := .agg #[.int .i64 20, .slice A1 fdA.length k1, .string ⟨#[114, 108]⟩]) (by simp [results, Tryd.results8, go_sem, q0, q1, q2]) rfl ⟨A1, k1, rfl, ?_, ?_⟩
  · exact ownsRow_base (ownsRow_setCell_below (ownsRow_setCell_below (ownsRow_setCell_below HO.out (by simp only; omega) _) (by simp only; omega) _) (by simp only; omega) _) (by omega)
  · exact (((HB1.out.alloc HB1.out.size _).setCell (by simp only; omega) _).setCell (by simp only; omega) _).setCell (by simp only; omega) _
end Go.Proofs.YtenpmjinbjlpbaaDoor
