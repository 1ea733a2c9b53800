/- The law's helpers on desks: szDesk, toDesk, eqDesk, markDesk, heldDesk. -/
import Derived.Test.YtenpmjinbjlpbaaDoorHelp
import Derived.Test.YtenpmjinbjlpbaaDoorMark
namespace Go.Proofs.YtenpmjinbjlpbaaDoor
open Go.RowKit

set_option maxRecDepth 100000 in
set_option maxHeartbeats 1000000 in
theorem szDesk_big1 (L : Int) (A : Option Addr) (c : Nat) (l : List (Int × Int)) (s : ByteArray) (w : World) (hn : (l.length : Int) ≤ 9223372036854775807) (h : (1048576 : Int) < l.length) :
    Calls Tryd.prog 12 #[.agg #[.int .i64 L, .slice A l.length c, .string s], .int .i64 1048576] w fun e w' => e = .returned (.int .i64 (-1)) ∧ Below w.heap.size w w' := by
  have H : Hid (∀ w, Calls Tryd.prog 29 #[.agg #[.int .i64 L, .slice A l.length c], .int .i64 1048576] w fun e w' => e = .returned (.int .i64 (-1)) ∧ Below w.heap.size w w') :=
    fun w => szRod_big L A l.length c 1048576 w (by omega) (by omega) hn h
  clear h hn
  go_enter Tryd.func12, Tryd.ntmps12
  go_wp2_with fail
  refine (H.out _).mono ?_
  rintro e w1 ⟨rfl, hb⟩
  go_wp2
  go_ret
  exact ⟨ret_int rfl, ((Below.refl _ _).alloc (Nat.le_refl _) _).trans (hb.mono (by simp))⟩
set_option maxRecDepth 100000 in
set_option maxHeartbeats 1000000 in
theorem szDesk_over (L : Int) (A : Option Addr) (c : Nat) (l : List (Int × Int)) (s : ByteArray) (r : Int) (w : World) (h : (l.length : Int) ≤ 1048576) (hs : (s.size : Int) ≤ 9223372036854775807) (hr : r = 1048576 - l.length - s.size) (hlt : r < 0) :
    Calls Tryd.prog 12 #[.agg #[.int .i64 L, .slice A l.length c, .string s], .int .i64 1048576] w fun e w' => e = .returned (.int .i64 (-1)) ∧ Below w.heap.size w w' := by
  have H : Hid (∀ w, Calls Tryd.prog 29 #[.agg #[.int .i64 L, .slice A l.length c], .int .i64 1048576] w fun e w' => e = .returned (.int .i64 (1048576 - l.length)) ∧ Below w.heap.size w w') :=
    fun w => szRod_fits L A l.length c 1048576 w (by omega) (by omega) (by omega) (by omega)
  have h0 : ¬ (1048576 - (l.length : Int)) < 0 := by omega
  have hw : IntKind.i64.wrap (1048576 - (l.length : Int) - (s.size : Int)) = r := by rw [hr]; exact IntWalk.i64_in _ (by omega)
  have hw2 : wrap64 (1048576 - (l.length : Int) - (s.size : Int)) = r := by rw [hr]; exact IntWalk.wrap64_in _ (by omega)
  clear hr h
  go_enter Tryd.func12, Tryd.ntmps12
  go_wp2_with fail
  refine (H.out _).mono ?_
  rintro e w1 ⟨rfl, hb⟩
  have c2 : w1.cell? ⟨w.heap.size, 2, none⟩ = some (.string s) := by rw [hb.cell (p := ⟨w.heap.size, 2, none⟩) (by simp)]; simp [go_sem]
  go_wp2
  go_ret
  exact ⟨ret_int rfl, ((Below.refl _ _).alloc (Nat.le_refl _) _).trans (hb.mono (by simp))⟩
set_option maxRecDepth 100000 in
set_option maxHeartbeats 1000000 in
theorem szDesk_fits (L : Int) (A : Option Addr) (c : Nat) (l : List (Int × Int)) (s : ByteArray) (r : Int) (w : World) (h : (l.length : Int) ≤ 1048576) (hs : (s.size : Int) ≤ 9223372036854775807) (hr : r = 1048576 - l.length - s.size) (hlt : ¬ r < 0) :
    Calls Tryd.prog 12 #[.agg #[.int .i64 L, .slice A l.length c, .string s], .int .i64 1048576] w fun e w' => e = .returned (.int .i64 r) ∧ Below w.heap.size w w' := by
  have H : Hid (∀ w, Calls Tryd.prog 29 #[.agg #[.int .i64 L, .slice A l.length c], .int .i64 1048576] w fun e w' => e = .returned (.int .i64 (1048576 - l.length)) ∧ Below w.heap.size w w') :=
    fun w => szRod_fits L A l.length c 1048576 w (by omega) (by omega) (by omega) (by omega)
  have h0 : ¬ (1048576 - (l.length : Int)) < 0 := by omega
  have hw : IntKind.i64.wrap (1048576 - (l.length : Int) - (s.size : Int)) = r := by rw [hr]; exact IntWalk.i64_in _ (by omega)
  have hw2 : wrap64 (1048576 - (l.length : Int) - (s.size : Int)) = r := by rw [hr]; exact IntWalk.wrap64_in _ (by omega)
  clear hr h
  go_enter Tryd.func12, Tryd.ntmps12
  go_wp2_with fail
  refine (H.out _).mono ?_
  rintro e w1 ⟨rfl, hb⟩
  have c2 : w1.cell? ⟨w.heap.size, 2, none⟩ = some (.string s) := by rw [hb.cell (p := ⟨w.heap.size, 2, none⟩) (by simp)]; simp [go_sem]
  go_wp2
  go_ret
  exact ⟨ret_int rfl, ((Below.refl _ _).alloc (Nat.le_refl _) _).trans (hb.mono (by simp))⟩
set_option maxRecDepth 100000 in
set_option maxHeartbeats 2000000 in
theorem toDesk_any (L : Int) (A : Option Addr) (c : Nat) (l : List (Int × Int)) (s : ByteArray) (w : World) (h : (l.length : Int) ≤ 1048576) (hA : AntsAt w A l) :
    Calls Tryd.prog 14 #[.agg #[.int .i64 L, .slice A l.length c, .string s]] w fun e w' => ∃ A' k', e = .returned (.agg #[.int .i64 L, .slice A' l.length k', .string s]) ∧ AntsOwn w' w.heap.size 58 (.slice A' l.length k') l ∧ Below w.heap.size w w' := by
  obtain ⟨W, hW⟩ : ∃ W, W = ((w.alloc (Obj.cells #[Value.int IntKind.i64 L, Value.slice A l.length c, Value.string s] 35)).alloc (Obj.cells #[Value.int IntKind.i64 0, Value.slice none 0 0, Value.string ⟨#[]⟩] 26)).alloc (Obj.cells #[Value.int IntKind.i64 0, Value.slice none 0 0, Value.string ⟨#[]⟩] 26) := ⟨_, rfl⟩
  have hb : Below w.heap.size w W := by rw [hW]; exact (((Below.refl _ _).alloc (Nat.le_refl _) _).alloc (by simp) _).alloc (by simp; omega) _
  have hs : w.heap.size + 3 ≤ W.heap.size := by rw [hW]; simp
  have c0 : W.cell? ⟨w.heap.size, 0, none⟩ = some (.int .i64 L) := by rw [hW]; simp [go_sem]
  have c1 : W.cell? ⟨w.heap.size, 1, none⟩ = some (.slice A l.length c) := by rw [hW]; simp [go_sem]
  have c2 : W.cell? ⟨w.heap.size, 2, none⟩ = some (.string s) := by rw [hW]; simp [go_sem]
  have r0 : W.cell? ⟨w.heap.size + 1, 0, none⟩ = some (.int .i64 0) := by rw [hW]; simp [go_sem]
  have r1 : W.cell? ⟨w.heap.size + 1, 1, none⟩ = some (.slice none 0 0) := by rw [hW]; simp [go_sem]
  have r2 : W.cell? ⟨w.heap.size + 1, 2, none⟩ = some (.string ⟨#[]⟩) := by rw [hW]; simp [go_sem]
  have l0 : W.cell? ⟨w.heap.size + 1 + 1, 0, none⟩ = some (.int .i64 0) := by rw [hW]; simp [go_sem]
  have l1 : W.cell? ⟨w.heap.size + 1 + 1, 1, none⟩ = some (.slice none 0 0) := by rw [hW]; simp [go_sem]
  have l2 : W.cell? ⟨w.heap.size + 1 + 1, 2, none⟩ = some (.string ⟨#[]⟩) := by rw [hW]; simp [go_sem]
  have rf : ∀ o, W.frozen? ⟨w.heap.size + 1, o, none⟩ = false := fun o => by rw [hW]; simp [go_sem]
  have lf : ∀ o, W.frozen? ⟨w.heap.size + 1 + 1, o, none⟩ = false := fun o => by rw [hW]; simp [go_sem]
  have HB := Lib.hid hb
  have HA := Lib.hid (hA.below hb)
  have HT := Lib.hid (fun W hA => toRod_any L A c l W h hA)
  clear hA hb h
  go_enter Tryd.func14, Tryd.ntmps14
  go_wp2_with fail
  try rw [← hW]
  refine (HT.out _ HA.out).mono ?_
  rintro e w1 ⟨A1, k1, rfl, ho, hb⟩
  have c2 := Below.cell_some hb c2
  have r0 := Below.cell_some hb r0
  have r1 := Below.cell_some hb r1
  have r2 := Below.cell_some hb r2
  have l0 := Below.cell_some hb l0
  have l1 := Below.cell_some hb l1
  have l2 := Below.cell_some hb l2
  have hs1 := hb.size
  have f0 := (hb.frozen (p := ⟨w.heap.size + 1, 0, none⟩) (by simp only; omega)).trans (rf 0)
  have f1 := (hb.frozen (p := ⟨w.heap.size + 1, 1, none⟩) (by simp only; omega)).trans (rf 1)
  have f2 := (hb.frozen (p := ⟨w.heap.size + 1, 2, none⟩) (by simp only; omega)).trans (rf 2)
  have g0 := (hb.frozen (p := ⟨w.heap.size + 1 + 1, 0, none⟩) (by simp only; omega)).trans (lf 0)
  have g1 := (hb.frozen (p := ⟨w.heap.size + 1 + 1, 1, none⟩) (by simp only; omega)).trans (lf 1)
  have g2 := (hb.frozen (p := ⟨w.heap.size + 1 + 1, 2, none⟩) (by simp only; omega)).trans (lf 2)
  have HO := Lib.hid (antsOwn_iff.1 ho)
  have HB1 := Lib.hid (HB.out.trans (hb.mono HB.out.size))
  clear hb ho hW rf lf
  go_wp2
  refine bodyPost_ret (v := .agg #[.int .i64 L, .slice A1 l.length k1, .string s]) (by simp [results, Tryd.results14, go_sem, r0, r1, r2]) rfl ⟨A1, k1, rfl, antsOwn_iff.2 ?_, ?_⟩
  · exact ownsRow_base (ownsRow_setCell_below (ownsRow_setCell_below (ownsRow_setCell_below (ownsRow_setCell_below (ownsRow_setCell_below (ownsRow_setCell_below HO.out (by simp only; omega) _) (by simp only; omega) _) (by simp only; omega) _) (by simp only; omega) _) (by simp only; omega) _) (by simp only; omega) _) (by omega)
  · exact (((((HB1.out.setCell (by simp only; omega) _).setCell (by simp only; omega) _).setCell (by simp only; omega) _).setCell (by simp only; omega) _).setCell (by simp only; omega) _).setCell (by simp only; omega) _
set_option maxHeartbeats 1000000 in
theorem eqDesk_true (L : Int) (A B : Option Addr) (c d : Nat) (l : List (Int × Int)) (s : ByteArray) (w : World) (h : (l.length : Int) ≤ 1048576) (hA : AntsAt w A l) (hB : AntsAt w B l) :
    Calls Tryd.prog 9 #[.agg #[.int .i64 L, .slice A l.length c, .string s], .agg #[.int .i64 L, .slice B l.length d, .string s]] w fun e w' => e = .returned (.bool true) ∧ Below w.heap.size w w' := by
  have HQ : Hid (∀ W, AntsAt W A l → AntsAt W B l → Calls Tryd.prog 26 #[.agg #[.int .i64 L, .slice A l.length c], .agg #[.int .i64 L, .slice B l.length d]] W fun e w' => e = .returned (.bool true) ∧ Below W.heap.size W w') := fun W h1 h2 => eqRod_true L A B c d l W h h1 h2
  have HB0 : Hid (Below w.heap.size w ((w.alloc (Obj.cells #[Value.int IntKind.i64 L, Value.slice A l.length c, Value.string s] 26)).alloc (Obj.cells #[Value.int IntKind.i64 L, Value.slice B l.length d, Value.string s] 26))) := ((Below.refl _ _).alloc (Nat.le_refl _) _).alloc (by simp) _
  have HA := Lib.hid (hA.below HB0.out)
  have HB := Lib.hid (hB.below HB0.out)
  clear hA hB h
  go_enter Tryd.func9, Tryd.ntmps9
  go_wp2_with fail
  refine (HQ.out _ HA.out HB.out).mono ?_
  rintro e w1 ⟨rfl, hb⟩
  have c2 : w1.cell? ⟨w.heap.size, 2, none⟩ = some (.string s) := by rw [hb.cell (p := ⟨w.heap.size, 2, none⟩) (by simp; omega)]; simp [go_sem]
  have d2 : w1.cell? ⟨w.heap.size + 1, 2, none⟩ = some (.string s) := by rw [hb.cell (p := ⟨w.heap.size + 1, 2, none⟩) (by simp)]; simp [go_sem]
  go_wp2
  go_ret
  exact ⟨ret_bool rfl, HB0.out.trans (hb.mono HB0.out.size)⟩
set_option maxHeartbeats 1000000 in
theorem markDesk_any (L : Int) (A : Option Addr) (c B : Nat) (l : List (Int × Int)) (s : ByteArray) (w : World) (hn : (l.length : Int) ≤ 1048576) (h : AntsOwn w B 58 (.slice A l.length c) l) :
    Calls Tryd.prog 10 #[.agg #[.int .i64 L, .slice A l.length c, .string s], .int .i64 1] w fun e w' => e = .returned (.int .i64 (1 + 2 * l.length)) ∧ AntsOwn w' B 58 (.slice A l.length c) (antMarks 1 l.length) ∧ w.grownBy w' (Value.slice A l.length c).ownBlock := by
  have H := Lib.hid (AntsOwn.below h ((Below.refl _ _).alloc (Nat.le_refl _) (Obj.cells #[Value.int IntKind.i64 L, Value.slice A l.length c, Value.string s] 26)))
  clear h
  go_enter Tryd.func10, Tryd.ntmps10
  go_wp2_with fail
  refine (markRod_any L A c B l 1 _ (by omega) (by omega) hn H.out).mono ?_
  rintro e w1 ⟨rfl, ho, hg⟩
  have HO := Lib.hid ho
  have HG := Lib.hid hg
  clear ho hg
  go_wp2
  go_ret
  exact ⟨ret_int rfl, HO.out, grown_trans (World.grownBy_alloc _ _ _) HG.out⟩
set_option maxHeartbeats 1000000 in
theorem heldDesk_any (L : Int) (A : Option Addr) (c n : Nat) (s : ByteArray) (w : World) (hn : (n : Int) ≤ 1048576) (h : AntsAt w A (antMarks 1 n)) :
    Calls Tryd.prog 11 #[.agg #[.int .i64 L, .slice A n c, .string s], .int .i64 1] w fun e w' => e = .returned (.int .i64 (1 + 2 * n)) ∧ Below w.heap.size w w' := by
  have H := Lib.hid (h.alloc (Obj.cells #[Value.int IntKind.i64 L, Value.slice A n c, Value.string s] 26))
  clear h
  have hz : ¬ (1 + 2 * (n : Int)) < 0 := by omega
  go_enter Tryd.func11, Tryd.ntmps11
  go_wp2_with fail
  refine (heldRod_any L A c n 1 _ (by omega) (by omega) hn H.out).mono ?_
  rintro e w1 ⟨rfl, hb⟩
  go_wp2
  go_ret
  exact ⟨ret_int rfl, ((Below.refl _ _).alloc (Nat.le_refl _) _).trans (hb.mono (by simp))⟩
end Go.Proofs.YtenpmjinbjlpbaaDoor
