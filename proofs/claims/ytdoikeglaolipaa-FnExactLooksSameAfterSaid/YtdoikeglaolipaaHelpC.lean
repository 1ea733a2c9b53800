/- The contracts of the laws' own helpers for circles: size, copy, comparison. -/
import Derived.Test.YtdoikeglaolipaaHelp
namespace Go.Proofs.Ytdoikeglaolipaa
open Go.RowKit

theorem szCircle_big (L : Int) (A : Option Addr) (n c : Nat) (k : Int) (w : World) (hk : 0 ≤ k) (hk2 : k ≤ 1048576) (hn : (n : Int) ≤ 9223372036854775807) (h : k < n) :
    Calls Try.prog 11 #[.agg #[.int .i64 L, .slice A n c], .int .i64 k] w fun e w' => e = .returned (.int .i64 (-1)) ∧ Below w.heap.size w w' := by
  have H : Hid (∀ w, Calls Try.prog 35 #[.slice A n c, .int .i64 k] w fun e w' => e = .returned (.int .i64 (-1)) ∧ w = w') := fun w =>
    (szAntS_any A n c k w hk hk2 hn).mono fun e w' ⟨he, hw⟩ => ⟨by rw [he, if_pos h], hw⟩
  clear h
  go_enter Try.func11, Try.ntmps11
  go_wp2_with (go_at_call 35; refine (H.out _).mono ?_; rintro e w' ⟨rfl, rfl⟩)
  go_ret
  exact ⟨rfl, (Below.refl _ _).alloc (Nat.le_refl _) _⟩

theorem szCircle_fits (L : Int) (A : Option Addr) (n c : Nat) (k : Int) (w : World) (hk : 0 ≤ k) (hk2 : k ≤ 1048576) (hn : (n : Int) ≤ 9223372036854775807) (h : ¬ k < n) :
    Calls Try.prog 11 #[.agg #[.int .i64 L, .slice A n c], .int .i64 k] w fun e w' => e = .returned (.int .i64 (k - n)) ∧ Below w.heap.size w w' := by
  have H : Hid (∀ w, Calls Try.prog 35 #[.slice A n c, .int .i64 k] w fun e w' => e = .returned (.int .i64 (k - n)) ∧ w = w') := fun w =>
    (szAntS_any A n c k w hk hk2 hn).mono fun e w' ⟨he, hw⟩ => ⟨by rw [he, if_neg h], hw⟩
  have h0 : ¬ k - (n : Int) < 0 := by omega
  clear h
  go_enter Try.func11, Try.ntmps11
  go_wp2_with (go_at_call 35; refine (H.out _).mono ?_; rintro e w' ⟨rfl, rfl⟩)
  go_ret
  exact ⟨rfl, (Below.refl _ _).alloc (Nat.le_refl _) _⟩

set_option maxHeartbeats 1000000 in
theorem toCircle_any (L : Int) (A : Option Addr) (c : Nat) (l : List (Int × Int)) (w : World) (hn : (l.length : Int) ≤ 1048576) (hA : AntsAt w A l) :
    Calls Try.prog 13 #[.agg #[.int .i64 L, .slice A l.length c]] w fun e w' => ∃ A' c', e = .returned (.agg #[.int .i64 L, .slice A' l.length c']) ∧ AntsOwn w' w.heap.size 59 (.slice A' l.length c') l ∧ Below w.heap.size w w' := by
  have HA := Lib.hid hA
  clear hA
  go_enter Try.func13, Try.ntmps13
  go_wp2_with fail
  refine (toAntS_any A c l _ hn ?_).mono ?_
  · exact HA.out.below ((((Below.refl _ _).alloc (Nat.le_refl _) _).alloc (by simp) _).alloc (by simp; omega) _)
  rintro e w1 ⟨A1, c1, rfl, hown, hb⟩
  have HO := Lib.hid hown
  have HB := Lib.hid hb
  have hz : w.heap.size + 3 ≤ w1.heap.size := by have := hb.size; simpa using this
  have c20 : w1.cell? ⟨w.heap.size + 1 + 1, 0, none⟩ = some (.int .i64 L) := by rw [hb.cell (p := ⟨w.heap.size + 1 + 1, 0, none⟩) (by simp)]; simp [go_sem]
  have c21 : w1.cell? ⟨w.heap.size + 1 + 1, 1, none⟩ = some (.slice none 0 0) := by rw [hb.cell (p := ⟨w.heap.size + 1 + 1, 1, none⟩) (by simp)]; simp [go_sem]
  have c10 : w1.cell? ⟨w.heap.size + 1, 0, none⟩ = some (.int .i64 0) := by rw [hb.cell (p := ⟨w.heap.size + 1, 0, none⟩) (by simp)]; simp [go_sem]
  have c11 : w1.cell? ⟨w.heap.size + 1, 1, none⟩ = some (.slice none 0 0) := by rw [hb.cell (p := ⟨w.heap.size + 1, 1, none⟩) (by simp)]; simp [go_sem]
  have f2 : ∀ o, w1.frozen? ⟨w.heap.size + 1 + 1, o, none⟩ = false := fun o => by rw [hb.frozen (p := ⟨w.heap.size + 1 + 1, o, none⟩) (by simp)]; simp [go_sem]
  have f1 : ∀ o, w1.frozen? ⟨w.heap.size + 1, o, none⟩ = false := fun o => by rw [hb.frozen (p := ⟨w.heap.size + 1, o, none⟩) (by simp)]; simp [go_sem]
  clear hb hown
  have hlt1 : w.heap.size + 1 < w1.heap.size := by omega
  have hlt2 : w.heap.size + 1 + 1 < w1.heap.size := by omega
  go_wp2
  have b0 : Below w.heap.size w w1 := ((((Below.refl _ _).alloc (Nat.le_refl _) _).alloc (by simp) _).alloc (by simp; omega) _).trans (HB.out.mono (by simp; omega))
  exact bodyPost_ret (v := .agg #[.int .i64 L, .slice A1 l.length c1]) (by simp [results, Try.results13, go_sem, c10, c11]) rfl ⟨A1, c1, rfl,
    ownsRow_base (ownsRow_setCell_below (ownsRow_setCell_below (ownsRow_setCell_below HO.out (by simp) _) (by simp) _) (by simp) _) (by simp; omega),
    ((b0.setCell (by simp; omega) _).setCell (by simp) _).setCell (by simp) _⟩

set_option maxHeartbeats 400000 in
theorem eqCircle_true (L : Int) (A B : Option Addr) (c d : Nat) (l : List (Int × Int)) (w : World) (hn : (l.length : Int) ≤ 1048576) (hA : AntsAt w A l) (hB : AntsAt w B l) :
    Calls Try.prog 15 #[.agg #[.int .i64 L, .slice A l.length c], .agg #[.int .i64 L, .slice B l.length d]] w fun e w' => e = .returned (.bool true) ∧ Below w.heap.size w w' := by
  have HA := Lib.hid hA
  have HB := Lib.hid hB
  clear hA hB
  go_enter Try.func15, Try.ntmps15
  go_wp2_with fail
  refine (eqAntS_true A B c d l _ hn ?_ ?_).mono ?_
  · exact (HA.out.alloc _).alloc _
  · exact (HB.out.alloc _).alloc _
  rintro e w1 ⟨rfl, hb⟩
  go_wp2
  go_ret
  exact ⟨ret_bool rfl, (((Below.refl _ _).alloc (Nat.le_refl _) _).alloc (by simp) _).trans (hb.mono (by simp; omega))⟩

end Go.Proofs.Ytdoikeglaolipaa
