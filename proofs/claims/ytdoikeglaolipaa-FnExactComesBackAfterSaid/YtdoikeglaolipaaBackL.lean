/- The model's ComesBackAfter. -/
import Derived.Test.YtdoikeglaolipaaBackS
import Derived.Test.YtdoikeglaolipaaSameI
namespace Go.Proofs.Ytdoikeglaolipaa
open Go.RowKit

set_option maxRecDepth 100000 in
set_option maxHeartbeats 1000000 in
theorem specComesBackAfter_any (L : Int) (A : Option Addr) (c : Nat) (l : List (Int × Int)) (w : World) (hA : AntsAt w A l) :
    Calls Try.prog 27 #[.agg #[.int .i64 L, .slice A l.length c]] w fun e w' => e = .returned (.tuple #[.int .i64 (cbR L l), .bool (ciB L l)]) ∧ Below w.heap.size w w' := by
  have HAW := Lib.hid hA
  obtain ⟨X, hX⟩ : ∃ X, X = w.alloc (Obj.cells #[Value.int IntKind.i64 L, Value.slice A l.length c] 28) := ⟨_, rfl⟩
  have HB0 : Hid (Below w.heap.size w X) := by show Below _ _ _; rw [hX]; exact (Below.refl _ w).alloc (Nat.le_refl _) _
  have c0 : X.cell? ⟨w.heap.size, 0, none⟩ = some (.int .i64 L) := by rw [hX]; simp
  have c1 : X.cell? ⟨w.heap.size, 1, none⟩ = some (.slice A l.length c) := by rw [hX]; simp
  have HA := Lib.hid (hA.below HB0.out)
  have HG : Hid (∀ w, AntsAt w A l → Calls Try.prog 36 #[.agg #[.int .i64 L, .slice A l.length c]] w fun e w' => e = .returned (.bool (ciB L l)) ∧ Below w.heap.size w w') := fun w h => ciGood_any L A c l w h
  clear hA
  cases hg : ciB L l with
  | false =>
    have HV : Hid (cbR L l = 0) := by show _ = _; simp [cbR, hg]
    rw [hg] at HG
    clear hg
    rw [HV.out]
    go_enter Try.func27, Try.ntmps27
    go_wp2_with fail
    generalize hQ : World.alloc w _ = X1
    obtain rfl : X1 = X := by rw [hX, ← hQ]
    clear hQ hX
    refine (HG.out _ HA.out).mono ?_
    rintro e w1 ⟨rfl, hb⟩
    have HB := Lib.hid (HB0.out.trans (hb.mono HB0.out.size))
    clear hb
    go_wp2
    go_ret2
    exact ⟨rfl, HB.out⟩
  | true =>
    obtain ⟨v1, v2, v3, v4⟩ := cb_spec hg
    have HV : Hid (cbR L l = 2 * (cbN L l : Int)) := by show _ = _; simp [cbR, hg]
    have HC : Hid (∀ W, AntsAt W A l → Calls Try.prog 52 #[.agg #[.int .i64 L, .slice A l.length c], .bool false] W fun e w' => e = .returned (.int .i64 (2 * (cbN L l : Int))) ∧ Below W.heap.size W w') := fun W hW => ciBack_any L A c l _ W hg v1 v2 v3 v4 hW
    rw [hg] at HG
    clear hg v3 v4
    rw [HV.out]
    generalize cbN L l = v at *
    go_enter Try.func27, Try.ntmps27
    go_wp2_with fail
    generalize hQ : World.alloc w _ = X1
    obtain rfl : X1 = X := by rw [hX, ← hQ]
    clear hQ hX
    refine (HG.out _ HA.out).mono ?_
    rintro e w1 ⟨rfl, hb⟩
    have HB := Lib.hid (HB0.out.trans (hb.mono HB0.out.size))
    have c0 := Below.cell_some hb c0
    have c1 := Below.cell_some hb c1
    have HA1 := Lib.hid (HA.out.below hb)
    clear hb
    go_wp2_with fail
    refine (HC.out _ HA1.out).mono ?_
    rintro e w2 ⟨rfl, hb⟩
    have HB2 := Lib.hid (HB.out.trans (hb.mono HB.out.size))
    clear hb
    go_wp2
    go_ret2
    exact ⟨rfl, HB2.out⟩
end Go.Proofs.Ytdoikeglaolipaa
