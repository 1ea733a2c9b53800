/- A drawn time: whatever it is, the cursor alone is turned. -/
import Derived.Test.YthfacfoclekcbaaCurR
namespace Go.Proofs.Ythfacfoclekcbaa
open Go.RowKit

set_option maxHeartbeats 1000000 in
theorem time_any (g nb cb : Nat) (B : Option Addr) (bs : List Int) (a s : Int) (w : World) (h : CurAt w g B nb cb bs a s) (ha : a ≤ 1099511620000) :
    Calls Try.prog 24 #[.pointer (some ⟨g, 0, none⟩)] w fun e w' => ∃ v, e = .returned (.int .i64 v) ∧ Took w w' g nb cb B bs a 4 := by
  have hg := h.lt
  have HC := Lib.hid h
  have HO := Lib.hid (one_any g nb cb B bs a s 8 w h (by omega) (by omega) (by omega))
  clear h
  have HA : Hid (∀ (a s : Int) (A : Option Addr) (c : Nat) (l : List Int) (w : World), CurAt w g B nb cb bs a s → a ≤ 1099511627000 → SlAt intS w A l → 1 ≤ l.length → l.length ≤ 1000 → (∀ x, A = some x → g ≠ x.block) → Calls Try.prog 44 #[.pointer (some ⟨g, 0, none⟩), .slice A l.length c] w fun e w' => ∃ v, e = .returned (.int .i64 v) ∧ Took w w' g nb cb B bs a 2) := fun a s A c l w h ha hA h0 h1 h2 => among_any g nb cb B bs a s A c l w h ha hA h0 h1 h2
  have HP : Hid (∀ (a s n : Int) (w : World), CurAt w g B nb cb bs a s → a ≤ 1099511627000 → -1000000 ≤ n → n ≤ 1000000 → Calls Try.prog 40 #[.pointer (some ⟨g, 0, none⟩), .int .i64 n] w fun e w' => ∃ v, e = .returned (.int .i64 v) ∧ 0 ≤ v ∧ (v = 0 ∨ v < n) ∧ Took w w' g nb cb B bs a 2) := fun a s n w h ha hn0 hn => pick_any g nb cb B bs a s n w h ha hn0 hn
  go_enter Try.func24, Try.ntmps24
  go_wp2_with fail
  refine HO.out.mono ?_
  rintro e w1 ⟨o, rfl, ⟨a1, s1, hc1, ha1⟩, hg1⟩
  have HC1 := Lib.hid hc1
  have HG1 := Lib.hid hg1
  have hgw1 : g < w1.heap.size := Nat.lt_of_lt_of_le hg hg1.size
  have hz1 := hg1.size
  clear hc1 hg1
  cases o with
  | true =>
    go_wp2_with fail
    refine (HA.out a1 s1 _ _ [0, 1, 2000, 2002, -2, 4611686018427387904] _ (HC1.out.kept ((Below.refl _ _).alloc (Nat.le_refl _) _)) (by omega) (slAt_list (heap_new rfl)) (by decide) (by decide) (fun x hx => by injection hx with hx; subst hx; simp only; omega)).mono ?_
    rintro e w2 ⟨v, rfl, ⟨a2, s2, hc2, ha2⟩, hg2⟩
    have HC2 := Lib.hid hc2
    have HT2 := Lib.hid (((Turn.of_grown HG1.out (Nat.le_refl _)).trans (Turn.of_below ((Below.refl _ _).alloc hz1 _))).trans (Turn.of_grown hg2 (by simp; omega)))
    clear hc2 hg2
    go_wp2
    go_ret
    exact ⟨_, rfl, ⟨_, _, HC2.out, by omega⟩, HT2.out.grown⟩
  | false =>
    go_wp2_with fail
    refine (HP.out _ _ _ _ HC1.out (by omega) (by omega) (by omega)).mono ?_
    rintro e w2 ⟨v, rfl, v0, v1, ⟨a2, s2, hc2, ha2⟩, hg2⟩
    have HC2 := Lib.hid hc2
    have HG2 := Lib.hid (HG1.out.trans hg2)
    clear hc2 hg2
    go_wp2
    go_ret
    exact ⟨_, rfl, ⟨_, _, HC2.out, by omega⟩, HG2.out⟩
end Go.Proofs.Ythfacfoclekcbaa
