/- Balls on the program's side: how many clacks, and is the last one of both. -/
import Derived.Test.YtikmkmpekjijpaaPaI
namespace Go.Proofs.Ytikmkmpekjijpaa
open Go.RowKit

theorem clL_f1 {a b : Int} (h : maB a = false) : clL a b = [] ∧ bmB a b = false := by
  have e := bm_f1 (b := b) h
  unfold clL; rw [e]; exact ⟨rfl, rfl⟩
theorem clL_f2 {a b : Int} (h : maB b = false) : clL a b = [] ∧ bmB a b = false := by
  have e := bm_f2 (a := a) h
  unfold clL; rw [e]; exact ⟨rfl, rfl⟩
theorem clL_t {a b : Int} (h : maB a = true) (h2 : maB b = true) : clL a b = cpL a b (bxK a b) ∧ bmB a b = true := by
  have e := bm_t h h2
  unfold clL; rw [e]; exact ⟨rfl, rfl⟩
set_option maxHeartbeats 1000000 in
theorem clacksOf_any (a b : Int) (w : World) :
    Calls Try.prog 80 #[.int .i64 a, .int .i64 b] w fun e w' => ∃ A1 n1 c1, e = .returned (.tuple #[.slice A1 n1 c1, .bool (bmB a b)]) ∧ n1 = (clL a b).length ∧ SlOwn coupS w' w.heap.size 71 (.slice A1 n1 c1) (clL a b) ∧ Below w.heap.size w w' := by
  cases h1 : maB a with
  | false =>
    have HE := Lib.hid (clL_f1 (b := b) h1)
    have H1 := Lib.hid (isMass_at a false h1)
    generalize clL a b = V at *
    generalize bmB a b = R at *
    clear h1
    go_enter Try.func80, Try.ntmps80
    go_wp2_with fail
    refine (H1.out _).mono ?_
    rintro e w0 ⟨rfl, rfl⟩
    go_wp2
    exact bodyPost_ret (v := .tuple #[.slice none 0 0, .bool false]) (by simp [results, Try.results80, go_sem]) rfl ⟨none, 0, 0, by rw [HE.out.2], by rw [HE.out.1]; rfl, by rw [HE.out.1]; exact SlOwn.nil _ _ _ _, Below.refl _ _⟩
  | true =>
    cases h2 : maB b with
    | false =>
      have HE := Lib.hid (clL_f2 (a := a) h2)
      have H1 := Lib.hid (isMass_at a true h1)
      have H2 := Lib.hid (isMass_at b false h2)
      generalize clL a b = V at *
      generalize bmB a b = R at *
      clear h1 h2
      go_enter Try.func80, Try.ntmps80
      go_wp2_with fail
      refine (H1.out _).mono ?_
      rintro e w0 ⟨rfl, rfl⟩
      go_wp2_with fail
      refine (H2.out _).mono ?_
      rintro e w0 ⟨rfl, rfl⟩
      go_wp2
      exact bodyPost_ret (v := .tuple #[.slice none 0 0, .bool false]) (by simp [results, Try.results80, go_sem]) rfl ⟨none, 0, 0, by rw [HE.out.2], by rw [HE.out.1]; rfl, by rw [HE.out.1]; exact SlOwn.nil _ _ _ _, Below.refl _ _⟩
    | true =>
      obtain ⟨e1, e2⟩ := clL_t h1 h2
      rw [e1, e2]
      refine (clacksOf_t a b w h1 h2).mono ?_
      rintro e w' ⟨A1, n1, c1, rfl, rfl, ho, hb⟩
      exact ⟨A1, _, c1, rfl, (cpL_len _ _ _).symm, ho, hb⟩

theorem clL_len (a b : Int) : ((clL a b).length : Int) = cnV a b ∧ (clL a b).length ≤ 30 := by
  unfold clL cnV
  cases h : bmB a b with
  | false => simp
  | true =>
    rw [if_pos rfl, if_pos rfl, cpL_len]
    unfold bmB at h
    rw [Bool.and_eq_true] at h
    exact ⟨rfl, (bx_facts h.1 h.2).2.2.2.2.2⟩
theorem cn_lc (a b : Int) : decide (cnV a b % 2 = 1) = lcV a b ∧ 0 ≤ cnV a b ∧ cnV a b ≤ 30 := by
  unfold cnV lcV
  cases h : bmB a b with
  | false => simp
  | true =>
    rw [if_pos rfl]
    unfold bmB at h
    rw [Bool.and_eq_true] at h
    have h1 := (bx_factsP h.1 h.2).2.2.1
    have h2 := (bx_facts h.1 h.2).2.2.2.2.2
    rw [← h1, Bool.true_and, decide_eq_decide]
    omega
set_option maxHeartbeats 1000000 in
theorem implCountClacks_any (a b : Int) (w : World) :
    Calls Try.prog 32 #[.int .i64 a, .int .i64 b] w fun e w' => e = .returned (.tuple #[.int .i64 (cnV a b), .bool (bmB a b)]) ∧ Below w.heap.size w w' := by
  have HC := Lib.hid (clacksOf_any a b)
  have HL := Lib.hid (clL_len a b)
  generalize clL a b = L at *
  generalize cnV a b = V at *
  generalize bmB a b = R at *
  go_enter Try.func32, Try.ntmps32
  go_wp2_with fail
  refine (HC.out _).mono ?_
  rintro e w1 ⟨A, n, c, rfl, hn, _, hb⟩
  have HN := Lib.hid hn
  have HB := Lib.hid hb
  have hn30 : n ≤ 30 := by have := HL.out.2; omega
  clear hn hb
  go_wp2
  exact bodyPost_ret (v := .tuple #[.int .i64 (n : Int), .bool R]) (by simp [results, Try.results32, go_sem]) rfl ⟨by rw [← HL.out.1, HN.out], HB.out⟩
set_option maxHeartbeats 1000000 in
theorem implLastClack_any (a b : Int) (w : World) :
    Calls Try.prog 39 #[.int .i64 a, .int .i64 b] w fun e w' => e = .returned (.tuple #[.bool (lcV a b), .bool (bmB a b)]) ∧ Below w.heap.size w w' := by
  have HC := Lib.hid (implCountClacks_any a b)
  obtain ⟨e1, e2, e3⟩ := cn_lc a b
  have HV : Hid (lcV a b = (cnV a b % 2 == 1)) := by
    show _ = _
    rw [← e1, Bool.eq_iff_iff, beq_iff_eq, decide_eq_true_eq]
  generalize cnV a b = V at *
  generalize bmB a b = R at *
  generalize lcV a b = Z at *
  clear e1
  obtain ⟨k, rfl⟩ : ∃ k : Nat, V = (k : Int) := ⟨V.toNat, by omega⟩
  have hk : k ≤ 30 := by omega
  clear e2 e3
  go_enter Try.func39, Try.ntmps39
  go_wp2_with fail
  refine (HC.out _).mono ?_
  rintro e w1 ⟨rfl, hb⟩
  have HB := Lib.hid hb
  clear hb
  go_wp2
  exact bodyPost_ret (v := .tuple #[.bool ((k : Int) % 2 == 1), .bool R]) (by simp [results, Try.results39, go_sem]) rfl ⟨by rw [HV.out], HB.out⟩
end Go.Proofs.Ytikmkmpekjijpaa
