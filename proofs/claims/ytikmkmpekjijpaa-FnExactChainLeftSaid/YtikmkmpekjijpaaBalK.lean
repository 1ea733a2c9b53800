/- Balls on the model's side, ninth part: the calls on a ball between a wall and a great one. -/
import Derived.Test.YtikmkmpekjijpaaBalJ
namespace Go.Proofs.Ytikmkmpekjijpaa
open Go.RowKit

def bmB (a b : Int) : Bool := maB a && maB b
def cnV (a b : Int) : Int := if bmB a b then (bxK a b : Int) else 0
def lcV (a b : Int) : Bool := bmB a b && bxBoth a b (bxK a b)
def cpU (a b : Int) : List (Int × Int) := if bmB a b then bxU a b (bxK a b) else []
def cpV (a b : Int) : List (Int × Int) := if bmB a b then bxV a b (bxK a b) else []
theorem bm_f1 {a b : Int} (h : maB a = false) : bmB a b = false := by unfold bmB; rw [h]; rfl
theorem bm_f2 {a b : Int} (h : maB b = false) : bmB a b = false := by unfold bmB; rw [h]; simp
theorem bm_t {a b : Int} (h : maB a = true) (h2 : maB b = true) : bmB a b = true := by unfold bmB; rw [h, h2]; rfl

set_option maxHeartbeats 1000000 in
theorem specCountClacks_any (a b : Int) (w : World) :
    Calls Try.prog 31 #[.int .i64 a, .int .i64 b] w fun e w' => e = .returned (.tuple #[.int .i64 (cnV a b), .bool (bmB a b)]) ∧ Below w.heap.size w w' := by
  cases h1 : maB a with
  | false =>
    have HV : Hid (cnV a b = 0 ∧ bmB a b = false) := by
      have e := bm_f1 (b := b) h1
      show _ ∧ _
      unfold cnV; rw [e]; simp
    have H1 := Lib.hid (bMass_at a false h1)
    clear h1
    go_enter Try.func31, Try.ntmps31
    go_wp2_with fail
    refine (H1.out _).mono ?_
    rintro e w1 ⟨rfl, rfl⟩
    go_wp2
    exact bodyPost_ret (v := .tuple #[.int .i64 0, .bool false]) (by simp [results, Try.results31, go_sem]) rfl ⟨by rw [HV.out.1, HV.out.2], Below.refl _ _⟩
  | true =>
    have H1 := Lib.hid (bMass_at a true h1)
    cases h2 : maB b with
    | false =>
      have HV : Hid (cnV a b = 0 ∧ bmB a b = false) := by
        have e := bm_f2 (a := a) h2
        show _ ∧ _
        unfold cnV; rw [e]; simp
      have H2 := Lib.hid (bMass_at b false h2)
      clear h1 h2
      go_enter Try.func31, Try.ntmps31
      go_wp2_with fail
      refine (H1.out _).mono ?_
      rintro e w1 ⟨rfl, rfl⟩
      go_wp2_with fail
      refine (H2.out _).mono ?_
      rintro e w1 ⟨rfl, rfl⟩
      go_wp2
      exact bodyPost_ret (v := .tuple #[.int .i64 0, .bool false]) (by simp [results, Try.results31, go_sem]) rfl ⟨by rw [HV.out.1, HV.out.2], Below.refl _ _⟩
    | true =>
      have HV : Hid (cnV a b = (bxK a b : Int) ∧ bmB a b = true) := by
        have e := bm_t h1 h2
        show _ ∧ _
        unfold cnV; rw [e]; simp
      have H2 := Lib.hid (bMass_at b true h2)
      have H3 := Lib.hid (fun w => bBox_any a b w h1 h2)
      clear h1 h2
      generalize bxK a b = K at *
      go_enter Try.func31, Try.ntmps31
      go_wp2_with fail
      refine (H1.out _).mono ?_
      rintro e w1 ⟨rfl, rfl⟩
      go_wp2_with fail
      refine (H2.out _).mono ?_
      rintro e w1 ⟨rfl, rfl⟩
      go_wp2_with fail
      refine (H3.out _).mono ?_
      rintro e w1 ⟨A1, n1, c1, A2, n2, c2, rfl, hn1, hn2, ho1, ho2, hd, hb⟩
      have HN1 := Lib.hid hn1
      have HN2 := Lib.hid hn2
      have HO1 := Lib.hid ho1
      have HO2 := Lib.hid ho2
      have HD := Lib.hid hd
      have HB := Lib.hid hb
      clear hn1 hn2 ho1 ho2 hd hb
      go_wp2
      exact bodyPost_ret (v := .tuple #[.int .i64 (n1 : Int), .bool true]) (by simp [results, Try.results31, go_sem]) rfl ⟨by rw [HV.out.1, HV.out.2, HN1.out], HB.out⟩

set_option maxHeartbeats 1000000 in
theorem specLastClack_any (a b : Int) (w : World) :
    Calls Try.prog 38 #[.int .i64 a, .int .i64 b] w fun e w' => e = .returned (.tuple #[.bool (lcV a b), .bool (bmB a b)]) ∧ Below w.heap.size w w' := by
  cases h1 : maB a with
  | false =>
    have HV : Hid (lcV a b = false ∧ bmB a b = false) := by
      have e := bm_f1 (b := b) h1
      show _ ∧ _
      unfold lcV; rw [e]; simp
    have H1 := Lib.hid (bMass_at a false h1)
    clear h1
    go_enter Try.func38, Try.ntmps38
    go_wp2_with fail
    refine (H1.out _).mono ?_
    rintro e w1 ⟨rfl, rfl⟩
    go_wp2
    exact bodyPost_ret (v := .tuple #[.bool false, .bool false]) (by simp [results, Try.results38, go_sem]) rfl ⟨by rw [HV.out.1, HV.out.2], Below.refl _ _⟩
  | true =>
    have H1 := Lib.hid (bMass_at a true h1)
    cases h2 : maB b with
    | false =>
      have HV : Hid (lcV a b = false ∧ bmB a b = false) := by
        have e := bm_f2 (a := a) h2
        show _ ∧ _
        unfold lcV; rw [e]; simp
      have H2 := Lib.hid (bMass_at b false h2)
      clear h1 h2
      go_enter Try.func38, Try.ntmps38
      go_wp2_with fail
      refine (H1.out _).mono ?_
      rintro e w1 ⟨rfl, rfl⟩
      go_wp2_with fail
      refine (H2.out _).mono ?_
      rintro e w1 ⟨rfl, rfl⟩
      go_wp2
      exact bodyPost_ret (v := .tuple #[.bool false, .bool false]) (by simp [results, Try.results38, go_sem]) rfl ⟨by rw [HV.out.1, HV.out.2], Below.refl _ _⟩
    | true =>
      have HV : Hid (lcV a b = bxBoth a b (bxK a b) ∧ bmB a b = true) := by
        have e := bm_t h1 h2
        show _ ∧ _
        unfold lcV; rw [e]; simp
      have H2 := Lib.hid (bMass_at b true h2)
      have H3 := Lib.hid (fun w => bBox_any a b w h1 h2)
      clear h1 h2
      generalize bxK a b = K at *
      go_enter Try.func38, Try.ntmps38
      go_wp2_with fail
      refine (H1.out _).mono ?_
      rintro e w1 ⟨rfl, rfl⟩
      go_wp2_with fail
      refine (H2.out _).mono ?_
      rintro e w1 ⟨rfl, rfl⟩
      go_wp2_with fail
      refine (H3.out _).mono ?_
      rintro e w1 ⟨A1, n1, c1, A2, n2, c2, rfl, hn1, hn2, ho1, ho2, hd, hb⟩
      have HN1 := Lib.hid hn1
      have HN2 := Lib.hid hn2
      have HO1 := Lib.hid ho1
      have HO2 := Lib.hid ho2
      have HD := Lib.hid hd
      have HB := Lib.hid hb
      clear hn1 hn2 ho1 ho2 hd hb
      go_wp2
      exact bodyPost_ret (v := .tuple #[.bool (bxBoth a b K), .bool true]) (by simp [results, Try.results38, go_sem]) rfl ⟨by rw [HV.out.1, HV.out.2], HB.out⟩

set_option maxHeartbeats 1000000 in
theorem specClackPaces_any (a b : Int) (w : World) :
    Calls Try.prog 33 #[.int .i64 a, .int .i64 b] w fun e w' => ∃ A1 n1 c1 A2 n2 c2, e = .returned (.tuple #[.slice A1 n1 c1, .slice A2 n2 c2, .bool (bmB a b)]) ∧ n1 = (cpU a b).length ∧ n2 = (cpV a b).length ∧ SlOwn pairS w' w.heap.size 25 (.slice A1 n1 c1) (cpU a b) ∧ SlOwn pairS w' w.heap.size 25 (.slice A2 n2 c2) (cpV a b) ∧ (∀ x, (Value.slice A1 n1 c1).ownBlock = some x → (Value.slice A2 n2 c2).ownBlock ≠ some x) ∧ Below w.heap.size w w' := by
  cases h1 : maB a with
  | false =>
    have HV : Hid ((cpU a b = [] ∧ cpV a b = []) ∧ bmB a b = false) := by
      have e := bm_f1 (b := b) h1
      show _ ∧ _
      unfold cpU cpV; rw [e]; simp
    have H1 := Lib.hid (bMass_at a false h1)
    clear h1
    go_enter Try.func33, Try.ntmps33
    go_wp2_with fail
    refine (H1.out _).mono ?_
    rintro e w1 ⟨rfl, rfl⟩
    go_wp2
    exact bodyPost_ret (v := .tuple #[.slice none 0 0, .slice none 0 0, .bool false]) (by simp [results, Try.results33, go_sem]) rfl ⟨none, 0, 0, none, 0, 0, by rw [HV.out.2], by rw [HV.out.1.1]; rfl, by rw [HV.out.1.2]; rfl, by rw [HV.out.1.1]; exact SlOwn.nil _ _ _ _, by rw [HV.out.1.2]; exact SlOwn.nil _ _ _ _, (fun x h => by cases h), Below.refl _ _⟩
  | true =>
    have H1 := Lib.hid (bMass_at a true h1)
    cases h2 : maB b with
    | false =>
      have HV : Hid ((cpU a b = [] ∧ cpV a b = []) ∧ bmB a b = false) := by
        have e := bm_f2 (a := a) h2
        show _ ∧ _
        unfold cpU cpV; rw [e]; simp
      have H2 := Lib.hid (bMass_at b false h2)
      clear h1 h2
      go_enter Try.func33, Try.ntmps33
      go_wp2_with fail
      refine (H1.out _).mono ?_
      rintro e w1 ⟨rfl, rfl⟩
      go_wp2_with fail
      refine (H2.out _).mono ?_
      rintro e w1 ⟨rfl, rfl⟩
      go_wp2
      exact bodyPost_ret (v := .tuple #[.slice none 0 0, .slice none 0 0, .bool false]) (by simp [results, Try.results33, go_sem]) rfl ⟨none, 0, 0, none, 0, 0, by rw [HV.out.2], by rw [HV.out.1.1]; rfl, by rw [HV.out.1.2]; rfl, by rw [HV.out.1.1]; exact SlOwn.nil _ _ _ _, by rw [HV.out.1.2]; exact SlOwn.nil _ _ _ _, (fun x h => by cases h), Below.refl _ _⟩
    | true =>
      have HV : Hid ((cpU a b = bxU a b (bxK a b) ∧ cpV a b = bxV a b (bxK a b)) ∧ bmB a b = true) := by
        have e := bm_t h1 h2
        show _ ∧ _
        unfold cpU cpV; rw [e]; simp
      have H2 := Lib.hid (bMass_at b true h2)
      have H3 := Lib.hid (fun w => bBox_any a b w h1 h2)
      clear h1 h2
      generalize bxK a b = K at *
      go_enter Try.func33, Try.ntmps33
      go_wp2_with fail
      refine (H1.out _).mono ?_
      rintro e w1 ⟨rfl, rfl⟩
      go_wp2_with fail
      refine (H2.out _).mono ?_
      rintro e w1 ⟨rfl, rfl⟩
      go_wp2_with fail
      refine (H3.out _).mono ?_
      rintro e w1 ⟨A1, n1, c1, A2, n2, c2, rfl, hn1, hn2, ho1, ho2, hd, hb⟩
      have HN1 := Lib.hid hn1
      have HN2 := Lib.hid hn2
      have HO1 := Lib.hid ho1
      have HO2 := Lib.hid ho2
      have HD := Lib.hid hd
      have HB := Lib.hid hb
      clear hn1 hn2 ho1 ho2 hd hb
      go_wp2
      exact bodyPost_ret (v := .tuple #[.slice A1 n1 c1, .slice A2 n2 c2, .bool true]) (by simp [results, Try.results33, go_sem]) rfl ⟨A1, n1, c1, A2, n2, c2, by rw [HV.out.2], by rw [HV.out.1.1]; exact ba_len HO1.out, by rw [HV.out.1.2]; exact ba_len HO2.out, by rw [HV.out.1.1]; exact HO1.out, by rw [HV.out.1.2]; exact HO2.out, HD.out, HB.out⟩
end Go.Proofs.Ytikmkmpekjijpaa
