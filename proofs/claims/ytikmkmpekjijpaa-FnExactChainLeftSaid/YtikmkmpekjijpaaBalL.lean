/- Balls on the model's side, tenth part: the cradle. -/
import Derived.Test.YtikmkmpekjijpaaBalK
namespace Go.Proofs.Ytikmkmpekjijpaa
open Go.RowKit

theorem crL_succ (b l k : Nat) : crL b l (k + 1) = crL b l k ++ [decide (b - l ≤ k)] := by unfold crL; rw [List.range_succ, List.map_append]; rfl
theorem crL_len (b l k : Nat) : (crL b l k).length = k := by unfold crL; simp
def crI (b l : Int) : Bool := decide (1 ≤ l) && decide (l ≤ b - 1)
def crB (b l : Int) : Bool := (decide (2 ≤ b) && decide (b ≤ 10)) && crI b l
def crW (b l : Int) : List Bool := if crB b l then crL b.toNat l.toNat b.toNat else []
theorem slAt_bool {w : World} {g : Nat} {x : Bool} {e : TypeId} {m : Nat × Nat} (h : w.heap[g]? = some (.cells #[.bool x] e m)) : SlAt boolS w (some ⟨g, 0, none⟩) [x] := by
  refine .inr ⟨g, 0, rfl, (Array.getElem?_eq_some_iff.1 h).1, fun k y hk j hj => ?_⟩
  cases k with
  | succ k => simp at hk
  | zero =>
    simp only [List.getElem?_cons_zero, Option.some.injEq] at hk
    subst hk
    simp only [Nat.zero_mul, Nat.zero_add]
    rw [cell_of_row w g j _ _ _ h, ← Array.getElem?_toList]
    rfl
theorem boolInfo : (Try.prog.info? 4).map (fun i => (i.zero, i.size, i.bytes)) = some (some (.bool false), 1, 1) := by kernel_rfl

set_option maxRecDepth 100000 in
set_option maxHeartbeats 1000000 in
theorem specCradleAfter_any (b l : Int) (w : World) :
    Calls Try.prog 57 #[.int .i64 b, .int .i64 l] w fun e w' => ∃ A n c, e = .returned (.tuple #[.slice A n c, .bool (crB b l)]) ∧ n = (crW b l).length ∧ SlOwn boolS w' w.heap.size 4 (.slice A n c) (crW b l) ∧ Below w.heap.size w w' := by
  cases h1 : (decide ((2 : Int) ≤ b) && decide (b ≤ 10)) with
  | false =>
    have HV : Hid (crW b l = [] ∧ crB b l = false) := by
      have e : crB b l = false := by unfold crB; rw [h1]; rfl
      exact ⟨by unfold crW; rw [e]; rfl, e⟩
    have H1 := Lib.hid (bIn_at b 2 10 false h1)
    clear h1
    go_enter Try.func57, Try.ntmps57
    go_wp2_with fail
    refine (H1.out _).mono ?_
    rintro e w1 ⟨rfl, rfl⟩
    go_wp2
    exact bodyPost_ret (v := .tuple #[.slice none 0 0, .bool false]) (by simp [results, Try.results57, go_sem]) rfl ⟨none, 0, 0, by rw [HV.out.2], by rw [HV.out.1]; rfl, by rw [HV.out.1]; exact SlOwn.nil _ _ _ _, Below.refl _ _⟩
  | true =>
    have H1 := Lib.hid (bIn_at b 2 10 true h1)
    have h1' := h1
    rw [Bool.and_eq_true, decide_eq_true_eq, decide_eq_true_eq] at h1'
    have kb : IntKind.i64.wrap (b - 1) = b - 1 := IntWalk.i64_in _ (by omega)
    cases h2 : (decide ((1 : Int) ≤ l) && decide (l ≤ b - 1)) with
    | false =>
      have HV : Hid (crW b l = [] ∧ crB b l = false) := by
        have e : crB b l = false := by unfold crB crI; rw [h2]; simp
        exact ⟨by unfold crW; rw [e]; rfl, e⟩
      have H2 := Lib.hid (bIn_at l 1 (b - 1) false h2)
      clear h1 h2 h1'
      go_enter Try.func57, Try.ntmps57
      go_wp2_with fail
      refine (H1.out _).mono ?_
      rintro e w1 ⟨rfl, rfl⟩
      go_wp2_with fail
      refine (H2.out _).mono ?_
      rintro e w1 ⟨rfl, rfl⟩
      go_wp2
      exact bodyPost_ret (v := .tuple #[.slice none 0 0, .bool false]) (by simp [results, Try.results57, go_sem]) rfl ⟨none, 0, 0, by rw [HV.out.2], by rw [HV.out.1]; rfl, by rw [HV.out.1]; exact SlOwn.nil _ _ _ _, Below.refl _ _⟩
    | true =>
      have H2 := Lib.hid (bIn_at l 1 (b - 1) true h2)
      have HV : Hid (crW b l = crL b.toNat l.toNat b.toNat ∧ crB b l = true) := by
        have e : crB b l = true := by unfold crB crI; rw [h1, h2]; rfl
        exact ⟨by unfold crW; rw [e]; rfl, e⟩
      rw [Bool.and_eq_true, decide_eq_true_eq, decide_eq_true_eq] at h2
      obtain ⟨B, hB⟩ : ∃ B : Nat, b = B := ⟨b.toNat, by omega⟩
      obtain ⟨L, hL⟩ : ∃ L : Nat, l = L := ⟨l.toNat, by omega⟩
      subst hB
      subst hL
      rw [Int.toNat_natCast, Int.toNat_natCast] at HV
      have hb10 : B ≤ 10 := by omega
      have hl1 : L ≤ B := by omega
      have kl : IntKind.i64.wrap ((B : Int) - (L : Int)) = (B : Int) - (L : Int) := IntWalk.i64_in _ (by omega)
      have HS := Lib.hid (crL_succ B L)
      have HL := Lib.hid (crL_len B L)
      have HC0 : Hid (crL B L 0 = []) := rfl
      generalize crL B L = C at *
      obtain ⟨i0, hi, hz0, hz1, hz2⟩ := info_parts boolInfo
      clear h1 h2 h1'
      go_enter Try.func57, Try.ntmps57
      go_wp2_with fail
      refine (H1.out _).mono ?_
      rintro e w1 ⟨rfl, rfl⟩
      go_wp2_with fail
      refine (H2.out _).mono ?_
      rintro e w1 ⟨rfl, rfl⟩
      go_wp2
      go_loopw [6, 7] (fun o i wr => ∃ (k : Nat) (A6 : Option Addr) (n6 c6 : Nat), k ≤ B ∧ o = .slice A6 n6 c6 ∧ i = .int .i64 (k : Int) ∧ Below w.heap.size w wr ∧ SlOwn boolS wr w.heap.size 4 (.slice A6 n6 c6) (C k))
        (fun _ i _ => B - (intOf i).toNat)
      case atStart => exact ⟨0, none, 0, 0, Nat.zero_le _, rfl, rfl, Below.refl _ _, by rw [HC0.out]; exact SlOwn.nil _ _ _ _⟩
      case round =>
        obtain ⟨k, A6, n6, c6, hk, rfl, rfl, hb, ho⟩ := hrel
        have HB := Lib.hid hb
        have HO := Lib.hid ho
        have HLk := Lib.hid (HL.out k)
        have hs := hb.size
        clear hb ho
        by_cases hlt : k < B
        · have q1 : (k : Int) < (B : Int) := by omega
          have HSk : Hid (C (k + 1) = C k ++ [decide ((B : Int) - (L : Int) ≤ (k : Int))]) := by
            show _ = _
            rw [HS.out k]
            congr 2
            rw [decide_eq_decide]
            omega
          generalize hx : decide ((B : Int) - (L : Int) ≤ (k : Int)) = x at *
          go_wp2_with (at_builtin; go_must (refine wpList_append_slsv boolS _ rfl _ _ 58 rfl w.heap.size 4 i0 _ 1 Try.underlying58 hi hz0 hz1 hz2 rfl (by decide) (.slice A6 n6 c6) (C k) rfl (own_alloc HO.out _) _ 1 1 [x] rfl rfl (slAt_bool (heap_new (by simp))) (by have := HLk.out; simp only [List.length_cons, List.length_nil]; omega) (by simp; omega) ?_); intro A7 n7 k7 w7 hn7 ho7 hb7; have HO7 := Lib.hid ho7; have HB7 := Lib.hid ((HB.out.alloc HB.out.size (Obj.cells #[Value.bool x] 4)).trans hb7); clear hn7 ho7 hb7)
          go_roundw
          case rel => exact ⟨k + 1, A7, n7, k7, by omega, rfl, by congr 1, HB7.out, by rw [HSk.out]; exact HO7.out⟩
          case measure => simp [intOf]; omega
        · obtain rfl : k = B := by omega
          have q1 : ¬ (k : Int) < (k : Int) := by omega
          go_wp2
          exact bodyPost_ret (v := .tuple #[.slice A6 n6 c6, .bool true]) (by simp [results, Try.results57, go_sem]) rfl ⟨A6, n6, c6, by rw [HV.out.2], by rw [HV.out.1]; exact ba_len HO.out, by rw [HV.out.1]; exact HO.out, HB.out⟩
end Go.Proofs.Ytikmkmpekjijpaa
