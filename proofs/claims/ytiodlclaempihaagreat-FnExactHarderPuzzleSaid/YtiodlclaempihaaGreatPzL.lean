/- Puzzles, the program: the clues but one (without). -/
import Derived.Test.YtiodlclaempihaaGreatPuzO
import Derived.Test.YtiodlclaempihaaGreatConcatC
import Derived.Deep.RegionHeld3
namespace Go.Proofs.YtiodlclaempihaaGreat
open Go.RowKit

set_option maxRecDepth 100000 in
set_option maxHeartbeats 2000000 in
theorem without_any (A : Option Addr) (c k : Nat) (l : List (Int × Int × Int)) (w : World) (hkl : k < l.length) (hn : l.length ≤ 6) (hcap : l.length ≤ c) (hA : SlAt tripS w A l) :
    Calls Tryz.prog 54 #[.slice A l.length c, .int .i64 k] w fun e w' => ∃ A' n' c', e = .returned (.slice A' n' c') ∧ n' = (wiP l k).length ∧ SlOwn tripS w' w.heap.size 67 (.slice A' n' c') (wiP l k) ∧ Below w.heap.size w w' := by
  have HA2 := Lib.hid hA
  have hk0 : (0 : Int) ≤ (k : Int) := by omega
  have hk1 : (k : Int) ≤ (c : Int) := by omega
  have hk2 : (k : Int) + 1 ≤ (l.length : Int) := by omega
  have hk3 : (l.length : Int) ≤ (c : Int) := by omega
  have hk4 : (0 : Int) ≤ (k : Int) + 1 := by omega
  have hk5 : (k : Int) + 1 ≤ (c : Int) := by omega
  have hkw : IntKind.i64.wrap ((k : Int) + 1) = (k : Int) + 1 := IntWalk.i64_in _ (by omega)
  obtain ⟨b, off, rfl, -⟩ := hA.at_ hkl
  clear hA
  by_cases hcc : c = k + 1
  · subst hcc
    have hk1 : (k : Int) ≤ (k : Int) + 1 := by omega
    have hk6 : k ≤ k + 1 := by omega
    clear hk5
    obtain ⟨W3, hW3⟩ : ∃ W3, W3 = (w.alloc (Obj.cells #[.slice (some ⟨b, off, none⟩) k k, .slice (some ⟨b, off, none⟩) 0 0] 30)).drew := ⟨_, rfl⟩
    have e0 : W3.cell? ⟨w.heap.size, 0, none⟩ = some (.slice (some ⟨b, off, none⟩) k k) := by rw [hW3]; simp [go_sem]
    have e1 : W3.cell? ⟨w.heap.size, 1, none⟩ = some (.slice (some ⟨b, off, none⟩) 0 0) := by rw [hW3]; simp [go_sem]
    have hB23 : Below w.heap.size w W3 := by
      rw [hW3]
      have HW1 := ((Below.refl w.heap.size w).alloc (Nat.le_refl _) (Obj.cells #[.slice (some ⟨b, off, none⟩) k k, .slice (some ⟨b, off, none⟩) 0 0] 30))
      exact ⟨HW1.os, HW1.tape, HW1.output, HW1.size, HW1.block⟩
    have HB3 := Lib.hid hB23
    have hs3 := hB23.size
    have HA3 := Lib.hid (HA2.out.below hB23)
    have HDR : Hid (SlAt tripS W3 (some ⟨b, off, none⟩) (l.drop (k + 1))) := by
      have := HA3.out.dropIfT k (k + 1) hcap
      rw [if_pos rfl] at this
      exact this
    have HK : Hid (∀ Q : Ending → World → Prop, (∀ A' c' w', SlOwn tripS w' W3.heap.size 67 (.slice A' (l.take k ++ l.drop (k + 1)).length c') (l.take k ++ l.drop (k + 1)) ∧ Below W3.heap.size W3 w' → Q (.returned (.slice A' (l.take k ++ l.drop (k + 1)).length c')) w') → Calls Tryz.prog 73 #[.slice (some ⟨w.heap.size, 0, none⟩) 2 2] W3 Q) := fun Q hQ => by
      refine (concatC_at w.heap.size 2 k 0 _ _ _ _ (l.take k) (l.drop (k + 1)) W3 (by rw [List.length_take]; omega) (by rw [List.length_drop]; omega) (by rw [List.length_take]; omega) (by rw [List.length_drop]; omega) (HA3.out.take k) HDR.out e0 e1).mono ?_
      rintro e w' ⟨A', c', rfl, ho, hb⟩
      exact hQ A' c' w' ⟨ho, hb⟩
    rw [hW3] at HK
    clear hB23 e0 e1
    go_enter Tryz.func54, Tryz.ntmps54
    go_wp2
    go_region_held3 (fun _ => True)
      (first | exact trivial | go_keep)
      (first | (go_at_call 73; refine HK.out _ ?_; rw [← hW3]; rintro A4 k4 w4 ⟨ho4, hb4⟩; have HO4 := Lib.hid ho4; have HB4 := Lib.hid (HB3.out.trans (hb4.mono HB3.out.size)); clear ho4 hb4))
    have HL : Hid (∀ n', n' = (wiP l k).length → SlOwn tripS w4 w.heap.size 67 (.slice A4 n' k4) (wiP l k)) := by
      show ∀ n', _
      rintro _ rfl
      exact ownsRow_base HO4.out hs3
    have HX : Hid (min k l.length + (l.length - (k + 1)) = (wiP l k).length ∧ min k l.length = (wiP l k).length) := by
      show _ ∧ _
      rw [wiP_len hkl]
      omega
    go_wp2
    go_ret
    first
      | exact ⟨A4, _, k4, rfl, HX.out.1, HL.out _ HX.out.1, HB4.out⟩
      | exact ⟨A4, _, k4, rfl, HX.out.2, HL.out _ HX.out.2, HB4.out⟩
  · obtain ⟨W3, hW3⟩ : ∃ W3, W3 = (w.alloc (Obj.cells #[.slice (some ⟨b, off, none⟩) k k, .slice (some ⟨b, off + (k + 1) * 3, none⟩) (l.length - (k + 1)) (c - (k + 1))] 30)).drew := ⟨_, rfl⟩
    have e0 : W3.cell? ⟨w.heap.size, 0, none⟩ = some (.slice (some ⟨b, off, none⟩) k k) := by rw [hW3]; simp [go_sem]
    have e1 : W3.cell? ⟨w.heap.size, 1, none⟩ = some (.slice (some ⟨b, off + (k + 1) * 3, none⟩) (l.length - (k + 1)) (c - (k + 1))) := by rw [hW3]; simp [go_sem]
    have hB23 : Below w.heap.size w W3 := by
      rw [hW3]
      have HW1 := ((Below.refl w.heap.size w).alloc (Nat.le_refl _) (Obj.cells #[.slice (some ⟨b, off, none⟩) k k, .slice (some ⟨b, off + (k + 1) * 3, none⟩) (l.length - (k + 1)) (c - (k + 1))] 30))
      exact ⟨HW1.os, HW1.tape, HW1.output, HW1.size, HW1.block⟩
    have HB3 := Lib.hid hB23
    have hs3 := hB23.size
    have HA3 := Lib.hid (HA2.out.below hB23)
    have HDR : Hid (SlAt tripS W3 (some ⟨b, off + (k + 1) * 3, none⟩) (l.drop (k + 1))) := by
      have := HA3.out.dropIfT k c hcap
      rw [if_neg hcc] at this
      exact this
    have HK : Hid (∀ Q : Ending → World → Prop, (∀ A' c' w', SlOwn tripS w' W3.heap.size 67 (.slice A' (l.take k ++ l.drop (k + 1)).length c') (l.take k ++ l.drop (k + 1)) ∧ Below W3.heap.size W3 w' → Q (.returned (.slice A' (l.take k ++ l.drop (k + 1)).length c')) w') → Calls Tryz.prog 73 #[.slice (some ⟨w.heap.size, 0, none⟩) 2 2] W3 Q) := fun Q hQ => by
      refine (concatC_at w.heap.size 2 k (l.length - (k + 1)) _ _ _ _ (l.take k) (l.drop (k + 1)) W3 (by rw [List.length_take]; omega) (by rw [List.length_drop]) (by rw [List.length_take]; omega) (by rw [List.length_drop]; omega) (HA3.out.take k) HDR.out e0 e1).mono ?_
      rintro e w' ⟨A', c', rfl, ho, hb⟩
      exact hQ A' c' w' ⟨ho, hb⟩
    rw [hW3] at HK
    clear hB23 e0 e1
    go_enter Tryz.func54, Tryz.ntmps54
    go_wp2
    go_region_held3 (fun _ => True)
      (first | exact trivial | go_keep)
      (first | (go_at_call 73; refine HK.out _ ?_; rw [← hW3]; rintro A4 k4 w4 ⟨ho4, hb4⟩; have HO4 := Lib.hid ho4; have HB4 := Lib.hid (HB3.out.trans (hb4.mono HB3.out.size)); clear ho4 hb4))
    have HL : Hid (∀ n', n' = (wiP l k).length → SlOwn tripS w4 w.heap.size 67 (.slice A4 n' k4) (wiP l k)) := by
      show ∀ n', _
      rintro _ rfl
      exact ownsRow_base HO4.out hs3
    have HX : Hid (min k l.length + (l.length - (k + 1)) = (wiP l k).length ∧ k + (l.length - (k + 1)) = (wiP l k).length) := by
      show _ ∧ _
      rw [wiP_len hkl]
      omega
    go_wp2
    go_ret
    first
      | exact ⟨A4, _, k4, rfl, HX.out.1, HL.out _ HX.out.1, HB4.out⟩
      | exact ⟨A4, _, k4, rfl, HX.out.2, HL.out _ HX.out.2, HB4.out⟩
end Go.Proofs.YtiodlclaempihaaGreat
