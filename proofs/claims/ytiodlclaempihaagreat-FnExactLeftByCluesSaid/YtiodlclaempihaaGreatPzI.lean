/- Puzzles, the program: LeftByClues. -/
import Derived.Test.YtiodlclaempihaaGreatPzH
import Derived.Test.YtiodlclaempihaaGreatZaA
namespace Go.Proofs.YtiodlclaempihaaGreat
open Go.RowKit

set_option maxRecDepth 100000 in
set_option maxHeartbeats 4000000 in
theorem implLeftByClues_any (L : Int) (A C : Option Addr) (c d : Nat) (l : List Int) (cs : List (Int × Int × Int)) (w : World) (hcap : cs.length ≤ d) (hn : (l.length : Int) ≤ 9223372036854775807) (hm : (cs.length : Int) ≤ 9223372036854775807) (hA : SlAt intS w A l) (hC : SlAt tripS w C cs) :
    Calls Tryz.prog 35 #[.agg #[.int .i64 L, .slice A l.length c, .slice C cs.length d]] w fun e w' => ∃ A' n' c', e = .returned (.tuple #[.slice A' n' c', .bool (puzB L l cs)]) ∧ n' = (lbcV L l cs).length ∧ SlOwn intS w' w.heap.size 3 (.slice A' n' c') (lbcV L l cs) ∧ Below w.heap.size w w' := by
  have HA := Lib.hid (hA.alloc (Obj.cells #[Value.int IntKind.i64 L, Value.slice A l.length c, Value.slice C cs.length d] 32))
  have HC := Lib.hid (hC.alloc (Obj.cells #[Value.int IntKind.i64 L, Value.slice A l.length c, Value.slice C cs.length d] 32))
  cases hz : puzB L l cs with
  | false =>
    have HV : Hid (lbcV L l cs = []) := by show _ = _; unfold lbcV; rw [hz]; rfl
    have HG := Lib.hid (fun w h h' => implIsPuzzle_at L A C c d l cs false hz w hn hm h h')
    clear hz hA hC
    go_enter Tryz.func35, Tryz.ntmps35
    go_wp2_with fail
    refine (HG.out _ HA.out HC.out).mono ?_
    rintro e w1 ⟨rfl, hb⟩
    go_wp2
    go_ret2
    exact ⟨none, 0, 0, rfl, by rw [HV.out]; rfl, by rw [HV.out]; exact SlOwn.nil _ _ _ _, ((Below.refl _ _).alloc (Nat.le_refl _) _).trans (hb.mono (by simp))⟩
  | true =>
    obtain ⟨i0, hi, hz0, hz1, hz2⟩ := info_parts intInfo
    obtain ⟨hp, hc6, hcl⟩ := puzB_parts hz
    have HV : Hid (lbcV L l cs = leftK L l cs (cs.length + 1)) := by show _ = _; unfold lbcV; rw [hz]; rfl
    have HG := Lib.hid (fun w h h' => implIsPuzzle_at L A C c d l cs true hz w hn hm h h')
    have h8 := (hplB_len hp).2
    have HAll : Hid (∀ (k : Nat) (w : World), k ≤ cs.length → SlAt intS w A l → SlAt tripS w C cs → Calls Tryz.prog 48 #[.agg #[.int .i64 L, .slice A l.length c, .slice C cs.length d], .slice C k k] w fun e w' => ∃ A' n' c', e = .returned (.slice A' n' c') ∧ n' = (solV L l (cs.take k)).length ∧ Below w.heap.size w w') := fun k w hk h h' => by
      have h2 := waysThatFit_any L A C C c k cs.length d l (cs.take k) w hp (cluesB_take k hcl) (by rw [List.length_take]; omega) h (h'.take k)
      rw [List.length_take, Nat.min_eq_left hk] at h2
      refine h2.mono ?_
      rintro e w' ⟨A', n', c', he, hn', _, hb'⟩
      exact ⟨A', n', c', he, hn', hb'⟩
    have HSL := Lib.hid (fun k => solV_len (L := L) (cs.take k) h8)
    rw [HV.out]
    clear hz hA hC hp hcl HV h8
    go_enter Tryz.func35, Tryz.ntmps35
    go_wp2_with fail
    refine (HG.out _ HA.out HC.out).mono ?_
    rintro e w1 ⟨rfl, hb⟩
    have k0 : w1.cell? ⟨w.heap.size, 0, none⟩ = some (.int .i64 L) := by rw [hb.cell (p := ⟨w.heap.size, 0, none⟩) (by simp)]; simp
    have k1 : w1.cell? ⟨w.heap.size, 1, none⟩ = some (.slice A l.length c) := by rw [hb.cell (p := ⟨w.heap.size, 1, none⟩) (by simp)]; simp
    have k2 : w1.cell? ⟨w.heap.size, 2, none⟩ = some (.slice C cs.length d) := by rw [hb.cell (p := ⟨w.heap.size, 2, none⟩) (by simp)]; simp
    have HB := Lib.hid (((Below.refl _ w).alloc (Nat.le_refl _) (Obj.cells #[Value.int IntKind.i64 L, Value.slice A l.length c, Value.slice C cs.length d] 32)).trans (hb.mono (by simp)))
    have HA1 := Lib.hid (HA.out.below hb)
    have HC1 := Lib.hid (HC.out.below hb)
    have hs1 : w.heap.size + 1 ≤ w1.heap.size := by have := hb.size; simpa using this
    have K0 := Lib.hid k0
    have K1 := Lib.hid k1
    have K2 := Lib.hid k2
    have h6 : (cs.length : Int) ≤ 6 := by omega
    clear hb
    go_wp2
    clear k0 k1 k2
    go_loopw [4, 13] (fun v i wr => ∃ (k : Nat) (A3 : Option Addr) (n3 k3 : Nat), k ≤ cs.length + 1 ∧ i = .int .i64 k ∧ v = .slice A3 n3 k3 ∧ Below w1.heap.size w1 wr ∧ SlOwn intS wr w1.heap.size 3 (.slice A3 n3 k3) (leftK L l cs k))
      (fun _ i _ => cs.length + 1 - (intOf i).toNat)
    case atStart => exact ⟨0, none, 0, 0, Nat.zero_le _, rfl, rfl, Below.refl _ _, SlOwn.nil _ _ _ _⟩
    case round =>
      obtain ⟨W1, rfl⟩ : ∃ W, W = wr := ⟨_, rfl⟩
      obtain ⟨k, A3, n3, k3, hk, rfl, rfl, hb, hown⟩ := hrel
      have HBR := Lib.hid hb
      have HOW := Lib.hid hown
      have hsr := hb.size
      have k0 := Below.cell_some hb K0.out
      have k1 := Below.cell_some hb K1.out
      have k2 := Below.cell_some hb K2.out
      have HAr := Lib.hid (HA1.out.below hb)
      have HCr := Lib.hid (HC1.out.below hb)
      have HLL : Hid ((leftK L l cs k).length ≤ 8) := by show _ ≤ _; rw [leftK_len]; omega
      have HSU := Lib.hid (leftK_succ L l cs k)
      clear hb hown
      by_cases hlt : k ≤ cs.length
      · have hkl : (k : Int) < (cs.length : Int) + 1 := by omega
        have hkd : ¬ (d : Int) < (k : Int) := by omega
        have HAL := Lib.hid (HAll.out k W1.drew hlt (HAr.out.below (Below.refl _ _).drew) (HCr.out.below (Below.refl _ _).drew))
        have HS8 := Lib.hid (HSL.out k)
        generalize leftK L l cs k = M at *
        generalize (solV L l (cs.take k)).length = q at *
        go_wp2
        go_region_held3 (fun w' => w'.cell? ⟨w.heap.size, 0, none⟩ = some (.int .i64 L) ∧ w'.cell? ⟨w.heap.size, 1, none⟩ = some (.slice A l.length c) ∧ w'.cell? ⟨w.heap.size, 2, none⟩ = some (.slice C cs.length d))
          (first | go_keep | exact ⟨k0', k1', k2'⟩ | exact ⟨k0'', k1'', k2''⟩)
          (first
            | (go_at_call 48; refine HAL.out.mono ?_; rintro e w2 ⟨A2, n2, c2, rfl, hn2, hbx⟩; have hb2 := below_drew hbx; clear hbx; have k0' := Below.cell_some hb2 k0; have k1' := Below.cell_some hb2 k1; have k2' := Below.cell_some hb2 k2; have HN2 := Lib.hid hn2; have HB2 := Lib.hid hb2; have HO2 := Lib.hid (HOW.out.below hb2); have hs2 := hb2.size; clear hn2 hb2)
            | (refine step_append_slsv intS _ rfl _ _ 22 rfl w1.heap.size 3 i0 _ 8 Tryz.underlying22 hi hz0 hz1 hz2 rfl (by decide) _ M rfl (HO2.out.below ((Below.refl _ _).alloc (Nat.le_refl _) _)) (some ⟨w2.heap.size, 0, none⟩) 1 1 [(n2 : Int)] rfl rfl (slAt_oneI (heap_new rfl)) (by have := HLL.out; simp; omega) (by simp; omega) ?_; intro A5 n5 k5 w5 hn5 ho5 hb5 _; have k0'' := (hb5.cell (p := ⟨w.heap.size, 0, none⟩) (by simp only; omega)).trans (alloc_some k0' _); have k1'' := (hb5.cell (p := ⟨w.heap.size, 1, none⟩) (by simp only; omega)).trans (alloc_some k1' _); have k2'' := (hb5.cell (p := ⟨w.heap.size, 2, none⟩) (by simp only; omega)).trans (alloc_some k2' _); have HO5 := Lib.hid ho5; have HB5 := Lib.hid hb5; clear ho5 hb5 hn5))
        go_wp2
        go_roundw
        case rel => exact ⟨k + 1, A5, n5, k5, by omega, by go_num, rfl, HBR.out.trans ((HB2.out.mono hsr).trans (((Below.refl _ _).alloc (by omega) _).trans HB5.out)), by rw [HSU.out, ← HN2.out]; exact HO5.out⟩
        case measure => simp [intOf]; omega
      · obtain rfl : k = cs.length + 1 := by omega
        have hkl : ¬ ((cs.length + 1 : Nat) : Int) < (cs.length : Int) + 1 := by omega
        have HN3 : Hid (n3 = (leftK L l cs (cs.length + 1)).length) := by
          show _ = _
          have h := HOW.out
          rcases h.2 with ⟨h', h0⟩ | ⟨g, cap, cur, hv, _⟩
          · simp only [Value.slice.injEq] at h'; omega
          · simp only [Value.slice.injEq] at hv; exact hv.2.1
        go_wp2
        go_ret2
        exact ⟨A3, n3, k3, rfl, HN3.out, ownsRow_base HOW.out (by omega), HB.out.trans (HBR.out.mono (by omega))⟩
end Go.Proofs.YtiodlclaempihaaGreat
