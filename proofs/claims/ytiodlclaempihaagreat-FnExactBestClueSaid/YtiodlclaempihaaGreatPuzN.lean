/- Puzzles, the model: BestClue. -/
import Derived.Test.YtiodlclaempihaaGreatPuzL
import Derived.Test.YtiodlclaempihaaGreatBst
namespace Go.Proofs.YtiodlclaempihaaGreat
open Go.RowKit

theorem oneK_len {L : Int} {l : List Int} (cs : List (Int × Int × Int)) (h : l.length ≤ 8) (k : Nat) : 0 ≤ oneK L l cs k ∧ oneK L l cs k ≤ 256 := by
  unfold oneK
  have := solV_len (L := L) ((cs.drop k).take 1) h
  omega
/-- what BestClue returns -/
def bcV (L : Int) (l : List Int) (cs : List (Int × Int × Int)) : Int := if bcOk L l cs then (bst (oneK L l cs) cs.length : Int) else 0
theorem bc_off {L : Int} {l : List Int} {cs : List (Int × Int × Int)} (h : bcOk L l cs = false) : bcV L l cs = 0 := by unfold bcV; rw [h]; rfl
theorem bc_on {L : Int} {l : List Int} {cs : List (Int × Int × Int)} (h : bcOk L l cs = true) : bcV L l cs = (bst (oneK L l cs) cs.length : Int) := by unfold bcV; rw [h]; rfl

set_option maxRecDepth 100000 in
set_option maxHeartbeats 4000000 in
theorem specBestClue_any (L : Int) (A C : Option Addr) (c d : Nat) (l : List Int) (cs : List (Int × Int × Int)) (w : World) (hcap : cs.length ≤ d) (hn : (l.length : Int) ≤ 9223372036854775807) (_hm : (cs.length : Int) ≤ 9223372036854775807) (hA : SlAt intS w A l) (hC : SlAt tripS w C cs) :
    Calls Tryz.prog 36 #[.agg #[.int .i64 L, .slice A l.length c, .slice C cs.length d]] w fun e w' => e = .returned (.tuple #[.int .i64 (bcV L l cs), .bool (bcOk L l cs)]) ∧ Below w.heap.size w w' := by
  have HA := Lib.hid (hA.alloc (Obj.cells #[Value.int IntKind.i64 L, Value.slice A l.length c, Value.slice C cs.length d] 32))
  have HC := Lib.hid (hC.alloc (Obj.cells #[Value.int IntKind.i64 L, Value.slice A l.length c, Value.slice C cs.length d] 32))
  cases hz : puzB L l cs with
  | false =>
    have h0 : bcOk L l cs = false := by unfold bcOk; rw [hz]; rfl
    have HV : Hid (bcV L l cs = 0 ∧ bcOk L l cs = false) := ⟨bc_off h0, h0⟩
    have HG := Lib.hid (fun w h h' => pzGood_at L A C c d l cs false hz w hn h h')
    clear hz hA hC h0
    rw [HV.out.1, HV.out.2]
    go_enter Tryz.func36, Tryz.ntmps36
    go_wp2_with fail
    refine (HG.out _ HA.out HC.out).mono ?_
    rintro e w1 ⟨rfl, hb⟩
    go_wp2
    go_ret2
    exact ⟨rfl, ((Below.refl _ _).alloc (Nat.le_refl _) _).trans (hb.mono (by simp))⟩
  | true =>
    have HG := Lib.hid (fun w h h' => pzGood_at L A C c d l cs true hz w hn h h')
    by_cases hc0 : cs.length = 0
    · have h0 : bcOk L l cs = false := by unfold bcOk; rw [hz, hc0]; rfl
      have HV : Hid (bcV L l cs = 0 ∧ bcOk L l cs = false) := ⟨bc_off h0, h0⟩
      have hce : ((cs.length : Int) == 0) = true := by rw [hc0]; rfl
      rw [HV.out.1, HV.out.2]
      clear hz hA hC h0 hc0
      go_enter Tryz.func36, Tryz.ntmps36
      go_wp2_with fail
      refine (HG.out _ HA.out HC.out).mono ?_
      rintro e w1 ⟨rfl, hb⟩
      have k2 : w1.cell? ⟨w.heap.size, 2, none⟩ = some (.slice C cs.length d) := by rw [hb.cell (p := ⟨w.heap.size, 2, none⟩) (by simp)]; simp
      have HB9 : Hid (Below w.heap.size w w1) := ((Below.refl _ _).alloc (Nat.le_refl _) _).trans (hb.mono (by simp))
      clear hb
      go_wp2
      go_ret2
      exact ⟨rfl, HB9.out⟩
    · obtain ⟨hp, hc6, hcl⟩ := puzB_parts hz
      have h0 : bcOk L l cs = true := by unfold bcOk; rw [hz]; simp; omega
      have HV : Hid (bcV L l cs = (bst (oneK L l cs) cs.length : Int) ∧ bcOk L l cs = true) := ⟨bc_on h0, h0⟩
      have h8 := (hplB_len hp).2
      have hce : ((cs.length : Int) == 0) = false := by rw [beq_eq_false_iff_ne]; omega
      have HAll : Hid (∀ (k b off : Nat) (w : World), SlAt intS w A l → SlAt tripS w (some ⟨b, off, none⟩) cs → k < cs.length → Calls Tryz.prog 44 #[.int .i64 L, .slice A l.length c, .slice (some ⟨b, off + k * 3, none⟩) 1 (d - k)] w fun e w' => ∃ (n' : Nat) (A' : Option Addr) (c' : Nat), e = .returned (.slice A' n' c') ∧ (n' : Int) = oneK L l cs k ∧ Below w.heap.size w w') := fun k b off w h h' hk => by
        have hl1 : ((cs.drop k).take 1).length = 1 := by rw [List.length_take, List.length_drop]; omega
        have h2 := pzAll_any L A (some ⟨b, off + k * 3, none⟩) c (d - k) l ((cs.drop k).take 1) w hp (cluesB_take 1 (cluesB_drop k hcl)) (by rw [hl1]; omega) h ((h'.drop k).take 1)
        rw [hl1] at h2
        refine h2.mono ?_
        rintro e w' ⟨A', n', c', he, hn', _, hb'⟩
        exact ⟨n', A', c', he, by unfold oneK; omega, hb'⟩
      have HF := Lib.hid (fun k => oneK_len (L := L) cs h8 k)
      rw [HV.out.1, HV.out.2]
      clear hz hA hC hp hcl HV h8 h0
      generalize oneK L l cs = f at *
      have HST := Lib.hid (fun k => bst_succ f k)
      have HS1 : Hid (bst f 1 = 0) := bst_one f
      go_enter Tryz.func36, Tryz.ntmps36
      go_wp2_with fail
      refine (HG.out _ HA.out HC.out).mono ?_
      rintro e w1 ⟨rfl, hb⟩
      have k0 : w1.cell? ⟨w.heap.size, 0, none⟩ = some (.int .i64 L) := by rw [hb.cell (p := ⟨w.heap.size, 0, none⟩) (by simp)]; simp
      have k1 : w1.cell? ⟨w.heap.size, 1, none⟩ = some (.slice A l.length c) := by rw [hb.cell (p := ⟨w.heap.size, 1, none⟩) (by simp)]; simp
      have k2 : w1.cell? ⟨w.heap.size, 2, none⟩ = some (.slice C cs.length d) := by rw [hb.cell (p := ⟨w.heap.size, 2, none⟩) (by simp)]; simp
      have HB := Lib.hid (((Below.refl _ w).alloc (Nat.le_refl _) (Obj.cells #[Value.int IntKind.i64 L, Value.slice A l.length c, Value.slice C cs.length d] 32)).trans (hb.mono (by simp)))
      have HA1 := Lib.hid (HA.out.below hb)
      have HC1 := Lib.hid (HC.out.below hb)
      have hs1 : w.heap.size + 1 ≤ w1.heap.size := by have := hb.size; simpa using this
      have K0 := Lib.hid k0
      have K1 := Lib.hid k1
      have K2 := Lib.hid k2
      clear hb
      go_wp2
      clear k0 k1 k2
      go_loopw [4, 5, 20] (fun bb ll i wr => ∃ (k : Nat) (m : Int), k ≤ cs.length ∧ i = .int .i64 k ∧ bb = .int .i64 (bst f k : Nat) ∧ ll = .int .i64 m ∧ (k = 0 ∨ m = f (bst f k)) ∧ Below w1.heap.size w1 wr)
        (fun _ _ i _ => cs.length - (intOf i).toNat)
      case atStart => exact ⟨0, 0, Nat.zero_le _, rfl, rfl, rfl, .inl rfl, Below.refl _ _⟩
      case round =>
        obtain ⟨W1, rfl⟩ : ∃ W, W = wr := ⟨_, rfl⟩
        obtain ⟨k, m, hk, rfl, rfl, rfl, hm, hb⟩ := hrel
        have HBR := Lib.hid hb
        have HM := Lib.hid hm
        have hsr := hb.size
        have k0 := Below.cell_some hb K0.out
        have k1 := Below.cell_some hb K1.out
        have k2 := Below.cell_some hb K2.out
        have HAr := Lib.hid (HA1.out.below hb)
        have HCr := Lib.hid (HC1.out.below hb)
        clear hb hm
        by_cases hlt : k < cs.length
        · obtain ⟨b, off, rfl, l0, _⟩ := trip_at HCr.out hlt
          have hkl : (k : Int) < (cs.length : Int) := by omega
          have hd1 : ¬ (d : Int) < (k : Int) + 1 := by omega
          have hd2 : ¬ d = k := by omega
          have hd3 : (k : Int) + 1 - k = 1 := by omega
          have hwr : IntKind.i64.wrap ((k : Int) + 1) = (k : Int) + 1 := IntWalk.i64_in _ (by omega)
          have hd4 : (k : Int) ≤ (k : Int) + 1 := by omega
          have hd5 : ¬ (k : Int) + 1 < (k : Int) := by omega
          have HAL := Lib.hid (HAll.out k b off W1.drew (HAr.out.below (Below.refl _ _).drew) (HCr.out.below (Below.refl _ _).drew) hlt)
          have HFK := Lib.hid (HF.out k)
          have HFS := Lib.hid (HF.out (bst f k))
          have HSK := Lib.hid (HST.out k)
          go_wp2
          go_region_held3 (fun w' => w'.cell? ⟨w.heap.size, 0, none⟩ = some (.int .i64 L) ∧ w'.cell? ⟨w.heap.size, 1, none⟩ = some (.slice A l.length c) ∧ w'.cell? ⟨w.heap.size, 2, none⟩ = some (.slice (some ⟨b, off, none⟩) cs.length d))
            (first | go_keep | exact ⟨k0', k1', k2'⟩)
            (first | (go_at_call 44; refine HAL.out.mono ?_; rintro e w2 ⟨n2, A2, c2, rfl, hn2, hbx⟩; have hb2 := below_drew hbx; clear hbx; have k0' := Below.cell_some hb2 k0; have k1' := Below.cell_some hb2 k1; have k2' := Below.cell_some hb2 k2; have HN2 := Lib.hid hn2; have HB2 := Lib.hid hb2; clear hn2 hb2))
          have HBZ : Hid (Below w1.heap.size w1 w2) := HBR.out.trans (HB2.out.mono hsr)
          clear k0' k1' k2'
          by_cases hk0 : k = 0
          · have e0 : ((k : Int) == 0) = true := by rw [hk0]; rfl
            have HT : Hid (((bst f (k + 1) : Nat) : Int) = (k : Int) ∧ (n2 : Int) = f (bst f (k + 1))) := by
              show _ ∧ _
              rw [HN2.out, hk0, HS1.out]
              exact ⟨rfl, rfl⟩
            clear hk0
            go_wp2
            go_roundw
            case rel => exact ⟨k + 1, n2, by omega, by go_num, by rw [HT.out.1], rfl, .inr HT.out.2, HBZ.out⟩
            case measure => simp [intOf]; omega
          · have e0 : ((k : Int) == 0) = false := by rw [beq_eq_false_iff_ne]; omega
            have hm : m = f (bst f k) := by rcases HM.out with h | h; exact absurd h hk0; exact h
            by_cases hlm : (n2 : Int) < m
            · have HT : Hid (((bst f (k + 1) : Nat) : Int) = (k : Int) ∧ (n2 : Int) = f (bst f (k + 1))) := by
                show _ ∧ _
                rw [HSK.out, if_pos (by rw [← HN2.out, ← hm]; exact hlm)]
                exact ⟨rfl, HN2.out⟩
              clear hk0 hm
              go_wp2
              go_roundw
              case rel => exact ⟨k + 1, n2, by omega, by go_num, by rw [HT.out.1], rfl, .inr HT.out.2, HBZ.out⟩
              case measure => simp [intOf]; omega
            · have HT : Hid (((bst f (k + 1) : Nat) : Int) = ((bst f k : Nat) : Int) ∧ m = f (bst f (k + 1))) := by
                show _ ∧ _
                rw [HSK.out, if_neg (by rw [← HN2.out, ← hm]; exact hlm)]
                exact ⟨rfl, hm⟩
              clear hk0 hm
              go_wp2
              go_roundw
              case rel => exact ⟨k + 1, m, by omega, by go_num, by rw [HT.out.1], rfl, .inr HT.out.2, HBZ.out⟩
              case measure => simp [intOf]; omega
        · obtain rfl : k = cs.length := by omega
          have hkl : ¬ (cs.length : Int) < (cs.length : Int) := by omega
          go_wp2
          go_ret2
          exact ⟨rfl, HB.out.trans (HBR.out.mono (by omega))⟩
end Go.Proofs.YtiodlclaempihaaGreat
