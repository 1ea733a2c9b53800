/- Puzzles, the program: BestClue. -/
import Derived.Test.YtiodlclaempihaaGreatPzH
import Derived.Test.YtiodlclaempihaaGreatPuzN
import Derived.Test.YtiodlclaempihaaGreatZaA
namespace Go.Proofs.YtiodlclaempihaaGreat
open Go.RowKit

theorem range_snoc (f : Nat → Int) (k : Nat) : (List.range (k + 1)).map f = (List.range k).map f ++ [f k] := by rw [List.range_succ, List.map_append]; rfl
set_option maxRecDepth 100000 in
set_option maxHeartbeats 4000000 in
theorem implBestClue_any (L : Int) (A C : Option Addr) (c d : Nat) (l : List Int) (cs : List (Int × Int × Int)) (w : World) (hcap : cs.length ≤ d) (hn : (l.length : Int) ≤ 9223372036854775807) (hm : (cs.length : Int) ≤ 9223372036854775807) (hA : SlAt intS w A l) (hC : SlAt tripS w C cs) :
    Calls Tryz.prog 37 #[.agg #[.int .i64 L, .slice A l.length c, .slice C cs.length d]] w fun e w' => e = .returned (.tuple #[.int .i64 (bcV L l cs), .bool (bcOk L l cs)]) ∧ Below w.heap.size w w' := by
  have HA := Lib.hid (hA.alloc (Obj.cells #[Value.int IntKind.i64 L, Value.slice A l.length c, Value.slice C cs.length d] 32))
  have HC := Lib.hid (hC.alloc (Obj.cells #[Value.int IntKind.i64 L, Value.slice A l.length c, Value.slice C cs.length d] 32))
  cases hz : puzB L l cs with
  | false =>
    have h0 : bcOk L l cs = false := by unfold bcOk; rw [hz]; rfl
    have HV : Hid (bcV L l cs = 0 ∧ bcOk L l cs = false) := ⟨bc_off h0, h0⟩
    have HG := Lib.hid (fun w h h' => implIsPuzzle_at L A C c d l cs false hz w hn hm h h')
    clear hz hA hC h0
    rw [HV.out.1, HV.out.2]
    go_enter Tryz.func37, Tryz.ntmps37
    go_wp2_with fail
    refine (HG.out _ HA.out HC.out).mono ?_
    rintro e w1 ⟨rfl, hb⟩
    go_wp2
    go_ret2
    exact ⟨rfl, ((Below.refl _ _).alloc (Nat.le_refl _) _).trans (hb.mono (by simp))⟩
  | true =>
    have HG := Lib.hid (fun w h h' => implIsPuzzle_at L A C c d l cs true hz w hn hm h h')
    by_cases hc0 : cs.length = 0
    · have h0 : bcOk L l cs = false := by unfold bcOk; rw [hz, hc0]; rfl
      have HV : Hid (bcV L l cs = 0 ∧ bcOk L l cs = false) := ⟨bc_off h0, h0⟩
      have hce : ((cs.length : Int) == 0) = true := by rw [hc0]; rfl
      rw [HV.out.1, HV.out.2]
      clear hz hA hC h0 hc0
      go_enter Tryz.func37, Tryz.ntmps37
      go_wp2_with fail
      refine (HG.out _ HA.out HC.out).mono ?_
      rintro e w1 ⟨rfl, hb⟩
      have k2 : w1.cell? ⟨w.heap.size, 2, none⟩ = some (.slice C cs.length d) := by rw [hb.cell (p := ⟨w.heap.size, 2, none⟩) (by simp)]; simp
      have HB9 : Hid (Below w.heap.size w w1) := ((Below.refl _ _).alloc (Nat.le_refl _) _).trans (hb.mono (by simp))
      clear hb
      go_wp2
      go_ret2
      exact ⟨rfl, HB9.out⟩
    · obtain ⟨i0, hi, hz0, hz1, hz2⟩ := info_parts intInfo
      obtain ⟨hp, hc6, hcl⟩ := puzB_parts hz
      have h0 : bcOk L l cs = true := by unfold bcOk; rw [hz]; simp; omega
      have HV : Hid (bcV L l cs = (bst (oneK L l cs) cs.length : Int) ∧ bcOk L l cs = true) := ⟨bc_on h0, h0⟩
      have h8 := (hplB_len hp).2
      have hce : ((cs.length : Int) == 0) = false := by rw [beq_eq_false_iff_ne]; omega
      have HAll : Hid (∀ (k b off : Nat) (w : World), SlAt intS w A l → SlAt tripS w (some ⟨b, off, none⟩) cs → k < cs.length → Calls Tryz.prog 48 #[.agg #[.int .i64 L, .slice A l.length c, .slice (some ⟨b, off, none⟩) cs.length d], .slice (some ⟨b, off + k * 3, none⟩) 1 1] w fun e w' => ∃ (n' : Nat) (A' : Option Addr) (c' : Nat), e = .returned (.slice A' n' c') ∧ (n' : Int) = oneK L l cs k ∧ Below w.heap.size w w') := fun k b off w h h' hk => by
        have hl1 : ((cs.drop k).take 1).length = 1 := by rw [List.length_take, List.length_drop]; omega
        have h2 := waysThatFit_any L A (some ⟨b, off + k * 3, none⟩) (some ⟨b, off, none⟩) c 1 cs.length d l ((cs.drop k).take 1) w hp (cluesB_take 1 (cluesB_drop k hcl)) (by rw [hl1]; omega) h ((h'.drop k).take 1)
        rw [hl1] at h2
        refine h2.mono ?_
        rintro e w' ⟨A', n', c', he, hn', _, hb'⟩
        exact ⟨n', A', c', he, by unfold oneK; omega, hb'⟩
      have HF := Lib.hid (fun k => oneK_len (L := L) cs h8 k)
      rw [HV.out.1, HV.out.2]
      clear hz hA hC hp hcl HV h8 h0
      generalize oneK L l cs = f at *
      have HIX := Lib.hid (bst_idx f cs.length (by omega))
      have HSU := Lib.hid (range_snoc f)
      go_enter Tryz.func37, Tryz.ntmps37
      go_wp2_with fail
      refine (HG.out _ HA.out HC.out).mono ?_
      rintro e w1 ⟨rfl, hb⟩
      have k0 : w1.cell? ⟨w.heap.size, 0, none⟩ = some (.int .i64 L) := by rw [hb.cell (p := ⟨w.heap.size, 0, none⟩) (by simp)]; simp
      have k1 : w1.cell? ⟨w.heap.size, 1, none⟩ = some (.slice A l.length c) := by rw [hb.cell (p := ⟨w.heap.size, 1, none⟩) (by simp)]; simp
      have k2 : w1.cell? ⟨w.heap.size, 2, none⟩ = some (.slice C cs.length d) := by rw [hb.cell (p := ⟨w.heap.size, 2, none⟩) (by simp)]; simp
      have HB := Lib.hid (((Below.refl _ w).alloc (Nat.le_refl _) (Obj.cells #[Value.int IntKind.i64 L, Value.slice A l.length c, Value.slice C cs.length d] 32)).trans (hb.mono (by simp)))
      have HA1 := Lib.hid (HA.out.below hb)
      have HC1 := Lib.hid (HC.out.below hb)
      have hs1 : w.heap.size + 1 ≤ w1.heap.size := by have := hb.size; simpa using this
      have K0 := Lib.hid k0
      have K1 := Lib.hid k1
      have K2 := Lib.hid k2
      clear hb
      go_wp2
      clear k0 k1 k2
      go_loopw [4, 18] (fun v i wr => ∃ (k : Nat) (A3 : Option Addr) (n3 k3 : Nat), k ≤ cs.length ∧ i = .int .i64 k ∧ v = .slice A3 n3 k3 ∧ Below w1.heap.size w1 wr ∧ SlOwn intS wr w1.heap.size 3 (.slice A3 n3 k3) ((List.range k).map f))
        (fun _ i _ => cs.length - (intOf i).toNat)
      case atStart => exact ⟨0, none, 0, 0, Nat.zero_le _, rfl, rfl, Below.refl _ _, SlOwn.nil _ _ _ _⟩
      case round =>
        obtain ⟨W1, rfl⟩ : ∃ W, W = wr := ⟨_, rfl⟩
        obtain ⟨k, A3, n3, k3, hk, rfl, rfl, hb, hown⟩ := hrel
        have HBR := Lib.hid hb
        have HOW := Lib.hid hown
        have hsr := hb.size
        have k0 := Below.cell_some hb K0.out
        have k1 := Below.cell_some hb K1.out
        have k2 := Below.cell_some hb K2.out
        have HAr := Lib.hid (HA1.out.below hb)
        have HCr := Lib.hid (HC1.out.below hb)
        have HLL : Hid (((List.range k).map f).length = k) := by show _ = _; simp
        have HSK := Lib.hid (HSU.out k)
        clear hb hown
        by_cases hlt : k < cs.length
        · obtain ⟨b, off, rfl, l0, _⟩ := trip_at HCr.out hlt
          have hkl : (k : Int) < (cs.length : Int) := by omega
          have hd1 : ¬ (d : Int) < (k : Int) + 1 := by omega
          have hd2 : ¬ d = k := by omega
          have hd3 : (k : Int) + 1 - k = 1 := by omega
          have hwr : IntKind.i64.wrap ((k : Int) + 1) = (k : Int) + 1 := IntWalk.i64_in _ (by omega)
          have hd4 : (k : Int) ≤ (k : Int) + 1 := by omega
          have hd5 : ¬ (k : Int) + 1 < (k : Int) := by omega
          have HAL := Lib.hid (HAll.out k b off W1.drew (HAr.out.below (Below.refl _ _).drew) (HCr.out.below (Below.refl _ _).drew) hlt)
          have HFK := Lib.hid (HF.out k)
          generalize (List.range k).map f = M at *
          go_wp2
          go_region_held3 (fun w' => w'.cell? ⟨w.heap.size, 0, none⟩ = some (.int .i64 L) ∧ w'.cell? ⟨w.heap.size, 1, none⟩ = some (.slice A l.length c) ∧ w'.cell? ⟨w.heap.size, 2, none⟩ = some (.slice (some ⟨b, off, none⟩) cs.length d))
            (first | go_keep | exact ⟨k0', k1', k2'⟩ | exact ⟨k0'', k1'', k2''⟩)
            (first
              | (go_at_call 48; refine HAL.out.mono ?_; rintro e w2 ⟨n2, A2, c2, rfl, hn2, hbx⟩; have hb2 := below_drew hbx; clear hbx; have k0' := Below.cell_some hb2 k0; have k1' := Below.cell_some hb2 k1; have k2' := Below.cell_some hb2 k2; have HN2 := Lib.hid hn2; have HB2 := Lib.hid hb2; have HO2 := Lib.hid (HOW.out.below hb2); have hs2 := hb2.size; clear hn2 hb2)
              | (refine step_append_slsv intS _ rfl _ _ 22 rfl w1.heap.size 3 i0 _ 8 Tryz.underlying22 hi hz0 hz1 hz2 rfl (by decide) _ M rfl (HO2.out.below ((Below.refl _ _).alloc (Nat.le_refl _) _)) (some ⟨w2.heap.size, 0, none⟩) 1 1 [(n2 : Int)] rfl rfl (slAt_oneI (heap_new rfl)) (by have := HLL.out; simp; omega) (by simp; omega) ?_; intro A5 n5 k5 w5 hn5 ho5 hb5 _; have k0'' := (hb5.cell (p := ⟨w.heap.size, 0, none⟩) (by simp only; omega)).trans (alloc_some k0' _); have k1'' := (hb5.cell (p := ⟨w.heap.size, 1, none⟩) (by simp only; omega)).trans (alloc_some k1' _); have k2'' := (hb5.cell (p := ⟨w.heap.size, 2, none⟩) (by simp only; omega)).trans (alloc_some k2' _); have HO5 := Lib.hid ho5; have HB5 := Lib.hid hb5; clear ho5 hb5 hn5))
          go_wp2
          go_roundw
          case rel => exact ⟨k + 1, A5, n5, k5, by omega, by go_num, rfl, HBR.out.trans ((HB2.out.mono hsr).trans (((Below.refl _ _).alloc (by omega) _).trans HB5.out)), by rw [HSK.out, ← HN2.out]; exact HO5.out⟩
          case measure => simp [intOf]; omega
        · obtain rfl : k = cs.length := by omega
          have hkl : ¬ (cs.length : Int) < (cs.length : Int) := by omega
          have hn3 : n3 = ((List.range cs.length).map f).length := by
            have h := HOW.out
            rcases h.2 with ⟨h', h0⟩ | ⟨g, cap, cur, hv, _⟩
            · simp only [Value.slice.injEq] at h'; omega
            · simp only [Value.slice.injEq] at hv; exact hv.2.1
          have HMI : Hid (Calls Tryz.prog 56 #[.slice A3 n3 k3] W1 fun e' w' => e' = .returned (.int .i64 (Lib.minOf ((List.range cs.length).map f))) ∧ w' = W1) := by
            have h := minI_any (c := k3) (by rw [HLL.out]; omega) (by rw [HLL.out]; omega) HOW.out.sl
            rw [← hn3] at h; exact h
          have HII : Hid (Calls Tryz.prog 55 #[.slice A3 n3 k3, .int .i64 (Lib.minOf ((List.range cs.length).map f))] W1 fun e' w' => e' = .returned (.int .i64 (bst f cs.length : Int)) ∧ w' = W1) := by
            have h := indexI_any (c := k3) (Lib.minOf ((List.range cs.length).map f)) (by rw [HLL.out]; omega) (by rw [HLL.out]; omega) HOW.out.sl
            rw [← hn3, HIX.out.1] at h; exact h
          generalize Lib.minOf ((List.range cs.length).map f) = mv at *
          clear hn3
          go_wp2_with fail
          refine HMI.out.mono ?_
          rintro e w3 ⟨rfl, rfl⟩
          go_wp2_with fail
          refine HII.out.mono ?_
          rintro e w4 ⟨rfl, rfl⟩
          go_wp2
          go_ret2
          exact ⟨rfl, HB.out.trans (HBR.out.mono (by omega))⟩
end Go.Proofs.YtiodlclaempihaaGreat
