/- BestWays: the model's. -/
import Derived.Test.YtiledncedekefaaBest
import Derived.Test.YtiledncedekefaaStRod
namespace Go.Proofs.Ytiledncedekefaa
open Go.RowKit

set_option maxRecDepth 100000 in
set_option maxHeartbeats 4000000 in
theorem specBest_any (L : Int) (A : Option Addr) (c : Nat) (l : List Int) (w : World) (hn : (l.length : Int) ≤ 9223372036854775807) (hA : SlAt intS w A l) :
    Calls Try.prog 58 #[.int .i64 L, .slice A l.length c] w fun e w' => e = .returned (.tuple #[.string (bwV L l), .bool (plB L l)]) ∧ Below w.heap.size w w' := by
  cases hp : plB L l with
  | false =>
    have HG := Lib.hid (stGood_at L A c l false hp w hn hA)
    have HV : Hid (bwV L l = ⟨#[]⟩) := by show _ = _; unfold bwV; rw [hp]; rfl
    clear hA hp
    go_enter Try.func58, Try.ntmps58
    go_wp2_with fail
    refine HG.out.mono ?_
    rintro e w1 ⟨rfl, rfl⟩
    go_wp2
    go_ret2
    exact ⟨ret_strb HV.out.symm rfl, Below.refl _ _⟩
  | true =>
    have HG := Lib.hid (stGood_at L A c l true hp w hn hA)
    obtain ⟨hh1, ⟨hl1, hl2⟩, hrow⟩ := (plB_iff L l).1 hp
    have HA := Lib.hid hA
    have hp12 : ((2 ^ l.length : Nat) : Int) ≤ 4096 := by
      have : 2 ^ l.length ≤ 2 ^ 12 := Nat.pow_le_pow_right (by omega) hl2
      omega
    have hpow : 1 ≤ 2 ^ l.length := Nat.one_le_two_pow
    have HW : Hid (bwV L l = txB (wyN l.length (bst (lfk L l) (2 ^ l.length)))) := by show _ = _; unfold bwV; rw [hp]; rfl
    have hw : wrap64 (2 ^ l.length) = ((2 ^ l.length : Nat) : Int) := by
      have e : (2 : Int) ^ l.length = ((2 ^ l.length : Nat) : Int) := by rw [Int.natCast_pow]; rfl
      rw [e]
      have h0 : (0 : Int) ≤ ((2 ^ l.length : Nat) : Int) := Int.natCast_nonneg _
      generalize ((2 ^ l.length : Nat) : Int) = x at *
      unfold wrap64
      omega
    have HRL := Lib.hid (fun k W A c B h => speRL L l k hp W A c B h)
    have HST := Lib.hid (fun k W A c B h => speST L l k hp W A c B h)
    have HSR := Lib.hid (fun k hk w hA => stRod_any L A c l k w hl2 hk hA)
    have HS0 := Lib.hid (HSR.out 0 (by omega) w hA)
    clear hA hp hh1 hrow
    obtain ⟨T, hT⟩ : ∃ T, T = 2 ^ l.length := ⟨_, rfl⟩
    rw [← hT] at hw hp12 HW hpow
    have HT := Lib.hid hT
    clear hT
    have HB1 : Hid (bst (lfk L l) 1 = 0) := bst_one _
    go_enter Try.func58, Try.ntmps58
    go_wp2_with fail
    refine HG.out.mono ?_
    rintro e w1 ⟨rfl, rfl⟩
    go_wp2_with fail
    refine HS0.out.mono ?_
    rintro e w2 ⟨A2, n2, c2, rfl, rfl, ho2, hb2⟩
    have HO2 := Lib.hid ho2
    have HB2 := Lib.hid hb2
    have hs2 := hb2.size
    clear ho2 hb2
    go_wp2_with fail
    have HF0 : Hid ((w2.alloc (Obj.cells #[Value.int .i64 L, Value.slice A2 l.length c2] 28)).cell? ⟨w2.heap.size, 0, none⟩ = some (.int .i64 L)) := by show _ = _; simp [go_sem]
    have HF1 : Hid ((w2.alloc (Obj.cells #[Value.int .i64 L, Value.slice A2 l.length c2] 28)).cell? ⟨w2.heap.size, 1, none⟩ = some (.slice A2 l.length c2)) := by show _ = _; simp [go_sem]
    have HZ0 : Hid ((w2.alloc (Obj.cells #[Value.int .i64 L, Value.slice A2 l.length c2] 28)).frozen? ⟨w2.heap.size, 0, none⟩ = false) := by show _ = _; simp [go_sem]
    have HZ1 : Hid ((w2.alloc (Obj.cells #[Value.int .i64 L, Value.slice A2 l.length c2] 28)).frozen? ⟨w2.heap.size, 1, none⟩ = false) := by show _ = _; simp [go_sem]
    obtain ⟨g, hg⟩ : ∃ g, g = w2.heap.size := ⟨_, rfl⟩
    have HG0 := Lib.hid hg
    rw [← hg] at HF0 HF1 HZ0 HZ1 ⊢
    have hgw : w.heap.size ≤ g := by omega
    clear hg
    go_loopw [7] (fun i wr => ∃ (k : Nat) (A5 : Option Addr) (c5 : Nat), 1 ≤ k ∧ k ≤ T ∧ i = .int .i64 k ∧ g < wr.heap.size ∧ wr.cell? ⟨g, 0, none⟩ = some (.int .i64 L) ∧ wr.cell? ⟨g, 1, none⟩ = some (.slice A5 l.length c5) ∧ wr.frozen? ⟨g, 0, none⟩ = false ∧ wr.frozen? ⟨g, 1, none⟩ = false ∧ SlOwn pairS wr 0 64 (.slice A5 l.length c5) (rdL l (wyN l.length (bst (lfk L l) k))) ∧ Below w.heap.size w wr)
      (fun i _ => T - (intOf i).toNat)
    case atStart => exact ⟨1, A2, c2, Nat.le_refl _, hpow, rfl, by rw [HG0.out]; simp, HF0.out, HF1.out, HZ0.out, HZ1.out, by rw [HB1.out]; exact own_base (HO2.out.allocA _) (Nat.zero_le _), HB2.out.alloc hs2 _⟩
    case round =>
      obtain ⟨k, A5, c5, hk1, hk, rfl, hgr, f0, f1, z0, z1, hown, hbr⟩ := hrel
      have HBr := Lib.hid hbr
      have HOr := Lib.hid hown
      have hsr := hbr.size
      clear hbr hown HF0 HF1 HZ0 HZ1 HG0 HO2 HB2 HS0
      by_cases hlt : k < T
      · have hki : (k : Int) < (T : Int) := by omega
        have HSK := Lib.hid (HSR.out k (by rw [← HT.out]; exact hlt) wr (HA.out.below HBr.out))
        have HBS := Lib.hid (bst_succ (lfk L l) k)
        have HRK := Lib.hid (fun W A c B h => HRL.out k W A c B h)
        have HRB := Lib.hid (fun W A c B h => HRL.out (bst (lfk L l) k) W A c B h)
        generalize bst (lfk L l) k = b at *
        generalize lfk L l k = q1 at *
        generalize lfk L l b = q2 at *
        go_wp2_with fail
        refine HSK.out.mono ?_
        rintro e w3 ⟨A3, n3, c3, rfl, rfl, ho3, hb3⟩
        have f0 := Below.cell_some hb3 f0
        have f1 := Below.cell_some hb3 f1
        have z0 := (hb3.frozen (p := ⟨g, 0, none⟩) hgr).trans z0
        have z1 := (hb3.frozen (p := ⟨g, 1, none⟩) hgr).trans z1
        have hs3 := hb3.size
        have HB3 := Lib.hid (HBr.out.trans (hb3.mono hsr))
        have HOr3 := Lib.hid (HOr.out.below hb3)
        have HO3 := Lib.hid ho3
        clear ho3 hb3
        obtain ⟨X, hX⟩ : ∃ X, X = w3.alloc (Obj.cells #[Value.int .i64 L, Value.slice A3 l.length c3] 28) := ⟨_, rfl⟩
        have hXz : X.heap.size = w3.heap.size + 1 := by rw [hX]; simp
        have f0 : X.cell? ⟨g, 0, none⟩ = some (.int .i64 L) := by rw [hX]; exact alloc_some f0 _
        have f1 : X.cell? ⟨g, 1, none⟩ = some (.slice A5 l.length c5) := by rw [hX]; exact alloc_some f1 _
        have d0 : X.cell? ⟨w3.heap.size, 0, none⟩ = some (.int .i64 L) := by rw [hX]; simp [go_sem]
        have d1 : X.cell? ⟨w3.heap.size, 1, none⟩ = some (.slice A3 l.length c3) := by rw [hX]; simp [go_sem]
        have hBX : Below w3.heap.size w3 X := by rw [hX]; exact (Below.refl _ _).alloc (Nat.le_refl _) _
        have z0 : X.frozen? ⟨g, 0, none⟩ = false := (hBX.frozen (p := ⟨g, 0, none⟩) (by show g < _; omega)).trans z0
        have z1 : X.frozen? ⟨g, 1, none⟩ = false := (hBX.frozen (p := ⟨g, 1, none⟩) (by show g < _; omega)).trans z1
        have HBX := Lib.hid (HB3.out.trans (hBX.mono HB3.out.size))
        have HOX := Lib.hid (HO3.out.below hBX)
        have HOrX := Lib.hid (HOr3.out.below hBX)
        have hsX : w.heap.size ≤ X.heap.size := by omega
        have BD : Hid (Below X.heap.size X X.drew) := (Below.refl _ _).drew
        have HQR : Hid (∀ W, Below X.heap.size X W → Calls Try.prog 101 #[.agg #[.int .i64 L, .slice A3 l.length c3]] W fun e w' => e = .returned (.int .i64 q1) ∧ Below W.heap.size W w') := fun W h => HRK.out W A3 c3 _ (HOX.out.below h)
        have HQB : Hid (∀ W, Below X.heap.size X W → Calls Try.prog 101 #[.agg #[.int .i64 L, .slice A5 l.length c5]] W fun e w' => e = .returned (.int .i64 q2) ∧ Below W.heap.size W w') := fun W h => HRB.out W A5 c5 _ (HOrX.out.below h)
        clear hBX
        have dD0 : X.drew.cell? ⟨g, 0, none⟩ = some (.int .i64 L) := f0
        have dD1 : X.drew.cell? ⟨g, 1, none⟩ = some (.slice A5 l.length c5) := f1
        have dD2 : X.drew.cell? ⟨w3.heap.size, 0, none⟩ = some (.int .i64 L) := d0
        have dD3 : X.drew.cell? ⟨w3.heap.size, 1, none⟩ = some (.slice A3 l.length c3) := d1
        go_upto_region 8 with fail
        generalize hQ : World.alloc w3 _ = V
        obtain rfl : V = X := by rw [hX, ← hQ]
        clear hQ hX
        have hne : ¬ w3.heap.size = g := by omega
        have hne2 : ¬ g = w3.heap.size := by omega
        by_cases hq : q1 < q2
        · go_region_held3 (fun w' => w'.cell? ⟨g, 0, none⟩ = some (.int .i64 L) ∧ w'.cell? ⟨g, 1, none⟩ = some (.slice A5 l.length c5) ∧ w'.cell? ⟨w3.heap.size, 0, none⟩ = some (.int .i64 L) ∧ w'.cell? ⟨w3.heap.size, 1, none⟩ = some (.slice A3 l.length c3))
            (first | exact ⟨j0, j1, j2, j3⟩ | exact ⟨k0, k1', k2, k3⟩ | exact ⟨dD0, dD1, dD2, dD3⟩ | go_keep)
            (first
              | (go_at_call 101; with_reducible refine (HQR.out _ B4.out).mono ?_; rintro e w5 ⟨rfl, hb⟩; have j0 := Below.cell_some hb k0; have j1 := Below.cell_some hb k1'; have j2 := Below.cell_some hb k2; have j3 := Below.cell_some hb k3; have B5 := Lib.hid (B4.out.trans (hb.mono B4.out.size)); clear hb)
              | (go_at_call 101; with_reducible refine (HQB.out _ B4.out).mono ?_; rintro e w5 ⟨rfl, hb⟩; have j0 := Below.cell_some hb k0; have j1 := Below.cell_some hb k1'; have j2 := Below.cell_some hb k2; have j3 := Below.cell_some hb k3; have B5 := Lib.hid (B4.out.trans (hb.mono B4.out.size)); clear hb)
              | (go_at_call 101; with_reducible refine (HQR.out _ BD.out).mono ?_; rintro e w4 ⟨rfl, hb⟩; have k0 := Below.cell_some hb dD0; have k1' := Below.cell_some hb dD1; have k2 := Below.cell_some hb dD2; have k3 := Below.cell_some hb dD3; have B4 := Lib.hid (BD.out.trans (hb.mono BD.out.size)); clear hb)
              | (go_at_call 101; with_reducible refine (HQB.out _ BD.out).mono ?_; rintro e w4 ⟨rfl, hb⟩; have k0 := Below.cell_some hb dD0; have k1' := Below.cell_some hb dD1; have k2 := Below.cell_some hb dD2; have k3 := Below.cell_some hb dD3; have B4 := Lib.hid (BD.out.trans (hb.mono BD.out.size)); clear hb))
          all_goals (
            have y0 := (B5.out.frozen (p := ⟨g, 0, none⟩) (by show g < _; omega)).trans z0
            have y1 := (B5.out.frozen (p := ⟨g, 1, none⟩) (by show g < _; omega)).trans z1
            have HB5 := Lib.hid (HBX.out.trans (B5.out.mono hsX))
            have HO5 := Lib.hid (HOX.out.below B5.out)
            have HOr5 := Lib.hid (HOrX.out.below B5.out)
            have hs5 := B5.out.size
            go_wp2_with fail
            go_roundw
            case rel => exact ⟨k + 1, A3, c3, by omega, by omega, by go_num, by simp; omega, by simp [go_sem, j0], by simp [go_sem, j1], by simp [go_sem, y0], by simp [go_sem, y1], by rw [HBS.out, if_pos hq]; exact own_base (ownsRow_setCell_below (ownsRow_setCell_below HO5.out (by show g < wr.heap.size; omega) _) (by show g < wr.heap.size; omega) _) (Nat.zero_le _), (HB5.out.setCell hgw _).setCell hgw _⟩
            case measure => simp [intOf]; omega)
        · go_region_held3 (fun w' => w'.cell? ⟨g, 0, none⟩ = some (.int .i64 L) ∧ w'.cell? ⟨g, 1, none⟩ = some (.slice A5 l.length c5) ∧ w'.cell? ⟨w3.heap.size, 0, none⟩ = some (.int .i64 L) ∧ w'.cell? ⟨w3.heap.size, 1, none⟩ = some (.slice A3 l.length c3))
            (first | exact ⟨j0, j1, j2, j3⟩ | exact ⟨k0, k1', k2, k3⟩ | exact ⟨dD0, dD1, dD2, dD3⟩ | go_keep)
            (first
              | (go_at_call 101; with_reducible refine (HQR.out _ B4.out).mono ?_; rintro e w5 ⟨rfl, hb⟩; have j0 := Below.cell_some hb k0; have j1 := Below.cell_some hb k1'; have j2 := Below.cell_some hb k2; have j3 := Below.cell_some hb k3; have B5 := Lib.hid (B4.out.trans (hb.mono B4.out.size)); clear hb)
              | (go_at_call 101; with_reducible refine (HQB.out _ B4.out).mono ?_; rintro e w5 ⟨rfl, hb⟩; have j0 := Below.cell_some hb k0; have j1 := Below.cell_some hb k1'; have j2 := Below.cell_some hb k2; have j3 := Below.cell_some hb k3; have B5 := Lib.hid (B4.out.trans (hb.mono B4.out.size)); clear hb)
              | (go_at_call 101; with_reducible refine (HQR.out _ BD.out).mono ?_; rintro e w4 ⟨rfl, hb⟩; have k0 := Below.cell_some hb dD0; have k1' := Below.cell_some hb dD1; have k2 := Below.cell_some hb dD2; have k3 := Below.cell_some hb dD3; have B4 := Lib.hid (BD.out.trans (hb.mono BD.out.size)); clear hb)
              | (go_at_call 101; with_reducible refine (HQB.out _ BD.out).mono ?_; rintro e w4 ⟨rfl, hb⟩; have k0 := Below.cell_some hb dD0; have k1' := Below.cell_some hb dD1; have k2 := Below.cell_some hb dD2; have k3 := Below.cell_some hb dD3; have B4 := Lib.hid (BD.out.trans (hb.mono BD.out.size)); clear hb))
          all_goals (
            have y0 := (B5.out.frozen (p := ⟨g, 0, none⟩) (by show g < _; omega)).trans z0
            have y1 := (B5.out.frozen (p := ⟨g, 1, none⟩) (by show g < _; omega)).trans z1
            have HB5 := Lib.hid (HBX.out.trans (B5.out.mono hsX))
            have HO5 := Lib.hid (HOX.out.below B5.out)
            have HOr5 := Lib.hid (HOrX.out.below B5.out)
            have hs5 := B5.out.size
            go_wp2_with fail
            go_roundw
            case rel => exact ⟨k + 1, A5, c5, by omega, by omega, by go_num, by omega, j0, j1, y0, y1, by rw [HBS.out, if_neg (by omega)]; exact HOr5.out, HB5.out⟩
            case measure => simp [intOf]; omega)
      · obtain rfl : k = T := by omega
        have HSTK := Lib.hid (HST.out _ wr A5 c5 0 HOr.out)
        rw [← HW.out] at HSTK
        go_wp2_with fail
        refine HSTK.out.mono ?_
        rintro e w3 ⟨rfl, hb3⟩
        have HB3 := Lib.hid (HBr.out.trans (hb3.mono hsr))
        clear hb3
        go_wp2
        go_ret2
        exact ⟨ret_strb rfl rfl, HB3.out⟩
end Go.Proofs.Ytiledncedekefaa
