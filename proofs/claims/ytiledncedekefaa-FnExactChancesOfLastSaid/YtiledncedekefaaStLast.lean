/- stLast: of how many ways an ant is among those that fall last: the model's. -/
import Derived.Test.YtiledncedekefaaBest
import Derived.Test.YtiledncedekefaaStRod
import Derived.Test.YtiledncedekefaaRoFalls
namespace Go.Proofs.Ytiledncedekefaa
open Go.RowKit

/-- does the ant a fall last by the k-th ways? -/
def lastAt (L : Int) (l : List Int) (a k : Nat) : Bool := (fallsOf L (rdL l (wyN l.length k))).getD a 0 == lfk L l k
def laN (L : Int) (l : List Int) (a k : Nat) : Nat := ((List.range k).filter (lastAt L l a)).length
theorem laN_zero (L : Int) (l : List Int) (a : Nat) : laN L l a 0 = 0 := rfl
theorem laN_succ (L : Int) (l : List Int) (a k : Nat) : laN L l a (k + 1) = laN L l a k + if (fallsOf L (rdL l (wyN l.length k))).getD a 0 = lfk L l k then 1 else 0 := by
  unfold laN
  rw [List.range_succ, List.filter_append, List.length_append]
  congr 1
  by_cases h : (fallsOf L (rdL l (wyN l.length k))).getD a 0 = lfk L l k
  · have e : lastAt L l a k = true := by unfold lastAt; rw [h]; exact beq_self_eq_true _
    rw [if_pos h, List.filter_cons, e]; rfl
  · have e : lastAt L l a k = false := beq_eq_false_iff_ne.2 h
    rw [if_neg h, List.filter_cons, e]; rfl
theorem laN_le (L : Int) (l : List Int) (a k : Nat) : laN L l a k ≤ k := by
  unfold laN
  exact Nat.le_trans (List.length_filter_le _ _) (by simp)
theorem speRF (L : Int) (l : List Int) (k a : Nat) (hp : plB L l = true) (ha : a < l.length) (W : World) (A : Option Addr) (c B : Nat) (h : SlOwn pairS W B 64 (.slice A l.length c) (rdL l (wyN l.length k))) :
    Calls Try.prog 93 #[.agg #[.int .i64 L, .slice A l.length c]] W fun e w' => ∃ b off c', e = .returned (.slice (some ⟨b, off, none⟩) l.length c') ∧ w'.cell? ⟨b, off + a, none⟩ = some (.int .i64 ((fallsOf L (rdL l (wyN l.length k))).getD a 0)) ∧ Below W.heap.size W w' := by
  have hg := goodB_rd hp (wyN_len l.length k) (wyN_mem _ _)
  have h2 := roFalls_good L A c (rdL l (wyN l.length k)) W hg (slAt_ants h.sl)
  have hl : (fallsOf L (rdL l (wyN l.length k))).length = l.length := by rw [fallsOf_len hg, rdL_len l _ (wyN_len _ _)]
  rw [rdL_len l _ (wyN_len _ _)] at h2
  refine h2.mono ?_
  rintro e w' ⟨A', n, c', rfl, hn, ho, hb⟩
  rw [hl] at hn
  subst hn
  have ha' : a < (fallsOf L (rdL l (wyN l.length k))).length := by rw [hl]; exact ha
  obtain ⟨b, off, rfl, _, hc⟩ := ho.sl.int_at ha'
  refine ⟨b, off, c', rfl, ?_, hb⟩
  rw [hc a _ (List.getElem?_eq_getElem ha'), List.getD_eq_getElem?_getD, List.getElem?_eq_getElem ha']
  rfl

set_option maxRecDepth 100000 in
set_option maxHeartbeats 4000000 in
theorem stLast_any (L : Int) (A : Option Addr) (c : Nat) (l : List Int) (a : Nat) (w : World) (hp : plB L l = true) (ha : a < l.length) (hA : SlAt intS w A l) :
    Calls Try.prog 81 #[.int .i64 L, .slice A l.length c, .int .i64 a] w fun e w' => e = .returned (.int .i64 (laN L l a (2 ^ l.length))) ∧ Below w.heap.size w w' := by
  obtain ⟨hh1, ⟨hl1, hl2⟩, hrow⟩ := (plB_iff L l).1 hp
  have HA := Lib.hid hA
  have hp12 : ((2 ^ l.length : Nat) : Int) ≤ 4096 := by
    have : 2 ^ l.length ≤ 2 ^ 12 := Nat.pow_le_pow_right (by omega) hl2
    omega
  have hw : wrap64 (2 ^ l.length) = ((2 ^ l.length : Nat) : Int) := by
    have e : (2 : Int) ^ l.length = ((2 ^ l.length : Nat) : Int) := by rw [Int.natCast_pow]; rfl
    rw [e]
    have h0 : (0 : Int) ≤ ((2 ^ l.length : Nat) : Int) := Int.natCast_nonneg _
    generalize ((2 ^ l.length : Nat) : Int) = x at *
    unfold wrap64
    omega
  have HRL := Lib.hid (fun k W A c B h => speRL L l k hp W A c B h)
  have HRF := Lib.hid (fun k W A c B h => speRF L l k a hp ha W A c B h)
  have HSR := Lib.hid (fun k hk w hA => stRod_any L A c l k w hl2 hk hA)
  clear hA hp hh1 hrow
  obtain ⟨T, hT⟩ : ∃ T, T = 2 ^ l.length := ⟨_, rfl⟩
  rw [← hT] at hw hp12 ⊢
  have HT := Lib.hid hT
  clear hT
  go_enter Try.func81, Try.ntmps81
  go_wp2_with fail
  go_loopw [7, 8] (fun v i wr => ∃ k : Nat, k ≤ T ∧ i = .int .i64 k ∧ v = .int .i64 (laN L l a k) ∧ Below w.heap.size w wr)
    (fun _ i _ => T - (intOf i).toNat)
  case atStart => exact ⟨0, Nat.zero_le _, rfl, rfl, Below.refl _ _⟩
  case round =>
    obtain ⟨k, hk, rfl, rfl, hbr⟩ := hrel
    have HBr := Lib.hid hbr
    have hsr := hbr.size
    clear hbr
    by_cases hlt : k < T
    · have hki : (k : Int) < (T : Int) := by omega
      have HS := Lib.hid (laN_succ L l a k)
      have hle : (laN L l a k : Int) ≤ 4096 := by have := laN_le L l a k; omega
      have HSK := Lib.hid (HSR.out k (by rw [← HT.out]; exact hlt) wr (HA.out.below HBr.out))
      have HRK := Lib.hid (fun W A c B h => HRL.out k W A c B h)
      have HFK := Lib.hid (fun W A c B h => HRF.out k W A c B h)
      generalize lfk L l k = q1 at *
      generalize (fallsOf L (rdL l (wyN l.length k))).getD a 0 = q2 at *
      generalize laN L l a k = s at *
      go_wp2_with fail
      refine HSK.out.mono ?_
      rintro e w3 ⟨A3, n3, c3, rfl, rfl, ho3, hb3⟩
      have hs3 := hb3.size
      have HB3 := Lib.hid (HBr.out.trans (hb3.mono hsr))
      have HO3 := Lib.hid ho3
      clear ho3 hb3
      obtain ⟨X, hX⟩ : ∃ X, X = w3.alloc (Obj.cells #[Value.int .i64 L, Value.slice A3 l.length c3] 28) := ⟨_, rfl⟩
      have hXz : X.heap.size = w3.heap.size + 1 := by rw [hX]; simp
      have d0 : X.cell? ⟨w3.heap.size, 0, none⟩ = some (.int .i64 L) := by rw [hX]; simp [go_sem]
      have d1 : X.cell? ⟨w3.heap.size, 1, none⟩ = some (.slice A3 l.length c3) := by rw [hX]; simp [go_sem]
      have hBX : Below w3.heap.size w3 X := by rw [hX]; exact (Below.refl _ _).alloc (Nat.le_refl _) _
      have HBX := Lib.hid (HB3.out.trans (hBX.mono HB3.out.size))
      have HOX := Lib.hid (HO3.out.below hBX)
      have hsX : w.heap.size ≤ X.heap.size := by omega
      have BD : Hid (Below X.heap.size X X.drew) := (Below.refl _ _).drew
      have HQL : Hid (∀ W, Below X.heap.size X W → Calls Try.prog 101 #[.agg #[.int .i64 L, .slice A3 l.length c3]] W fun e w' => e = .returned (.int .i64 q1) ∧ Below W.heap.size W w') := fun W h => HRK.out W A3 c3 _ (HOX.out.below h)
      have HQF : Hid (∀ W, Below X.heap.size X W → Calls Try.prog 93 #[.agg #[.int .i64 L, .slice A3 l.length c3]] W fun e w' => ∃ b off c', e = .returned (.slice (some ⟨b, off, none⟩) l.length c') ∧ w'.cell? ⟨b, off + a, none⟩ = some (.int .i64 q2) ∧ Below W.heap.size W w') := fun W h => HFK.out W A3 c3 _ (HOX.out.below h)
      clear hBX
      have dD2 : X.drew.cell? ⟨w3.heap.size, 0, none⟩ = some (.int .i64 L) := d0
      have dD3 : X.drew.cell? ⟨w3.heap.size, 1, none⟩ = some (.slice A3 l.length c3) := d1
      have hai : (a : Int) < (l.length : Int) := by omega
      go_upto_region 6 with fail
      generalize hQ : World.alloc w3 _ = V
      obtain rfl : V = X := by rw [hX, ← hQ]
      clear hQ hX
      by_cases hq : q2 = q1
      · go_region_with (first
            | (go_at_call 101; with_reducible refine (HQL.out _ B4.out).mono ?_; rintro e w5 ⟨rfl, hb⟩; have j2 := Below.cell_some hb k2; have j3 := Below.cell_some hb k3; have jf := Below.cell_some hb kf; have B5 := Lib.hid (B4.out.trans (hb.mono B4.out.size)); clear hb)
            | (go_at_call 93; with_reducible refine (HQF.out _ B4.out).mono ?_; rintro e w5 ⟨bf, off, cf, rfl, jf, hb⟩; have j2 := Below.cell_some hb k2; have j3 := Below.cell_some hb k3; have B5 := Lib.hid (B4.out.trans (hb.mono B4.out.size)); clear hb)
            | (go_at_call 101; with_reducible refine (HQL.out _ BD.out).mono ?_; rintro e w4 ⟨rfl, hb⟩; have k2 := Below.cell_some hb dD2; have k3 := Below.cell_some hb dD3; have B4 := Lib.hid (BD.out.trans (hb.mono BD.out.size)); clear hb)
            | (go_at_call 93; with_reducible refine (HQF.out _ BD.out).mono ?_; rintro e w4 ⟨bf, off, cf, rfl, kf, hb⟩; have k2 := Below.cell_some hb dD2; have k3 := Below.cell_some hb dD3; have B4 := Lib.hid (BD.out.trans (hb.mono BD.out.size)); clear hb))
        all_goals (
          have HB5 := Lib.hid (HBX.out.trans (B5.out.mono hsX))
          have hs5 := B5.out.size
          go_wp2_with fail
          go_roundw
          case rel => exact ⟨k + 1, by omega, by go_num, by rw [HS.out, if_pos hq]; rfl, HB5.out⟩
          case measure => simp [intOf]; omega)
      · go_region_with (first
            | (go_at_call 101; with_reducible refine (HQL.out _ B4.out).mono ?_; rintro e w5 ⟨rfl, hb⟩; have j2 := Below.cell_some hb k2; have j3 := Below.cell_some hb k3; have jf := Below.cell_some hb kf; have B5 := Lib.hid (B4.out.trans (hb.mono B4.out.size)); clear hb)
            | (go_at_call 93; with_reducible refine (HQF.out _ B4.out).mono ?_; rintro e w5 ⟨bf, off, cf, rfl, jf, hb⟩; have j2 := Below.cell_some hb k2; have j3 := Below.cell_some hb k3; have B5 := Lib.hid (B4.out.trans (hb.mono B4.out.size)); clear hb)
            | (go_at_call 101; with_reducible refine (HQL.out _ BD.out).mono ?_; rintro e w4 ⟨rfl, hb⟩; have k2 := Below.cell_some hb dD2; have k3 := Below.cell_some hb dD3; have B4 := Lib.hid (BD.out.trans (hb.mono BD.out.size)); clear hb)
            | (go_at_call 93; with_reducible refine (HQF.out _ BD.out).mono ?_; rintro e w4 ⟨bf, off, cf, rfl, kf, hb⟩; have k2 := Below.cell_some hb dD2; have k3 := Below.cell_some hb dD3; have B4 := Lib.hid (BD.out.trans (hb.mono BD.out.size)); clear hb))
        all_goals (
          have HB5 := Lib.hid (HBX.out.trans (B5.out.mono hsX))
          have hs5 := B5.out.size
          go_wp2_with fail
          go_roundw
          case rel => exact ⟨k + 1, by omega, by go_num, by rw [HS.out, if_neg hq]; rfl, HB5.out⟩
          case measure => simp [intOf]; omega)
    · obtain rfl : k = T := by omega
      go_wp2
      go_ret
      exact ⟨rfl, HBr.out⟩
end Go.Proofs.Ytiledncedekefaa
