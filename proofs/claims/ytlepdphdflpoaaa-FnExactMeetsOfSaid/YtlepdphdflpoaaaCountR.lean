/- How many pairs meet, ever and up to a time: on both sides. -/
import Derived.Test.YtlepdphdflpoaaaPairs
namespace Go.Proofs.Ytlepdphdflpoaaa
open Go.RowKit

theorem ret_ib {a b : Int} {x y : Bool} (h : a = b) (h' : x = y) : Ending.returned (.tuple #[.int .i64 a, .bool x]) = .returned (.tuple #[.int .i64 b, .bool y]) := by rw [h, h']
def ceV (l : List (Int × Int)) : Int := if rnnB l then ((tiL l).length : Int) else 0

set_option maxHeartbeats 400000 in
theorem implCountMeetsEver_any (A : Option Addr) (c : Nat) (l : List (Int × Int)) (w : World) (hcap : l.length ≤ c) (hA : AntsAt w A l) :
    Calls Try.prog 40 #[.slice A l.length c] w fun e w' => e = .returned (.tuple #[.int .i64 (ceV l), .bool (rnnB l)]) ∧ Below w.heap.size w w' := by
  have HA := Lib.hid hA
  clear hA
  cases hg : rnnB l with
  | false =>
    have HV : Hid (ceV l = 0) := by show _ = _; simp [ceV, hg]
    have HG := Lib.hid (areRunners_at A c l false hg)
    clear hg
    go_enter Try.func40, Try.ntmps40
    go_wp2_with fail
    refine (HG.out _ HA.out).mono ?_
    rintro e w1 ⟨rfl, hb⟩
    go_wp2
    go_ret2
    exact ⟨ret_ib HV.out.symm rfl, hb⟩
  | true =>
    have HV : Hid (ceV l = ((tiL l).length : Int)) := by show _ = _; simp [ceV, hg]
    have HG := Lib.hid (areRunners_at A c l true hg)
    have HT := Lib.hid (fun w h => timesOfPairs_any A c l w hg hcap h)
    clear hg
    go_enter Try.func40, Try.ntmps40
    go_wp2_with fail
    refine (HG.out _ HA.out).mono ?_
    rintro e w1 ⟨rfl, hb⟩
    have HB1 := Lib.hid hb
    clear hb
    go_wp2_with fail
    refine (HT.out _ (HA.out.below HB1.out)).mono ?_
    rintro e w2 ⟨A2, n2, c2, rfl, hn2, _, hb2⟩
    subst hn2
    go_wp2
    go_ret2
    exact ⟨ret_ib HV.out.symm rfl, HB1.out.trans (hb2.mono HB1.out.size)⟩
set_option maxHeartbeats 400000 in
theorem specCountMeetsEver_any (A : Option Addr) (c : Nat) (l : List (Int × Int)) (w : World) (hcap : l.length ≤ c) (hA : AntsAt w A l) :
    Calls Try.prog 39 #[.slice A l.length c] w fun e w' => e = .returned (.tuple #[.int .i64 (ceV l), .bool (rnnB l)]) ∧ Below w.heap.size w w' := by
  have HA := Lib.hid hA
  clear hA
  cases hg : rnnB l with
  | false =>
    have HV : Hid (ceV l = 0) := by show _ = _; simp [ceV, hg]
    have HG := Lib.hid (spGood_at A c l false hg)
    clear hg
    go_enter Try.func39, Try.ntmps39
    go_wp2_with fail
    refine (HG.out _ HA.out).mono ?_
    rintro e w1 ⟨rfl, hb⟩
    go_wp2
    go_ret2
    exact ⟨ret_ib HV.out.symm rfl, hb⟩
  | true =>
    have HV : Hid (ceV l = ((tsL l).length : Int)) := by show _ = _; simp [ceV, hg, (ti_ts l).length_eq]
    have HG := Lib.hid (spGood_at A c l true hg)
    have HT := Lib.hid (fun w h => spMeets_any A c l w hg hcap h)
    clear hg
    go_enter Try.func39, Try.ntmps39
    go_wp2_with fail
    refine (HG.out _ HA.out).mono ?_
    rintro e w1 ⟨rfl, hb⟩
    have HB1 := Lib.hid hb
    clear hb
    go_wp2_with fail
    refine (HT.out _ (HA.out.below HB1.out)).mono ?_
    rintro e w2 ⟨A2, n2, c2, rfl, hn2, _, hb2⟩
    subst hn2
    go_wp2
    go_ret2
    exact ⟨ret_ib HV.out.symm rfl, HB1.out.trans (hb2.mono HB1.out.size)⟩

/-! ### up to a time -/
def byB (t m : Int × Int) : Bool := !fLt t m
theorem cmpF_le (m t : Int × Int) : decide (cmpF m t ≤ 0) = byB t m := by
  unfold byB fLt cmpF cmpI
  by_cases h1 : m.1 * t.2 < t.1 * m.2
  · rw [if_pos h1]
    have : ¬ t.1 * m.2 < m.1 * t.2 := by omega
    simp [this]
  · rw [if_neg h1]
    by_cases h2 : t.1 * m.2 < m.1 * t.2
    · rw [if_pos h2]; simp [h2]
    · rw [if_neg h2]; simp [h2]
def cbV (l : List (Int × Int)) (n d : Int) : Int := if askB l n d then ((tiL l).countP (byB (n, d)) : Nat) else 0
theorem countP_snoc (p : Int × Int → Bool) (s : List (Int × Int)) (k : Nat) (hk : k < s.length) : (s.take (k + 1)).countP p = (s.take k).countP p + if p (s.getD k (0, 0)) then 1 else 0 := by
  rw [List.take_succ_eq_append_getElem hk, List.countP_append, getDp hk]
  simp [List.countP_cons]
theorem small_met {l : List (Int × Int)} (h : rnnB l = true) {t : Int × Int} (ht : t ∈ tiL l) : smallF t := by
  have := tiL_mem h ht
  unfold smallF; omega
theorem small_tim {n d : Int} (h : timB n d = true) : smallF (n, d) := by
  have := (timB_iff n d).1 h
  unfold smallF; simp only; omega

set_option maxHeartbeats 1000000 in
theorem implCountMeetsBy_any (A : Option Addr) (c : Nat) (l : List (Int × Int)) (n d : Int) (w : World) (hcap : l.length ≤ c) (hA : AntsAt w A l) :
    Calls Try.prog 38 #[.slice A l.length c, .agg #[.int .i64 n, .int .i64 d]] w fun e w' => e = .returned (.tuple #[.int .i64 (cbV l n d), .bool (askB l n d)]) ∧ Below w.heap.size w w' := by
  have HA := Lib.hid (hA.alloc (Obj.cells #[Value.int IntKind.i64 n, Value.int IntKind.i64 d] 32))
  clear hA
  cases hg : rnnB l with
  | false =>
    have HV : Hid (cbV l n d = 0 ∧ askB l n d = false) := by show _ ∧ _; simp [cbV, askB, hg]
    have HG := Lib.hid (areRunners_at A c l false hg)
    clear hg
    go_enter Try.func38, Try.ntmps38
    go_wp2_with fail
    refine (HG.out _ HA.out).mono ?_
    rintro e w1 ⟨rfl, hb⟩
    go_wp2
    go_ret2
    exact ⟨ret_ib HV.out.1.symm HV.out.2.symm, ((Below.refl _ _).alloc (Nat.le_refl _) _).trans (hb.mono (by simp))⟩
  | true =>
    have HG := Lib.hid (areRunners_at A c l true hg)
    cases ht : timB n d with
    | false =>
      have HV : Hid (cbV l n d = 0 ∧ askB l n d = false) := by show _ ∧ _; simp [cbV, askB, ht]
      have HM := Lib.hid (isTime_at n d false ht)
      clear hg ht
      go_enter Try.func38, Try.ntmps38
      go_wp2_with fail
      refine (HG.out _ HA.out).mono ?_
      rintro e w1 ⟨rfl, hb⟩
      have c0 : w1.cell? ⟨w.heap.size, 0, none⟩ = some (.int .i64 n) := by rw [hb.cell (p := ⟨w.heap.size, 0, none⟩) (by simp)]; simp
      have c1 : w1.cell? ⟨w.heap.size, 1, none⟩ = some (.int .i64 d) := by rw [hb.cell (p := ⟨w.heap.size, 1, none⟩) (by simp)]; simp
      have HB1 := Lib.hid (((Below.refl _ w).alloc (Nat.le_refl _) _).trans (hb.mono (by simp)))
      clear hb
      go_wp2_with fail
      refine (HM.out _).mono ?_
      rintro e w2 ⟨rfl, hb⟩
      go_wp2
      go_ret2
      exact ⟨ret_ib HV.out.1.symm HV.out.2.symm, HB1.out.trans (hb.mono HB1.out.size)⟩
    | true =>
      have HV : Hid (cbV l n d = ((tiL l).countP (byB (n, d)) : Nat) ∧ askB l n d = true) := by show _ ∧ _; simp [cbV, askB, hg, ht]
      have HM := Lib.hid (isTime_at n d true ht)
      have HT := Lib.hid (fun w h => timesOfPairs_any A c l w hg hcap h)
      have HSM : Hid (∀ k, k < (tiL l).length → smallF ((tiL l).getD k (0, 0))) := fun k hk => small_met hg (mem_getD hk)
      have HST := Lib.hid (small_tim ht)
      have hlen : (tiL l).length ≤ 144 := tiK_144 (rnn_len hg) (rnn_len hg)
      have HLEN := Lib.hid hlen
      clear hg ht
      generalize tiL l = s at *
      go_enter Try.func38, Try.ntmps38
      go_wp2_with fail
      refine (HG.out _ HA.out).mono ?_
      rintro e w1 ⟨rfl, hb⟩
      have c0 : w1.cell? ⟨w.heap.size, 0, none⟩ = some (.int .i64 n) := by rw [hb.cell (p := ⟨w.heap.size, 0, none⟩) (by simp)]; simp
      have c1 : w1.cell? ⟨w.heap.size, 1, none⟩ = some (.int .i64 d) := by rw [hb.cell (p := ⟨w.heap.size, 1, none⟩) (by simp)]; simp
      have HB1 := Lib.hid (((Below.refl _ w).alloc (Nat.le_refl _) _).trans (hb.mono (by simp)))
      have HA1 := Lib.hid (HA.out.below hb)
      clear hb
      go_wp2_with fail
      refine (HM.out _).mono ?_
      rintro e w2 ⟨rfl, hb⟩
      have c0 := Below.cell_some hb c0
      have c1 := Below.cell_some hb c1
      have HB2 := Lib.hid (HB1.out.trans (hb.mono HB1.out.size))
      have HA2 := Lib.hid (HA1.out.below hb)
      clear hb
      go_wp2_with fail
      refine (HT.out _ HA2.out).mono ?_
      rintro e w3 ⟨A3, n3, k3, rfl, hn3, ho3, hb⟩
      subst hn3
      have C0 := Lib.hid (Below.cell_some hb c0)
      have C1 := Lib.hid (Below.cell_some hb c1)
      have HB3 := Lib.hid (HB2.out.trans (hb.mono HB2.out.size))
      have HO := Lib.hid (slAt_ants ho3.sl)
      clear hb ho3 c0 c1
      go_wp2
      go_loopw [6, 20] (fun v i wr => ∃ k : Nat, k ≤ s.length ∧ i = .int .i64 k ∧ v = .int .i64 (((s.take k).countP (byB (n, d)) : Nat) : Int) ∧ Below w3.heap.size w3 wr) (fun _ i _ => s.length - (intOf i).toNat)
      case atStart => exact ⟨0, Nat.zero_le _, rfl, rfl, Below.refl _ _⟩
      case round =>
        obtain ⟨k, hk, rfl, rfl, hbr⟩ := hrel
        have HBr := Lib.hid hbr
        have HOr := Lib.hid (HO.out.below hbr)
        have c0 := Below.cell_some hbr C0.out
        have c1 := Below.cell_some hbr C1.out
        have hsl : w.heap.size < wr.heap.size := World.block_lt_of_cell? _ _ c0
        clear hbr
        by_cases hlt : k < s.length
        · obtain ⟨b, off, rfl, l0, hc⟩ := HOr.out.at_ hlt
          obtain ⟨a0, a1⟩ := hc k hlt
          have HSN := Lib.hid (countP_snoc (byB (n, d)) s k hlt)
          have hcl : (s.take k).countP (byB (n, d)) ≤ (s.take k).length := List.countP_le_length
          rw [List.length_take] at hcl
          have hl144 := HLEN.out
          have HC := Lib.hid (fun w => cmpMoments_any (s.getD k (0, 0)) (n, d) w (HSM.out k hlt) HST.out)
          have hle := cmpF_le (s.getD k (0, 0)) (n, d)
          clear hc
          generalize s.getD k (0, 0) = x at *
          generalize (s.take k).countP (byB (n, d)) = q at *
          obtain ⟨x1, x2⟩ := x
          simp only at a0 a1 HC
          generalize cmpF (x1, x2) (n, d) = z at *
          have hwq : IntKind.i64.wrap ((q : Int) + 1) = (q : Int) + 1 := IntWalk.i64_in _ (by omega)
          clear hcl hl144
          cases hby : byB (n, d) (x1, x2) with
          | false =>
            rw [hby] at hle
            have HN : Hid ((s.take (k + 1)).countP (byB (n, d)) = q) := by show _ = _; rw [HSN.out, hby]; rfl
            clear hby
            go_wp2_with fail
            refine (HC.out _).mono ?_
            rintro e w4 ⟨rfl, o1, o2, rfl⟩
            go_wp2
            go_roundw
            case rel => exact ⟨k + 1, by omega, by go_num, by rw [HN.out], ((HBr.out.alloc HBr.out.size _).alloc (by have := HBr.out.size; simp; omega) _).alloc (by have := HBr.out.size; simp; omega) _⟩
            case measure => simp [intOf]; omega
          | true =>
            rw [hby] at hle
            have HN : Hid ((s.take (k + 1)).countP (byB (n, d)) = q + 1) := by show _ = _; rw [HSN.out, hby]; rfl
            clear hby
            go_wp2_with fail
            refine (HC.out _).mono ?_
            rintro e w4 ⟨rfl, o1, o2, rfl⟩
            go_wp2
            go_roundw
            case rel => exact ⟨k + 1, by omega, by go_num, by rw [HN.out]; go_num, ((HBr.out.alloc HBr.out.size _).alloc (by have := HBr.out.size; simp; omega) _).alloc (by have := HBr.out.size; simp; omega) _⟩
            case measure => simp [intOf]; omega
        · obtain rfl : k = s.length := by omega
          go_wp2
          go_ret2
          exact ⟨ret_ib (by simp [HV.out.1]) HV.out.2.symm, HB3.out.trans (HBr.out.mono HB3.out.size)⟩

set_option maxHeartbeats 1000000 in
theorem specCountMeetsBy_any (A : Option Addr) (c : Nat) (l : List (Int × Int)) (n d : Int) (w : World) (hcap : l.length ≤ c) (hA : AntsAt w A l) :
    Calls Try.prog 37 #[.slice A l.length c, .agg #[.int .i64 n, .int .i64 d]] w fun e w' => e = .returned (.tuple #[.int .i64 (cbV l n d), .bool (askB l n d)]) ∧ Below w.heap.size w w' := by
  have HA := Lib.hid (hA.alloc (Obj.cells #[Value.int IntKind.i64 n, Value.int IntKind.i64 d] 32))
  clear hA
  cases hg : askB l n d with
  | false =>
    have HV : Hid (cbV l n d = 0) := by show _ = _; simp [cbV, hg]
    have HG := Lib.hid (asked_at A c l n d false hg)
    clear hg
    go_enter Try.func37, Try.ntmps37
    go_wp2_with fail
    refine (HG.out _ HA.out).mono ?_
    rintro e w1 ⟨rfl, hb⟩
    go_wp2
    go_ret2
    exact ⟨ret_ib HV.out.symm rfl, ((Below.refl _ _).alloc (Nat.le_refl _) _).trans (hb.mono (by simp))⟩
  | true =>
    have HG := Lib.hid (asked_at A c l n d true hg)
    have HV : Hid (cbV l n d = ((tsL l).countP (byB (n, d)) : Nat)) := by show _ = _; simp [cbV, hg, (ti_ts l).countP_eq]
    unfold askB at hg
    rw [Bool.and_eq_true] at hg
    obtain ⟨hg, ht⟩ := hg
    have HT := Lib.hid (fun w h => spMeets_any A c l w hg hcap h)
    have HSM : Hid (∀ k, k < (tsL l).length → smallF ((tsL l).getD k (0, 0))) := fun k hk => small_met hg ((ti_ts l).mem_iff.2 (mem_getD hk))
    have HST := Lib.hid (small_tim ht)
    have hlen : (tsL l).length ≤ 144 := tsK_144 (rnn_len hg) (rnn_len hg)
    have HLEN := Lib.hid hlen
    clear hg ht
    generalize tsL l = s at *
    go_enter Try.func37, Try.ntmps37
    go_wp2_with fail
    refine (HG.out _ HA.out).mono ?_
    rintro e w2 ⟨rfl, hb⟩
    have c0 : w2.cell? ⟨w.heap.size, 0, none⟩ = some (.int .i64 n) := by rw [hb.cell (p := ⟨w.heap.size, 0, none⟩) (by simp)]; simp
    have c1 : w2.cell? ⟨w.heap.size, 1, none⟩ = some (.int .i64 d) := by rw [hb.cell (p := ⟨w.heap.size, 1, none⟩) (by simp)]; simp
    have HB2 := Lib.hid (((Below.refl _ w).alloc (Nat.le_refl _) _).trans (hb.mono (by simp)))
    have HA2 := Lib.hid (HA.out.below hb)
    clear hb
    go_wp2_with fail
    refine (HT.out _ HA2.out).mono ?_
    rintro e w3 ⟨A3, n3, k3, rfl, hn3, ho3, hb⟩
    subst hn3
    have C0 := Lib.hid (Below.cell_some hb c0)
    have C1 := Lib.hid (Below.cell_some hb c1)
    have HB3 := Lib.hid (HB2.out.trans (hb.mono HB2.out.size))
    have HO := Lib.hid (slAt_ants ho3.sl)
    clear hb ho3 c0 c1
    go_wp2
    go_loopw [6, 16] (fun v i wr => ∃ k : Nat, k ≤ s.length ∧ i = .int .i64 k ∧ v = .int .i64 (((s.take k).countP (byB (n, d)) : Nat) : Int) ∧ Below w3.heap.size w3 wr) (fun _ i _ => s.length - (intOf i).toNat)
    case atStart => exact ⟨0, Nat.zero_le _, rfl, rfl, Below.refl _ _⟩
    case round =>
      obtain ⟨k, hk, rfl, rfl, hbr⟩ := hrel
      have HBr := Lib.hid hbr
      have HOr := Lib.hid (HO.out.below hbr)
      have c0 := Below.cell_some hbr C0.out
      have c1 := Below.cell_some hbr C1.out
      have hsl : w.heap.size < wr.heap.size := World.block_lt_of_cell? _ _ c0
      clear hbr
      by_cases hlt : k < s.length
      · obtain ⟨b, off, rfl, l0, hc⟩ := HOr.out.at_ hlt
        obtain ⟨a0, a1⟩ := hc k hlt
        have HSN := Lib.hid (countP_snoc (byB (n, d)) s k hlt)
        have hcl : (s.take k).countP (byB (n, d)) ≤ (s.take k).length := List.countP_le_length
        rw [List.length_take] at hcl
        have hl144 := HLEN.out
        have HC := Lib.hid (fun w => spLess_any (n, d) (s.getD k (0, 0)) w HST.out (HSM.out k hlt))
        have hle : byB (n, d) (s.getD k (0, 0)) = !fLt (n, d) (s.getD k (0, 0)) := rfl
        clear hc
        generalize s.getD k (0, 0) = x at *
        generalize (s.take k).countP (byB (n, d)) = q at *
        obtain ⟨x1, x2⟩ := x
        simp only at a0 a1 HC
        have hwq : IntKind.i64.wrap ((q : Int) + 1) = (q : Int) + 1 := IntWalk.i64_in _ (by omega)
        clear hcl hl144
        cases hby : fLt (n, d) (x1, x2) with
        | true =>
          rw [hby] at hle HC
          have HN : Hid ((s.take (k + 1)).countP (byB (n, d)) = q) := by show _ = _; rw [HSN.out, hle]; rfl
          clear hby hle
          go_wp2_with fail
          refine (HC.out _).mono ?_
          rintro e w4 ⟨rfl, hb4⟩
          go_wp2
          go_roundw
          case rel => exact ⟨k + 1, by omega, by go_num, by rw [HN.out], (HBr.out.alloc HBr.out.size _).trans (hb4.mono (by have := HBr.out.size; simp; omega))⟩
          case measure => simp [intOf]; omega
        | false =>
          rw [hby] at hle HC
          have HN : Hid ((s.take (k + 1)).countP (byB (n, d)) = q + 1) := by show _ = _; rw [HSN.out, hle]; rfl
          clear hby hle
          go_wp2_with fail
          refine (HC.out _).mono ?_
          rintro e w4 ⟨rfl, hb4⟩
          go_wp2
          go_roundw
          case rel => exact ⟨k + 1, by omega, by go_num, by rw [HN.out]; go_num, (HBr.out.alloc HBr.out.size _).trans (hb4.mono (by have := HBr.out.size; simp; omega))⟩
          case measure => simp [intOf]; omega
      · obtain rfl : k = s.length := by omega
        go_wp2
        go_ret2
        exact ⟨ret_ib (by simp [HV.out]) rfl, HB3.out.trans (HBr.out.mono HB3.out.size)⟩
end Go.Proofs.Ytlepdphdflpoaaa
