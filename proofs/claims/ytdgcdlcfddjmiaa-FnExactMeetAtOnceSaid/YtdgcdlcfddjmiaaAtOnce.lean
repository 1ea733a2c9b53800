/- The greatest number of meetings at one time, on both sides. -/
import Derived.Test.YtdgcdlcfddjmiaaMeetA
import Derived.Maps.OwnOps
import Derived.Maps.Views
import Derived.Maps.OwnSet
namespace Go.Proofs.Ytdgcdlcfddjmiaa
open Go.RowKit
open Go.Maps (Keyed)

def mxI (a b : Int) : Int := if a < b then b else a
def cntT (t : Int) (m : List (Int × Int × Int)) : Nat := (m.filter fun x => x.1 == t).length
theorem cntT_snoc (t : Int) (m : List (Int × Int × Int)) (k : Nat) (x : Int × Int × Int) (hx : m[k]? = some x) : cntT t (m.take (k + 1)) = cntT t (m.take k) + if x.1 = t then 1 else 0 := by
  obtain ⟨hk, rfl⟩ := List.getElem?_eq_some_iff.1 hx
  unfold cntT
  rw [List.take_succ_eq_append_getElem hk, List.filter_append, List.length_append]
  congr 1
  by_cases h : m[k].1 = t <;> simp [h]
theorem cntT_le (t : Int) (m : List (Int × Int × Int)) (k : Nat) : cntT t (m.take k) ≤ k := by
  unfold cntT
  refine Nat.le_trans (List.length_filter_le _ _) ?_
  rw [List.length_take]; omega
def moI (m : List (Int × Int × Int)) : Nat → Int
  | 0 => 0
  | k + 1 => mxI (moI m k) (cntT (m.getD k (0, 0, 0)).1 (m.take (k + 1)) : Nat)
/-- (most, now) -/
def aoS (m : List (Int × Int × Int)) : Nat → Int × Int
  | 0 => (0, 0)
  | k + 1 => (mxI (aoS m k).1 ((if 0 < k ∧ ¬ (m.getD (k - 1) (0, 0, 0)).1 = (m.getD k (0, 0, 0)).1 then 0 else (aoS m k).2) + 1), (if 0 < k ∧ ¬ (m.getD (k - 1) (0, 0, 0)).1 = (m.getD k (0, 0, 0)).1 then 0 else (aoS m k).2) + 1)
theorem ao_eq {m : List (Int × Int × Int)} (hs : m.Pairwise fun a b => a.1 ≤ b.1) : ∀ k, k ≤ m.length → (aoS m k).1 = moI m k ∧ (aoS m k).2 = if k = 0 then 0 else ((cntT (m.getD (k - 1) (0, 0, 0)).1 (m.take k) : Nat) : Int)
  | 0, _ => ⟨rfl, rfl⟩
  | k + 1, hk => by
    obtain ⟨h1, h2⟩ := ao_eq hs k (by omega)
    have hkl : k < m.length := hk
    have hp := List.pairwise_iff_getElem.1 hs
    have e : m.getD k (0, 0, 0) = m[k] := getD_lt hkl
    have hc := cntT_snoc m[k].1 m k _ (List.getElem?_eq_getElem hkl)
    rw [if_pos rfl] at hc
    have hnow : (if 0 < k ∧ ¬ (m.getD (k - 1) (0, 0, 0)).1 = (m.getD k (0, 0, 0)).1 then 0 else (aoS m k).2) + 1 = ((cntT (m.getD k (0, 0, 0)).1 (m.take (k + 1)) : Nat) : Int) := by
      rw [e, hc]
      by_cases hk0 : 0 < k
      · have e1 : m.getD (k - 1) (0, 0, 0) = m[k - 1] := getD_lt (by omega)
        rw [e1] at h2 ⊢
        by_cases ht : m[k - 1].1 = m[k].1
        · rw [if_neg (fun h => h.2 ht), h2, if_neg (by omega), ht]
          omega
        · rw [if_pos ⟨hk0, ht⟩]
          have hz : cntT m[k].1 (m.take k) = 0 := by
            unfold cntT
            rw [List.length_eq_zero_iff, List.filter_eq_nil_iff]
            intro x hx
            obtain ⟨j, hj, rfl⟩ := List.mem_iff_getElem.1 hx
            rw [List.length_take] at hj
            rw [List.getElem_take]
            have h3 := hp (k - 1) k (by omega) hkl (by omega)
            have h4 : m[j].1 ≤ m[k - 1].1 := by
              by_cases hjk : j = k - 1
              · subst hjk; omega
              · exact hp j (k - 1) (by omega) (by omega) (by omega)
            simp
            omega
          rw [hz]
          rfl
      · obtain rfl : k = 0 := by omega
        rw [if_neg (by omega), h2, if_pos rfl]
        have hz : cntT m[0].1 (m.take 0) = 0 := by simp [cntT]
        rw [hz]
        rfl
    refine ⟨?_, ?_⟩
    · show mxI (aoS m k).1 _ = mxI (moI m k) _
      rw [h1, hnow]
    · show _ + 1 = _
      rw [if_neg (show ¬ (k + 1 = 0) by omega), Nat.add_sub_cancel]
      exact hnow
theorem moI_bound (m : List (Int × Int × Int)) : ∀ k, 0 ≤ moI m k ∧ moI m k ≤ k
  | 0 => ⟨Int.le_refl _, Int.le_refl _⟩
  | k + 1 => by
    obtain ⟨h1, h2⟩ := moI_bound m k
    have := cntT_le (m.getD k (0, 0, 0)).1 m (k + 1)
    unfold moI mxI
    split <;> omega
theorem meL_times (L : Int) (l : List (Int × Int)) : (meL L l).Pairwise fun a b => a.1 ≤ b.1 := by
  have h := mAllS_srt (genS L l l.length)
  refine List.Pairwise.imp ?_ h
  intro a b hab
  rw [mLt_no] at hab
  omega
def maV (L : Int) (l : List (Int × Int)) : Int := moI (meV L l) (meV L l).length
theorem maV_good {L : Int} {l : List (Int × Int)} (hg : goodB L l = true) : maV L l = (aoS (meL L l) (meL L l).length).1 := by
  unfold maV
  rw [meV_good hg]
  exact (ao_eq (meL_times L l) _ (Nat.le_refl _)).1.symm

theorem most_any (a b : Int) (w : World) : Calls Try.prog 75 #[.int .i64 a, .int .i64 b] w fun e w' => e = .returned (.int .i64 (mxI a b)) ∧ w = w' := by
  by_cases h : b < a
  · have HV : Hid (mxI a b = a) := by show _ = _; unfold mxI; rw [if_neg (by omega)]
    go_enter Try.func75, Try.ntmps75
    go_wp2
    go_ret
    exact ⟨ret_int HV.out.symm, rfl⟩
  · have HV : Hid (mxI a b = b) := by show _ = _; unfold mxI; split <;> omega
    go_enter Try.func75, Try.ntmps75
    go_wp2
    go_ret
    exact ⟨ret_int HV.out.symm, rfl⟩

set_option maxRecDepth 100000 in
set_option maxHeartbeats 2000000 in
theorem specMeetAtOnce_any (L : Int) (A : Option Addr) (c : Nat) (l : List (Int × Int)) (w : World) (hcap : l.length ≤ c) (hA : AntsAt w A l) :
    Calls Try.prog 46 #[.agg #[.int .i64 L, .slice A l.length c]] w fun e w' => e = .returned (.tuple #[.int .i64 (maV L l), .bool (goodB L l)]) ∧ Below w.heap.size w w' := by
  have HA := Lib.hid (hA.alloc (Obj.cells #[Value.int IntKind.i64 L, Value.slice A l.length c] 31))
  clear hA
  cases hg : goodB L l with
  | false =>
    have HV : Hid (maV L l = 0) := by show _ = _; unfold maV; rw [meV_bad hg]; rfl
    have HG : Hid (∀ w, AntsAt w A l → Calls Try.prog 51 #[.agg #[.int .i64 L, .slice A l.length c]] w fun e w' => e = .returned (.bool false) ∧ Below w.heap.size w w') := fun w h => by
      rw [← hg]; exact roGood_any L A c l w h
    clear hg
    go_enter Try.func46, Try.ntmps46
    go_wp2_with fail
    refine (HG.out _ HA.out).mono ?_
    rintro e w1 ⟨rfl, hb⟩
    go_wp2
    go_ret2
    exact ⟨ret_ib HV.out.symm rfl, ((Below.refl _ _).alloc (Nat.le_refl _) _).trans (hb.mono (by simp))⟩
  | true =>
    have HV := Lib.hid (maV_good hg)
    have HG : Hid (∀ w, AntsAt w A l → Calls Try.prog 51 #[.agg #[.int .i64 L, .slice A l.length c]] w fun e w' => e = .returned (.bool true) ∧ Below w.heap.size w w') := fun w h => by
      rw [← hg]; exact roGood_any L A c l w h
    have HM := Lib.hid (fun w h => meAll_good L A c l w hg hcap h)
    have hml := meL_len hg
    have HBD : Hid (∀ k, k ≤ (meL L l).length → 0 ≤ (aoS (meL L l) k).1 ∧ (aoS (meL L l) k).1 ≤ k ∧ 0 ≤ (aoS (meL L l) k).2 ∧ (aoS (meL L l) k).2 ≤ k) := fun k hk => by
      obtain ⟨h1, h2⟩ := ao_eq (meL_times L l) k hk
      have h3 := moI_bound (meL L l) k
      rw [h1, h2]
      have h4 := cntT_le ((meL L l).getD (k - 1) (0, 0, 0)).1 (meL L l) k
      refine ⟨h3.1, h3.2, ?_, ?_⟩ <;> split <;> omega
    clear hg
    generalize meL L l = m at *
    go_enter Try.func46, Try.ntmps46
    go_wp2_with fail
    refine (HG.out _ HA.out).mono ?_
    rintro e w1 ⟨rfl, hb⟩
    have c0 : w1.cell? ⟨w.heap.size, 0, none⟩ = some (.int .i64 L) := by rw [hb.cell (p := ⟨w.heap.size, 0, none⟩) (by simp)]; simp
    have c1 : w1.cell? ⟨w.heap.size, 1, none⟩ = some (.slice A l.length c) := by rw [hb.cell (p := ⟨w.heap.size, 1, none⟩) (by simp)]; simp
    have HB := Lib.hid (((Below.refl _ w).alloc (Nat.le_refl _) _).trans (hb.mono (by simp)))
    have HA1 := Lib.hid (HA.out.below hb)
    clear hb
    go_wp2_with fail
    refine (HM.out _ HA1.out).mono ?_
    rintro e w3 ⟨A3, n3, c3, rfl, hn3, ho3, hb3⟩
    subst hn3
    have HB3 := Lib.hid (HB.out.trans (hb3.mono HB.out.size))
    have HO := Lib.hid ho3.sl
    clear hb3 ho3 c0 c1
    go_wp2
    go_loopw [4, 5, 16] (fun v u i wr => ∃ k : Nat, k ≤ m.length ∧ i = .int .i64 k ∧ v = .int .i64 (aoS m k).1 ∧ u = .int .i64 (aoS m k).2 ∧ Below w3.heap.size w3 wr)
      (fun _ _ i _ => m.length - (intOf i).toNat)
    case atStart => exact ⟨0, Nat.zero_le _, rfl, rfl, rfl, Below.refl _ _⟩
    case round =>
      obtain ⟨k, hk, rfl, rfl, rfl, hbr⟩ := hrel
      have HBr := Lib.hid hbr
      have HOr := Lib.hid (HO.out.below hbr)
      clear hbr
      by_cases hlt : k < m.length
      · obtain ⟨b, off, rfl, l0, hc⟩ := HOr.out.trip_at hlt
        obtain ⟨a0, a1, a2⟩ := hc k _ (List.getElem?_eq_getElem hlt)
        have hbd := HBD.out k (by omega)
        have HS : Hid (aoS m (k + 1) = (mxI (aoS m k).1 ((if 0 < k ∧ ¬ (m.getD (k - 1) (0, 0, 0)).1 = (m[k]'hlt).1 then 0 else (aoS m k).2) + 1), (if 0 < k ∧ ¬ (m.getD (k - 1) (0, 0, 0)).1 = (m[k]'hlt).1 then 0 else (aoS m k).2) + 1)) := by
          show _ = _; rw [← getD_lt (d := (0, 0, 0)) hlt]; rfl
        have hpre : 0 < k → ∃ y, (m.getD (k - 1) (0, 0, 0)) = y ∧ wr.cell? ⟨b, off + (k - 1) * 3, none⟩ = some (.int .i64 y.1) := fun h0 => by
          refine ⟨_, rfl, ?_⟩
          have h1 : k - 1 < m.length := by omega
          have := (hc (k - 1) _ (List.getElem?_eq_getElem h1)).1
          rw [getD_lt h1]; exact this
        have HPRE := Lib.hid hpre
        clear hc hpre
        generalize m[k]'hlt = x at *
        obtain ⟨x1, x2, x3⟩ := x
        simp only at a0 a1 a2
        generalize aoS m k = s at *
        obtain ⟨s1, s2⟩ := s
        simp only at hbd
        have hbb : Below wr.heap.size wr (wr.alloc (Obj.cells #[Value.int IntKind.i64 x1, Value.int IntKind.i64 x2, Value.int IntKind.i64 x3] 42)) := (Below.refl _ _).alloc (Nat.le_refl _) _
        have HBB := Lib.hid (HBr.out.trans (hbb.mono HBr.out.size))
        clear hbb
        cases k with
        | zero =>
          simp only [Nat.zero_mul, Nat.add_zero] at a0 a1 a2
          have HE : Hid (aoS m (0 + 1) = (mxI s1 (s2 + 1), s2 + 1)) := by show _ = _; rw [HS.out, if_neg (by omega)]
          have hd0 : decide ((0 : Int) < 0) = false := by decide
          have HMX := Lib.hid (fun w => most_any s1 (s2 + 1) w)
          go_wp2
          go_quiet (fail)
          go_wp2_with fail
          refine (HMX.out _).mono ?_
          rintro e w' ⟨rfl, rfl⟩
          go_wp2
          go_roundw
          case rel => exact ⟨0 + 1, by omega, by go_num, by rw [HE.out], by rw [HE.out], ⟨HBB.out.os, HBB.out.tape, HBB.out.output, HBB.out.size, HBB.out.block⟩⟩
          case measure => simp [intOf]; omega
        | succ j =>
          obtain ⟨y, hy, b0⟩ := HPRE.out (by omega)
          rw [Nat.add_sub_cancel] at hy b0
          have hw : IntKind.i64.wrap (((j + 1 : Nat) : Int) - 1) = (j : Int) := by rw [IntWalk.i64_in _ (by omega)]; omega
          have hw2 : IntKind.i64.wrap ((j : Int) + 1 - 1) = (j : Int) := by rw [IntWalk.i64_in _ (by omega)]; omega
          have hw3 : IntKind.i64.wrap (j : Int) = (j : Int) := IntWalk.i64_in _ (by omega)
          have hg0 : (0 : Int) < ((j + 1 : Nat) : Int) := by omega
          have hg1 : (0 : Int) < (j : Int) + 1 := by omega
          have hj0 : (0 : Int) ≤ (j : Int) := by omega
          have hj1 : (j : Int) < (m.length : Int) := by omega
          obtain ⟨y1, y2, y3⟩ := y
          simp only at b0
          have HY := Lib.hid hy
          clear hy
          by_cases ht : y1 = x1
          · have HE : Hid (aoS m (j + 1 + 1) = (mxI s1 (s2 + 1), s2 + 1)) := by
              show _ = _
              rw [HS.out, if_neg]
              rintro ⟨_, h⟩
              rw [Nat.add_sub_cancel, HY.out] at h
              exact h ht
            have d : (y1 != x1) = false := by simp [ht]
            have HMX := Lib.hid (fun w => most_any s1 (s2 + 1) w)
            clear ht
            go_wp2
            go_quiet (fail)
            go_wp2_with fail
            refine (HMX.out _).mono ?_
            rintro e w' ⟨rfl, rfl⟩
            go_wp2
            go_roundw
            case rel => exact ⟨j + 1 + 1, by omega, by go_num, by rw [HE.out], by rw [HE.out], ⟨HBB.out.os, HBB.out.tape, HBB.out.output, HBB.out.size, HBB.out.block⟩⟩
            case measure => simp [intOf]; omega
          · have HE : Hid (aoS m (j + 1 + 1) = (mxI s1 (0 + 1), 0 + 1)) := by
              show _ = _
              rw [HS.out, if_pos]
              refine ⟨by omega, ?_⟩
              rw [Nat.add_sub_cancel, HY.out]
              exact ht
            have d : (y1 != x1) = true := by simpa using ht
            have HMX := Lib.hid (fun w => most_any s1 1 w)
            clear ht
            go_wp2
            go_quiet (fail)
            go_wp2_with fail
            refine (HMX.out _).mono ?_
            rintro e w' ⟨rfl, rfl⟩
            go_wp2
            go_roundw
            case rel => exact ⟨j + 1 + 1, by omega, by go_num, by rw [HE.out]; rfl, by rw [HE.out]; rfl, ⟨HBB.out.os, HBB.out.tape, HBB.out.output, HBB.out.size, HBB.out.block⟩⟩
            case measure => simp [intOf]; omega
      · obtain rfl : k = m.length := by omega
        go_wp2
        go_ret2
        exact ⟨ret_ib HV.out.symm rfl, HB3.out.trans (HBr.out.mono HB3.out.size)⟩

theorem law3 : Keyed Try.prog 3 := Maps.int_keyed Try.underlying3
theorem zero3 (w : World) : (zeroValue 3).run Try.prog w = .ok (.int .i64 0) w := by kernel_rfl
theorem tkey (t : Int) : WideAt.IsKeyLit (Lit.int .i64 t) := trivial
def Cnt (D : DataW Unit) (m : List (Int × Int × Int)) : Prop := ∀ t : Int, 0 ≤ t → t ≤ 1000 → D.atKey (.int .i64 t) (.lit (.int .i64 0)) = .lit (.int .i64 ((cntT t m : Nat) : Int))

set_option maxRecDepth 100000 in
set_option maxHeartbeats 2000000 in
theorem implMeetAtOnce_any (L : Int) (A : Option Addr) (c : Nat) (l : List (Int × Int)) (w : World) (hA : AntsAt w A l) :
    Calls Try.prog 47 #[.agg #[.int .i64 L, .slice A l.length c]] w fun e w' => e = .returned (.tuple #[.int .i64 (maV L l), .bool (goodB L l)]) ∧ Below w.heap.size w w' := by
  have hmm := @run_makeMap Try.prog
  have HA := Lib.hid (hA.alloc (Obj.cells #[Value.int IntKind.i64 L, Value.slice A l.length c] 31))
  clear hA
  have HM := Lib.hid (fun w h => implMeetingsOf_any L A c l w h)
  have hml := meV_len L l
  have HV : Hid (maV L l = moI (meV L l) (meV L l).length) := rfl
  have HTB : Hid (∀ x ∈ meV L l, 0 ≤ x.1 ∧ x.1 ≤ 1000) := fun x hx => by
    cases hg : goodB L l with
    | true =>
      rw [meV_good hg] at hx
      have h1 := meL_ok hg hx
      have h2 := (good_hdr hg).2.1
      omega
    | false => rw [meV_bad hg] at hx; cases hx
  generalize meV L l = m at *
  generalize goodB L l = g at *
  go_enter Try.func47, Try.ntmps47
  go_wp2_with fail
  refine (HM.out _ HA.out).mono ?_
  rintro e w1 ⟨A1, n1, c1, rfl, hn1, ho1, hb⟩
  subst hn1
  have HB1 := Lib.hid (((Below.refl _ w).alloc (Nat.le_refl _) _).trans (hb.mono (by simp)))
  have HO := Lib.hid ho1.sl
  clear hb ho1
  go_wp2
  go_loopw [6, 18] (fun v i wr => ∃ (k : Nat) (D : DataW Unit), k ≤ m.length ∧ i = .int .i64 k ∧ v = .int .i64 (moI m k) ∧ wr.ownsMap Try.prog 3 (plainElem Try.prog 3) w1.heap.size k D ∧ Cnt D (m.take k) ∧ Below w1.heap.size w1 wr)
    (fun _ i _ => m.length - (intOf i).toNat)
  case atStart => exact ⟨0, .map [], Nat.zero_le _, rfl, rfl, World.ownsMap_made _ _ _ _, fun t _ _ => by simp [cntT, DataW.atKey], (Below.refl _ _).alloc (Nat.le_refl _) _⟩
  case round =>
    obtain ⟨k, D, hk, rfl, rfl, hown, hcn, hbr⟩ := hrel
    have HBr := Lib.hid hbr
    have hsr := hbr.size
    have HOr := Lib.hid (HO.out.below hbr)
    have HCN := Lib.hid hcn
    clear hbr hcn
    by_cases hlt : k < m.length
    · obtain ⟨b, off, rfl, l0, hc⟩ := HOr.out.trip_at hlt
      obtain ⟨a0, a1, a2⟩ := hc k _ (List.getElem?_eq_getElem hlt)
      have ht := HTB.out _ (List.getElem_mem hlt)
      have HSN := Lib.hid (fun t => cntT_snoc t m k _ (List.getElem?_eq_getElem hlt))
      have HMO : Hid (moI m (k + 1) = mxI (moI m k) (cntT (m[k]'hlt).1 (m.take (k + 1)) : Nat)) := by show _ = _; rw [← getD_lt (d := (0, 0, 0)) hlt]; rfl
      have hmb := moI_bound m k
      have HCB := Lib.hid (fun t => cntT_le t m k)
      clear hc
      generalize m[k]'hlt = x at *
      obtain ⟨x1, x2, x3⟩ := x
      simp only at a0 a1 a2 ht
      generalize moI m k = s at *
      have hwf : (Lit.int .i64 x1).wf = true := WalkArith.wf_i64 (by omega)
      have hkey : keyOf Try.prog 3 (.int .i64 x1) = some (.int .i64 x1) := Maps.keyOf_int_mk Try.underlying3 hwf
      have HKL := Lib.hid (tkey x1)
      obtain ⟨n0, hn0⟩ : ∃ n0 : Nat, n0 = cntT x1 (m.take k) := ⟨_, rfl⟩
      have hn0k : n0 ≤ k := by rw [hn0]; exact HCB.out x1
      have HD0 : Hid (D.atKey (.int .i64 x1) (.lit (.int .i64 0)) = .lit (.int .i64 (n0 : Int))) := by rw [hn0]; exact HCN.out x1 ht.1 ht.2
      have HN0 := Lib.hid hn0
      have HC1 : Hid (cntT x1 (m.take (k + 1)) = n0 + 1) := by show _ = _; rw [HSN.out, if_pos rfl, hn0]
      clear hn0 hwf
      have hown2 := hown.alloc (Obj.cells #[Value.int IntKind.i64 x1, Value.int IntKind.i64 x2, Value.int IntKind.i64 x3] 42)
      have hbb : Below wr.heap.size wr (wr.alloc (Obj.cells #[Value.int IntKind.i64 x1, Value.int IntKind.i64 x2, Value.int IntKind.i64 x3] 42)) := (Below.refl _ _).alloc (Nat.le_refl _) _
      have HBB := Lib.hid (HBr.out.trans (hbb.mono hsr))
      have z0 : (wr.alloc (Obj.cells #[Value.int IntKind.i64 x1, Value.int IntKind.i64 x2, Value.int IntKind.i64 x3] 42)).cell? ⟨wr.heap.size, 0, none⟩ = some (.int .i64 x1) := by simp
      have hmlt := hown.lt
      have tok1 : True := trivial
      clear hbb hown
      have HOWN := Lib.hid hown2
      clear hown2
      have HE : Hid (moI m (k + 1) = max s ((n0 : Int) + 1)) := by show _ = _; rw [HMO.out, HC1.out]; unfold mxI; split <;> omega
      go_wp2_with (first
        | (at_lookup; have _t := tok1; refine wpList_lookup_own_int _ rfl _ _ 83 rfl 3 3 .i64 law3 Try.underlying83 Try.underlying3 (zero3 _) w1.heap.size k D rfl HOWN.out _ _ rfl hkey ?_; intro cc hat hwc; have hcc : cc = (n0 : Int) := (by have h1 := HD0.out.symm.trans hat; injection h1 with h1; injection h1 with h1 h2; exact h2.symm); subst hcc; clear tok1 _t hat hwc)
        | (at_mapUpdate; refine wpList_mapUpdate_own _ rfl _ _ _ 83 rfl 3 3 law3 Try.underlying83 _ w1.heap.size k D rfl HOWN.out (by unfold maxLen; omega) _ _ _ rfl rfl hkey (.lit (.int .i64 ((n0 : Int) + 1))) [] (plainElem_int Try.underlying3 (WalkArith.wf_i64 (by omega))) ?_; intro w5 hown5 hgrow5; have z0 := hgrow5.cell z0 (by simp; omega); have HO5 := Lib.hid hown5; have HG5 := Lib.hid hgrow5; clear hown5 hgrow5)
        | (at_lookup; refine wpList_lookup_own_int _ rfl _ _ 83 rfl 3 3 .i64 law3 Try.underlying83 Try.underlying3 (zero3 _) w1.heap.size (k + 1) _ rfl HO5.out _ _ rfl hkey ?_; intro cc hat hwc; have hcc : cc = (n0 : Int) + 1 := (by rw [Maps.atKey_put_same (World.ownsMap.isMap HOWN.out) HKL.out] at hat; injection hat with h1; injection h1 with h1 h2; exact h2.symm); subst hcc; clear hat hwc))
      go_roundw
      case rel =>
        refine ⟨k + 1, _, by omega, by go_num, by rw [HE.out], HO5.out, fun t ht0 ht1 => ?_, HBB.out.grown HG5.out HBB.out.size (fun j hj => by simp at hj; omega)⟩
        by_cases htx : t = x1
        · subst htx
          rw [Maps.atKey_put_same (World.ownsMap.isMap HOWN.out) HKL.out, HC1.out]
          rfl
        · rw [Maps.atKey_put_other (by intro h; injection h with h1 h2; exact htx h2), HCN.out t ht0 ht1, HSN.out t, if_neg (fun h => htx h.symm)]
          rfl
      case measure => simp [intOf]; omega
    · obtain rfl : k = m.length := by omega
      go_wp2
      go_ret2
      exact ⟨ret_ib HV.out.symm rfl, HB1.out.trans (HBr.out.mono HB1.out.size)⟩
end Go.Proofs.Ytdgcdlcfddjmiaa
