/- The model's circles behind a time: ciSorted, AntsAround, WayAround. -/
import Derived.Test.YtdoikeglaolipaaRunFor
import Derived.Test.YtdoikeglaolipaaTimeC
import Derived.Test.YtdoikeglaolipaaPut
import Derived.Test.YtdoikeglaolipaaRing3
namespace Go.Proofs.Ytdoikeglaolipaa
open Go.RowKit

set_option maxRecDepth 100000 in
set_option maxHeartbeats 1000000 in
theorem ciSorted_any (A : Option Addr) (c : Nat) (l : List (Int × Int)) (w : World) (hn : l.length ≤ 16) (hA : AntsAt w A l) :
    Calls Try.prog 38 #[.slice A l.length c] w fun e w' => ∃ A' n' c', e = .returned (.slice A' n' c') ∧ n' = (srtA l).length ∧ AntsOwn w' w.heap.size 59 (.slice A' n' c') (srtA l) ∧ Below w.heap.size w w' := by
  have HA := Lib.hid hA
  clear hA
  go_enter Try.func38, Try.ntmps38
  go_wp2
  go_loopw [3, 8] (fun v i wr => ∃ (k : Nat) (A5 : Option Addr) (c5 : Nat), k ≤ l.length ∧ i = .int .i64 k ∧ v = .slice A5 (srtA (l.take k)).length c5 ∧ Below w.heap.size w wr ∧ SlOwn pairS wr w.heap.size 59 (.slice A5 (srtA (l.take k)).length c5) (srtA (l.take k)))
    (fun _ i _ => l.length - (intOf i).toNat)
  case atStart => exact ⟨0, none, 0, Nat.zero_le _, rfl, by rw [List.take_zero, srtA_nil]; rfl, Below.refl _ _, by rw [List.take_zero, srtA_nil]; exact SlOwn.nil pairS _ _ _⟩
  case round =>
    obtain ⟨k, A5, c5, hk, rfl, rfl, hbr, hown⟩ := hrel
    obtain ⟨W1, rfl⟩ : ∃ W, W = wr := ⟨_, rfl⟩
    have HBr := Lib.hid hbr
    have HAr := Lib.hid (HA.out.below hbr)
    have HO := Lib.hid hown
    clear hbr hown
    by_cases hlt : k < l.length
    · obtain ⟨b, off, rfl, l0, hc⟩ := HAr.out.at_ hlt
      obtain ⟨a0, a1⟩ := hc k hlt
      have hx : l[k]? = some (l.getD k (0, 0)) := by rw [List.getD_eq_getElem?_getD, List.getElem?_eq_getElem hlt]; rfl
      have HSN : Hid (putA (srtA (l.take k)) (l.getD k (0, 0)) = srtA (l.take (k + 1))) := by
        show _ = _
        rw [putA_srtA, List.take_succ_eq_append_getElem hlt]
        congr 2
        rw [List.getElem?_eq_getElem hlt] at hx
        injection hx with hx
        rw [← hx]
      have hlen : (srtA (l.take k)).length = k := by rw [srtA_len, List.length_take]; omega
      have HLEN := Lib.hid hlen
      clear hc hx hlen
      generalize l.getD k (0, 0) = x at *
      obtain ⟨x1, x2⟩ := x
      simp only at a0 a1
      have HPUT := Lib.hid (fun W (hW : SlOwn pairS W w.heap.size 59 (.slice A5 (srtA (l.take k)).length c5) (srtA (l.take k))) => roPut_any A5 c5 (srtA (l.take k)) x1 x2 W (by have := HLEN.out; omega) (own_cap hW) (slAt_ants hW.sl))
      generalize srtA (l.take k) = m at *
      go_wp2_with fail
      refine (HPUT.out _ (HO.out.below ((Below.refl _ _).alloc (Nat.le_refl _) _))).mono ?_
      rintro e w3 ⟨A4, n4, c4, rfl, hn4, ho4, hb4⟩
      subst hn4
      have HB4 := Lib.hid (HBr.out.trans ((((Below.refl _ _).alloc (Nat.le_refl _) _).trans (hb4.mono (by simp))).mono HBr.out.size))
      have HO4 : Hid (SlOwn pairS w3 w.heap.size 59 (.slice A4 (putA m (x1, x2)).length c4) (putA m (x1, x2))) := AntsOwn.base ho4 (by have := HBr.out.size; simp; omega)
      clear ho4 hb4
      go_wp2
      go_roundw
      case rel => exact ⟨k + 1, A4, c4, by omega, by go_num, by rw [← HSN.out], HB4.out, by rw [← HSN.out]; exact HO4.out⟩
      case measure => simp [intOf]; omega
    · obtain rfl : k = l.length := by omega
      have HE : Hid (srtA (l.take l.length) = srtA l) := by show _ = _; rw [List.take_length]
      have HO5 : Hid (SlOwn pairS W1 w.heap.size 59 (.slice A5 (srtA l).length c5) (srtA l)) := by
        have := HO.out
        rwa [HE.out] at this
      rw [HE.out]
      go_wp2
      go_ret
      exact ⟨_, _, _, rfl, rfl, HO5.out, HBr.out⟩

/-- ants of a run, as a slice -/
theorem RunAt.slice {w : World} {b ab gb n ca cg : Nat} {L : Int} {l : List (Int × Int)} {m : Nat} {gl : List Int} (h : RunAt w b ab 0 gb 0 n ca cg L l m gl) : ∃ A, w.cell? ⟨b, 1, none⟩ = some (.slice A n ca) ∧ AntsAt w A l ∧ n = l.length := by
  obtain ⟨A, h1, h2⟩ := h.c1
  refine ⟨A, h1, ?_, h.len.symm⟩
  rcases h2 with h2 | rfl
  · exact .inl (List.eq_nil_of_length_eq_zero (by rw [h.len]; exact h2))
  · refine .inr ⟨ab, 0, rfl, fun k hk => ?_⟩
    have hx : l[k]? = some (l.getD k (0, 0)) := by rw [List.getD_eq_getElem?_getD, List.getElem?_eq_getElem hk]; rfl
    exact h.ants k _ hx
def aaOkC (L : Int) (l : List (Int × Int)) (t : Int) : Bool := ciB L l && timeC t
def aaC (L : Int) (l : List (Int × Int)) (t : Int) : List (Int × Int) := if aaOkC L l t then (runC L l t.toNat).1 else []

set_option maxRecDepth 100000 in
set_option maxHeartbeats 1000000 in
theorem specAntsAround_any (L : Int) (A : Option Addr) (c : Nat) (l : List (Int × Int)) (t : Int) (w : World) (hA : AntsAt w A l) :
    Calls Try.prog 18 #[.agg #[.int .i64 L, .slice A l.length c], .int .i64 t] w fun e w' => ∃ A' n' c', e = .returned (.tuple #[.slice A' n' c', .bool (aaOkC L l t)]) ∧ n' = (aaC L l t).length ∧ AntsAt w' A' (aaC L l t) ∧ Below w.heap.size w w' := by
  have HA := Lib.hid (hA.alloc (Obj.cells #[Value.int IntKind.i64 L, Value.slice A l.length c] 28))
  clear hA
  cases hg : ciB L l with
  | false =>
    have HV : Hid (aaC L l t = [] ∧ aaOkC L l t = false) := by show _ ∧ _; simp [aaC, aaOkC, hg]
    have HG : Hid (∀ w, AntsAt w A l → Calls Try.prog 36 #[.agg #[.int .i64 L, .slice A l.length c]] w fun e w' => e = .returned (.bool false) ∧ Below w.heap.size w w') := fun w h => by
      rw [← hg]; exact ciGood_any L A c l w h
    clear hg
    rw [HV.out.1, HV.out.2]
    go_enter Try.func18, Try.ntmps18
    go_wp2_with fail
    refine (HG.out _ HA.out).mono ?_
    rintro e w1 ⟨rfl, hb⟩
    go_wp2
    go_ret2
    exact ⟨none, 0, 0, rfl, rfl, .inl rfl, ((Below.refl _ _).alloc (Nat.le_refl _) _).trans (hb.mono (by simp))⟩
  | true =>
    have HG : Hid (∀ w, AntsAt w A l → Calls Try.prog 36 #[.agg #[.int .i64 L, .slice A l.length c]] w fun e w' => e = .returned (.bool true) ∧ Below w.heap.size w w') := fun w h => by
      rw [← hg]; exact ciGood_any L A c l w h
    cases ht : timeC t with
    | false =>
      have HV : Hid (aaC L l t = [] ∧ aaOkC L l t = false) := by show _ ∧ _; simp [aaC, aaOkC, ht]
      have HT : Hid (∀ w, Calls Try.prog 37 #[.int .i64 t] w fun e w' => e = .returned (.bool false) ∧ Below w.heap.size w w') := fun w => ciTime_at t false ht w
      clear hg ht
      rw [HV.out.1, HV.out.2]
      go_enter Try.func18, Try.ntmps18
      go_wp2_with fail
      refine (HG.out _ HA.out).mono ?_
      rintro e w1 ⟨rfl, hb⟩
      go_wp2_with fail
      refine (HT.out _).mono ?_
      rintro e w2 ⟨rfl, hb2⟩
      go_wp2
      go_ret2
      exact ⟨none, 0, 0, rfl, rfl, .inl rfl, ((Below.refl _ _).alloc (Nat.le_refl _) _).trans ((hb.trans (hb2.mono hb.size)).mono (by simp))⟩
    | true =>
      have hti := timeC_le ht
      obtain ⟨T, rfl⟩ := Int.eq_ofNat_of_zero_le hti.1
      have HV : Hid (aaC L l T = (runC L l T).1 ∧ aaOkC L l T = true) := by
        show _ ∧ _
        have e3 : aaOkC L l T = true := by simp only [aaOkC, hg, ht]; rfl
        refine ⟨?_, e3⟩
        unfold aaC
        rw [if_pos e3]
        rfl
      have HT : Hid (∀ w, Calls Try.prog 37 #[.int .i64 T] w fun e w' => e = .returned (.bool true) ∧ Below w.heap.size w w') := fun w => ciTime_at T true ht w
      have HR := Lib.hid (fun w h => ciRunFor_any L A c l T w hg (by omega) h)
      clear hg ht
      rw [HV.out.1, HV.out.2]
      go_enter Try.func18, Try.ntmps18
      go_wp2_with fail
      refine (HG.out _ HA.out).mono ?_
      rintro e w1 ⟨rfl, hb⟩
      have c0 : w1.cell? ⟨w.heap.size, 0, none⟩ = some (.int .i64 L) := by rw [hb.cell (p := ⟨w.heap.size, 0, none⟩) (by simp)]; simp
      have c1 : w1.cell? ⟨w.heap.size, 1, none⟩ = some (.slice A l.length c) := by rw [hb.cell (p := ⟨w.heap.size, 1, none⟩) (by simp)]; simp
      have HB := Lib.hid (((Below.refl _ w).alloc (Nat.le_refl _) _).trans (hb.mono (by simp)))
      have HA1 := Lib.hid (HA.out.below hb)
      clear hb
      go_wp2_with fail
      refine (HT.out _).mono ?_
      rintro e w2 ⟨rfl, hb2⟩
      have c0 := Below.cell_some hb2 c0
      have c1 := Below.cell_some hb2 c1
      have HB2 := Lib.hid (HB.out.trans (hb2.mono HB.out.size))
      have HA2 := Lib.hid (HA1.out.below hb2)
      clear hb2
      go_wp2_with fail
      refine (HR.out _ HA2.out).mono ?_
      rintro e w3 ⟨b, ab, gb, ca, cg, rfl, hr3, _, hb3⟩
      obtain ⟨A3, c3, ha3, hn3⟩ := hr3.slice
      have HA3 := Lib.hid ha3
      have HN3 := Lib.hid hn3
      have HB3 := Lib.hid (HB2.out.trans (hb3.mono HB2.out.size))
      clear hb3 hr3 ha3 hn3
      go_wp2
      go_ret2
      exact ⟨_, _, _, rfl, HN3.out, HA3.out, HB3.out⟩

def inB (n : Nat) (ant : Int) : Bool := decide (0 ≤ ant) && decide (ant ≤ (n : Int) - 1)
def waOk (L : Int) (l : List (Int × Int)) (ant t : Int) : Bool := ciB L l && (inB l.length ant && timeC t)
def waV (L : Int) (l : List (Int × Int)) (ant t : Int) : Int := if waOk L l ant t then (runG L l t.toNat).getD ant.toNat 0 else 0
set_option maxRecDepth 100000 in
set_option maxHeartbeats 1000000 in
theorem specWayAround_any (L : Int) (A : Option Addr) (c : Nat) (l : List (Int × Int)) (ant t : Int) (w : World) (hA : AntsAt w A l) :
    Calls Try.prog 23 #[.agg #[.int .i64 L, .slice A l.length c], .int .i64 ant, .int .i64 t] w fun e w' => e = .returned (.tuple #[.int .i64 (waV L l ant t), .bool (waOk L l ant t)]) ∧ Below w.heap.size w w' := by
  have HA := Lib.hid (hA.alloc (Obj.cells #[Value.int IntKind.i64 L, Value.slice A l.length c] 28))
  clear hA
  cases hg : ciB L l with
  | false =>
    have HV : Hid (waV L l ant t = 0 ∧ waOk L l ant t = false) := by show _ ∧ _; simp [waV, waOk, hg]
    have HG : Hid (∀ w, AntsAt w A l → Calls Try.prog 36 #[.agg #[.int .i64 L, .slice A l.length c]] w fun e w' => e = .returned (.bool false) ∧ Below w.heap.size w w') := fun w h => by
      rw [← hg]; exact ciGood_any L A c l w h
    clear hg
    go_enter Try.func23, Try.ntmps23
    go_wp2_with fail
    refine (HG.out _ HA.out).mono ?_
    rintro e w1 ⟨rfl, hb⟩
    go_wp2
    go_ret2
    exact ⟨ret_ib HV.out.1.symm HV.out.2.symm, ((Below.refl _ _).alloc (Nat.le_refl _) _).trans (hb.mono (by simp))⟩
  | true =>
    have hl := ciB_len hg
    have HG : Hid (∀ w, AntsAt w A l → Calls Try.prog 36 #[.agg #[.int .i64 L, .slice A l.length c]] w fun e w' => e = .returned (.bool true) ∧ Below w.heap.size w w') := fun w h => by
      rw [← hg]; exact ciGood_any L A c l w h
    have hw1 : IntKind.i64.wrap (((l.length : Nat) : Int) - 1) = ((l.length : Nat) : Int) - 1 := IntWalk.i64_in _ (by omega)
    cases hi : inB l.length ant with
    | false =>
      have HV : Hid (waV L l ant t = 0 ∧ waOk L l ant t = false) := by show _ ∧ _; simp [waV, waOk, hi]
      have HI : Hid (∀ w, Calls Try.prog 48 #[.int .i64 ant, .int .i64 0, .int .i64 (((l.length : Nat) : Int) - 1)] w fun e w' => e = .returned (.bool false) ∧ w = w') := fun w => in_at ant 0 _ false hi w
      clear hg hi
      go_enter Try.func23, Try.ntmps23
      go_wp2_with fail
      refine (HG.out _ HA.out).mono ?_
      rintro e w1 ⟨rfl, hb⟩
      have c1 : w1.cell? ⟨w.heap.size, 1, none⟩ = some (.slice A l.length c) := by rw [hb.cell (p := ⟨w.heap.size, 1, none⟩) (by simp)]; simp
      have HB := Lib.hid (((Below.refl _ w).alloc (Nat.le_refl _) (Obj.cells #[Value.int IntKind.i64 L, Value.slice A l.length c] 28)).trans (hb.mono (by simp)))
      clear hb
      go_wp2_with fail
      refine (HI.out _).mono ?_
      rintro e w2 ⟨rfl, rfl⟩
      go_wp2
      go_ret2
      exact ⟨ret_ib HV.out.1.symm HV.out.2.symm, HB.out⟩
    | true =>
      have HI : Hid (∀ w, Calls Try.prog 48 #[.int .i64 ant, .int .i64 0, .int .i64 (((l.length : Nat) : Int) - 1)] w fun e w' => e = .returned (.bool true) ∧ w = w') := fun w => in_at ant 0 _ true hi w
      cases ht : timeC t with
      | false =>
        have HV : Hid (waV L l ant t = 0 ∧ waOk L l ant t = false) := by show _ ∧ _; simp [waV, waOk, ht]
        have HT : Hid (∀ w, Calls Try.prog 37 #[.int .i64 t] w fun e w' => e = .returned (.bool false) ∧ Below w.heap.size w w') := fun w => ciTime_at t false ht w
        clear hg hi ht
        go_enter Try.func23, Try.ntmps23
        go_wp2_with fail
        refine (HG.out _ HA.out).mono ?_
        rintro e w1 ⟨rfl, hb⟩
        have c1 : w1.cell? ⟨w.heap.size, 1, none⟩ = some (.slice A l.length c) := by rw [hb.cell (p := ⟨w.heap.size, 1, none⟩) (by simp)]; simp
        have HB := Lib.hid (((Below.refl _ w).alloc (Nat.le_refl _) (Obj.cells #[Value.int IntKind.i64 L, Value.slice A l.length c] 28)).trans (hb.mono (by simp)))
        clear hb
        go_wp2_with fail
        refine (HI.out _).mono ?_
        rintro e w2 ⟨rfl, rfl⟩
        go_wp2_with fail
        refine (HT.out _).mono ?_
        rintro e w3 ⟨rfl, hb3⟩
        go_wp2
        go_ret2
        exact ⟨ret_ib HV.out.1.symm HV.out.2.symm, HB.out.trans (hb3.mono HB.out.size)⟩
      | true =>
        have hti := timeC_le ht
        obtain ⟨T, rfl⟩ := Int.eq_ofNat_of_zero_le hti.1
        have hii := hi
        simp only [inB, Bool.and_eq_true, decide_eq_true_eq] at hii
        obtain ⟨k, rfl⟩ := Int.eq_ofNat_of_zero_le hii.1
        have hkl : k < l.length := by omega
        have HV : Hid ((runG L l T).getD k 0 = waV L l k T ∧ true = waOk L l k T) := by
          show _ ∧ _
          have e3 : waOk L l k T = true := by simp only [waOk, hg, hi, ht]; rfl
          refine ⟨?_, e3.symm⟩
          unfold waV
          rw [if_pos e3]
          rfl
        have HT : Hid (∀ w, Calls Try.prog 37 #[.int .i64 T] w fun e w' => e = .returned (.bool true) ∧ Below w.heap.size w w') := fun w => ciTime_at T true ht w
        have HR := Lib.hid (fun w h => ciRunFor_any L A c l T w hg (by omega) h)
        clear hg hi ht
        go_enter Try.func23, Try.ntmps23
        go_wp2_with fail
        refine (HG.out _ HA.out).mono ?_
        rintro e w1 ⟨rfl, hb⟩
        have c0 : w1.cell? ⟨w.heap.size, 0, none⟩ = some (.int .i64 L) := by rw [hb.cell (p := ⟨w.heap.size, 0, none⟩) (by simp)]; simp
        have c1 : w1.cell? ⟨w.heap.size, 1, none⟩ = some (.slice A l.length c) := by rw [hb.cell (p := ⟨w.heap.size, 1, none⟩) (by simp)]; simp
        have HB := Lib.hid (((Below.refl _ w).alloc (Nat.le_refl _) (Obj.cells #[Value.int IntKind.i64 L, Value.slice A l.length c] 28)).trans (hb.mono (by simp)))
        have HA1 := Lib.hid (HA.out.below hb)
        clear hb
        go_wp2_with fail
        refine (HI.out _).mono ?_
        rintro e w2 ⟨rfl, rfl⟩
        go_wp2_with fail
        refine (HT.out _).mono ?_
        rintro e w3 ⟨rfl, hb2⟩
        have c0 := Below.cell_some hb2 c0
        have c1 := Below.cell_some hb2 c1
        have HB2 := Lib.hid (HB.out.trans (hb2.mono HB.out.size))
        have HA2 := Lib.hid (HA1.out.below hb2)
        clear hb2
        go_wp2_with fail
        refine (HR.out _ HA2.out).mono ?_
        rintro e w4 ⟨b, ab, gb, ca, cg, rfl, hr3, _, hb3⟩
        have c2 := hr3.c2
        have hkg : k < (runG L l T).length := by rw [hr3.glen]; exact hkl
        have g0 := hr3.gone k _ (List.getElem?_eq_getElem hkg)
        rw [Nat.zero_add] at g0
        have HE : Hid ((runG L l T).getD k 0 = (runG L l T)[k]) := by
          show _ = _
          rw [List.getD_eq_getElem?_getD, List.getElem?_eq_getElem hkg]
          rfl
        generalize (runG L l T)[k] = g at *
        have hkc : (k : Int) < (l.length : Int) := by omega
        have HB3 := Lib.hid (HB2.out.trans (hb3.mono HB2.out.size))
        clear hb3 hr3
        go_wp2
        go_ret2
        exact ⟨ret_ib (by rw [← HE.out]; exact HV.out.1) HV.out.2, HB3.out⟩
end Go.Proofs.Ytdoikeglaolipaa
