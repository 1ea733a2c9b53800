/- ChancesOfLast, both sides. -/
import Derived.Test.YtiledncedekefaaCnts
import Derived.Test.YtiledncedekefaaRowsP
import Derived.Test.YtiledncedekefaaLate
namespace Go.Proofs.Ytiledncedekefaa
open Go.RowKit

/-- the chance of the ant a -/
def chP (L : Int) (l : List Int) (a : Nat) : Int × Int := lowP (laN L l a (2 ^ l.length)) ((2 ^ l.length : Nat) : Int)
def chT (L : Int) (l : List Int) (k : Nat) : List (List Int) := (List.range k).map fun a => [(chP L l a).1, (chP L l a).2]
theorem chT_succ (L : Int) (l : List Int) (k : Nat) : chT L l (k + 1) = chT L l k ++ [[(chP L l k).1, (chP L l k).2]] := by unfold chT; rw [List.range_succ, List.map_append]; rfl
theorem chT_len (L : Int) (l : List Int) (k : Nat) : (chT L l k).length = k := by simp [chT]
/-- what ChancesOfLast returns -/
def chR (L : Int) (l : List Int) : List (List Int) := if plB L l then chT L l l.length else []
theorem chT_tot (L : Int) (l : List Int) (k : Nat) : tot (chT L l k) = 2 * k := by
  induction k with
  | zero => rfl
  | succ k ih =>
    rw [chT_succ]
    unfold tot at ih ⊢
    rw [List.map_append, List.sum_append, ih]
    show 2 * k + 2 = _
    omega
theorem chR_bd (L : Int) (l : List Int) : (((chR L l).length : Nat) : Int) ≤ 1000 ∧ ((tot (chR L l) : Nat) : Int) ≤ 100000 ∧ ∀ r ∈ chR L l, (r.length : Int) ≤ 1000 := by
  unfold chR
  cases hp : plB L l with
  | false =>
    have e0 : (([] : List (List Int)).length : Int) ≤ 1000 := by decide
    have e1 : ((tot [] : Nat) : Int) ≤ 100000 := by decide
    exact ⟨e0, e1, fun r hr => by cases hr⟩
  | true =>
    have h12 := ((plB_iff L l).1 hp).2.1.2
    refine ⟨?_, ?_, ?_⟩
    · show (((chT L l l.length).length : Nat) : Int) ≤ 1000
      rw [chT_len]; omega
    · show ((tot (chT L l l.length) : Nat) : Int) ≤ 100000
      rw [chT_tot]; omega
    · intro r hr
      obtain ⟨a, _, rfl⟩ := List.mem_map.1 (show r ∈ chT L l l.length from hr)
      show ((2 : Nat) : Int) ≤ 1000
      omega
theorem ret_rows {A : Option Addr} {n c : Nat} {x y : Bool} (h : x = y) : Ending.returned (.tuple #[.slice A n c, .bool x]) = .returned (.tuple #[.slice A n c, .bool y]) := by rw [h]

set_option maxRecDepth 100000 in
set_option maxHeartbeats 4000000 in
theorem implChn_any (L : Int) (A : Option Addr) (c : Nat) (l : List Int) (w : World) (hn : (l.length : Int) ≤ 9223372036854775807) (hA : SlAt intS w A l) :
    Calls Try.prog 44 #[.int .i64 L, .slice A l.length c] w fun e w' => ∃ A' n c', e = .returned (.tuple #[.slice A' n c', .bool (plB L l)]) ∧ RowsOwn w' w.heap.size (.slice A' n c') (chR L l) ∧ Below w.heap.size w w' := by
  cases hp : plB L l with
  | false =>
    have HG := Lib.hid (countsLast_none L A c l w hn hA hp)
    have HV : Hid (chR L l = []) := by show _ = _; unfold chR; rw [hp]; rfl
    clear hA hp
    go_enter Try.func44, Try.ntmps44
    go_wp2_with fail
    refine HG.out.mono ?_
    rintro e w1 ⟨rfl, hb⟩
    go_wp2
    exact bodyPost_ret (v := .tuple #[.slice none 0 0, .bool false]) (results_tmp2 Try.results44 _ _ _) rfl ⟨none, 0, 0, rfl, by rw [HV.out]; exact RowsOwn.nil _ _, hb⟩
  | true =>
    obtain ⟨i1, hj, hy0, hy1, hy2⟩ := info_parts refI
    obtain ⟨hh1, ⟨hl1, hl2⟩, hrow⟩ := (plB_iff L l).1 hp
    have HG := Lib.hid (countsLast_any L A c l w hA hp)
    have HV : Hid (chR L l = chT L l l.length) := by show _ = _; unfold chR; rw [hp]; rfl
    have hT1 : 1 ≤ 2 ^ l.length := Nat.one_le_two_pow
    have hT : 2 ^ l.length ≤ 4096 := by
      have : 2 ^ l.length ≤ 2 ^ 12 := Nat.pow_le_pow_right (by omega) hl2
      omega
    have HLE := Lib.hid (cnL_len L l (2 ^ l.length))
    have HAT := Lib.hid (cnL_at L l (2 ^ l.length))
    have HLA := Lib.hid (fun a => laN_le L l a (2 ^ l.length))
    have HCH : Hid (∀ a, chP L l a = lowP (laN L l a (2 ^ l.length)) ((2 ^ l.length : Nat) : Int)) := fun _ => rfl
    clear hA hp hh1 hrow
    generalize cnL L l (2 ^ l.length) = C at *
    generalize laN L l = F at *
    generalize 2 ^ l.length = T at *
    go_enter Try.func44, Try.ntmps44
    go_wp2_with fail
    refine HG.out.mono ?_
    rintro e w1 ⟨A1, c1, rfl, ho, hb⟩
    have HO := Lib.hid ho
    have HB := Lib.hid hb
    have hs1 := hb.size
    clear ho hb
    go_wp2_with fail
    go_loopw [9, 24] (fun v i wr => ∃ (k : Nat) (q : List (Nat × Nat × Nat)) (A5 : Option Addr) (n5 c5 : Nat), k ≤ l.length ∧ i = .int .i64 k ∧ v = .slice A5 n5 c5 ∧ Below w1.heap.size w1 wr ∧ RowsQ q wr w1.heap.size (.slice A5 n5 c5) (chT L l k))
      (fun _ i _ => l.length - (intOf i).toNat)
    case atStart => exact ⟨0, [], none, 0, 0, Nat.zero_le _, rfl, rfl, Below.refl _ _, rfl, SlOwn.nil refS _ _ _, fun i x r h => by simp at h, fun i j x y _ h => by simp at h, fun x hx => by cases hx⟩
    case round =>
      obtain ⟨k, q, A5, n5, c5, hk, rfl, rfl, hbr, hown⟩ := hrel
      have HBr := Lib.hid hbr
      have HOr := Lib.hid hown
      have hsr := hbr.size
      clear hown
      by_cases hlt : k < l.length
      · have hki : (k : Int) < (l.length : Int) := by omega
        have hkC : k < C.length := by rw [HLE.out]; exact hlt
        obtain ⟨b1, off1, rfl, _, hc⟩ := HO.out.sl.int_at hkC
        have a0 := hc k _ (List.getElem?_eq_getElem hkC)
        have e0 : C[k] = (F k T : Int) := by rw [← HAT.out k hlt, List.getD_eq_getElem?_getD, List.getElem?_eq_getElem hkC]; rfl
        rw [e0] at a0
        have a0 := Below.cell_some hbr a0
        have hF := HLA.out k
        have HLW := Lib.hid (fun w => lowest_any (F k T) (T : Int) w (by omega) (by omega) (by omega) (by omega))
        have HS := Lib.hid (chT_succ L l k)
        have HQL : Hid (q.length = k) := HOr.out.len.trans (chT_len L l k)
        have HPP := Lib.hid (HCH.out k)
        rw [HPP.out] at HS
        generalize lowP (F k T) (T : Int) = pr at *
        generalize chT L l k = Y at *
        clear hc e0 hbr hkC
        obtain ⟨x1, x2⟩ := pr
        simp only at HLW HS
        go_wp2_with fail
        refine (HLW.out _).mono ?_
        rintro e w3 ⟨rfl, hb3⟩
        have HOr3 := Lib.hid (HOr.out.below hb3)
        have HB3 := Lib.hid (HBr.out.trans (hb3.mono hsr))
        have hs3 : w1.heap.size ≤ w3.heap.size := Nat.le_trans hsr hb3.size
        clear hb3
        have hbb : Below w3.heap.size w3 (w3.alloc (Obj.cells #[.int .i64 x1, .int .i64 x2] 89)) := (Below.refl _ _).alloc (Nat.le_refl _) _
        have HR : Hid (RowsQ q (w3.alloc (Obj.cells #[.int .i64 x1, .int .i64 x2] 89)) w1.heap.size (.slice A5 n5 c5) Y) := HOr3.out.below hbb
        have HBX := Lib.hid (HB3.out.trans (hbb.mono (by omega)))
        clear hbb
        go_wp2_with (at_builtin; go_must (refine wpList_append_slsw refS _ rfl _ _ 43 rfl w1.heap.size 22 i1 _ 24 Try.underlying43 hj hy0 hy1 hy2 rfl (by decide) (.slice A5 n5 c5) q rfl (((HR.out.own).allocA _).allocA _) ⟨w3.heap.size + 1 + 1, 0, none⟩ 1 1 [(w3.heap.size + 1, 2, 2)] rfl rfl (slAt_ref1 (x := (w3.heap.size + 1, 2, 2)) (heap_new (by simp))) (by have := HQL.out; simp only [List.length_cons, List.length_nil]; omega) (by simp; omega) ?_); intro A7 n7 k7 w7 ho7 hg7 hb7; have HO7 := Lib.hid ho7; have HG7 := Lib.hid hg7; have HN7 := Lib.hid hb7; clear ho7 hg7 hb7)
        have HR7 := Lib.hid (HR.out.app' (by simp; omega) (by simp) x1 x2 HO7.out HG7.out HN7.out)
        have HB7 := Lib.hid (HR.out.app_below (by simp; omega) x1 x2 HG7.out)
        go_roundw
        case rel => exact ⟨k + 1, _, A7, n7, k7, by omega, by go_num, rfl, HBX.out.trans HB7.out, by rw [HS.out]; exact HR7.out⟩
        case measure => simp [intOf]; omega
      · obtain rfl : k = l.length := by omega
        go_wp2
        exact bodyPost_ret (v := .tuple #[.slice A5 n5 c5, .bool true]) (results_tmp2 Try.results44 _ _ _) rfl ⟨A5, n5, c5, rfl, by rw [HV.out]; exact ⟨q, HOr.out.base hs1⟩, HB.out.trans (HBr.out.mono hs1)⟩

set_option maxRecDepth 100000 in
set_option maxHeartbeats 4000000 in
theorem specChn_any (L : Int) (A : Option Addr) (c : Nat) (l : List Int) (w : World) (hn : (l.length : Int) ≤ 9223372036854775807) (hA : SlAt intS w A l) :
    Calls Try.prog 43 #[.int .i64 L, .slice A l.length c] w fun e w' => ∃ A' n c', e = .returned (.tuple #[.slice A' n c', .bool (plB L l)]) ∧ RowsOwn w' w.heap.size (.slice A' n c') (chR L l) ∧ Below w.heap.size w w' := by
  cases hp : plB L l with
  | false =>
    have HG := Lib.hid (stGood_at L A c l false hp w hn hA)
    have HV : Hid (chR L l = []) := by show _ = _; unfold chR; rw [hp]; rfl
    clear hA hp
    go_enter Try.func43, Try.ntmps43
    go_wp2_with fail
    refine HG.out.mono ?_
    rintro e w1 ⟨rfl, rfl⟩
    go_wp2
    exact bodyPost_ret (v := .tuple #[.slice none 0 0, .bool false]) (results_tmp2 Try.results43 _ _ _) rfl ⟨none, 0, 0, rfl, by rw [HV.out]; exact RowsOwn.nil _ _, Below.refl _ _⟩
  | true =>
    obtain ⟨i1, hj, hy0, hy1, hy2⟩ := info_parts refI
    obtain ⟨hh1, ⟨hl1, hl2⟩, hrow⟩ := (plB_iff L l).1 hp
    have HG := Lib.hid (stGood_at L A c l true hp w hn hA)
    have HV : Hid (chR L l = chT L l l.length) := by show _ = _; unfold chR; rw [hp]; rfl
    have hT1 : 1 ≤ 2 ^ l.length := Nat.one_le_two_pow
    have hT : 2 ^ l.length ≤ 4096 := by
      have : 2 ^ l.length ≤ 2 ^ 12 := Nat.pow_le_pow_right (by omega) hl2
      omega
    have hw : wrap64 (2 ^ l.length) = ((2 ^ l.length : Nat) : Int) := by
      have e : (2 : Int) ^ l.length = ((2 ^ l.length : Nat) : Int) := by rw [Int.natCast_pow]; rfl
      rw [e]
      have h0 : (0 : Int) ≤ ((2 ^ l.length : Nat) : Int) := Int.natCast_nonneg _
      have h1 : ((2 ^ l.length : Nat) : Int) ≤ 4096 := by omega
      generalize ((2 ^ l.length : Nat) : Int) = x at *
      unfold wrap64
      omega
    have hw2 : IntKind.i64.wrap (2 ^ l.length) = ((2 ^ l.length : Nat) : Int) := by
      have e : (2 : Int) ^ l.length = ((2 ^ l.length : Nat) : Int) := by rw [Int.natCast_pow]; rfl
      have h1 : ((2 ^ l.length : Nat) : Int) ≤ 4096 := by omega
      rw [e]; exact IntWalk.i64_in _ (by omega)
    have hw3 : IntKind.i64.wrap (1 * 2 ^ l.length) = ((2 ^ l.length : Nat) : Int) := by rw [Int.one_mul]; exact hw2
    have HA := Lib.hid hA
    have HST := Lib.hid (fun a ha W hW => stLast_any L A c l a W hp ha hW)
    have HLA := Lib.hid (fun a => laN_le L l a (2 ^ l.length))
    have HCH : Hid (∀ a, chP L l a = lowP (laN L l a (2 ^ l.length)) ((2 ^ l.length : Nat) : Int)) := fun _ => rfl
    clear hA hp hh1 hrow
    generalize laN L l = F at *
    obtain ⟨T, hTT⟩ : ∃ T, T = 2 ^ l.length := ⟨_, rfl⟩
    rw [← hTT] at hw hw2 hw3 hT hT1 HST HLA HCH
    clear hTT
    go_enter Try.func43, Try.ntmps43
    go_wp2_with fail
    refine HG.out.mono ?_
    rintro e w1 ⟨rfl, rfl⟩
    go_wp2_with fail
    go_loopw [6, 16] (fun v i wr => ∃ (k : Nat) (q : List (Nat × Nat × Nat)) (A5 : Option Addr) (n5 c5 : Nat), k ≤ l.length ∧ i = .int .i64 k ∧ v = .slice A5 n5 c5 ∧ Below w.heap.size w wr ∧ RowsQ q wr w.heap.size (.slice A5 n5 c5) (chT L l k))
      (fun _ i _ => l.length - (intOf i).toNat)
    case atStart => exact ⟨0, [], none, 0, 0, Nat.zero_le _, rfl, rfl, Below.refl _ _, rfl, SlOwn.nil refS _ _ _, fun i x r h => by simp at h, fun i j x y _ h => by simp at h, fun x hx => by cases hx⟩
    case round =>
      obtain ⟨k, q, A5, n5, c5, hk, rfl, rfl, hbr, hown⟩ := hrel
      have HBr := Lib.hid hbr
      have HOr := Lib.hid hown
      have hsr := hbr.size
      clear hown
      by_cases hlt : k < l.length
      · have hki : (k : Int) < (l.length : Int) := by omega
        have hF := HLA.out k
        have HLW := Lib.hid (fun w => stLow_any (F k T) (T : Int) w (by omega) (by omega) (by omega) (by omega))
        have HSK := Lib.hid (HST.out k hlt wr.drew (HA.out.below hbr.drew))
        have HS := Lib.hid (chT_succ L l k)
        have HQL : Hid (q.length = k) := HOr.out.len.trans (chT_len L l k)
        have HPP := Lib.hid (HCH.out k)
        rw [HPP.out] at HS
        have HBD : Hid (Below wr.heap.size wr wr.drew) := (Below.refl _ _).drew
        generalize lowP (F k T) (T : Int) = pr at *
        generalize chT L l k = Y at *
        clear hbr
        obtain ⟨x1, x2⟩ := pr
        simp only at HLW HS
        go_upto_region 7 with fail
        go_region_held3 (fun _ => True) (trivial)
          (first
            | (go_at_call 81; with_reducible refine HSK.out.mono ?_; rintro e w3 ⟨rfl, hb3⟩; have HB3 := Lib.hid (HBD.out.trans (hb3.mono HBD.out.size)); clear hb3)
            | (go_at_call 83; with_reducible refine (HLW.out w3).mono ?_; rintro e w4 ⟨rfl, hb4⟩; have HB4 := Lib.hid (HB3.out.trans (hb4.mono HB3.out.size)); clear hb4))
        all_goals (
          have HR := Lib.hid (HOr.out.below HB4.out)
          have HBX := Lib.hid (HBr.out.trans (HB4.out.mono hsr))
          have hs4 : w.heap.size ≤ w4.heap.size := HBX.out.size
          go_wp2_with (at_builtin; go_must (refine wpList_append_slsw refS _ rfl _ _ 43 rfl w.heap.size 22 i1 _ 24 Try.underlying43 hj hy0 hy1 hy2 rfl (by decide) (.slice A5 n5 c5) q rfl (((HR.out.own).allocA _).allocA _) ⟨w4.heap.size + 1, 0, none⟩ 1 1 [(w4.heap.size, 2, 2)] rfl rfl (slAt_ref1 (x := (w4.heap.size, 2, 2)) (heap_new (by simp))) (by have := HQL.out; simp only [List.length_cons, List.length_nil]; omega) (by simp; omega) ?_); intro A7 n7 k7 w7 ho7 hg7 hb7; have HO7 := Lib.hid ho7; have HG7 := Lib.hid hg7; have HN7 := Lib.hid hb7; clear ho7 hg7 hb7)
          have HR7 := Lib.hid (HR.out.app' hs4 rfl x1 x2 HO7.out HG7.out HN7.out)
          have HB7 := Lib.hid (HR.out.app_below hs4 x1 x2 HG7.out)
          go_roundw
          case rel => exact ⟨k + 1, _, A7, n7, k7, by omega, by go_num, rfl, HBX.out.trans HB7.out, by rw [HS.out]; exact HR7.out⟩
          case measure => simp [intOf]; omega)
      · obtain rfl : k = l.length := by omega
        go_wp2
        exact bodyPost_ret (v := .tuple #[.slice A5 n5 c5, .bool true]) (results_tmp2 Try.results43 _ _ _) rfl ⟨A5, n5, c5, rfl, by rw [HV.out]; exact ⟨q, HOr.out⟩, HBr.out⟩
end Go.Proofs.Ytiledncedekefaa
