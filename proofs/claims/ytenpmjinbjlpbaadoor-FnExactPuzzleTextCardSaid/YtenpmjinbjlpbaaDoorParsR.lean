/- The contract of spec.l1Read: readL. -/
import Derived.Test.YtenpmjinbjlpbaaDoorGood
import Derived.Test.YtenpmjinbjlpbaaDoorPars
namespace Go.Proofs.YtenpmjinbjlpbaaDoor
open Go.RowKit

def btL (l : List UInt8) (k : Nat) : Int := ((l.getD k 0).toNat : Int)
theorem get_btL (s : ByteArray) : ∀ (n : Nat) (h : n < s.size), ((s[n]'h).toNat : Int) = btL s.data.toList n := fun n h => by
  have h' : n < s.data.size := h
  unfold btL
  rw [List.getD_eq_getElem?_getD, Array.getElem?_toList, Array.getElem?_eq_getElem h']
  rfl
theorem len_toList (s : ByteArray) : s.data.toList.length = s.size := Array.length_toList

theorem valL_lt (n : Nat) : ∀ l : List UInt8, l.length = n → l.all digB = true → valL l < 10 ^ n := by
  induction n with
  | zero => intro l hl _; rw [List.length_eq_zero_iff.mp hl]; decide
  | succ n ih =>
    intro l hl hd
    have hn : l ≠ [] := by intro e; subst e; simp at hl
    obtain ⟨a, b, rfl⟩ : ∃ a b, l = a ++ [b] := ⟨l.dropLast, l.getLast hn, (List.dropLast_concat_getLast hn).symm⟩
    rw [List.all_append, Bool.and_eq_true] at hd
    have hb : digB b = true := by simpa using hd.2
    have hb' := of_decide_eq_true hb
    have h1 : a.length + 1 = n + 1 := by rw [List.length_append] at hl; exact hl
    have := ih a (by omega) hd.1
    rw [valL_snoc, Nat.pow_succ]
    omega

theorem take_snoc (l : List UInt8) {k : Nat} (h : k < l.length) : l.take (k + 1) = l.take k ++ [l.getD k 0] := by
  rw [List.take_add_one, List.getD_eq_getElem?_getD, List.getElem?_eq_getElem h]; rfl

theorem all_not {l : List UInt8} {k : Nat} (h : k < l.length) (hd : digB (l.getD k 0) = false) : l.all digB = false := by
  rw [Bool.eq_false_iff]
  intro ha
  have := List.all_eq_true.mp ha (l[k]'h) (List.getElem_mem h)
  rw [List.getD_eq_getElem?_getD, List.getElem?_eq_getElem h] at hd
  rw [show (some l[k]).getD 0 = l[k] from rfl, this] at hd
  cases hd

theorem readL_not {l : List UInt8} (h : readOk l = false) : readL l = -1 := by unfold readL; rw [h]; rfl
theorem readL_val {l : List UInt8} (h : readOk l = true) : readL l = (valL l : Int) := by unfold readL; rw [h]; rfl

theorem dig_bt {l : List UInt8} {k : Nat} : digB (l.getD k 0) = (decide (48 ≤ btL l k) && decide (btL l k ≤ 57)) := by
  unfold digB btL
  rw [Bool.eq_iff_iff]
  simp
  omega

set_option maxHeartbeats 2000000 in
set_option maxRecDepth 100000 in
theorem l1Read_any (s : ByteArray) (hs : s.size < 4294967281) (w : World) :
    Calls Tryd.prog 80 #[.string s] w fun e w' => e = .returned (.int .i64 (readL s.data.toList)) ∧ w' = w := by
  have hl := len_toList s
  by_cases hr : 1 ≤ s.size ∧ s.size ≤ 6
  · obtain ⟨h1, h6⟩ := hr
    have HR : Hid ((decide ((1 : Int) ≤ s.size) && decide ((s.size : Int) ≤ 6)) = true) := by show (_ && _) = true; rw [decide_eq_true (by omega), decide_eq_true (by omega)]; rfl
    have hb := get_btL s
    have b0 : 0 ≤ btL s.data.toList 0 := by unfold btL; omega
    have b1 : btL s.data.toList 0 ≤ 255 := by unfold btL; have := (s.data.toList.getD 0 0).toNat_lt; omega
    have hfirst : s.data.toList[0]? = some (s.data.toList.getD 0 0) := by rw [List.getD_eq_getElem?_getD, List.getElem?_eq_getElem (by omega)]; rfl
    by_cases hz : btL s.data.toList 0 = 48 ∧ 1 < s.size
    · have hno : readOk s.data.toList = false := by
        have e : s.data.toList.getD 0 0 = 48 := by
          apply UInt8.toNat_inj.mp
          have := hz.1
          unfold btL at this
          have e3 : (48 : UInt8).toNat = 48 := rfl
          omega
        unfold readOk
        rw [hfirst, e, hl]
        simp [hz.2]
      have HN := Lib.hid (readL_not hno)
      clear hno hfirst
      obtain ⟨hz1, hz2⟩ := hz
      go_enter Tryd.func80, Tryd.ntmps80
      go_wp2_with (go_at_call 90; refine (in_at _ _ _ true HR.out _).mono ?_; rintro e w' ⟨rfl, rfl⟩)
      all_goals go_ret
      all_goals exact ⟨ret_int HN.out.symm, rfl⟩
    · have hz' : (btL s.data.toList 0 = 48 ∧ ¬ (1 : Int) < s.size) ∨ btL s.data.toList 0 ≠ 48 := by omega
      have hok : readOk s.data.toList = s.data.toList.all digB := by
        have hq : (decide (s.data.toList[0]? = some 48) && decide (1 < s.data.toList.length)) = false := by
          rw [Bool.eq_false_iff]
          intro e
          rw [Bool.and_eq_true] at e
          have e1 := of_decide_eq_true e.1
          have e2 := of_decide_eq_true e.2
          rw [hfirst] at e1
          have e3 : s.data.toList.getD 0 0 = 48 := Option.some.inj e1
          apply hz
          refine ⟨?_, by omega⟩
          unfold btL; rw [e3]; rfl
        unfold readOk
        rw [hq, hl, decide_eq_true (show 1 ≤ s.size ∧ s.size ≤ 6 from ⟨h1, h6⟩)]
        rfl
      have HOK := Lib.hid hok
      clear hok hfirst hz
      have HL := Lib.hid hl
      generalize hgl : s.data.toList = l at *
      rcases hz' with ⟨hz1, hz2⟩ | hz1
      all_goals
        go_enter Tryd.func80, Tryd.ntmps80
        go_wp2_with (go_at_call 90; refine (in_at _ _ _ true HR.out _).mono ?_; rintro e w' ⟨rfl, rfl⟩)
        go_loopw [3, 4] (fun n i wr => ∃ k : Nat, k ≤ s.size ∧ i = .int .i64 k ∧ n = .int .i64 (valL (l.take k)) ∧ (l.take k).all digB = true ∧ wr = w)
          (fun _ i _ => s.size - (intOf i).toNat)
        case atStart => exact ⟨0, Nat.zero_le _, rfl, rfl, rfl, rfl⟩
        case round =>
          obtain ⟨k, hk, rfl, rfl, hd, rfl⟩ := hrel
          have hvl := valL_lt _ _ rfl hd
          have hlen : (l.take k).length = k := by rw [List.length_take]; omega
          rw [hlen] at hvl
          have hpow : 10 ^ k ≤ 10 ^ 6 := Nat.pow_le_pow_right (by omega) (by omega)
          have hvl2 : valL (l.take k) < 1000000 := Nat.lt_of_lt_of_le hvl (by simpa using hpow)
          clear hvl hpow hlen
          have HD := Lib.hid hd
          clear hd
          by_cases hlt : k < s.size
          · have hts := take_snoc l (k := k) (by omega)
            have hdg := dig_bt (l := l) (k := k)
            have hvs : valL (l.take (k + 1)) = 10 * valL (l.take k) + ((l.getD k 0).toNat - 48) := by rw [hts, valL_snoc]
            have hbt : btL l k = ((l.getD k 0).toNat : Int) := rfl
            have hb255 : btL l k ≤ 255 := by have := (l.getD k 0).toNat_lt; omega
            have hb00 : 0 ≤ btL l k := by omega
            have hnot : digB (l.getD k 0) = false → readL l = -1 := fun h => readL_not (HOK.out.trans (all_not (by omega) h))
            have hall : digB (l.getD k 0) = true → (l.take (k + 1)).all digB = true := fun h => by rw [hts, List.all_append, HD.out]; show (true && (digB _ && true)) = true; rw [h]; rfl
            have HNOT := Lib.hid hnot
            have HALL := Lib.hid hall
            have HVS := Lib.hid hvs
            have HBT := Lib.hid hbt
            have HDG := Lib.hid hdg
            clear hts hdg hvs hbt hnot hall

            generalize valL (l.take k) = n at *
            by_cases d1 : btL l k < 48
            · go_wp2
              go_ret
              exact ⟨ret_int (HNOT.out (by rw [HDG.out, decide_eq_false (by omega)]; rfl)).symm, rfl⟩
            · by_cases d2 : 57 < btL l k
              · go_wp2
                go_ret
                exact ⟨ret_int (HNOT.out (by rw [HDG.out, decide_eq_false (show ¬ btL l k ≤ 57 by omega), Bool.and_false])).symm, rfl⟩
              · go_wp2
                go_roundw
                case rel => exact ⟨k + 1, by omega, by go_num, by have := HVS.out; have := HBT.out; rw [HVS.out]; go_num, HALL.out (by rw [HDG.out, decide_eq_true (by omega), decide_eq_true (by omega)]; rfl), trivial⟩
                case measure => simp [intOf]; omega
          · obtain rfl : k = s.size := by omega
            have htk : l.take s.size = l := by rw [← HL.out, List.take_length]
            rw [htk] at HD hvl2 ⊢
            have HV := Lib.hid (readL_val (HOK.out.trans HD.out))
            go_wp2
            go_ret
            exact ⟨ret_int HV.out.symm, rfl⟩
  · have HR : Hid ((decide ((1 : Int) ≤ s.size) && decide ((s.size : Int) ≤ 6)) = false) := by
      show (_ && _) = false
      rw [Bool.eq_false_iff]; intro e; rw [Bool.and_eq_true] at e
      have e1 := of_decide_eq_true e.1
      have e2 := of_decide_eq_true e.2
      omega
    have hno : readOk s.data.toList = false := by
      unfold readOk
      rw [hl, decide_eq_false hr]
      rfl
    have HN := Lib.hid (readL_not hno)
    clear hno hr
    go_enter Tryd.func80, Tryd.ntmps80
    go_wp2_with (go_at_call 90; refine (in_at _ _ _ false HR.out _).mono ?_; rintro e w' ⟨rfl, rfl⟩)
    all_goals go_ret
    all_goals exact ⟨ret_int HN.out.symm, rfl⟩
end Go.Proofs.YtenpmjinbjlpbaaDoor
