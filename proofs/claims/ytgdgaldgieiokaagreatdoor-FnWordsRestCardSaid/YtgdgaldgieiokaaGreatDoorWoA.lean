/- Words, the model's functions that read and build texts: woGood, woCount, woTimes, woStep, woOther; l1In, woTwo. -/
import Derived.Test.YtgdgaldgieiokaaGreatDoorProg
import Derived.Test.YtgdgaldgieiokaaGreatDoorBase
import Derived.Test.YtgdgaldgieiokaaGreatDoorWrd
namespace Go.Proofs.YtgdgaldgieiokaaGreatDoor
open Go.RowKit

def mkB (l : List UInt8) : ByteArray := ⟨l.toArray⟩
theorem mkB_toList (s : ByteArray) : mkB s.data.toList = s := rfl
theorem mkB_data (l : List UInt8) : (mkB l).data.toList = l := rfl
theorem mkB_size (l : List UInt8) : (mkB l).size = l.length := rfl
theorem extract_mk (s : ByteArray) (a b : Nat) : s.extract a b = mkB ((s.data.toList.take b).drop a) := by
  apply ByteArray.ext
  rw [ByteArray.data_extract]
  apply Array.ext'
  show _ = ((s.data.toList.take b).drop a)
  rw [Array.toList_extract, List.extract_eq_take_drop]
  rw [List.drop_take]

theorem mkB_append (a b : List UInt8) : mkB a ++ mkB b = mkB (a ++ b) := by
  apply ByteArray.ext
  rw [ByteArray.data_append]
  simp [mkB]
def btL (l : List UInt8) (k : Nat) : Int := ((l.getD k 0).toNat : Int)
theorem get_btL (s : ByteArray) : ∀ (n : Nat) (h : n < s.size), ((s[n]'h).toNat : Int) = btL s.data.toList n := fun n h => by
  have h' : n < s.data.size := h
  unfold btL
  rw [List.getD_eq_getElem?_getD, Array.getElem?_toList, Array.getElem?_eq_getElem h']
  rfl
theorem get_mk (l : List UInt8) : ∀ (n : Nat) (h : n < (mkB l).size), (((mkB l)[n]'h).toNat : Int) = btL l n := get_btL (mkB l)
theorem len_toList (s : ByteArray) : s.data.toList.length = s.size := Array.length_toList
theorem btL_bd (l : List UInt8) (k : Nat) : 0 ≤ btL l k ∧ btL l k ≤ 255 := by unfold btL; have := (l.getD k 0).toNat_lt; omega
theorem btL_eq (l : List UInt8) (k : Nat) (c : UInt8) (hk : k < l.length) : btL l k = (c.toNat : Int) ↔ l[k]? = some c := by
  unfold btL
  rw [List.getD_eq_getElem?_getD, List.getElem?_eq_getElem hk]
  simp only [Option.getD_some, Option.some.injEq]
  constructor
  · intro h; exact UInt8.toNat_inj.mp (by omega)
  · intro h; rw [h]
theorem take_snoc (l : List UInt8) {k : Nat} {x : UInt8} (h : l[k]? = some x) : l.take (k + 1) = l.take k ++ [x] := by rw [List.take_add_one, h]; rfl
theorem ret_strb {a b : ByteArray} {x y : Bool} (h : a = b) (h' : x = y) : Ending.returned (.tuple #[.string a, .bool x]) = .returned (.tuple #[.string b, .bool y]) := by rw [h, h']
theorem ret_str {a b : ByteArray} (h : a = b) : Ending.returned (.string a) = .returned (.string b) := by rw [h]

set_option maxHeartbeats 400000 in
theorem l1In_any (n lo hi : Int) (w : World) :
    Calls Tryz.prog 53 #[.int .i64 n, .int .i64 lo, .int .i64 hi] w fun e w' => e = .returned (.bool (decide (lo ≤ n) && decide (n ≤ hi))) ∧ w' = w := by
  go_enter Tryz.func53, Tryz.ntmps53
  go_wp2
  all_goals go_ret
  all_goals exact ⟨ret_bool (by simp [*] <;> omega), rfl⟩
theorem in_at (n lo hi : Int) (r : Bool) (hr : (decide (lo ≤ n) && decide (n ≤ hi)) = r) (w : World) :
    Calls Tryz.prog 53 #[.int .i64 n, .int .i64 lo, .int .i64 hi] w fun e w' => e = .returned (.bool r) ∧ w' = w := by rw [← hr]; exact l1In_any n lo hi w

set_option maxHeartbeats 2000000 in
set_option maxRecDepth 100000 in
theorem woGood_any (s : ByteArray) (hs : s.size ≤ 1048576) (w : World) :
    Calls Tryz.prog 32 #[.string s] w fun e w' => e = .returned (.bool (okW s.data.toList)) ∧ w' = w := by
  have hl := len_toList s
  have hb := get_btL s
  generalize hgl : s.data.toList = l at *
  clear hgl
  by_cases hr : s.size ≤ 14
  · go_enter Tryz.func32, Tryz.ntmps32
    go_wp2
    go_loopw [3] (fun i wr => ∃ k : Nat, k ≤ s.size ∧ i = .int .i64 k ∧ (l.take k).all isLr = true ∧ wr = w)
      (fun i _ => s.size - (intOf i).toNat)
    case atStart => exact ⟨0, Nat.zero_le _, rfl, rfl, rfl⟩
    case round =>
      obtain ⟨k, hk, rfl, hd, rfl⟩ := hrel
      have HD := Lib.hid hd
      clear hd
      by_cases hlt : k < s.size
      · obtain ⟨x, hx⟩ : ∃ x, l[k]? = some x := ⟨_, List.getElem?_eq_getElem (by omega)⟩
        have e1 := btL_eq l k 108 (by omega)
        have e2 := btL_eq l k 114 (by omega)
        rw [hx] at e1 e2
        simp only [Option.some.injEq] at e1 e2
        have e108 : ((108 : UInt8).toNat : Int) = 108 := rfl
        have e114 : ((114 : UInt8).toNat : Int) = 114 := rfl
        rw [e108] at e1
        rw [e114] at e2
        have HX := Lib.hid hx
        clear hx
        have hyes : (x = 108 ∨ x = 114) → Hid ((l.take (k + 1)).all isLr = true) := fun h => Lib.hid (by
          rw [take_snoc l HX.out, List.all_append, HD.out]; rcases h with rfl | rfl <;> rfl)
        by_cases h1 : x = 108
        · have hb1 := e1.2 h1
          have HY := hyes (.inl h1)
          clear hyes e1 e2
          go_wp2
          go_roundw
          case rel => exact ⟨k + 1, by omega, by go_num, HY.out, trivial⟩
          case measure => simp [intOf]; omega
        · have hb1 : (btL l k != 108) = true := bne_iff_ne.2 fun e => h1 (e1.1 e)
          by_cases h2 : x = 114
          · have hb2 := e2.2 h2
            have HY := hyes (.inr h2)
            clear hyes e1 e2
            go_wp2
            go_roundw
            case rel => exact ⟨k + 1, by omega, by go_num, HY.out, trivial⟩
            case measure => simp [intOf]; omega
          · have hb2 : (btL l k != 114) = true := bne_iff_ne.2 fun e => h2 (e2.1 e)
            have HN : Hid (okW l = false) := Lib.hid (by
              rw [Bool.eq_false_iff]; intro e
              rcases okW_at e (List.mem_of_getElem? HX.out) with h | h
              · exact h1 h
              · exact h2 h)
            clear hyes e1 e2
            go_wp2
            go_ret
            exact ⟨ret_bool HN.out.symm, rfl⟩
      · obtain rfl : k = s.size := by omega
        have HV : Hid (okW l = true) := Lib.hid (by
          have := HD.out
          rw [List.take_of_length_le (by omega)] at this
          unfold okW; rw [this, decide_eq_true (by omega)]; rfl)
        go_wp2
        go_ret
        exact ⟨ret_bool HV.out.symm, rfl⟩
  · have HN : Hid (okW l = false) := Lib.hid (by unfold okW; rw [decide_eq_false (by omega)]; rfl)
    clear hl hb
    go_enter Tryz.func32, Tryz.ntmps32
    go_wp2
    go_ret
    exact ⟨ret_bool HN.out.symm, rfl⟩

set_option maxHeartbeats 2000000 in
set_option maxRecDepth 100000 in
theorem woCount_any (l : List UInt8) (c : UInt8) (hl : l.length ≤ 1048576) (w : World) :
    Calls Tryz.prog 38 #[.string (mkB l), .int .u8 c.toNat] w fun e w' => e = .returned (.int .i64 (l.count c : Nat)) ∧ w' = w := by
  have hb := get_mk l
  have hz : (mkB l).size = l.length := rfl
  have hc := c.toNat_lt
  go_enter Tryz.func38, Tryz.ntmps38
  go_wp2
  go_loopw [5, 6] (fun n i wr => ∃ k : Nat, k ≤ l.length ∧ i = .int .i64 k ∧ n = .int .i64 ((l.take k).count c : Nat) ∧ wr = w)
    (fun _ i _ => l.length - (intOf i).toNat)
  case atStart => exact ⟨0, Nat.zero_le _, rfl, rfl, rfl⟩
  case round =>
    obtain ⟨k, hk, rfl, rfl, rfl⟩ := hrel
    by_cases hlt : k < l.length
    · obtain ⟨x, hx⟩ : ∃ x, l[k]? = some x := ⟨_, List.getElem?_eq_getElem (by omega)⟩
      have e1 := btL_eq l k c (by omega)
      rw [hx] at e1
      simp only [Option.some.injEq] at e1
      have hts := take_snoc l hx
      have hle := List.count_le_length (a := c) (l := l.take k)
      rw [List.length_take] at hle
      have HT : Hid ((l.take (k + 1)).count c = (l.take k).count c + (if x = c then 1 else 0)) := Lib.hid (by
        rw [hts, List.count_append]; congr 1
        by_cases h : x = c
        · rw [if_pos h, h]; simp
        · rw [if_neg h, List.count_cons_of_ne h]; rfl)
      clear hts hx
      generalize (l.take k).count c = n at *
      by_cases h1 : x = c
      · have hb1 := e1.2 h1
        have HT2 : Hid ((l.take (k + 1)).count c = n + 1) := Lib.hid (by rw [HT.out, if_pos h1])
        clear e1 h1
        go_wp2
        go_roundw
        case rel => exact ⟨k + 1, by omega, by go_num, by rw [HT2.out]; go_num, trivial⟩
        case measure => simp [intOf]; omega
      · have hb1 : ¬ btL l k = (c.toNat : Int) := fun e => h1 (e1.1 e)
        have HT2 : Hid ((l.take (k + 1)).count c = n) := Lib.hid (by rw [HT.out, if_neg h1]; rfl)
        clear e1 h1
        go_wp2
        go_roundw
        case rel => exact ⟨k + 1, by omega, by go_num, by rw [HT2.out], trivial⟩
        case measure => simp [intOf]; omega
    · have hke : Hid (k = l.length) := Lib.hid (by omega)
      go_wp2
      go_ret
      exact ⟨ret_int (by rw [hke.out, List.take_length]), rfl⟩

set_option maxHeartbeats 2000000 in
set_option maxRecDepth 100000 in
theorem woTimes_any (c : UInt8) (n : Int) (hn : n ≤ 1048576) (w : World) :
    Calls Tryz.prog 37 #[.string (mkB [c]), .int .i64 n] w fun e w' => e = .returned (.string (mkB (List.replicate n.toNat c))) ∧ w' = w := by
  have hz1 : (mkB [c]).size = 1 := rfl
  go_enter Tryz.func37, Tryz.ntmps37
  go_wp2
  go_loopw [1, 5] (fun i s wr => ∃ k : Nat, k ≤ n.toNat ∧ i = .int .i64 (n - k) ∧ s = .string (mkB (List.replicate k c)) ∧ wr = w)
    (fun i _ _ => (intOf i).toNat)
  case atStart => exact ⟨0, Nat.zero_le _, by simp, rfl, rfl⟩
  case round =>
    obtain ⟨k, hk, rfl, rfl, rfl⟩ := hrel
    have hz : (mkB (List.replicate k c)).size = k := by rw [mkB_size, List.length_replicate]
    have hs : Hid (mkB (List.replicate k c) ++ mkB [c] = mkB (List.replicate (k + 1) c)) := Lib.hid (by rw [mkB_append, List.replicate_succ'])
    generalize hgs : mkB (List.replicate k c) = s at *
    by_cases hlt : 0 < n - k
    · have f1 : ¬ 9223372036854775807 < s.size + 1 := by omega
      go_wp2
      go_roundw
      case rel => exact ⟨k + 1, by omega, by go_num, by rw [hs.out], trivial⟩
      case measure => simp [intOf]; omega
    · have hke : Hid (k = n.toNat) := Lib.hid (by omega)
      go_wp2
      go_ret
      exact ⟨ret_str (by rw [← hke.out, hgs]), rfl⟩

theorem drop_at {l : List UInt8} {k : Nat} {x : UInt8} (h : l[k]? = some x) : l.drop k = x :: l.drop (k + 1) := by
  obtain ⟨hk, rfl⟩ := List.getElem?_eq_some_iff.1 h
  exact List.drop_eq_getElem_cons hk
theorem head_drop (l : List UInt8) (k : Nat) : (l.drop k).head? = l[k]? := List.head?_drop

set_option maxHeartbeats 2000000 in
set_option maxRecDepth 100000 in
theorem woStep_any (l : List UInt8) (hl : l.length ≤ 1048576) (w : World) :
    Calls Tryz.prog 33 #[.string (mkB l)] w fun e w' => e = .returned (.string (mkB (stp l))) ∧ w' = w := by
  have hb := get_mk l
  have hz : (mkB l).size = l.length := rfl
  have hzl : (mkB [108, 114]).size = 2 := rfl
  go_enter Tryz.func33, Tryz.ntmps33
  go_wp2
  go_loopw [3, 4] (fun s i wr => ∃ (k : Nat) (p : List UInt8), k ≤ l.length ∧ i = .int .i64 k ∧ s = .string (mkB p) ∧ p.length = k ∧ p ++ stp (l.drop k) = stp l ∧ wr = w)
    (fun _ i _ => l.length - (intOf i).toNat)
  case atStart => exact ⟨0, [], Nat.zero_le _, rfl, rfl, rfl, rfl, rfl⟩
  case round =>
    obtain ⟨k, p, hk, rfl, rfl, hp, hs, rfl⟩ := hrel
    have hzp : (mkB p).size = k := hp
    by_cases hlt : k < l.length
    · obtain ⟨x, hx⟩ : ∃ x, l[k]? = some x := ⟨_, List.getElem?_eq_getElem (by omega)⟩
      have e1 := btL_eq l k 114 hlt
      rw [hx] at e1
      simp only [Option.some.injEq] at e1
      have hd := drop_at hx
      have hone : mkB p ++ mkB [x] = mkB (p ++ [x]) := mkB_append _ _
      have htwo : mkB p ++ mkB [108, 114] = mkB (p ++ [108, 114]) := mkB_append _ _
      have hext : (mkB l).extract k (k + 1) = mkB [x] := by
        rw [extract_mk, mkB_data, take_snoc l hx, List.drop_append_of_le_length (by rw [List.length_take]; omega), List.drop_eq_nil_of_le (by rw [List.length_take]; omega)]; rfl
      have hone1 : Hid (¬ (x = 114 ∧ (l.drop (k + 1)).head? = some 108) → p ++ [x] ++ stp (l.drop (k + 1)) = stp l) := Lib.hid (fun h => by
        rw [← hs, hd, stp_one h]; simp)
      have hzx : (mkB [x]).size = 1 := rfl
      by_cases h2 : k + 1 < l.length
      · obtain ⟨y, hy⟩ : ∃ y, l[k + 1]? = some y := ⟨_, List.getElem?_eq_getElem (by omega)⟩
        have e2 := btL_eq l (k + 1) 108 h2
        rw [hy] at e2
        simp only [Option.some.injEq] at e2
        have hd2 := drop_at hy
        have hh : Hid ((l.drop (k + 1)).head? = some y) := Lib.hid (by rw [head_drop, hy])
        by_cases h3 : x = 114
        · have hb1 : btL l k = 114 := e1.2 h3
          by_cases h4 : y = 108
          · have hb2 : btL l (k + 1) = 108 := e2.2 h4
            have HS : Hid (p ++ [108, 114] ++ stp (l.drop (k + 1 + 1)) = stp l) := Lib.hid (by rw [← hs, hd, hd2, h3, h4, stp_two]; simp)
            have HT := Lib.hid htwo
            clear hx hy e1 e2 hd hd2 hone htwo hext hone1 hh hs h3 h4
            go_wp2
            go_roundw
            case rel => exact ⟨k + 1 + 1, p ++ [108, 114], by omega, by go_num, congrArg Value.string HT.out, by simp [hp], HS.out, trivial⟩
            case measure => simp [intOf]; omega
          · have hb2 : ¬ btL l (k + 1) = 108 := fun e => h4 (e2.1 e)
            have HS := Lib.hid (hone1.out (by rintro ⟨_, h⟩; rw [hh.out] at h; exact h4 (Option.some.inj h)))
            have HT := Lib.hid hone
            have HE := Lib.hid hext
            clear hx hy e1 e2 hd hd2 hone htwo hone1 hh hs h3 h4
            go_wp2
            go_roundw
            case rel => exact ⟨k + 1, p ++ [x], by omega, by go_num, congrArg Value.string (by rw [← HT.out]), by simp [hp], HS.out, trivial⟩
            case measure => simp [intOf]; omega
        · have hb1 : ¬ btL l k = 114 := fun e => h3 (e1.1 e)
          have HS := Lib.hid (hone1.out (by rintro ⟨h, _⟩; exact h3 h))
          have HT := Lib.hid hone
          clear hx hy e1 e2 hd hd2 hone htwo hone1 hh hs h3
          go_wp2
          go_roundw
          case rel => exact ⟨k + 1, p ++ [x], by omega, by go_num, congrArg Value.string (by rw [← HT.out]), by simp [hp], HS.out, trivial⟩
          case measure => simp [intOf]; omega
      · have HS := Lib.hid (hone1.out (by rintro ⟨_, h⟩; rw [head_drop, List.getElem?_eq_none (by omega)] at h; cases h))
        have HT := Lib.hid hone
        clear hx e1 hd hone htwo hone1 hs
        go_wp2
        go_roundw
        case rel => exact ⟨k + 1, p ++ [x], by omega, by go_num, congrArg Value.string (by rw [← HT.out]), by simp [hp], HS.out, trivial⟩
        case measure => simp [intOf]; omega
    · have HS : Hid (p = stp l) := Lib.hid (by rw [← hs, List.drop_eq_nil_of_le (by omega)]; simp [stp])
      clear hs
      go_wp2
      go_ret
      exact ⟨ret_str (by rw [HS.out]), rfl⟩

set_option maxHeartbeats 2000000 in
set_option maxRecDepth 100000 in
theorem woOther_any (l : List UInt8) (hl : l.length ≤ 1048576) (w : World) :
    Calls Tryz.prog 47 #[.string (mkB l)] w fun e w' => e = .returned (.string (mkB (oth l))) ∧ w' = w := by
  have hb := get_mk l
  have hz : (mkB l).size = l.length := rfl
  go_enter Tryz.func47, Tryz.ntmps47
  go_wp2
  go_loopw [3, 4] (fun s i wr => ∃ k : Nat, k ≤ l.length ∧ i = .int .i64 ((k : Int) - 1) ∧ s = .string (mkB (oth (l.drop k))) ∧ wr = w)
    (fun _ i _ => (intOf i + 1).toNat)
  case atStart => exact ⟨l.length, Nat.le_refl _, rfl, by rw [List.drop_length]; rfl, rfl⟩
  case round =>
    obtain ⟨k, hk, rfl, rfl, rfl⟩ := hrel
    have hzo : (mkB (oth (l.drop k))).size ≤ 1048576 := by rw [mkB_size]; unfold oth; simp; omega
    cases k with
    | zero =>
      go_wp2
      go_ret
      exact ⟨rfl, rfl⟩
    | succ k =>
      obtain ⟨x, hx⟩ : ∃ x, l[k]? = some x := ⟨_, List.getElem?_eq_getElem (by omega)⟩
      have e1 := btL_eq l k 108 (by omega)
      rw [hx] at e1
      simp only [Option.some.injEq] at e1
      have hs : oth (l.drop k) = oth (l.drop (k + 1)) ++ [othB x] := by
        obtain ⟨hk', rfl⟩ := List.getElem?_eq_some_iff.1 hx
        rw [List.drop_eq_getElem_cons hk']; unfold oth; rw [List.map_cons, List.reverse_cons]
      have ha : mkB (oth (l.drop (k + 1))) ++ mkB [othB x] = mkB (oth (l.drop k)) := by rw [mkB_append, hs]
      have hki : ((k + 1 : Nat) : Int) - 1 = k := by omega
      rw [hki]
      by_cases h : x = 108
      · have hb1 : btL l k = 108 := e1.2 h
        have HA : Hid (mkB (oth (l.drop (k + 1))) ++ mkB [114] = mkB (oth (l.drop k))) := Lib.hid (by rw [← ha, h]; rfl)
        clear hx e1 hs ha
        go_wp2
        go_roundw
        case rel => exact ⟨k, by omega, by go_num, congrArg Value.string HA.out, trivial⟩
        case measure => simp [intOf]
      · have hb1 : ¬ btL l k = 108 := fun e => h (e1.1 e)
        have HA : Hid (mkB (oth (l.drop (k + 1))) ++ mkB [108] = mkB (oth (l.drop k))) := Lib.hid (by rw [← ha]; unfold othB; rw [if_neg h])
        clear hx e1 hs ha
        go_wp2
        go_roundw
        case rel => exact ⟨k, by omega, by go_num, congrArg Value.string HA.out, trivial⟩
        case measure => simp [intOf]
end Go.Proofs.YtgdgaldgieiokaaGreatDoor
