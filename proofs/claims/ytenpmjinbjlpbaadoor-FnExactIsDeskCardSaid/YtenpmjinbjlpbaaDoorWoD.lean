/- (WoA beside Good.) Words, the model's functions that read and build texts: woGood, woCount, woTimes, woStep, woOther; l1In, woTwo. -/
import Derived.Test.YtenpmjinbjlpbaaDoorProg
import Derived.Test.YtenpmjinbjlpbaaDoorBase
import Derived.Test.YtenpmjinbjlpbaaDoorGood
import Derived.Test.YtenpmjinbjlpbaaDoorWrd
namespace Go.Proofs.YtenpmjinbjlpbaaDoor
open Go.RowKit

def mkB (l : List UInt8) : ByteArray := ⟨l.toArray⟩
theorem mkB_toList (s : ByteArray) : mkB s.data.toList = s := rfl
theorem mkB_data (l : List UInt8) : (mkB l).data.toList = l := rfl
theorem mkB_size (l : List UInt8) : (mkB l).size = l.length := rfl
theorem extract_mk (s : ByteArray) (a b : Nat) : s.extract a b = mkB ((s.data.toList.take b).drop a) := by
  apply ByteArray.ext
  rw [ByteArray.data_extract]
  apply Array.ext'
  show _ = ((s.data.toList.take b).drop a)
  rw [Array.toList_extract, List.extract_eq_take_drop]
  rw [List.drop_take]

theorem mkB_append (a b : List UInt8) : mkB a ++ mkB b = mkB (a ++ b) := by
  apply ByteArray.ext
  rw [ByteArray.data_append]
  simp [mkB]
def btL (l : List UInt8) (k : Nat) : Int := ((l.getD k 0).toNat : Int)
theorem get_btL (s : ByteArray) : ∀ (n : Nat) (h : n < s.size), ((s[n]'h).toNat : Int) = btL s.data.toList n := fun n h => by
  have h' : n < s.data.size := h
  unfold btL
  rw [List.getD_eq_getElem?_getD, Array.getElem?_toList, Array.getElem?_eq_getElem h']
  rfl
theorem get_mk (l : List UInt8) : ∀ (n : Nat) (h : n < (mkB l).size), (((mkB l)[n]'h).toNat : Int) = btL l n := get_btL (mkB l)
theorem len_toList (s : ByteArray) : s.data.toList.length = s.size := Array.length_toList
theorem btL_bd (l : List UInt8) (k : Nat) : 0 ≤ btL l k ∧ btL l k ≤ 255 := by unfold btL; have := (l.getD k 0).toNat_lt; omega
theorem btL_eq (l : List UInt8) (k : Nat) (c : UInt8) (hk : k < l.length) : btL l k = (c.toNat : Int) ↔ l[k]? = some c := by
  unfold btL
  rw [List.getD_eq_getElem?_getD, List.getElem?_eq_getElem hk]
  simp only [Option.getD_some, Option.some.injEq]
  constructor
  · intro h; exact UInt8.toNat_inj.mp (by omega)
  · intro h; rw [h]
theorem take_snoc (l : List UInt8) {k : Nat} {x : UInt8} (h : l[k]? = some x) : l.take (k + 1) = l.take k ++ [x] := by rw [List.take_add_one, h]; rfl
theorem ret_strb {a b : ByteArray} {x y : Bool} (h : a = b) (h' : x = y) : Ending.returned (.tuple #[.string a, .bool x]) = .returned (.tuple #[.string b, .bool y]) := by rw [h, h']
theorem ret_str {a b : ByteArray} (h : a = b) : Ending.returned (.string a) = .returned (.string b) := by rw [h]


set_option maxHeartbeats 2000000 in
set_option maxRecDepth 100000 in
theorem woGood_any (s : ByteArray) (hs : s.size ≤ 1048576) (w : World) :
    Calls Tryd.prog 63 #[.string s] w fun e w' => e = .returned (.bool (okW s.data.toList)) ∧ w' = w := by
  have hl := len_toList s
  have hb := get_btL s
  generalize hgl : s.data.toList = l at *
  clear hgl
  by_cases hr : s.size ≤ 14
  · go_enter Tryd.func63, Tryd.ntmps63
    go_wp2
    go_loopw [3] (fun i wr => ∃ k : Nat, k ≤ s.size ∧ i = .int .i64 k ∧ (l.take k).all isLr = true ∧ wr = w)
      (fun i _ => s.size - (intOf i).toNat)
    case atStart => exact ⟨0, Nat.zero_le _, rfl, rfl, rfl⟩
    case round =>
      obtain ⟨k, hk, rfl, hd, rfl⟩ := hrel
      have HD := Lib.hid hd
      clear hd
      by_cases hlt : k < s.size
      · obtain ⟨x, hx⟩ : ∃ x, l[k]? = some x := ⟨_, List.getElem?_eq_getElem (by omega)⟩
        have e1 := btL_eq l k 108 (by omega)
        have e2 := btL_eq l k 114 (by omega)
        rw [hx] at e1 e2
        simp only [Option.some.injEq] at e1 e2
        have e108 : ((108 : UInt8).toNat : Int) = 108 := rfl
        have e114 : ((114 : UInt8).toNat : Int) = 114 := rfl
        rw [e108] at e1
        rw [e114] at e2
        have HX := Lib.hid hx
        clear hx
        have hyes : (x = 108 ∨ x = 114) → Hid ((l.take (k + 1)).all isLr = true) := fun h => Lib.hid (by
          rw [take_snoc l HX.out, List.all_append, HD.out]; rcases h with rfl | rfl <;> rfl)
        by_cases h1 : x = 108
        · have hb1 := e1.2 h1
          have HY := hyes (.inl h1)
          clear hyes e1 e2
          go_wp2
          go_roundw
          case rel => exact ⟨k + 1, by omega, by go_num, HY.out, trivial⟩
          case measure => simp [intOf]; omega
        · have hb1 : (btL l k != 108) = true := bne_iff_ne.2 fun e => h1 (e1.1 e)
          by_cases h2 : x = 114
          · have hb2 := e2.2 h2
            have HY := hyes (.inr h2)
            clear hyes e1 e2
            go_wp2
            go_roundw
            case rel => exact ⟨k + 1, by omega, by go_num, HY.out, trivial⟩
            case measure => simp [intOf]; omega
          · have hb2 : (btL l k != 114) = true := bne_iff_ne.2 fun e => h2 (e2.1 e)
            have HN : Hid (okW l = false) := Lib.hid (by
              rw [Bool.eq_false_iff]; intro e
              rcases okW_at e (List.mem_of_getElem? HX.out) with h | h
              · exact h1 h
              · exact h2 h)
            clear hyes e1 e2
            go_wp2
            go_ret
            exact ⟨ret_bool HN.out.symm, rfl⟩
      · obtain rfl : k = s.size := by omega
        have HV : Hid (okW l = true) := Lib.hid (by
          have := HD.out
          rw [List.take_of_length_le (by omega)] at this
          unfold okW; rw [this, decide_eq_true (by omega)]; rfl)
        go_wp2
        go_ret
        exact ⟨ret_bool HV.out.symm, rfl⟩
  · have HN : Hid (okW l = false) := Lib.hid (by unfold okW; rw [decide_eq_false (by omega)]; rfl)
    clear hl hb
    go_enter Tryd.func63, Tryd.ntmps63
    go_wp2
    go_ret
    exact ⟨ret_bool HN.out.symm, rfl⟩




end Go.Proofs.YtenpmjinbjlpbaaDoor
