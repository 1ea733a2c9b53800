/- Words, the model's functions that read and build texts: woGood, woCount, woTimes, woStep, woOther; l1In, woTwo. -/
import Derived.Test.YtohfkikdcoefcaaProg
import Derived.Test.YtohfkikdcoefcaaBase
import Derived.Test.YtohfkikdcoefcaaWrd
namespace Go.Proofs.Ytohfkikdcoefcaa
open Go.RowKit

def mkB (l : List UInt8) : ByteArray := ⟨l.toArray⟩
theorem mkB_toList (s : ByteArray) : mkB s.data.toList = s := rfl
theorem mkB_data (l : List UInt8) : (mkB l).data.toList = l := rfl
theorem mkB_size (l : List UInt8) : (mkB l).size = l.length := rfl
theorem extract_mk (s : ByteArray) (a b : Nat) : s.extract a b = mkB ((s.data.toList.take b).drop a) := by
  apply ByteArray.ext
  rw [ByteArray.data_extract]
  apply Array.ext'
  show _ = ((s.data.toList.take b).drop a)
  rw [Array.toList_extract, List.extract_eq_take_drop]
  rw [List.drop_take]

theorem mkB_append (a b : List UInt8) : mkB a ++ mkB b = mkB (a ++ b) := by
  apply ByteArray.ext
  rw [ByteArray.data_append]
  simp [mkB]
def btL (l : List UInt8) (k : Nat) : Int := ((l.getD k 0).toNat : Int)
theorem get_btL (s : ByteArray) : ∀ (n : Nat) (h : n < s.size), ((s[n]'h).toNat : Int) = btL s.data.toList n := fun n h => by
  have h' : n < s.data.size := h
  unfold btL
  rw [List.getD_eq_getElem?_getD, Array.getElem?_toList, Array.getElem?_eq_getElem h']
  rfl
theorem get_mk (l : List UInt8) : ∀ (n : Nat) (h : n < (mkB l).size), (((mkB l)[n]'h).toNat : Int) = btL l n := get_btL (mkB l)
theorem len_toList (s : ByteArray) : s.data.toList.length = s.size := Array.length_toList
theorem btL_bd (l : List UInt8) (k : Nat) : 0 ≤ btL l k ∧ btL l k ≤ 255 := by unfold btL; have := (l.getD k 0).toNat_lt; omega
theorem btL_eq (l : List UInt8) (k : Nat) (c : UInt8) (hk : k < l.length) : btL l k = (c.toNat : Int) ↔ l[k]? = some c := by
  unfold btL
  rw [List.getD_eq_getElem?_getD, List.getElem?_eq_getElem hk]
  simp only [Option.getD_some, Option.some.injEq]
  constructor
  · intro h; exact UInt8.toNat_inj.mp (by omega)
  · intro h; rw [h]
theorem take_snoc (l : List UInt8) {k : Nat} {x : UInt8} (h : l[k]? = some x) : l.take (k + 1) = l.take k ++ [x] := by rw [List.take_add_one, h]; rfl
theorem ret_strb {a b : ByteArray} {x y : Bool} (h : a = b) (h' : x = y) : Ending.returned (.tuple #[.string a, .bool x]) = .returned (.tuple #[.string b, .bool y]) := by rw [h, h']
theorem ret_str {a b : ByteArray} (h : a = b) : Ending.returned (.string a) = .returned (.string b) := by rw [h]

set_option maxHeartbeats 400000 in
theorem l1In_any (n lo hi : Int) (w : World) :
    Calls Try.prog 17 #[.int .i64 n, .int .i64 lo, .int .i64 hi] w fun e w' => e = .returned (.bool (decide (lo ≤ n) && decide (n ≤ hi))) ∧ w' = w := by
  go_enter Try.func17, Try.ntmps17
  go_wp2
  all_goals go_ret
  all_goals exact ⟨ret_bool (by simp [*] <;> omega), rfl⟩
theorem in_at (n lo hi : Int) (r : Bool) (hr : (decide (lo ≤ n) && decide (n ≤ hi)) = r) (w : World) :
    Calls Try.prog 17 #[.int .i64 n, .int .i64 lo, .int .i64 hi] w fun e w' => e = .returned (.bool r) ∧ w' = w := by rw [← hr]; exact l1In_any n lo hi w



set_option maxHeartbeats 2000000 in
set_option maxRecDepth 100000 in
theorem woTimes_any (c : UInt8) (n : Int) (hn : n ≤ 1048576) (w : World) :
    Calls Try.prog 19 #[.string (mkB [c]), .int .i64 n] w fun e w' => e = .returned (.string (mkB (List.replicate n.toNat c))) ∧ w' = w := by
  have hz1 : (mkB [c]).size = 1 := rfl
  go_enter Try.func19, Try.ntmps19
  go_wp2
  go_loopw [1, 5] (fun i s wr => ∃ k : Nat, k ≤ n.toNat ∧ i = .int .i64 (n - k) ∧ s = .string (mkB (List.replicate k c)) ∧ wr = w)
    (fun i _ _ => (intOf i).toNat)
  case atStart => exact ⟨0, Nat.zero_le _, by simp, rfl, rfl⟩
  case round =>
    obtain ⟨k, hk, rfl, rfl, rfl⟩ := hrel
    have hz : (mkB (List.replicate k c)).size = k := by rw [mkB_size, List.length_replicate]
    have hs : Hid (mkB (List.replicate k c) ++ mkB [c] = mkB (List.replicate (k + 1) c)) := Lib.hid (by rw [mkB_append, List.replicate_succ'])
    generalize hgs : mkB (List.replicate k c) = s at *
    by_cases hlt : 0 < n - k
    · have f1 : ¬ 9223372036854775807 < s.size + 1 := by omega
      go_wp2
      go_roundw
      case rel => exact ⟨k + 1, by omega, by go_num, by rw [hs.out], trivial⟩
      case measure => simp [intOf]; omega
    · have hke : Hid (k = n.toNat) := Lib.hid (by omega)
      go_wp2
      go_ret
      exact ⟨ret_str (by rw [← hke.out, hgs]), rfl⟩


end Go.Proofs.Ytohfkikdcoefcaa
