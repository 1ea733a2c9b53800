/- The ways of a rod's ants as a text: stWays, and WaysOf on both sides. -/
import Derived.Test.YtiledncedekefaaGhosts
import Derived.Test.YtiledncedekefaaGood
import Derived.Test.YtiledncedekefaaGoodF
namespace Go.Proofs.Ytiledncedekefaa
open Go.RowKit

def oneW (y : Int) : ByteArray := if y < 0 then ⟨#[108]⟩ else ⟨#[114]⟩
def wT (l : List (Int × Int)) : ByteArray := l.foldl (fun s p => s ++ oneW p.2) ⟨#[]⟩
theorem oneW_size (y : Int) : (oneW y).size = 1 := by unfold oneW; split <;> rfl
theorem wT_snoc (l : List (Int × Int)) (k : Nat) (x : Int × Int) (h : l[k]? = some x) : wT (l.take (k + 1)) = wT (l.take k) ++ oneW x.2 := by
  obtain ⟨hk, rfl⟩ := List.getElem?_eq_some_iff.1 h
  unfold wT
  rw [List.take_succ_eq_append_getElem hk, List.foldl_append]
  rfl
theorem wT_size (l : List (Int × Int)) : ∀ k, k ≤ l.length → (wT (l.take k)).size = k := by
  intro k
  induction k with
  | zero => intro _; rfl
  | succ k ih =>
    intro hk
    rw [wT_snoc l k _ (List.getElem?_eq_getElem hk), ByteArray.size_append, ih (by omega), oneW_size]
theorem ret_str' {a b : ByteArray} (h : a = b) : Ending.returned (.string a) = .returned (.string b) := by rw [h]
theorem ret_strb {a b : ByteArray} {x y : Bool} (h : a = b) (h' : x = y) : Ending.returned (.tuple #[.string a, .bool x]) = .returned (.tuple #[.string b, .bool y]) := by rw [h, h']

set_option maxRecDepth 100000 in
set_option maxHeartbeats 1000000 in
theorem stWays_any (L : Int) (A : Option Addr) (c : Nat) (l : List (Int × Int)) (w : World) (hn : (l.length : Int) ≤ 16) (hA : AntsAt w A l) :
    Calls Try.prog 70 #[.agg #[.int .i64 L, .slice A l.length c]] w fun e w' => e = .returned (.string (wT l)) ∧ Below w.heap.size w w' := by
  have HA := Lib.hid hA
  clear hA
  go_enter Try.func70, Try.ntmps70
  go_wp2
  go_loopw [3, 9] (fun s i wr => ∃ k : Nat, k ≤ l.length ∧ i = .int .i64 k ∧ s = .string (wT (l.take k)) ∧ Below w.heap.size w wr)
    (fun _ i _ => l.length - (intOf i).toNat)
  case atStart => exact ⟨0, Nat.zero_le _, rfl, rfl, (Below.refl _ _).alloc (Nat.le_refl _) _⟩
  case round =>
    obtain ⟨k, hk, rfl, rfl, hb⟩ := hrel
    have HB := Lib.hid hb
    have HAr := Lib.hid (HA.out.below hb)
    clear hb
    by_cases hlt : k < l.length
    · obtain ⟨b, off, rfl, l0, hc⟩ := HAr.out.at_ hlt
      obtain ⟨a0, a1⟩ := hc k hlt
      have hx : l[k]? = some (l.getD k (0, 0)) := by rw [List.getD_eq_getElem?_getD, List.getElem?_eq_getElem hlt]; rfl
      have hs := wT_snoc l k _ hx
      have hz := wT_size l k hk
      clear hc hx
      generalize l.getD k (0, 0) = x at *
      obtain ⟨x1, x2⟩ := x
      simp only at a0 a1 hs
      generalize wT (l.take k) = s at *
      have f1 : ¬ 9223372036854775807 < s.size + 1 := by omega
      by_cases hneg : x2 < 0
      · have HS : Hid (wT (l.take (k + 1)) = s ++ ⟨#[108]⟩) := by show _ = _; rw [hs]; unfold oneW; rw [if_pos hneg]
        clear hs hz
        go_wp2
        go_roundw
        case rel => exact ⟨k + 1, by omega, by go_num, by rw [HS.out], HB.out.trans (((Below.refl _ _).alloc (Nat.le_refl _) _).mono HB.out.size)⟩
        case measure => simp [intOf]; omega
      · have HS : Hid (wT (l.take (k + 1)) = s ++ ⟨#[114]⟩) := by show _ = _; rw [hs]; unfold oneW; rw [if_neg hneg]
        clear hs hz
        go_wp2
        go_roundw
        case rel => exact ⟨k + 1, by omega, by go_num, by rw [HS.out], HB.out.trans (((Below.refl _ _).alloc (Nat.le_refl _) _).mono HB.out.size)⟩
        case measure => simp [intOf]; omega
    · obtain rfl : k = l.length := by omega
      have HE : Hid (l.take l.length = l) := List.take_length
      go_wp2
      go_ret
      exact ⟨ret_str' (by rw [HE.out]), HB.out⟩
/-- what WaysOf returns -/
def woV (L : Int) (l : List (Int × Int)) : ByteArray := if goodB L l then wT l else ⟨#[]⟩

set_option maxHeartbeats 1000000 in
theorem specWaysOf_any (L : Int) (A : Option Addr) (c : Nat) (l : List (Int × Int)) (w : World) (hA : AntsAt w A l) :
    Calls Try.prog 29 #[.agg #[.int .i64 L, .slice A l.length c]] w fun e w' => e = .returned (.tuple #[.string (woV L l), .bool (goodB L l)]) ∧ Below w.heap.size w w' := by
  have HA := Lib.hid (hA.alloc (Obj.cells #[Value.int IntKind.i64 L, Value.slice A l.length c] 28))
  clear hA
  cases hg : goodB L l with
  | false =>
    have HV : Hid (woV L l = ⟨#[]⟩) := by show _ = _; simp [woV, hg]
    have HG : Hid (∀ w, AntsAt w A l → Calls Try.prog 69 #[.agg #[.int .i64 L, .slice A l.length c]] w fun e w' => e = .returned (.bool false) ∧ Below w.heap.size w w') := fun w h => by
      rw [← hg]; exact roGood_any L A c l w h
    clear hg
    go_enter Try.func29, Try.ntmps29
    go_wp2_with fail
    refine (HG.out _ HA.out).mono ?_
    rintro e w1 ⟨rfl, hb⟩
    go_wp2
    go_ret2
    exact ⟨ret_strb HV.out.symm rfl, ((Below.refl _ _).alloc (Nat.le_refl _) _).trans (hb.mono (by simp))⟩
  | true =>
    have HV : Hid (woV L l = wT l) := by show _ = _; simp [woV, hg]
    have HG : Hid (∀ w, AntsAt w A l → Calls Try.prog 69 #[.agg #[.int .i64 L, .slice A l.length c]] w fun e w' => e = .returned (.bool true) ∧ Below w.heap.size w w') := fun w h => by
      rw [← hg]; exact roGood_any L A c l w h
    have hn := good_len hg
    have HW := Lib.hid (fun w h => stWays_any L A c l w hn h)
    clear hg
    go_enter Try.func29, Try.ntmps29
    go_wp2_with fail
    refine (HG.out _ HA.out).mono ?_
    rintro e w1 ⟨rfl, hb⟩
    have c0 : w1.cell? ⟨w.heap.size, 0, none⟩ = some (.int .i64 L) := by rw [hb.cell (p := ⟨w.heap.size, 0, none⟩) (by simp)]; simp
    have c1 : w1.cell? ⟨w.heap.size, 1, none⟩ = some (.slice A l.length c) := by rw [hb.cell (p := ⟨w.heap.size, 1, none⟩) (by simp)]; simp
    have HB := Lib.hid (((Below.refl _ w).alloc (Nat.le_refl _) _).trans (hb.mono (by simp)))
    have HA1 := Lib.hid (HA.out.below hb)
    clear hb
    go_wp2_with fail
    refine (HW.out _ HA1.out).mono ?_
    rintro e w2 ⟨rfl, hb⟩
    have HB2 := Lib.hid (HB.out.trans (hb.mono HB.out.size))
    clear hb
    go_wp2
    go_ret2
    exact ⟨ret_strb HV.out.symm rfl, HB2.out⟩

set_option maxRecDepth 100000 in
set_option maxHeartbeats 2000000 in
theorem implWaysOf_any (L : Int) (A : Option Addr) (c : Nat) (l : List (Int × Int)) (w : World) (hA : AntsAt w A l) :
    Calls Try.prog 31 #[.agg #[.int .i64 L, .slice A l.length c]] w fun e w' => e = .returned (.tuple #[.string (woV L l), .bool (goodB L l)]) ∧ Below w.heap.size w w' := by
  have HA := Lib.hid (hA.alloc (Obj.cells #[Value.int IntKind.i64 L, Value.slice A l.length c] 28))
  clear hA
  cases hg : goodB L l with
  | false =>
    have HV : Hid (woV L l = ⟨#[]⟩) := by show _ = _; simp [woV, hg]
    have HG : Hid (∀ w, AntsAt w A l → Calls Try.prog 72 #[.agg #[.int .i64 L, .slice A l.length c]] w fun e w' => e = .returned (.bool false) ∧ Below w.heap.size w w') := fun w h => by
      rw [← hg]; exact isRod_any L A c l w h
    clear hg
    go_enter Try.func31, Try.ntmps31
    go_wp2_with fail
    refine (HG.out _ HA.out).mono ?_
    rintro e w1 ⟨rfl, hb⟩
    go_wp2
    go_ret2
    exact ⟨ret_strb HV.out.symm rfl, ((Below.refl _ _).alloc (Nat.le_refl _) _).trans (hb.mono (by simp))⟩
  | true =>
    have HV : Hid (woV L l = wT l) := by show _ = _; simp [woV, hg]
    have HG : Hid (∀ w, AntsAt w A l → Calls Try.prog 72 #[.agg #[.int .i64 L, .slice A l.length c]] w fun e w' => e = .returned (.bool true) ∧ Below w.heap.size w w') := fun w h => by
      rw [← hg]; exact isRod_any L A c l w h
    have hn := good_len hg
    have HGG := Lib.hid hg
    have HO := Lib.hid (fun w h => ghostsOf_any L A c l w hn h)
    clear hg
    go_enter Try.func31, Try.ntmps31
    go_wp2_with fail
    refine (HG.out _ HA.out).mono ?_
    rintro e w1 ⟨rfl, hb⟩
    have c0 : w1.cell? ⟨w.heap.size, 0, none⟩ = some (.int .i64 L) := by rw [hb.cell (p := ⟨w.heap.size, 0, none⟩) (by simp)]; simp
    have c1 : w1.cell? ⟨w.heap.size, 1, none⟩ = some (.slice A l.length c) := by rw [hb.cell (p := ⟨w.heap.size, 1, none⟩) (by simp)]; simp
    have HB := Lib.hid (((Below.refl _ w).alloc (Nat.le_refl _) _).trans (hb.mono (by simp)))
    have HA1 := Lib.hid (HA.out.below hb)
    clear hb
    go_wp2_with fail
    refine (HO.out _ HA1.out).mono ?_
    rintro e w2 ⟨A2, c2, rfl, ho2, hb2⟩
    have HB2 := Lib.hid (HB.out.trans (hb2.mono HB.out.size))
    have HS2 := Lib.hid ho2.sl
    clear hb2 ho2 c0 c1
    have hgl : (gsOf L l).length = l.length := by simp [gsOf]
    have HGL := Lib.hid hgl
    clear hgl
    go_wp2
    go_loopw [4, 13] (fun s i wr => ∃ k : Nat, k ≤ l.length ∧ i = .int .i64 k ∧ s = .string (wT (l.take k)) ∧ Below w.heap.size w wr ∧ SlAt tripS wr A2 (gsOf L l))
      (fun _ i _ => l.length - (intOf i).toNat)
    case atStart => exact ⟨0, Nat.zero_le _, rfl, rfl, HB2.out, HS2.out⟩
    case round =>
      obtain ⟨k, hk, rfl, rfl, hb, hsl⟩ := hrel
      have HBr := Lib.hid hb
      have HSr := Lib.hid hsl
      clear hb hsl
      by_cases hlt : k < l.length
      · obtain ⟨b, off, rfl, l0, hc⟩ := HSr.out.trip_at (show k < (gsOf L l).length by rw [HGL.out]; exact hlt)
        have hxl : l[k]? = some l[k] := List.getElem?_eq_getElem hlt
        have hx : (gsOf L l)[k]? = some (l[k].1, l[k].2, L) := by unfold gsOf; rw [List.getElem?_map, hxl]; rfl
        obtain ⟨a0, a1, a2⟩ := hc k _ hx
        have hs := wT_snoc l k _ hxl
        have hz := wT_size l k hk
        have hwy := (good_ant HGG.out hxl).2.2.2
        clear hc hx hxl
        generalize l[k] = x at *
        obtain ⟨x1, x2⟩ := x
        simp only at a0 a1 a2 hs hwy
        generalize wT (l.take k) = s at *
        have f1 : ¬ 9223372036854775807 < s.size + 1 := by omega
        rcases hwy with rfl | rfl
        · have HS : Hid (wT (l.take (k + 1)) = s ++ ⟨#[108]⟩) := by show _ = _; rw [hs]; rfl
          clear hs hz
          go_wp2_with fail
          refine (goesLeft_at x1 (-1) L true rfl _).mono ?_
          rintro e w3 ⟨rfl, hb3⟩
          have HB3 := Lib.hid (((Below.refl _ wr).alloc (Nat.le_refl _) _).trans (hb3.mono (by simp)))
          clear hb3
          go_wp2
          go_roundw
          case rel => exact ⟨k + 1, by omega, by go_num, by rw [HS.out], HBr.out.trans (HB3.out.mono HBr.out.size), HSr.out.below HB3.out⟩
          case measure => simp [intOf]; omega
        · have HS : Hid (wT (l.take (k + 1)) = s ++ ⟨#[114]⟩) := by show _ = _; rw [hs]; rfl
          clear hs hz
          go_wp2_with fail
          refine (goesLeft_at x1 1 L false rfl _).mono ?_
          rintro e w3 ⟨rfl, hb3⟩
          have HB3 := Lib.hid (((Below.refl _ wr).alloc (Nat.le_refl _) _).trans (hb3.mono (by simp)))
          clear hb3
          go_wp2
          go_roundw
          case rel => exact ⟨k + 1, by omega, by go_num, by rw [HS.out], HBr.out.trans (HB3.out.mono HBr.out.size), HSr.out.below HB3.out⟩
          case measure => simp [intOf]; omega
      · obtain rfl : k = l.length := by omega
        have HE : Hid (l.take l.length = l) := List.take_length
        go_wp2
        go_ret2
        exact ⟨ret_strb (by rw [HV.out, HE.out]) rfl, HBr.out⟩
end Go.Proofs.Ytiledncedekefaa
