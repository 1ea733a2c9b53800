/- Rods held against clues on the model's side: pzOn, pzFits. -/
import Derived.Test.YtenpmjinbjlpbaaPuzC
import Derived.Test.YtenpmjinbjlpbaaLast
namespace Go.Proofs.Ytenpmjinbjlpbaa
open Go.RowKit

/-- how many times are beyond t -/
def onN (fs : List Int) (t : Int) : Nat := (fs.filter (fun f => decide (t < f))).length
theorem onN_snoc (fs : List Int) (x t : Int) : onN (fs ++ [x]) t = onN fs t + (if t < x then 1 else 0) := by
  unfold onN
  rw [List.filter_append, List.length_append]
  by_cases h : t < x <;> simp [h]
theorem onN_le (fs : List Int) (t : Int) : onN fs t ≤ fs.length := List.length_filter_le _ _

set_option maxRecDepth 100000 in
set_option maxHeartbeats 1000000 in
theorem pzOn_any (L t : Int) (A : Option Addr) (c : Nat) (l : List (Int × Int)) (w : World) (hg : goodB L l = true) (hA : AntsAt w A l) :
    Calls Try.prog 43 #[.agg #[.int .i64 L, .slice A l.length c], .int .i64 t] w fun e w' => e = .returned (.int .i64 (onN (fallsOf L l) t)) ∧ Below w.heap.size w w' := by
  have HA := Lib.hid (hA.alloc (Obj.cells #[Value.int IntKind.i64 L, Value.slice A l.length c] 47))
  have HF := Lib.hid (fun w h => roFalls_good L A c l w hg h)
  have hfl := fallsOf_len hg
  have hl16 := good_len hg
  clear hA hg
  generalize fallsOf L l = fs at *
  go_enter Try.func43, Try.ntmps43
  go_wp2_with fail
  refine (HF.out _ HA.out).mono ?_
  rintro e w1 ⟨A1, n1, c1, rfl, hn1, hown, hb⟩
  have HB0 : Hid (Below w.heap.size w w1) := ((Below.refl _ _).alloc (Nat.le_refl _) _).trans (hb.mono (by simp))
  have HS := Lib.hid hown.sl
  clear hown hb
  subst hn1
  have hf16 : (fs.length : Int) ≤ 16 := by omega
  clear hfl hl16
  go_wp2
  go_loop [5, 11] (fun v i => ∃ k : Nat, k ≤ fs.length ∧ i = .int .i64 k ∧ v = .int .i64 (onN (fs.take k) t))
    (fun _ i => fs.length - (intOf i).toNat)
  case atStart => exact ⟨0, Nat.zero_le _, rfl, by simp [onN]⟩
  case round =>
    obtain ⟨k, hk, rfl, rfl⟩ := hrel
    by_cases hlt : k < fs.length
    · obtain ⟨b, off, rfl, l0, hc⟩ := HS.out.int_at hlt
      have a0 := hc k _ (List.getElem?_eq_getElem hlt)
      have hsn : onN (fs.take (k + 1)) t = onN (fs.take k) t + (if t < fs[k] then 1 else 0) := by rw [List.take_succ_eq_append_getElem hlt, onN_snoc]
      have hle := onN_le (fs.take k) t
      have hle2 : (fs.take k).length ≤ k := List.length_take_le _ _
      have HSN := Lib.hid hsn
      clear hc hsn
      generalize fs[k] = x at *
      have hq : ((onN (fs.take k) t : Nat) : Int) ≤ 16 := by omega
      clear hle hle2
      generalize onN (fs.take k) t = q at *
      have hkl : (k : Int) < (fs.length : Int) := by omega
      by_cases hx : t < x
      · have HX : Hid (onN (fs.take (k + 1)) t = q + 1) := by show _ = _; rw [HSN.out, if_pos hx]
        go_wp2
        go_round
        case rel => exact ⟨k + 1, by omega, by go_num, by rw [HX.out]; go_num⟩
        case measure => simp [intOf]; omega
      · have HX : Hid (onN (fs.take (k + 1)) t = q) := by show _ = _; rw [HSN.out, if_neg hx]; rfl
        go_wp2
        go_round
        case rel => exact ⟨k + 1, by omega, by go_num, by rw [HX.out]⟩
        case measure => simp [intOf]; omega
    · obtain rfl : k = fs.length := by omega
      go_wp2
      go_ret
      exact ⟨ret_int rfl, HB0.out⟩
theorem pzOn_at (L t : Int) (A : Option Addr) (c : Nat) (l : List (Int × Int)) (n : Int) (hn : (onN (fallsOf L l) t : Int) = n) (w : World) (hg : goodB L l = true) (hA : AntsAt w A l) :
    Calls Try.prog 43 #[.agg #[.int .i64 L, .slice A l.length c], .int .i64 t] w fun e w' => e = .returned (.int .i64 n) ∧ Below w.heap.size w w' := by
  subst hn; exact pzOn_any L t A c l w hg hA
end Go.Proofs.Ytenpmjinbjlpbaa
