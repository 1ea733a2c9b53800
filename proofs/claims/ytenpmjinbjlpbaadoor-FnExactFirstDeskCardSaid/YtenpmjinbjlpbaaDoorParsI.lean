/- strings.IndexRune and strings.IndexAny with the letters "lr", at every string: the first byte that is one of the two (a byte below 128 stands for itself, whatever stands round it). -/
import Derived.Test.YtenpmjinbjlpbaaDoorBase
import Derived.Test.YtenpmjinbjlpbaaDoorPars
import Derived.Test.YtenpmjinbjlpbaaDoorShelfP
import Derived.Laws.RangeAny
import Derived.Laws.Runes
import Derived.WalkMore
namespace Go.Proofs.YtenpmjinbjlpbaaDoor
open Go.RowKit

theorem get_bang (s : ByteArray) (k : Nat) (h : k < s.size) : s.get! k = s[k]'h := by
  simp [ByteArray.get!, getElem!_pos, h]
  rfl

theorem decode_inner (s : ByteArray) (pos : Nat) (h : pos < s.size) (ha : 128 ≤ (s[pos]'h).toNat) :
    pos + (Utf8.decode s pos).2 ≤ s.size ∧ ∀ j, pos ≤ j → j < pos + (Utf8.decode s pos).2 → 128 ≤ (s.get! j).toNat := by
  have hn : ¬ (s[pos]'h).toNat < 128 := by omega
  have h0 : 128 ≤ (s.get! pos).toNat := by rw [get_bang s pos h]; exact ha
  simp only [Utf8.decode, Go.get_at s pos h, hn, if_false]
  repeat' split
  all_goals (rename_i hc; try rename_i hd; skip)
  all_goals simp only [Bool.and_eq_true, decide_eq_true_eq, beq_iff_eq] at *
  all_goals refine ⟨by omega, fun j h1 h2 => ?_⟩
  all_goals
    by_cases e0 : j = pos
    · rw [e0]; exact h0
    by_cases e1 : j = pos + 1
    · rw [e1]; omega
    by_cases e2 : j = pos + 2
    · rw [e2]; omega
    by_cases e3 : j = pos + 3
    · rw [e3]; omega
    omega

def lrS : ByteArray := ⟨#[108, 114]⟩

set_option maxHeartbeats 2000000 in
set_option maxRecDepth 100000 in
theorem valid_any (r : Int) (w : World) :
    Calls Tryd.prog 144 #[.int .i32 r] w fun e w' => e = .returned (.bool (validRune r)) ∧ w' = w := by
  by_cases h1 : 0 ≤ r
  · by_cases h2 : r < 55296
    · have hv : validRune r = true := decide_eq_true (.inl ⟨h1, h2⟩)
      go_enter Tryd.func144, Tryd.ntmps144
      go_wp2
      go_ret
      first | exact ⟨ret_bool hv.symm, rfl⟩ | exact ⟨rfl, rfl⟩
    · by_cases h3 : 57343 < r
      · by_cases h4 : r ≤ 1114111
        · have hv : validRune r = true := decide_eq_true (.inr ⟨h3, h4⟩)
          go_enter Tryd.func144, Tryd.ntmps144
          go_wp2
          go_ret
          first | exact ⟨ret_bool hv.symm, rfl⟩ | exact ⟨rfl, rfl⟩
        · have hv : validRune r = false := decide_eq_false (by omega)
          go_enter Tryd.func144, Tryd.ntmps144
          go_wp2
          go_ret
          first | exact ⟨ret_bool hv.symm, rfl⟩ | exact ⟨rfl, rfl⟩
      · have hv : validRune r = false := decide_eq_false (by omega)
        go_enter Tryd.func144, Tryd.ntmps144
        go_wp2
        go_ret
        first | exact ⟨ret_bool hv.symm, rfl⟩ | exact ⟨rfl, rfl⟩
  · have hv : validRune r = false := decide_eq_false (by omega)
    have h3 : ¬ 57343 < r := by omega
    go_enter Tryd.func144, Tryd.ntmps144
    go_wp2
    go_ret
    first | exact ⟨ret_bool hv.symm, rfl⟩ | exact ⟨rfl, rfl⟩

set_option maxHeartbeats 2000000 in
set_option maxRecDepth 100000 in
theorem indexRune_err (w : World) :
    Calls Tryd.prog 118 #[.string lrS, .int .i32 65533] w fun e w' => e = .returned (.int .i64 (-1)) ∧ Below w.heap.size w w' := by
  have n0 := fun ty => run_next_ascii (P := Tryd.prog) w lrS 0 ty (by decide) (by decide)
  have n1 := fun ty => run_next_ascii (P := Tryd.prog) w lrS 1 ty (by decide) (by decide)
  have n2 := fun ty => run_next_end (P := Tryd.prog) w lrS 2 ty (by decide)
  go_enter Tryd.func118, Tryd.ntmps118
  go_wp2
  refine wp_loop_rounds 4 ?_
  rw [rounds_succ]
  go_wp2
  rw [rounds_succ]
  go_wp2
  rw [rounds_succ]
  go_wp2
  go_ret
  exact ⟨rfl, (Below.refl _ _).alloc (Nat.le_refl _) _⟩

set_option maxHeartbeats 2000000 in
set_option maxRecDepth 100000 in
theorem indexRune_bad (r : Int) (h : 128 ≤ r) (h1 : r ≠ 65533) (hv : validRune r = false) (w : World) :
    Calls Tryd.prog 118 #[.string lrS, .int .i32 r] w fun e w' => e = .returned (.int .i64 (-1)) ∧ Below w.heap.size w w' := by
  have HV : Hid (∀ W, Calls Tryd.prog 144 #[.int .i32 r] W fun e w' => e = .returned (.bool false) ∧ w' = W) := fun W => by rw [← hv]; exact valid_any r W
  clear hv
  go_enter Tryd.func118, Tryd.ntmps118
  go_wp2_with fail
  refine (HV.out _).mono ?_
  rintro e w5 ⟨rfl, hw5⟩
  obtain rfl : w = w5 := hw5.symm
  go_wp2
  go_ret
  exact ⟨rfl, Below.refl _ _⟩

set_option maxHeartbeats 2000000 in
set_option maxRecDepth 100000 in
theorem indexRune_far (r : Int) (h : 128 ≤ r) (h1 : r ≠ 65533) (hv : validRune r = true) (w : World) :
    Calls Tryd.prog 118 #[.string lrS, .int .i32 r] w fun e w' => e = .returned (.int .i64 (-1)) ∧ Below w.heap.size w w' := by
  have HV : Hid (∀ W, Calls Tryd.prog 144 #[.int .i32 r] W fun e w' => e = .returned (.bool true) ∧ w' = W) := fun W => by rw [← hv]; exact valid_any r W
  obtain ⟨e2, e4, el⟩ := encode_facts r (by rw [validRune_eq]; exact hv) h
  clear hv
  have hz : lrS.size = 2 := rfl
  have hcv : ∀ W : World, (convert 21 9 (.int .i32 r)).run Tryd.prog W = .ok (.string (Utf8.encode r)) W := fun W => run_convert_int_string W _ _ .i32 r (by rw [Tryd.underlying21]; rfl) Tryd.underlying9
  generalize Utf8.encode r = es at *
  by_cases h3 : es.size = 2
  · have h1 : 128 ≤ (es[1]'(by omega)).toNat := by
      have := el (by omega)
      simpa [h3] using this
    clear el
    have hI : ((es.size : Int) - 1) = 1 := by omega
    have q1 : ((lrS[1]'(by decide)).toNat : Int) = 114 := rfl
    obtain ⟨y, hy⟩ : ∃ y : UInt8, es[1]'(by omega) = y := ⟨_, rfl⟩
    rw [hy] at h1
    have hyn : ¬ (114 : Int) = (y.toNat : Int) := by omega
    go_enter Tryd.func118, Tryd.ntmps118
    go_wp2_with fail
    refine (HV.out _).mono ?_
    rintro e w5 ⟨rfl, hw5⟩
    obtain rfl : w = w5 := hw5.symm
    go_wp2
    go_step3
    go_wp2_with fail
    refine wp_loop_rounds 2 ?_
    rw [rounds_succ]
    go_wp2_with fail
    go_step3
    have i1 : ∀ w : World, (Instr.index 9 (.string lrS) (.int .i64 1)).run Tryd.prog w = .ok (.int .u8 114) w := fun w => by
      rw [run_index_string w _ lrS .i64 1 Tryd.underlying9, dif_pos (by rw [hz]; decide)]; rfl
    have i2 : ∀ w : World, (Instr.index 9 (.string es) (.int .i64 1)).run Tryd.prog w = .ok (.int .u8 y.toNat) w := fun w => by
      rw [run_index_string w _ es .i64 1 Tryd.underlying9, dif_pos (by omega), ← hy]; rfl
    go_wp2_with fail
    go_region
    have HIB : Hid (∀ W, Calls Tryd.prog 143 #[.string ByteArray.empty, .int .u8 y.toNat] W fun e w' => e = .returned (.int .i64 (-1)) ∧ w' = W) := fun W => Any.strings_IndexByte indexByte ByteArray.empty y.toNat W
    go_wp2_with fail
    go_region_with (go_at_call 143; (with_reducible refine (HIB.out _).mono ?_); rintro e w2 ⟨rfl, hw2⟩; rw [hw2])
    all_goals go_wp2
    all_goals rw [Exit.noGoto_ret]
    all_goals simp only [Exit.inBlock, Exit.then]
    all_goals rw [Exit.noGoto_ret]
    all_goals go_ret
    all_goals exact ⟨rfl, (Below.refl _ _).drew.drew⟩
  · clear el
    go_enter Tryd.func118, Tryd.ntmps118
    go_wp2_with fail
    refine (HV.out _).mono ?_
    rintro e w5 ⟨rfl, hw5⟩
    obtain rfl : w = w5 := hw5.symm
    have hI : ¬ ((es.size : Int) - 1) < 2 := by omega
    go_wp2
    go_step3
    go_wp2
    refine wp_loop_rounds 2 ?_
    rw [rounds_succ]
    go_wp2
    rw [Exit.noGoto_ret]
    go_ret
    exact ⟨rfl, Below.refl _ _⟩
end Go.Proofs.YtenpmjinbjlpbaaDoor
