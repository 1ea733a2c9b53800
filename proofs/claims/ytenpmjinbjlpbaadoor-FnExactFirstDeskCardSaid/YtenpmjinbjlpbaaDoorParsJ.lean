/- strings.IndexAny(s, "lr") at every string s. -/
import Derived.Test.YtenpmjinbjlpbaaDoorParsI
import Derived.Lib.OthersKept
namespace Go.Proofs.YtenpmjinbjlpbaaDoor
open Go.RowKit

theorem indexRune_high (r : Int) (h : 128 ≤ r) (w : World) :
    Calls Tryd.prog 118 #[.string lrS, .int .i32 r] w fun e w' => e = .returned (.int .i64 (-1)) ∧ Below w.heap.size w w' := by
  by_cases h1 : r = 65533
  · subst h1; exact indexRune_err w
  · cases hv : validRune r with
    | true => exact indexRune_far r h h1 hv w
    | false => exact indexRune_bad r h h1 hv w
theorem indexRune_low (x : UInt8) (h : x.toNat < 128) (w : World) :
    Calls Tryd.prog 118 #[.string lrS, .int .i32 x.toNat] w fun e w' => e = .returned (.int .i64 (Lib.indexByte [108, 114] x)) ∧ w' = w := by
  have := Any.strings_IndexRune_ascii indexRune lrS x.toNat w (by omega) (by omega)
  have hback : ((x.toNat : Int)).toNat.toUInt8 = x := by simp
  rw [hback] at this
  exact this
theorem useSet_any (n : Int) (w : World) :
    Calls Tryd.prog 119 #[.int .i64 n] w fun e w' => e = .returned (.bool (decide (8 < n))) ∧ w' = w := by
  go_enter Tryd.func119, Tryd.ntmps119
  go_wp2
  go_ret
  exact ⟨rfl, rfl⟩

theorem noAny_wide {s : ByteArray} {i k : Nat} (hk : i + k ≤ s.size) (hall : ∀ j, i ≤ j → j < i + k → 128 ≤ (s.get! j).toNat) (h : Lib.NoAny s.data.toList [108, 114] i) : Lib.NoAny s.data.toList [108, 114] (i + k) := by
  intro j b hj hb
  by_cases hlt : j < i
  · exact h j b hlt hb
  · have hg := hall j (by omega) hj
    have hjs : j < s.size := by omega
    rw [get_bang s j hjs] at hg
    have he : s.data.toList[j]? = some (s[j]'hjs) := Lib.data_getElem? s j hjs
    rw [he] at hb
    have hbe : s[j]'hjs = b := Option.some.inj hb
    rw [hbe] at hg
    have n1 : b ≠ 108 := by intro e; subst e; have : (108 : UInt8).toNat = 108 := rfl; omega
    have n2 : b ≠ 114 := by intro e; subst e; have : (114 : UInt8).toNat = 114 := rfl; omega
    simp [n1, n2]

set_option maxHeartbeats 4000000 in
set_option maxRecDepth 100000 in
theorem indexAny_short (s : ByteArray) (h8 : s.size ≤ 8) (w : World) :
    Calls Tryd.prog 87 #[.string s, .string lrS] w fun e w' => e = .returned (.int .i64 (Lib.indexAny s.data.toList [108, 114])) ∧ Below w.heap.size w w' := by
  have hz : lrS.size = 2 := rfl
  have hemp : lrS.toList.isEmpty = false := by rw [Lib.toList_data]; rfl
  have HUS : Hid (∀ W, Calls Tryd.prog 119 #[.int .i64 s.size] W fun e w' => e = .returned (.bool false) ∧ w' = W) := fun W => by
    have := useSet_any s.size W
    rwa [decide_eq_false (show ¬ (8 : Int) < s.size by omega)] at this
  go_enter Tryd.func87, Tryd.ntmps87
  go_wp2_with fail
  refine (HUS.out _).mono ?_
  rintro e w5 ⟨rfl, hw5⟩
  obtain rfl : w = w5 := hw5.symm
  go_wp2
  go_loopw [9, 10] (fun _ _ wr => ∃ i : Nat, i ≤ s.size ∧ wr.heap[w.heap.size]? = some (.stringIter s i) ∧ Below w.heap.size w wr ∧ w.heap.size < wr.heap.size ∧ Lib.NoAny s.data.toList [108, 114] i)
    (fun _ _ wr => s.size - wr.iterPos w.heap.size)
  case atStart => exact ⟨0, Nat.zero_le _, by show (w.heap.push _)[w.heap.size]? = _; simp, (Below.refl _ _).alloc (Nat.le_refl _) _, by simp [World.iter], Lib.NoAny.zero _ _⟩
  case round =>
    obtain ⟨i, hi, hit, hb, hsz, hno⟩ := hrel
    have HB := Lib.hid hb
    have HN := Lib.hid hno
    have hpos : wr.iterPos w.heap.size = i := by simp [World.iterPos, hit]
    clear hb hno
    by_cases hlt : i < s.size
    · by_cases hlo : (s[i]'hlt).toNat < 128
      · obtain ⟨x, hx⟩ : ∃ x : UInt8, s[i]'hlt = x := ⟨_, rfl⟩
        have hnx := fun ty => Lib.run_next_ascii_at (P := Tryd.prog) wr w.heap.size s i ty hit hlt hlo
        rw [hx] at hnx hlo
        have hxl : s.data.toList[i]? = some x := by rw [← hx]; exact Lib.data_getElem? s i hlt
        have hit2 := Lib.iterAt_heap wr w.heap.size s i (i + 1) hit
        have hb2 := Lib.below_iterAt HB.out (Nat.le_refl _) s (i + 1)
        have hs2 := Lib.iterAt_size wr w.heap.size s (i + 1)
        have HX := Lib.hid hxl
        have HIT := Lib.hid hit2
        have HB2 := Lib.hid hb2
        have HRL : Hid (∀ W, Calls Tryd.prog 118 #[.string lrS, .int .i32 x.toNat] W fun e w' => e = .returned (.int .i64 (Lib.indexByte [108, 114] x)) ∧ w' = W) := fun W => indexRune_low x hlo W
        have hcon := Lib.contains_iff_indexByte [108, 114] x
        clear hx hxl hit2 hb2 hit
        cases hin : ([108, 114] : List UInt8).contains x with
        | false =>
          rw [hin] at hcon
          have hneg : ¬ ((0 : Int) ≤ Lib.indexByte [108, 114] x) := of_decide_eq_false hcon.symm
          clear hcon
          generalize Lib.indexByte [108, 114] x = q at *
          go_wp2_with fail
          refine (HRL.out _).mono ?_
          rintro e w6 ⟨rfl, hw6⟩
          subst hw6
          go_wp2
          go_roundw
          case rel => exact ⟨i + 1, by omega, HIT.out, HB2.out, by rw [hs2]; exact hsz, HN.out.succ HX.out hin⟩
          case measure => rw [hpos]; simp only [World.iterPos, HIT.out]; omega
        | true =>
          rw [hin] at hcon
          have hge : (0 : Int) ≤ Lib.indexByte [108, 114] x := of_decide_eq_true hcon.symm
          clear hcon
          generalize Lib.indexByte [108, 114] x = q at *
          go_wp2_with fail
          refine (HRL.out _).mono ?_
          rintro e w6 ⟨rfl, hw6⟩
          subst hw6
          go_wp2
          go_ret
          exact ⟨by rw [Lib.indexAny_hit HN.out HX.out hin]; rfl, HB2.out⟩
      · have hnx := fun ty => Lib.run_next_any_at (P := Tryd.prog) wr w.heap.size s i ty hit hlt
        obtain ⟨d1, d2⟩ := Go.decode_high s i hlt (by omega)
        obtain ⟨d3, d4⟩ := decode_inner s i hlt (by omega)
        have hit2 := Lib.iterAt_heap wr w.heap.size s i (i + (Utf8.decode s i).2) hit
        have hb2 := Lib.below_iterAt HB.out (Nat.le_refl _) s (i + (Utf8.decode s i).2)
        have hs2 := Lib.iterAt_size wr w.heap.size s (i + (Utf8.decode s i).2)
        generalize Utf8.decode s i = d at *
        obtain ⟨rr, kk⟩ := d
        simp only at hnx d1 d2 d3 d4 hit2 hb2 hs2
        have HIT := Lib.hid hit2
        have HB2 := Lib.hid hb2
        have HNW := Lib.hid (noAny_wide d3 d4 HN.out)
        have HRH : Hid (∀ W, Calls Tryd.prog 118 #[.string lrS, .int .i32 rr] W fun e w' => e = .returned (.int .i64 (-1)) ∧ Below W.heap.size W w') := fun W => indexRune_high rr (by omega) W
        clear hit2 hb2 hit d4
        go_wp2_with fail
        refine (HRH.out _).mono ?_
        rintro e w6 ⟨rfl, hb6⟩
        have HB6 := Lib.hid (HB2.out.trans (hb6.mono HB2.out.size))
        have HIT6 : Hid (w6.heap[w.heap.size]? = some (.stringIter s (i + kk))) := (hb6.block _ (by rw [hs2]; exact hsz)).trans HIT.out
        have hs6 : w.heap.size < w6.heap.size := by have := hb6.size; rw [hs2] at this; omega
        clear hb6
        go_wp2
        go_roundw
        case rel => exact ⟨i + kk, d3, HIT6.out, HB6.out, hs6, HNW.out⟩
        case measure => rw [hpos]; simp only [World.iterPos, HIT6.out]; omega
    · obtain rfl : i = s.size := by omega
      have hnx := fun ty => Lib.run_next_end_at (P := Tryd.prog) wr w.heap.size s s.size ty hit (by omega)
      go_wp2
      go_ret
      exact ⟨by rw [Lib.indexAny_none (by rw [← Lib.size_eq]; exact HN.out)]; rfl, HB.out⟩

theorem set_info : (Tryd.prog.info? 130).map (fun i => (i.zero, i.size)) = some (some (.agg (Array.replicate 256 (.bool false))), 256) := by kernel_rfl

theorem indexAny_any (s : ByteArray) (hs : s.size ≤ 1048576) (w : World) :
    Calls Tryd.prog 87 #[.string s, .string lrS] w fun e w' => e = .returned (.int .i64 (Lib.indexAny s.data.toList [108, 114])) ∧ Below w.heap.size w w' := by
  by_cases h8 : s.size ≤ 8
  · exact indexAny_short s h8 w
  · refine (Any.strings_IndexAny_long indexAny (zero_of_info set_info).1 (zero_of_info set_info).2 s lrS w (by decide) (by omega) (by omega) (by decide) ?_).mono ?_
    · intro j b hb
      match j, hb with
      | 0, hb => simp [lrS] at hb; subst hb; decide
      | 1, hb => simp [lrS] at hb; subst hb; decide
      | j + 2, hb => simp [lrS] at hb
    · rintro e w' ⟨h1, h2⟩
      refine ⟨h1, ?_⟩
      rw [h2]
      exact ((Below.refl _ _).alloc (Nat.le_refl _) _).alloc (by simp) _
end Go.Proofs.YtenpmjinbjlpbaaDoor
