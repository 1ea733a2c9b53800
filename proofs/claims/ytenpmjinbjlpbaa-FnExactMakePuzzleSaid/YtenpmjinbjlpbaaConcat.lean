/- slices.Concat of two slices, at ants and at ghosts. -/
import Derived.Test.YtenpmjinbjlpbaaGhosts
import Derived.Test.YtenpmjinbjlpbaaProg
import Derived.Lib.AppendZerosOnto
import Derived.Handy
namespace Go.Proofs.Ytenpmjinbjlpbaa
open Go.RowKit


theorem ghoI : (Try.prog.info? 102).map (fun i => (i.zero, i.size, i.bytes)) = some (some (.agg #[.int .i64 0, .int .i64 0, .int .i64 0]), tripS.size, 24) := by kernel_rfl

set_option maxRecDepth 100000 in
set_option maxHeartbeats 1000000 in
theorem growG_any (n : Nat) (w : World) (hn : (n : Int) ≤ 1048576) :
    Calls Try.prog 95 #[.slice none 0 0, .int .i64 n] w fun e w' => ∃ A c, e = .returned (.slice A 0 c) ∧ SlOwn tripS w' w.heap.size 102 (.slice A 0 c) [] ∧ Below w.heap.size w w' := by
  obtain ⟨i0, hi, hz0, hz1, hz2⟩ := info_parts ghoI
  by_cases h0 : n = 0
  · subst h0
    clear hi hz0 hz1 hz2
    go_enter Try.func95, Try.ntmps95
    go_wp2
    go_ret
    exact ⟨none, 0, rfl, SlOwn.nil _ _ _ _, Below.refl _ _⟩
  · have hp : (0 : Int) < (n : Int) := by omega
    have hsz : i0.size = tripS.size := hz1
    have hold : (Builtin.firstCells i0.size 0 (.slice none 0 0)).run Try.prog w.drew = .ok ([] : List Value).toArray w.drew := run_firstCells_none w.drew i0.size 0 0 0
    have hnx : Builtin.nextslicecap (0 + n) 0 * i0.bytes ≤ 281474976710656 := growslice_fits (by omega) (by rw [hz2]; omega)
    have hrz : ∀ ty, (Builtin.append_ #[97, 3] ty #[.slice none 0 0, .int .i64 (n : Int)]).run Try.prog w = _ := fun ty =>
      Lib.run_append_grow_zeros w 97 3 ty 102 i0 _ .i64 .i64 Try.underlying97 Try.underlying3 hi hz0 none 0 0 [] hold n (by omega) (by rw [hsz]; exact tripS.pos) (by omega) (by omega) (by rw [hz2]; omega) hnx
    have hown : SlOwn tripS (w.drew.alloc (.cells (([] : List Value).toArray ++ Builtin.zeroCells (Value.agg #[.int .i64 0, .int .i64 0, .int .i64 0]).cells n ++ Builtin.zeroCells (Value.agg #[.int .i64 0, .int .i64 0, .int .i64 0]).cells (grownCap w (0 + n) 0 102 - (0 + n))) 102)) w.heap.size 102 (.slice (some ⟨w.heap.size, 0, none⟩) 0 (grownCap w (0 + n) 0 102)) [] := by
      have hge := grownCap_ge w (0 + n) 0 102
      have hle := grownCap_le_maxLen w (0 + n) 0 102 (by unfold maxLen; omega)
      refine World.ownsRow_made w.drew _ _ (Nat.le_refl _) hle ?_
      simp only [Array.size_append, size_zeroCells]
      have e : (Value.agg #[.int .i64 0, .int .i64 0, .int .i64 0]).cells.size = tripS.size := rfl
      rw [e]
      have e2 : ([] : List Value).toArray.size = 0 := rfl
      rw [e2, Nat.zero_add, ← Nat.add_mul]
      congr 1
      omega
    have hG := grownCap_ge w (0 + n) 0 102
    have hG2 := grownCap_le_maxLen w (0 + n) 0 102 (by unfold maxLen; omega)
    unfold maxLen at hG2
    generalize grownCap w (0 + n) 0 102 = G at *
    generalize hob : (Obj.cells (([] : List Value).toArray ++ Builtin.zeroCells (Value.agg #[.int .i64 0, .int .i64 0, .int .i64 0]).cells n ++ Builtin.zeroCells (Value.agg #[.int .i64 0, .int .i64 0, .int .i64 0]).cells (G - (0 + n))) 102) = ob at *
    have HOWN := Lib.hid hown
    have HRZ := Lib.hid hrz
    have hG3 : (n : Int) ≤ (G : Int) := by omega
    have hG4 : (G : Int) ≤ 9223372036854775807 := by omega
    clear hown hrz hnx hold hi hz0 hz1 hz2 hsz hob hG hG2
    go_enter Try.func95, Try.ntmps95
    go_wp2_with (at_builtin; refine Lib.wpList_append_run _ rfl _ _ _ _ rfl _ _ rfl rfl _ _ (HRZ.out _) ?_)
    go_ret
    exact ⟨_, _, rfl, HOWN.out, (Below.refl _ _).drew.alloc (by simp) _⟩

set_option maxRecDepth 100000 in
set_option maxHeartbeats 2000000 in
theorem concatG_any (g c2 : Nat) (A B : Option Addr) (c d : Nat) (l m : List _) (w : World) (hl : (l.length : Int) ≤ 65536) (hm : (m.length : Int) ≤ 65536) (hA : SlAt tripS w A l) (hB : SlAt tripS w B m)
    (h0 : w.cell? ⟨g, 0, none⟩ = some (.slice A l.length c)) (h1 : w.cell? ⟨g, 1, none⟩ = some (.slice B m.length d)) :
    Calls Try.prog 90 #[.slice (some ⟨g, 0, none⟩) 2 c2] w fun e w' => ∃ A' c', e = .returned (.slice A' (l ++ m).length c') ∧ SlOwn tripS w' w.heap.size 102 (.slice A' (l ++ m).length c') (l ++ m) ∧ Below w.heap.size w w' := by
  obtain ⟨i0, hi, hz0, hz1, hz2⟩ := info_parts ghoI
  have HA := Lib.hid hA
  have HB := Lib.hid hB
  have hgl : g < w.heap.size := World.block_lt_of_cell? _ _ h0
  clear hA hB
  have HGR : Hid (Calls Try.prog 95 #[.slice none 0 0, .int .i64 ((l.length : Int) + (m.length : Int))] w fun e w' => ∃ A c, e = .returned (.slice A 0 c) ∧ SlOwn tripS w' w.heap.size 102 (.slice A 0 c) [] ∧ Below w.heap.size w w') := by
    have := growG_any (l.length + m.length) w (by omega)
    rw [Int.natCast_add] at this
    exact this
  go_enter Try.func90, Try.ntmps90
  go_wp2
  refine wp_loop_rounds 3 ?_
  repeat any_goals (rw [rounds_succ]; go_wp2_with fail)
  refine HGR.out.mono ?_
  rintro e w1 ⟨A1, k1, rfl, ho1, hb1⟩
  have g0 := Below.cell_some hb1 h0
  have g1 := Below.cell_some hb1 h1
  have HO1 := Lib.hid ho1
  have HB1 := Lib.hid hb1
  have hs1 := hb1.size
  clear ho1 hb1 h0 h1
  go_wp2
  refine wp_loop_rounds 3 ?_
  rw [rounds_succ]
  go_wp2_with (at_builtin; refine wpList_append_sls tripS _ rfl _ _ 97 rfl w.heap.size 102 i0 _ 24 Try.underlying97 hi hz0 hz1 hz2 rfl (by decide) _ [] rfl HO1.out A c l rfl (HA.out.below HB1.out) (by simp; omega) hs1 ?_; intro A2 k2 w2 ho2 hb2; have ho2' : SlOwn tripS w2 w.heap.size 102 (.slice A2 l.length k2) l := (by simpa using ho2); have HO2 := Lib.hid ho2'; have HB2 := Lib.hid (HB1.out.trans hb2); have g0 := (hb2.cell (p := ⟨g, 0, none⟩) hgl).trans g0; have g1 := (hb2.cell (p := ⟨g, 1, none⟩) hgl).trans g1; clear ho2 ho2' hb2)
  rw [rounds_succ]
  go_wp2_with (at_builtin; refine wpList_append_sls tripS _ rfl _ _ 97 rfl w.heap.size 102 i0 _ 24 Try.underlying97 hi hz0 hz1 hz2 rfl (by decide) _ l rfl HO2.out B d m rfl (HB.out.below HB2.out) (by omega) HB2.out.size ?_; intro A3 k3 w3 ho3 hb3; have HO3 := Lib.hid ho3; have HB3 := Lib.hid (HB2.out.trans hb3); clear ho3 hb3)
  rw [rounds_succ]
  go_wp2
  go_ret
  exact ⟨A3, k3, by simp, HO3.out, HB3.out⟩

end Go.Proofs.Ytenpmjinbjlpbaa
