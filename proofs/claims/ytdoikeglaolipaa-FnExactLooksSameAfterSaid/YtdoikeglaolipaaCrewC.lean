/- The moves of circles; slices.Clone at ants; passOn. -/
import Derived.Test.YtdoikeglaolipaaCrew
import Derived.Test.YtdoikeglaolipaaKeys
import Derived.Test.YtdoikeglaolipaaSortG
namespace Go.Proofs.Ytdoikeglaolipaa
open Go.RowKit

theorem crewOf_any (N : Nat) (cap : Array Value) (f : Int × Int → Int × Int) (L : Int) (A : Option Addr) (c : Nat) (l : List (Int × Int)) (w : World)
    (hen : ∀ args w, (callFunc N args).run Try.prog w = .ok (.enter N args) w) (hl : l.length ≤ 16) (hL : 0 < L) (hL1 : L ≤ 1000000) (hf : ∀ x ∈ l, -1000000 ≤ (f x).1 ∧ (f x).1 ≤ 1000000)
    (hM : ∀ x ∈ l, ∀ W, Below w.heap.size w W → Calls Try.prog N (#[.agg #[.int .i64 x.1, .int .i64 x.2]] ++ cap) W fun e W' => e = .returned (.agg #[.int .i64 (f x).1, .int .i64 (f x).2]) ∧ Below W.heap.size W W')
    (hA : AntsAt w A l) :
    Calls Try.prog 53 #[.agg #[.int .i64 L, .slice A l.length c], .func (.func N) #[] cap] w fun e w' => e = .returned (.agg (crewV (srtA (l.map (mvK L f)))).toArray) ∧ Below w.heap.size w w' :=
  crewOf_with keys_any (fun _ _ _ _ W h1 h2 h3 h4 => sorted_any W h1 h2 h3 h4) (fun _ _ _ _ _ _ h1 h2 => sortG_any h1 h2) N cap f L A c l w hen hl hL hL1 hf hM hA

set_option maxRecDepth 100000 in
set_option maxHeartbeats 1000000 in
theorem cloneA_any (A : Option Addr) (c : Nat) (l : List (Int × Int)) (w : World) (hn : (l.length : Int) ≤ 65536) (hA : AntsAt w A l) :
    Calls Try.prog 46 #[.slice A l.length c] w fun e w' => ∃ A' n' c', e = .returned (.slice A' n' c') ∧ n' = l.length ∧ SlOwn pairS w' w.heap.size 59 (.slice A' n' c') l ∧ RowKit.Below w.heap.size w w' := by
  obtain ⟨i0, hi, hz0, hz1, hz2⟩ := info_parts antIK
  cases A with
  | none =>
    have hl : l = [] := by
      rcases hA with h | ⟨_, _, h, _⟩
      · exact h
      · cases h
    subst hl
    have he : ∀ w : World, (binOp .eql 26 (.slice none 0 c) (.slice none 0 0)).run Try.prog w = .ok (.bool true) w := fun w => by kernel_rfl
    simp only [List.length_nil]
    go_enter Try.func46, Try.ntmps46
    go_wp2
    go_ret
    exact ⟨none, 0, 0, rfl, rfl, SlOwn.nil pairS _ _ _, Below.refl _ _⟩
  | some ad =>
    have HA := Lib.hid (antsAt_sl hA)
    have he : ∀ w : World, (binOp .eql 26 (.slice (some ad) l.length c) (.slice none 0 0)).run Try.prog w = .ok (.bool false) w := fun w => by kernel_rfl
    clear hA
    go_enter Try.func46, Try.ntmps46
    go_wp2_with (at_builtin; go_must (refine wpList_append_slsv pairS _ rfl _ _ 26 rfl w.heap.size 59 i0 _ 16 Try.underlying26 hi hz0 hz1 hz2 rfl (by decide) _ [] rfl (own_empty pairS w _) _ l.length c l rfl rfl (HA.out.alloc _) (by simp; omega) (by simp) ?_); intro A7 n7 k7 w7 hn7 ho7 hb7)
    go_ret
    exact ⟨_, _, _, rfl, rfl, by have e7 : n7 = l.length := (by simpa using hn7); rw [← e7]; simpa using ho7, ((Below.refl _ _).alloc (Nat.le_refl _) _).trans hb7⟩

theorem mirrorM_any (x : Int × Int) (w : World) (h0 : -1000000 ≤ x.1 ∧ x.1 ≤ 1000000) (h1 : -1000000 ≤ x.2 ∧ x.2 ≤ 1000000) :
    Calls Try.prog 55 #[.agg #[.int .i64 x.1, .int .i64 x.2]] w fun e w' => e = .returned (.agg #[.int .i64 (-x.1), .int .i64 (-x.2)]) ∧ Below w.heap.size w w' := by
  have hw0 : IntKind.i64.wrap (-x.1) = -x.1 := IntWalk.i64_in _ (by omega)
  have hw1 : IntKind.i64.wrap (-x.2) = -x.2 := IntWalk.i64_in _ (by omega)
  go_enter Try.func55, Try.ntmps55
  go_wp2
  exact bodyPost_ret (v := .agg #[.int .i64 (-x.1), .int .i64 (-x.2)]) (by simp [results, Try.results55, go_sem]) rfl ⟨rfl, ((Below.refl _ _).alloc (Nat.le_refl _) _).alloc (by simp) _⟩

theorem backM_any (x : Int × Int) (w : World) (h0 : -1000000 ≤ x.1 ∧ x.1 ≤ 1000000) (h1 : -1000000 ≤ x.2 ∧ x.2 ≤ 1000000) :
    Calls Try.prog 57 #[.agg #[.int .i64 x.1, .int .i64 x.2]] w fun e w' => e = .returned (.agg #[.int .i64 (x.1), .int .i64 (-x.2)]) ∧ Below w.heap.size w w' := by
  have hw0 : IntKind.i64.wrap (-x.1) = -x.1 := IntWalk.i64_in _ (by omega)
  have hw1 : IntKind.i64.wrap (-x.2) = -x.2 := IntWalk.i64_in _ (by omega)
  go_enter Try.func57, Try.ntmps57
  go_wp2
  exact bodyPost_ret (v := .agg #[.int .i64 (x.1), .int .i64 (-x.2)]) (by simp [results, Try.results57, go_sem]) rfl ⟨rfl, ((Below.refl _ _).alloc (Nat.le_refl _) _).alloc (by simp) _⟩

theorem spinM_any (b0 : Nat) (s : Int) (x : Int × Int) (w : World) (hc : w.cell? ⟨b0, 0, none⟩ = some (.int .i64 s)) (hs : -1000000 ≤ s ∧ s ≤ 1000000) (h0 : -1000000 ≤ x.1 ∧ x.1 ≤ 1000000) :
    Calls Try.prog 56 #[.agg #[.int .i64 x.1, .int .i64 x.2], .pointer (some ⟨b0, 0, none⟩)] w fun e w' => e = .returned (.agg #[.int .i64 (x.1 + s), .int .i64 x.2]) ∧ Below w.heap.size w w' := by
  have hw0 : IntKind.i64.wrap (x.1 + s) = x.1 + s := IntWalk.i64_in _ (by omega)
  have hc2 : ((w.alloc (Obj.cells #[Value.int IntKind.i64 x.1, Value.int IntKind.i64 x.2] 59)).alloc (Obj.cells #[Value.int IntKind.i64 0, Value.int IntKind.i64 0] 59)).cell? ⟨b0, 0, none⟩ = some (.int .i64 s) := alloc_some (alloc_some hc _) _
  go_enter Try.func56, Try.ntmps56
  go_wp2
  exact bodyPost_ret (v := .agg #[.int .i64 (x.1 + s), .int .i64 x.2]) (by simp [results, Try.results56, go_sem]) rfl ⟨rfl, ((Below.refl _ _).alloc (Nat.le_refl _) _).alloc (by simp) _⟩

theorem passM_any (b0 : Nat) (t : Int) (x : Int × Int) (w : World) (hc : w.cell? ⟨b0, 0, none⟩ = some (.int .i64 t)) (ht : 0 ≤ t ∧ t ≤ 100000) (h0 : -1000000 ≤ x.1 ∧ x.1 ≤ 1000000) (h1 : x.2 = -1 ∨ x.2 = 1) :
    Calls Try.prog 62 #[.agg #[.int .i64 x.1, .int .i64 x.2], .pointer (some ⟨b0, 0, none⟩)] w fun e w' => e = .returned (.agg #[.int .i64 (x.1 + x.2 * t), .int .i64 x.2]) ∧ Below w.heap.size w w' := by
  obtain ⟨x1, x2⟩ := x
  have hc2 : ((w.alloc (Obj.cells #[Value.int IntKind.i64 x1, Value.int IntKind.i64 x2] 59)).alloc (Obj.cells #[Value.int IntKind.i64 0, Value.int IntKind.i64 0] 59)).cell? ⟨b0, 0, none⟩ = some (.int .i64 t) := alloc_some (alloc_some hc _) _
  have HAF := Lib.hid (fun w => after_any x1 x2 0 t w h1 h0.1 h0.2 ht.1 (by omega))
  have HBA : Hid (Below w.heap.size w ((w.alloc (Obj.cells #[Value.int IntKind.i64 x1, Value.int IntKind.i64 x2] 59)).alloc (Obj.cells #[Value.int IntKind.i64 0, Value.int IntKind.i64 0] 59))) := ((Below.refl _ _).alloc (Nat.le_refl _) _).alloc (by simp) _
  have hr0 : ((w.alloc (Obj.cells #[Value.int IntKind.i64 x1, Value.int IntKind.i64 x2] 59)).alloc (Obj.cells #[Value.int IntKind.i64 0, Value.int IntKind.i64 0] 59)).cell? ⟨w.heap.size + 1, 0, none⟩ = some (.int .i64 0) := by simp
  have hr1 : ((w.alloc (Obj.cells #[Value.int IntKind.i64 x1, Value.int IntKind.i64 x2] 59)).alloc (Obj.cells #[Value.int IntKind.i64 0, Value.int IntKind.i64 0] 59)).cell? ⟨w.heap.size + 1, 1, none⟩ = some (.int .i64 0) := by simp
  have hg0 : ((w.alloc (Obj.cells #[Value.int IntKind.i64 x1, Value.int IntKind.i64 x2] 59)).alloc (Obj.cells #[Value.int IntKind.i64 0, Value.int IntKind.i64 0] 59)).frozen? ⟨w.heap.size + 1, 0, none⟩ = false := by simp
  have hg1 : ((w.alloc (Obj.cells #[Value.int IntKind.i64 x1, Value.int IntKind.i64 x2] 59)).alloc (Obj.cells #[Value.int IntKind.i64 0, Value.int IntKind.i64 0] 59)).frozen? ⟨w.heap.size + 1, 1, none⟩ = false := by simp
  have hsz : ((w.alloc (Obj.cells #[Value.int IntKind.i64 x1, Value.int IntKind.i64 x2] 59)).alloc (Obj.cells #[Value.int IntKind.i64 0, Value.int IntKind.i64 0] 59)).heap.size = w.heap.size + 2 := by simp
  go_enter Try.func62, Try.ntmps62
  go_wp2_with fail
  generalize (w.alloc (Obj.cells #[Value.int IntKind.i64 x1, Value.int IntKind.i64 x2] 59)).alloc (Obj.cells #[Value.int IntKind.i64 0, Value.int IntKind.i64 0] 59) = X at *
  refine (HAF.out _).mono ?_
  rintro e w1 ⟨rfl, hb1⟩
  have r0 := Below.cell_some hb1 hr0
  have r1 := Below.cell_some hb1 hr1
  have g0 := (hb1.frozen (p := ⟨w.heap.size + 1, 0, none⟩) (by simp only; omega)).trans hg0
  have g1 := (hb1.frozen (p := ⟨w.heap.size + 1, 1, none⟩) (by simp only; omega)).trans hg1
  have HB1 := Lib.hid (HBA.out.trans (hb1.mono (by omega)))
  have hs1 : w.heap.size + 1 < w1.heap.size := by have := hb1.size; omega
  clear hb1 hr0 hr1 hg0 hg1 hsz hc2
  go_wp2
  exact bodyPost_ret (v := .agg #[.int .i64 (x1 + x2 * t), .int .i64 x2]) (by simp [results, Try.results62, go_sem, r0, r1]) rfl ⟨rfl, (HB1.out.setCell (by simp) _).setCell (by simp) _⟩
theorem passOn_any (t : Int) (w : World) :
    Calls Try.prog 44 #[.int .i64 t] w fun e w' => e = .returned (.func (.func 62) #[] #[.pointer (some ⟨w.heap.size, 0, none⟩)]) ∧ w' = w.alloc (.cells #[.int .i64 t] 3) := by
  go_enter Try.func44, Try.ntmps44
  go_wp2
  go_ret
  exact ⟨rfl, rfl⟩
end Go.Proofs.Ytdoikeglaolipaa
