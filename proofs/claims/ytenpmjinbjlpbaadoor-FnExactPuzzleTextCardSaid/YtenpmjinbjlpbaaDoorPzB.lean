/- Puzzles, the program: the recovered door, areClues. -/
import Derived.Test.YtenpmjinbjlpbaaDoorPzA
namespace Go.Proofs.YtenpmjinbjlpbaaDoor
open Go.RowKit

set_option maxRecDepth 100000 in
set_option maxHeartbeats 1000000 in
theorem door_catch (p : Addr) (x : Bool) (k a b : Int) (older : List PanicEntry) (w : World) (hc : w.cell? p = some (.bool x)) (hz : w.frozen? p = false) :
    CallsD Tryd.prog 103 #[.pointer (some p)] (.panicking ({ v := .iface 74 (.agg #[.int .i64 k, .int .i64 a, .int .i64 b]), recovered := false } :: older)) w fun e u' w' =>
      e = .returned (.tuple #[]) ∧ u' = .panicking ({ v := .iface 74 (.agg #[.int .i64 k, .int .i64 a, .int .i64 b]), recovered := true } :: older) ∧ w'.cell? p = some (.bool false) ∧ Below p.block w w' := by
  have hta : ∀ w, (Instr.typeAssert (Value.iface 74 (Value.agg #[Value.int IntKind.i64 k, Value.int IntKind.i64 a, Value.int IntKind.i64 b])) 20 74 true).run Tryd.prog w = .ok (.tuple #[.agg #[.int .i64 k, .int .i64 a, .int .i64 b], .bool true]) w := fun w => by kernel_rfl
  refine callsD_of_wpS Tryd.func103 rfl fun c₀ cs hu => ?_
  apply wpS_seq
  apply wpS_region
  simp [wpOpsS, go_sem, recoverD, hu, hta, Tryd.ntmps103, Exit.thenS]
  apply wpS_seq
  apply wpS_region
  simp [wpOpsS, go_sem, Exit.thenS]
  refine wpS_cond (t := true) (by simp [Act.eval, Array.replicate]) ?_
  simp only [if_true]
  apply wpS_region
  have hc2 := alloc_some hc (Obj.cells #[Value.int IntKind.i64 k, Value.int IntKind.i64 a, Value.int IntKind.i64 b] 74)
  have hz2 : (w.alloc (Obj.cells #[Value.int IntKind.i64 k, Value.int IntKind.i64 a, Value.int IntKind.i64 b] 74)).frozen? p = false := by
    rw [((Below.refl w.heap.size w).alloc (Nat.le_refl _) _).frozen (p := p) (World.block_lt_of_cell? _ _ hc)]; exact hz
  simp [wpOpsS, go_sem, hc2, hz2, bodyPostS, results, Tryd.results103]
  have hlt := World.block_lt_of_cell? _ _ hc
  exact ((Below.refl p.block w).alloc (by omega) _).setCell (Nat.le_refl _) _

set_option maxRecDepth 100000 in
set_option maxHeartbeats 1000000 in
theorem door_idle (p : Addr) (w : World) :
    CallsD Tryd.prog 103 #[.pointer (some p)] .returning w fun e u' w' => e = .returned (.tuple #[]) ∧ u' = .returning ∧ Below w.heap.size w w' := by
  have hta : ∀ w, (Instr.typeAssert Value.nilIface 20 74 true).run Tryd.prog w = .ok (.tuple #[.agg #[.int .i64 0, .int .i64 0, .int .i64 0], .bool false]) w := fun w => by kernel_rfl
  refine callsD_of_wpS Tryd.func103 rfl fun c₀ cs hu => ?_
  apply wpS_seq
  apply wpS_region
  simp [wpOpsS, go_sem, recoverD, hu, hta, Tryd.ntmps103, Exit.thenS]
  apply wpS_seq
  apply wpS_region
  simp [wpOpsS, go_sem, Exit.thenS]
  refine wpS_cond (t := false) (by simp [Act.eval, Array.replicate]) ?_
  simp only [Bool.false_eq_true, if_false]
  refine wpS_of_wp (wp_skip ?_)
  cases c₀
  simp_all [bodyPostS, results, Tryd.results103]
  exact (Below.refl _ _).alloc (Nat.le_refl _) _

set_option maxRecDepth 100000 in
set_option maxHeartbeats 4000000 in
theorem areClues_any (n : Int) (A : Option Addr) (c : Nat) (cs : List (Int × Int × Int)) (w : World) (hn : 0 ≤ n ∧ n ≤ 1048576) (hcs : (cs.length : Int) ≤ 9223372036854775807) (hA : SlAt tripS w A cs) :
    Calls Tryd.prog 73 #[.slice A cs.length c, .int .i64 n] w fun e w' => e = .returned (.bool (cluesB n cs)) ∧ Below w.heap.size w w' := by
  have HA := Lib.hid hA
  clear hA
  have hmf : ∀ (fn : Fn) (first cap : Array Value) (w : World), (Instr.makeFunc fn first cap).run Tryd.prog w = .ok (.func fn first cap) w := fun _ _ _ _ => rfl
  go_enter_defers Tryd.func73, Tryd.ntmps73
  go_wp2
  go_loopw [10] (fun i wr => ∃ k : Nat, k ≤ cs.length ∧ i = .int .i64 k ∧ Below w.heap.size w wr ∧ w.heap.size < wr.heap.size ∧ wr.cell? ⟨w.heap.size, 0, none⟩ = some (.bool false) ∧ wr.frozen? ⟨w.heap.size, 0, none⟩ = false ∧ ∀ j, j < k → ∀ x, cs[j]? = some x → pclB n x = true)
    (fun i _ => cs.length - (intOf i).toNat)
  case atStart => exact ⟨0, Nat.zero_le _, rfl, (Below.refl _ _).alloc (Nat.le_refl _) _, by simp, by simp, by simp, fun j hj => absurd hj (by omega)⟩
  case round =>
    obtain ⟨k, hk, rfl, hb, hsz, z0, y0, hall⟩ := hrel
    have HB := Lib.hid hb
    have HALL := Lib.hid hall
    have HCS := Lib.hid (HA.out.below hb)
    clear hall hb
    by_cases hlt : k < cs.length
    · obtain ⟨b, off, rfl, l0, a0, a1, a2⟩ := trip_at HCS.out hlt
      have HT := Lib.hid (clues_take hlt HALL.out)
      have HN := Lib.hid (clues_no (n := n) hlt)
      generalize cs[k] = x at *
      obtain ⟨x1, x2, x3⟩ := x
      simp only at a0 a1 a2
      have hkl : (k : Int) < (cs.length : Int) := by omega
      cases hx : clB n x1 x2 x3 with
      | true =>
        have HX := Lib.hid (fun w => demand_yes n x1 x2 x3 hx w hn)
        have HTX : Hid (pclB n (x1, x2, x3) = true) := hx
        clear hx
        go_wp2_with fail
        refine (HX.out _).mono ?_
        rintro e w1 ⟨rfl, hb1⟩
        have HB1 : Hid (Below wr.heap.size wr w1) := ((Below.refl _ _).alloc (Nat.le_refl _) _).trans (hb1.mono (by simp))
        have z1 : w1.cell? ⟨w.heap.size, 0, none⟩ = some (.bool false) := (HB1.out.cell (p := ⟨w.heap.size, 0, none⟩) hsz).trans z0
        have y1 : w1.frozen? ⟨w.heap.size, 0, none⟩ = false := (HB1.out.frozen (p := ⟨w.heap.size, 0, none⟩) hsz).trans y0
        clear hb1
        go_wp2
        go_roundw
        case rel => exact ⟨k + 1, by omega, by go_num, HB.out.trans (HB1.out.mono (by omega)), by have := HB1.out.size; omega, z1, y1, HT.out HTX.out⟩
        case measure => simp [intOf]; omega
      | false =>
        have HX := Lib.hid (fun w => demand_no n x1 x2 x3 hx w hn)
        have HTX : Hid (cluesB n cs = false) := HN.out hx
        clear hx
        go_wp2_with fail
        refine (HX.out _).mono ?_
        rintro e w1 ⟨rfl, hb1⟩
        have HB1 : Hid (Below wr.heap.size wr w1) := ((Below.refl _ _).alloc (Nat.le_refl _) _).trans (hb1.mono (by simp))
        have z1 : w1.cell? ⟨w.heap.size, 0, none⟩ = some (.bool false) := (HB1.out.cell (p := ⟨w.heap.size, 0, none⟩) hsz).trans z0
        have y1 : w1.frozen? ⟨w.heap.size, 0, none⟩ = false := (HB1.out.frozen (p := ⟨w.heap.size, 0, none⟩) hsz).trans y0
        clear hb1
        refine leaves_cons (f := 103) (args := #[.pointer (some ⟨w.heap.size, 0, none⟩)]) (by simp) (by simp [go_sem]) ?_
        refine (door_catch ⟨w.heap.size, 0, none⟩ false x1 x2 x3 [] _ z1 y1).mono ?_
        rintro e u' w2 ⟨rfl, rfl, hc2, hb2⟩
        have hbz : Below w.heap.size w w2 := (HB.out.trans (HB1.out.mono (by omega))).trans hb2
        simp [Leaves, settle, results, Tryd.results73, go_sem, hc2]
        exact ⟨HTX.out, hbz⟩
    · have hkl : ¬ (k : Int) < (cs.length : Int) := by omega
      have HTX : Hid (cluesB n cs = true) := clues_yes (fun j hj => HALL.out j (by omega))
      go_wp2
      refine leaves_cons (f := 103) (args := #[.pointer (some ⟨w.heap.size, 0, none⟩)]) (by simp) (by simp [go_sem]) ?_
      refine (door_idle ⟨w.heap.size, 0, none⟩ _).mono ?_
      rintro e u' w2 ⟨rfl, rfl, hb2⟩
      have hc2 : w2.cell? ⟨w.heap.size, 0, none⟩ = some (.bool true) := Below.cell_some hb2 (World.cell?_setCell_same _ _ _ z0)
      have hbz : Below w.heap.size w w2 := (HB.out.setCell (Nat.le_refl _) _).trans (hb2.mono (by simp; omega))
      simp [Leaves, settle, results, Tryd.results73, go_sem, hc2]
      exact ⟨HTX.out, hbz⟩
theorem areClues_at (n : Int) (A : Option Addr) (c : Nat) (cs : List (Int × Int × Int)) (r : Bool) (hr : cluesB n cs = r) (w : World) (hn : 0 ≤ n ∧ n ≤ 1048576) (hcs : (cs.length : Int) ≤ 9223372036854775807) (hA : SlAt tripS w A cs) :
    Calls Tryd.prog 73 #[.slice A cs.length c, .int .i64 n] w fun e w' => e = .returned (.bool r) ∧ Below w.heap.size w w' := by
  subst hr; exact areClues_any n A c cs w hn hcs hA
end Go.Proofs.YtenpmjinbjlpbaaDoor
