/- Puzzles, the program: fits, hiddenPlaces, DoesFit. -/
import Derived.Test.YtiodlclaempihaaPzD
import Derived.Test.YtiodlclaempihaaPuzH
import Derived.Test.YtiodlclaempihaaPuzI
import Derived.Laws.StructEq
namespace Go.Proofs.Ytiodlclaempihaa
open Go.RowKit

theorem eq_clue (a b x y z u : Int) (w : World) : (binOp .eql 25 (.agg #[.int .i64 a, .int .i64 b, .int .i64 x]) (.agg #[.int .i64 y, .int .i64 z, .int .i64 u])).run Try.prog w = .ok (.bool (a == y && b == z && x == u)) w := by
  rw [run_eql_struct]
  have h := run_equalIn_struct (P := Try.prog) w 9999 25 #[.int .i64 a, .int .i64 b, .int .i64 x] #[.int .i64 y, .int .i64 z, .int .i64 u] (by kernel_rfl) (by kernel_rfl)
  rw [h]
  clear h
  have hi : ∀ (w : World) (m n : Int), (Op.equalIn 9999 3 (.int .i64 m) (.int .i64 n)).run Try.prog w = .ok (m == n) w := fun w m n => run_equalIn_int w 9998 3 .i64 .i64 m n Try.underlying3
  simp only [Program.fieldsOf, Try.underlying25]
  generalize (9999 : Nat) = d at hi ⊢
  cases h1 : (a == y) <;> cases h2 : (b == z) <;> cases h3 : (x == u) <;> simp [go_sem, Op.eqFields, part, hi, h1, h2, h3]
set_option maxRecDepth 100000 in
set_option maxHeartbeats 2000000 in
theorem fits_any (L k a b : Int) (A : Option Addr) (c : Nat) (l : List (Int × Int)) (w : World) (hc : clB l.length k a b = true) (hg : goodB L l = true) (hA : AntsAt w A l) :
    Calls Try.prog 60 #[.agg #[.int .i64 k, .int .i64 a, .int .i64 b], .agg #[.int .i64 L, .slice A l.length c]] w fun e w' => e = .returned (.bool (fitB L l k a b)) ∧ Below w.heap.size w w' := by
  have HV := Lib.hid (has_fit hc hg)
  obtain ⟨W, hW⟩ : ∃ W, W = (w.alloc (Obj.cells #[Value.int IntKind.i64 k, Value.int IntKind.i64 a, Value.int IntKind.i64 b] 25)).alloc (Obj.cells #[Value.int IntKind.i64 L, Value.slice A l.length c] 42) := ⟨_, rfl⟩
  have HBW : Hid (Below w.heap.size w W) := by show Below _ _ _; rw [hW]; exact ((Below.refl _ _).alloc (Nat.le_refl _) _).alloc (by simp) _
  have HA := Lib.hid (hA.below HBW.out)
  have k0 : W.cell? ⟨w.heap.size, 0, none⟩ = some (.int .i64 k) := by rw [hW]; simp [go_sem]
  have k1 : W.cell? ⟨w.heap.size, 1, none⟩ = some (.int .i64 a) := by rw [hW]; simp [go_sem]
  have k2 : W.cell? ⟨w.heap.size, 2, none⟩ = some (.int .i64 b) := by rw [hW]; simp [go_sem]
  have c0 : W.cell? ⟨w.heap.size + 1, 0, none⟩ = some (.int .i64 L) := by rw [hW]; simp [go_sem]
  have c1 : W.cell? ⟨w.heap.size + 1, 1, none⟩ = some (.slice A l.length c) := by rw [hW]; simp [go_sem]
  have HR : Hid (∀ x : Ext W, Calls Try.prog 75 #[.agg #[.int .i64 k, .int .i64 a, .int .i64 b], .agg #[.int .i64 L, .slice A l.length c]] x.w fun e w' => e = .returned (.agg #[.int .i64 k, .int .i64 (hasA L l k a), .int .i64 (hasB' L l k a b)]) ∧ Below x.w.heap.size x.w w') :=
    fun x => asRod_any L k a b A c l x.w (ask_clue hc) hg (HA.out.below x.h)
  generalize hasA L l k a = ha at HV HR
  generalize hasB' L l k a b = hb at HV HR
  have HEQ : ∀ w, (binOp .eql 25 (.agg #[.int .i64 k, .int .i64 ha, .int .i64 hb]) (.agg #[.int .i64 k, .int .i64 a, .int .i64 b])).run Try.prog w = .ok (.bool (ha == a && hb == b)) w := fun w => by
    have h := eq_clue k ha hb k a b w
    simpa using h
  have f1 := Ext.cell k0
  have f2 := Ext.cell k1
  have f3 := Ext.cell k2
  have f4 := Ext.cell c0
  have f5 := Ext.cell c1
  clear k0 k1 k2 c0 c1 hA hc hg
  go_enter Try.func60, Try.ntmps60
  go_wp2
  rw [← hW]
  refine wp_region_ext (by kernel_rfl) (by kernel_rfl) ?_
  repeat (first | go_big_quiet_skip | (go_big_quiet_want; go_big_quiet_op; first | go_big_quiet_on | (apply Exists.intro; refine ⟨fun _ => ?_, ?_⟩; (go_at_call 75; exact Ext.call (HR.out _)); go_big_quiet_on)))
  refine wpQuiet_nil ?_
  rintro _ ⟨x, rfl⟩
  go_wp2
  go_ret
  exact ⟨ret_bool HV.out, HBW.out.trans (x.h.mono HBW.out.size)⟩
theorem fits_at (L k a b : Int) (A : Option Addr) (c : Nat) (l : List (Int × Int)) (r : Bool) (hr : fitB L l k a b = r) (w : World) (hc : clB l.length k a b = true) (hg : goodB L l = true) (hA : AntsAt w A l) :
    Calls Try.prog 60 #[.agg #[.int .i64 k, .int .i64 a, .int .i64 b], .agg #[.int .i64 L, .slice A l.length c]] w fun e w' => e = .returned (.bool r) ∧ Below w.heap.size w w' := by
  subst hr; exact fits_any L k a b A c l w hc hg hA
end Go.Proofs.Ytiodlclaempihaa
