/- Rods held against clues on the model's side: pzFits, kind by kind. -/
import Derived.Test.YtiodlclaempihaaPuzE
namespace Go.Proofs.Ytiodlclaempihaa
open Go.RowKit

/-- whether a rod fits a clue -/
def fitB (L : Int) (l : List (Int × Int)) (k a b : Int) : Bool :=
  if k = 0 then (l.getD a.toNat (0, 0)).2 == 2 * b - 1
  else if k = 1 then (nL L l : Int) == a
  else if k = 2 then (mAll l).1 == a
  else if k = 3 then maxOf (fallsOf L l) == a
  else if k = 4 then (fallsOf L l).getD a.toNat 0 == b
  else (onN (fallsOf L l) a : Int) == b

set_option maxRecDepth 100000 in
set_option maxHeartbeats 1000000 in
theorem pzFits_1 (L a b : Int) (A : Option Addr) (c : Nat) (l : List (Int × Int)) (w : World) (_ : clB l.length 1 a b = true) (hg : goodB L l = true) (hA : AntsAt w A l) :
    Calls Try.prog 57 #[.agg #[.int .i64 1, .int .i64 a, .int .i64 b], .agg #[.int .i64 L, .slice A l.length c]] w fun e w' => e = .returned (.bool (fitB L l 1 a b)) ∧ Below w.heap.size w w' := by
  obtain ⟨W, hW⟩ : ∃ W, W = (w.alloc (Obj.cells #[Value.int IntKind.i64 1, Value.int IntKind.i64 a, Value.int IntKind.i64 b] 25)).alloc (Obj.cells #[Value.int IntKind.i64 L, Value.slice A l.length c] 42) := ⟨_, rfl⟩
  have k1 : W.cell? ⟨w.heap.size, 1, none⟩ = some (.int .i64 a) := by rw [hW]; simp [go_sem]
  have k2 : W.cell? ⟨w.heap.size, 2, none⟩ = some (.int .i64 b) := by rw [hW]; simp [go_sem]
  have c0 : W.cell? ⟨w.heap.size + 1, 0, none⟩ = some (.int .i64 L) := by rw [hW]; simp [go_sem]
  have c1 : W.cell? ⟨w.heap.size + 1, 1, none⟩ = some (.slice A l.length c) := by rw [hW]; simp [go_sem]
  have HBW : Hid (Below w.heap.size w W) := by show Below _ _ _; rw [hW]; exact ((Below.refl _ _).alloc (Nat.le_refl _) _).alloc (by simp) _
  have HA := Lib.hid (hA.below HBW.out)
  clear hA
  have HGG := Lib.hid hg
  clear hg
  have f1 := Ext.cell k1
  have f2 := Ext.cell k2
  have f3 := Ext.cell c0
  have f4 := Ext.cell c1
  have HV : Hid (fitB L l 1 a b = ((nL L l : Int) == a)) := rfl
  have HR : Hid (∀ x : Ext W, Calls Try.prog 69 #[.agg #[.int .i64 L, .slice A l.length c]] x.w fun e w' => e = .returned (.int .i64 (nL L l : Int)) ∧ Below x.w.heap.size x.w w') :=
    fun x => roLeft_good L A c l x.w HGG.out (HA.out.below x.h)
  clear k1 k2 c0 c1
  go_enter Try.func57, Try.ntmps57
  go_wp2
  rw [← hW]
  refine wp_region_ext (by kernel_rfl) (by kernel_rfl) ?_
  repeat (first | go_big_quiet_skip | (go_big_quiet_want; go_big_quiet_op; first | go_big_quiet_on | (apply Exists.intro; refine ⟨fun _ => ?_, ?_⟩; (go_at_call 69; exact Ext.call (HR.out _)); go_big_quiet_on)))
  refine wpQuiet_nil ?_
  rintro _ ⟨x, rfl⟩
  go_wp2
  go_ret
  exact ⟨ret_bool HV.out.symm, HBW.out.trans (x.h.mono HBW.out.size)⟩
set_option maxRecDepth 100000 in
set_option maxHeartbeats 1000000 in
theorem pzFits_2 (L a b : Int) (A : Option Addr) (c : Nat) (l : List (Int × Int)) (w : World) (_ : clB l.length 2 a b = true) (hg : goodB L l = true) (hA : AntsAt w A l) :
    Calls Try.prog 57 #[.agg #[.int .i64 2, .int .i64 a, .int .i64 b], .agg #[.int .i64 L, .slice A l.length c]] w fun e w' => e = .returned (.bool (fitB L l 2 a b)) ∧ Below w.heap.size w w' := by
  obtain ⟨W, hW⟩ : ∃ W, W = (w.alloc (Obj.cells #[Value.int IntKind.i64 2, Value.int IntKind.i64 a, Value.int IntKind.i64 b] 25)).alloc (Obj.cells #[Value.int IntKind.i64 L, Value.slice A l.length c] 42) := ⟨_, rfl⟩
  have k1 : W.cell? ⟨w.heap.size, 1, none⟩ = some (.int .i64 a) := by rw [hW]; simp [go_sem]
  have k2 : W.cell? ⟨w.heap.size, 2, none⟩ = some (.int .i64 b) := by rw [hW]; simp [go_sem]
  have c0 : W.cell? ⟨w.heap.size + 1, 0, none⟩ = some (.int .i64 L) := by rw [hW]; simp [go_sem]
  have c1 : W.cell? ⟨w.heap.size + 1, 1, none⟩ = some (.slice A l.length c) := by rw [hW]; simp [go_sem]
  have HBW : Hid (Below w.heap.size w W) := by show Below _ _ _; rw [hW]; exact ((Below.refl _ _).alloc (Nat.le_refl _) _).alloc (by simp) _
  have HA := Lib.hid (hA.below HBW.out)
  clear hA
  have HGG := Lib.hid hg
  clear hg
  have f1 := Ext.cell k1
  have f2 := Ext.cell k2
  have f3 := Ext.cell c0
  have f4 := Ext.cell c1
  have HV : Hid (fitB L l 2 a b = ((mAll l).1 == a)) := rfl
  have HR : Hid (∀ x : Ext W, Calls Try.prog 70 #[.agg #[.int .i64 L, .slice A l.length c]] x.w fun e w' => e = .returned (.int .i64 (mAll l).1) ∧ Below x.w.heap.size x.w w') :=
    fun x => roMeetings_good L A c l x.w HGG.out (HA.out.below x.h)
  clear k1 k2 c0 c1
  go_enter Try.func57, Try.ntmps57
  go_wp2
  rw [← hW]
  refine wp_region_ext (by kernel_rfl) (by kernel_rfl) ?_
  repeat (first | go_big_quiet_skip | (go_big_quiet_want; go_big_quiet_op; first | go_big_quiet_on | (apply Exists.intro; refine ⟨fun _ => ?_, ?_⟩; (go_at_call 70; exact Ext.call (HR.out _)); go_big_quiet_on)))
  refine wpQuiet_nil ?_
  rintro _ ⟨x, rfl⟩
  go_wp2
  go_ret
  exact ⟨ret_bool HV.out.symm, HBW.out.trans (x.h.mono HBW.out.size)⟩
set_option maxRecDepth 100000 in
set_option maxHeartbeats 1000000 in
theorem pzFits_3 (L a b : Int) (A : Option Addr) (c : Nat) (l : List (Int × Int)) (w : World) (_ : clB l.length 3 a b = true) (hg : goodB L l = true) (hA : AntsAt w A l) :
    Calls Try.prog 57 #[.agg #[.int .i64 3, .int .i64 a, .int .i64 b], .agg #[.int .i64 L, .slice A l.length c]] w fun e w' => e = .returned (.bool (fitB L l 3 a b)) ∧ Below w.heap.size w w' := by
  obtain ⟨W, hW⟩ : ∃ W, W = (w.alloc (Obj.cells #[Value.int IntKind.i64 3, Value.int IntKind.i64 a, Value.int IntKind.i64 b] 25)).alloc (Obj.cells #[Value.int IntKind.i64 L, Value.slice A l.length c] 42) := ⟨_, rfl⟩
  have k1 : W.cell? ⟨w.heap.size, 1, none⟩ = some (.int .i64 a) := by rw [hW]; simp [go_sem]
  have k2 : W.cell? ⟨w.heap.size, 2, none⟩ = some (.int .i64 b) := by rw [hW]; simp [go_sem]
  have c0 : W.cell? ⟨w.heap.size + 1, 0, none⟩ = some (.int .i64 L) := by rw [hW]; simp [go_sem]
  have c1 : W.cell? ⟨w.heap.size + 1, 1, none⟩ = some (.slice A l.length c) := by rw [hW]; simp [go_sem]
  have HBW : Hid (Below w.heap.size w W) := by show Below _ _ _; rw [hW]; exact ((Below.refl _ _).alloc (Nat.le_refl _) _).alloc (by simp) _
  have HA := Lib.hid (hA.below HBW.out)
  clear hA
  have HGG := Lib.hid hg
  clear hg
  have f1 := Ext.cell k1
  have f2 := Ext.cell k2
  have f3 := Ext.cell c0
  have f4 := Ext.cell c1
  have HV : Hid (fitB L l 3 a b = ((maxOf (fallsOf L l)) == a)) := rfl
  have HR : Hid (∀ x : Ext W, Calls Try.prog 71 #[.agg #[.int .i64 L, .slice A l.length c]] x.w fun e w' => e = .returned (.int .i64 (maxOf (fallsOf L l))) ∧ Below x.w.heap.size x.w w') :=
    fun x => roLast_good L A c l x.w HGG.out (HA.out.below x.h)
  clear k1 k2 c0 c1
  go_enter Try.func57, Try.ntmps57
  go_wp2
  rw [← hW]
  refine wp_region_ext (by kernel_rfl) (by kernel_rfl) ?_
  repeat (first | go_big_quiet_skip | (go_big_quiet_want; go_big_quiet_op; first | go_big_quiet_on | (apply Exists.intro; refine ⟨fun _ => ?_, ?_⟩; (go_at_call 71; exact Ext.call (HR.out _)); go_big_quiet_on)))
  refine wpQuiet_nil ?_
  rintro _ ⟨x, rfl⟩
  go_wp2
  go_ret
  exact ⟨ret_bool HV.out.symm, HBW.out.trans (x.h.mono HBW.out.size)⟩
set_option maxRecDepth 100000 in
set_option maxHeartbeats 1000000 in
theorem pzFits_5 (L a b : Int) (A : Option Addr) (c : Nat) (l : List (Int × Int)) (w : World) (_ : clB l.length 5 a b = true) (hg : goodB L l = true) (hA : AntsAt w A l) :
    Calls Try.prog 57 #[.agg #[.int .i64 5, .int .i64 a, .int .i64 b], .agg #[.int .i64 L, .slice A l.length c]] w fun e w' => e = .returned (.bool (fitB L l 5 a b)) ∧ Below w.heap.size w w' := by
  obtain ⟨W, hW⟩ : ∃ W, W = (w.alloc (Obj.cells #[Value.int IntKind.i64 5, Value.int IntKind.i64 a, Value.int IntKind.i64 b] 25)).alloc (Obj.cells #[Value.int IntKind.i64 L, Value.slice A l.length c] 42) := ⟨_, rfl⟩
  have k1 : W.cell? ⟨w.heap.size, 1, none⟩ = some (.int .i64 a) := by rw [hW]; simp [go_sem]
  have k2 : W.cell? ⟨w.heap.size, 2, none⟩ = some (.int .i64 b) := by rw [hW]; simp [go_sem]
  have c0 : W.cell? ⟨w.heap.size + 1, 0, none⟩ = some (.int .i64 L) := by rw [hW]; simp [go_sem]
  have c1 : W.cell? ⟨w.heap.size + 1, 1, none⟩ = some (.slice A l.length c) := by rw [hW]; simp [go_sem]
  have HBW : Hid (Below w.heap.size w W) := by show Below _ _ _; rw [hW]; exact ((Below.refl _ _).alloc (Nat.le_refl _) _).alloc (by simp) _
  have HA := Lib.hid (hA.below HBW.out)
  clear hA
  have HGG := Lib.hid hg
  clear hg
  have f1 := Ext.cell k1
  have f2 := Ext.cell k2
  have f3 := Ext.cell c0
  have f4 := Ext.cell c1
  have HV : Hid (fitB L l 5 a b = ((onN (fallsOf L l) a : Int) == b)) := rfl
  have HR : Hid (∀ x : Ext W, Calls Try.prog 73 #[.agg #[.int .i64 L, .slice A l.length c], .int .i64 a] x.w fun e w' => e = .returned (.int .i64 (onN (fallsOf L l) a : Int)) ∧ Below x.w.heap.size x.w w') :=
    fun x => pzOn_any L a A c l x.w HGG.out (HA.out.below x.h)
  clear k1 k2 c0 c1
  go_enter Try.func57, Try.ntmps57
  go_wp2
  rw [← hW]
  refine wp_region_ext (by kernel_rfl) (by kernel_rfl) ?_
  repeat (first | go_big_quiet_skip | (go_big_quiet_want; go_big_quiet_op; first | go_big_quiet_on | (apply Exists.intro; refine ⟨fun _ => ?_, ?_⟩; (go_at_call 73; exact Ext.call (HR.out _)); go_big_quiet_on)))
  refine wpQuiet_nil ?_
  rintro _ ⟨x, rfl⟩
  go_wp2
  go_ret
  exact ⟨ret_bool HV.out.symm, HBW.out.trans (x.h.mono HBW.out.size)⟩
set_option maxRecDepth 100000 in
set_option maxHeartbeats 1000000 in
theorem pzFits_0 (L a b : Int) (A : Option Addr) (c : Nat) (l : List (Int × Int)) (w : World) (hc : clB l.length 0 a b = true) (hg : goodB L l = true) (hA : AntsAt w A l) :
    Calls Try.prog 57 #[.agg #[.int .i64 0, .int .i64 a, .int .i64 b], .agg #[.int .i64 L, .slice A l.length c]] w fun e w' => e = .returned (.bool (fitB L l 0 a b)) ∧ Below w.heap.size w w' := by
  have hc2 : (0 ≤ a ∧ a ≤ (l.length : Int) - 1) ∧ 0 ≤ b ∧ b ≤ 1 := by
    unfold clB at hc
    rw [if_pos rfl, Bool.and_eq_true, inB_iff, inB_iff] at hc
    exact hc
  obtain ⟨⟨h1, h2⟩, h3, h4⟩ := hc2
  obtain ⟨k, rfl⟩ : ∃ k : Nat, a = k := ⟨a.toNat, by omega⟩
  have hk : k < l.length := by omega
  have hn := good_len hg
  clear hc hg
  have HV : Hid (fitB L l 0 k b = ((l.getD k (0, 0)).2 == 2 * b - 1)) := by show _ = _; simp [fitB]
  obtain ⟨W, hW⟩ : ∃ W, W = (w.alloc (Obj.cells #[Value.int IntKind.i64 0, Value.int IntKind.i64 k, Value.int IntKind.i64 b] 25)).alloc (Obj.cells #[Value.int IntKind.i64 L, Value.slice A l.length c] 42) := ⟨_, rfl⟩
  have k1 : W.cell? ⟨w.heap.size, 1, none⟩ = some (.int .i64 k) := by rw [hW]; simp [go_sem]
  have k2 : W.cell? ⟨w.heap.size, 2, none⟩ = some (.int .i64 b) := by rw [hW]; simp [go_sem]
  have c0 : W.cell? ⟨w.heap.size + 1, 0, none⟩ = some (.int .i64 L) := by rw [hW]; simp [go_sem]
  have c1 : W.cell? ⟨w.heap.size + 1, 1, none⟩ = some (.slice A l.length c) := by rw [hW]; simp [go_sem]
  have HBW : Hid (Below w.heap.size w W) := by show Below _ _ _; rw [hW]; exact ((Below.refl _ _).alloc (Nat.le_refl _) _).alloc (by simp) _
  have HA := Lib.hid (hA.below HBW.out)
  clear hA
  obtain ⟨bb, off, rfl, l0, hcc⟩ := HA.out.at_ hk
  have a1 := (hcc k hk).2
  clear hcc
  generalize (l.getD k (0, 0)).2 = y at *
  have hkl : (k : Int) < (l.length : Int) := by omega
  go_enter Try.func57, Try.ntmps57
  go_wp2
  rw [← hW]
  clear hW
  go_region
  go_wp2
  go_ret
  exact ⟨ret_bool HV.out.symm, HBW.out.drew⟩
set_option maxRecDepth 100000 in
set_option maxHeartbeats 1000000 in
theorem pzFits_4 (L a b : Int) (A : Option Addr) (c : Nat) (l : List (Int × Int)) (w : World) (hc : clB l.length 4 a b = true) (hg : goodB L l = true) (hA : AntsAt w A l) :
    Calls Try.prog 57 #[.agg #[.int .i64 4, .int .i64 a, .int .i64 b], .agg #[.int .i64 L, .slice A l.length c]] w fun e w' => e = .returned (.bool (fitB L l 4 a b)) ∧ Below w.heap.size w w' := by
  have hc2 : (0 ≤ a ∧ a ≤ (l.length : Int) - 1) ∧ 0 ≤ b ∧ b ≤ 1000 := by
    unfold clB at hc
    simpa [inB_iff] using hc
  obtain ⟨⟨h1, h2⟩, h3, h4⟩ := hc2
  obtain ⟨k, rfl⟩ : ∃ k : Nat, a = k := ⟨a.toNat, by omega⟩
  have hn := good_len hg
  have hln := fallsOf_len hg
  have hk : k < (fallsOf L l).length := by omega
  have HV : Hid (fitB L l 4 k b = ((fallsOf L l).getD k 0 == b)) := by show _ = _; simp [fitB]
  have HX : Hid ((fallsOf L l)[k]? = some ((fallsOf L l).getD k 0)) := by show _ = _; rw [List.getD_eq_getElem?_getD, List.getElem?_eq_getElem hk]; rfl
  obtain ⟨W, hW⟩ : ∃ W, W = (w.alloc (Obj.cells #[Value.int IntKind.i64 4, Value.int IntKind.i64 k, Value.int IntKind.i64 b] 25)).alloc (Obj.cells #[Value.int IntKind.i64 L, Value.slice A l.length c] 42) := ⟨_, rfl⟩
  have k1 : W.cell? ⟨w.heap.size, 1, none⟩ = some (.int .i64 k) := by rw [hW]; simp [go_sem]
  have k2 : W.cell? ⟨w.heap.size, 2, none⟩ = some (.int .i64 b) := by rw [hW]; simp [go_sem]
  have c0 : W.cell? ⟨w.heap.size + 1, 0, none⟩ = some (.int .i64 L) := by rw [hW]; simp [go_sem]
  have c1 : W.cell? ⟨w.heap.size + 1, 1, none⟩ = some (.slice A l.length c) := by rw [hW]; simp [go_sem]
  have HBW : Hid (Below w.heap.size w W) := by show Below _ _ _; rw [hW]; exact ((Below.refl _ _).alloc (Nat.le_refl _) _).alloc (by simp) _
  have HA := Lib.hid (hA.below HBW.out)
  clear hA
  have HF : Hid (∀ X, Below W.heap.size W X → Calls Try.prog 72 #[.agg #[.int .i64 L, .slice A l.length c]] X fun e w' => ∃ b3 o3 c3, e = .returned (.slice (some ⟨b3, o3, none⟩) (fallsOf L l).length c3) ∧ b3 < w'.heap.size ∧ w'.cell? ⟨b3, o3 + k, none⟩ = some (.int .i64 ((fallsOf L l).getD k 0)) ∧ Below W.heap.size W w') := fun X hX => by
    refine (roFalls_good L A c l X hg (HA.out.below hX)).mono ?_
    rintro e w3 ⟨A3, n3, k3, rfl, hn3, ho3, hb3⟩
    subst hn3
    obtain ⟨b3, o3, rfl, l3, hc3⟩ := ho3.sl.int_at hk
    exact ⟨b3, o3, k3, rfl, l3, hc3 k _ HX.out, hX.trans (hb3.mono hX.size)⟩
  have hkl : (k : Int) < ((fallsOf L l).length : Int) := by omega
  clear hg hc
  have hl16 : ((fallsOf L l).length : Int) ≤ 16 := by omega
  clear hln hn
  generalize (fallsOf L l).getD k 0 = y at *
  generalize (fallsOf L l).length = N at *
  go_enter Try.func57, Try.ntmps57
  go_wp2
  rw [← hW]
  clear hW
  go_region_with (go_at_call 72; refine (HF.out _ (Below.refl _ _).drew).mono ?_; rintro e w3 ⟨b3, o3, c3, rfl, l3, a3, hb3⟩; have k1 := Below.cell_some hb3 k1; have k2 := Below.cell_some hb3 k2; have c0 := Below.cell_some hb3 c0; have c1 := Below.cell_some hb3 c1; have HB3 := Lib.hid hb3; clear hb3)
  all_goals go_wp2
  all_goals go_ret
  all_goals exact ⟨ret_bool HV.out.symm, HBW.out.trans (HB3.out.mono HBW.out.size)⟩
end Go.Proofs.Ytiodlclaempihaa
