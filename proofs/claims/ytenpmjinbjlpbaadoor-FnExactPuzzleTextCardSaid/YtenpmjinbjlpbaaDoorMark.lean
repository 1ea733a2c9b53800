/- The contracts of the laws' marks on what is returned: slices of integers, and of ants. -/
import Derived.Test.YtenpmjinbjlpbaaDoorHelp
import Derived.Test.YtenpmjinbjlpbaaDoorSl
namespace Go.Proofs.YtenpmjinbjlpbaaDoor
open Go.RowKit

/-! ### what only one row changes -/
theorem grown_cell {w w' : World} {row : Option Nat} {lo hi : Nat} {p : Addr} {v : Value} (hg : w.grownBy w' row) (hr : ∀ k, row = some k → lo ≤ k ∧ k < hi) (hp : p.block < lo ∨ hi ≤ p.block) (hc : w.cell? p = some v) : w'.cell? p = some v :=
  hg.cell hc (fun e => by have := hr p.block e.symm; omega)
theorem grown_own {α : Type} {S : Shape α} {w w' : World} {row : Option Nat} {lo hi B : Nat} {e : TypeId} {v : Value} {l : List α} (hg : w.grownBy w' row) (hr : ∀ k, row = some k → lo ≤ k ∧ k < hi) (h : SlOwn S w B e v l)
    (hv : ∀ k, v.ownBlock = some k → k < lo ∨ hi ≤ k) : SlOwn S w' B e v l := by
  refine h.kept hg ?_
  cases hb : v.ownBlock with
  | none => exact .inl rfl
  | some k =>
    refine .inr (fun e => ?_)
    have h1 := hr k e.symm
    have h2 := hv k hb
    omega
theorem grown_below {w w' : World} {row : Option Nat} {B lo hi : Nat} (hg : w.grownBy w' row) (hr : ∀ k, row = some k → lo ≤ k ∧ k < hi) (hB : B ≤ lo) (hw : B ≤ w.heap.size) : Below B w w' :=
  (Below.refl _ _).grown hg hw (fun k hk => Nat.le_trans hB (hr k hk).1)
theorem grown_trans {a b c : World} {row : Option Nat} (h : a.grownBy b row) (k : b.grownBy c row) : a.grownBy c row :=
  ⟨k.os.trans h.os, k.tape.trans h.tape, k.output.trans h.output, Nat.le_trans h.size k.size, fun i hi hne => (k.block i (Nat.lt_of_lt_of_le hi h.size) hne).trans (h.block i hi hne)⟩

/-! ### integers -/
def intMarks (k : Int) (n : Nat) : List Int := (List.range n).map fun (i : Nat) => k + (i : Int)
theorem intMarks_len (k : Int) (n : Nat) : (intMarks k n).length = n := by simp [intMarks]
theorem intMarks_at (k : Int) (n j : Nat) (h : j < n) : (intMarks k n)[j]? = some (k + (j : Int)) := by simp [intMarks, h]
theorem intMarks_set (k : Int) (l : List Int) (j : Nat) (h : j < l.length) : (intMarks k j ++ l.drop j).set j (k + (j : Int)) = intMarks k (j + 1) ++ l.drop (j + 1) := by
  rw [List.set_append_right _ _ (by rw [intMarks_len]; omega), intMarks_len, Nat.sub_self, List.drop_eq_getElem_cons h, List.set_cons_zero]
  unfold intMarks
  rw [List.range_succ, List.map_append, List.append_assoc]
  rfl

theorem SlOwn.int_store {w : World} {B g n c : Nat} {e : TypeId} {l : List Int} (h : SlOwn intS w B e (.slice (some ⟨g, 0, none⟩) n c) l) {j : Nat} (hj : j < l.length) (x : Int) :
    ∃ v0, w.cell? ⟨g, j, none⟩ = some v0 ∧ w.frozen? ⟨g, j, none⟩ = false ∧ SlOwn intS (w.setCell ⟨g, j, none⟩ (.int .i64 x)) B e (.slice (some ⟨g, 0, none⟩) n c) (l.set j x) ∧ w.grownBy (w.setCell ⟨g, j, none⟩ (.int .i64 x)) (some g) := by
  have hn : n = l.length := by
    rcases h.2 with ⟨h', _⟩ | ⟨g', cap', cur, h', _⟩
    · simp at h'
    · simp only [Value.slice.injEq] at h'
      exact h'.2.1
  subst hn
  have s0 := World.ownsRow.stored h j (.int .i64 x)
  have hr : ∀ (m : List Int) (i : Nat), (intS.row m).set i (.int .i64 x) = intS.row (m.set i x) := by
    intro m
    induction m with
    | nil => intro i; simp [Shape.row]
    | cons y m ih =>
      intro i
      cases i with
      | zero => rfl
      | succ i => rw [Shape.row_cons]; show _ :: (intS.row m).set i _ = _; rw [ih i]; rfl
  have hx : (intS.row l)[j]? = some (.int .i64 (l[j]'hj)) := by
    have := intS.row_at l j _ (List.getElem?_eq_getElem hj) 0 (by decide)
    simpa [intS] using this
  refine ⟨_, (World.ownsRow.cellAt h j (by show j < l.length * 1; omega)).trans hx, World.ownsRow.frozenAt h _, ?_, s0.2⟩
  show World.ownsRow _ _ _ _ _ _ _
  rw [List.length_set, ← hr]
  exact s0.1

theorem own_some {α : Type} {S : Shape α} {w : World} {B n c : Nat} {e : TypeId} {A : Option Addr} {l : List α} (h : SlOwn S w B e (.slice A n c) l) (hn : 0 < l.length) : ∃ g, A = some ⟨g, 0, none⟩ ∧ n = l.length := by
  rcases h.2 with ⟨_, h0⟩ | ⟨g, cap, cur, hv, _⟩
  · omega
  · simp only [Value.slice.injEq] at hv
    exact ⟨g, hv.1, hv.2.1⟩

set_option maxHeartbeats 1000000 in
theorem markIntS_any (A : Option Addr) (c B : Nat) (l : List Int) (k0 : Int) (w : World) (hk0 : 0 ≤ k0) (hk1 : k0 ≤ 2097152) (hn : (l.length : Int) ≤ 1048576) (h : SlOwn intS w B 3 (.slice A l.length c) l) :
    Calls Tryd.prog 51 #[.slice A l.length c, .int .i64 k0] w fun e w' => e = .returned (.int .i64 (k0 + l.length)) ∧ SlOwn intS w' B 3 (.slice A l.length c) (intMarks k0 l.length) ∧ w.grownBy w' (Value.slice A l.length c).ownBlock := by
  have H := Lib.hid h
  clear h
  obtain ⟨n, hn'⟩ : ∃ n, n = l.length := ⟨_, rfl⟩
  have HN := Lib.hid hn'
  rw [← hn'] at H hn ⊢
  clear hn'
  go_enter Tryd.func51, Tryd.ntmps51
  go_wp2
  go_loopw [1, 5] (fun v i wr => ∃ j : Nat, j ≤ n ∧ i = .int .i64 j ∧ v = .int .i64 (k0 + j) ∧ SlOwn intS wr B 3 (.slice A n c) (intMarks k0 j ++ l.drop j) ∧ w.grownBy wr (Value.slice A n c).ownBlock)
    (fun _ i _ => n - (intOf i).toNat)
  case atStart => exact ⟨0, Nat.zero_le _, rfl, by simp, by simpa [intMarks] using H.out, World.grownBy.refl _ _⟩
  case round =>
    obtain ⟨j, hj, rfl, rfl, hown, hg⟩ := hrel
    have HO := Lib.hid hown
    have HG := Lib.hid hg
    clear hown hg
    have hlen : (intMarks k0 j ++ l.drop j).length = n := by
      have := HN.out
      rw [List.length_append, intMarks_len, List.length_drop]; omega
    have HL := Lib.hid hlen
    clear hlen
    by_cases hlt : j < n
    · obtain ⟨g, rfl, -⟩ := own_some HO.out (by rw [HL.out]; omega)
      obtain ⟨v0, q0, f0, ho, hgr⟩ := HO.out.int_store (j := j) (by rw [HL.out]; exact hlt) (k0 + j)
      rw [intMarks_set k0 l j (by have := HN.out; omega)] at ho
      have HO2 := Lib.hid ho
      have HG2 := Lib.hid hgr
      clear ho hgr
      go_wp2
      go_roundw
      case rel => exact ⟨j + 1, by omega, by go_num, by go_num, HO2.out, grown_trans HG.out HG2.out⟩
      case measure => simp [intOf]; omega
    · obtain rfl : j = n := by omega
      go_wp2
      go_ret
      refine ⟨ret_int rfl, ?_, HG.out⟩
      have h1 := HO.out
      have h2 : l.drop j = [] := List.drop_eq_nil_of_le (by have := HN.out; omega)
      rw [h2, List.append_nil] at h1
      exact h1
theorem heldIntS_any (A : Option Addr) (c n : Nat) (k0 : Int) (w : World) (hk0 : 0 ≤ k0) (hk1 : k0 ≤ 1048576) (hn : (n : Int) ≤ 1048576) (h : SlAt intS w A (intMarks k0 n)) :
    Calls Tryd.prog 53 #[.slice A n c, .int .i64 k0] w fun e w' => e = .returned (.int .i64 (k0 + n)) ∧ w = w' := by
  have H := Lib.hid h
  clear h
  go_enter Tryd.func53, Tryd.ntmps53
  go_wp2
  go_loop [1, 5] (fun v i => ∃ j : Nat, j ≤ n ∧ i = .int .i64 j ∧ v = .int .i64 (k0 + j)) (fun _ i => n - (intOf i).toNat)
  case atStart => exact ⟨0, Nat.zero_le _, rfl, by simp⟩
  case round =>
    obtain ⟨j, hj, rfl, rfl⟩ := hrel
    by_cases hlt : j < n
    · obtain ⟨b, off, rfl, l0, hc⟩ := H.out.int_at (show j < (intMarks k0 n).length by rw [intMarks_len]; exact hlt)
      have a0 := hc j _ (intMarks_at k0 n j hlt)
      clear hc
      go_wp2
      go_round
      case rel => exact ⟨j + 1, by omega, by go_num, by go_num⟩
      case measure => simp [intOf]; omega
    · obtain rfl : j = n := by omega
      go_wp2
      go_ret
      exact ⟨ret_int rfl, rfl⟩
set_option maxHeartbeats 1000000 in
theorem eqIntS_true (A B : Option Addr) (c d : Nat) (l : List Int) (w : World) (hn : (l.length : Int) ≤ 1048576) (hA : SlAt intS w A l) (hB : SlAt intS w B l) :
    Calls Tryd.prog 44 #[.slice A l.length c, .slice B l.length d] w fun e w' => e = .returned (.bool true) ∧ Below w.heap.size w w' := by
  have HA := Lib.hid hA
  have HB := Lib.hid hB
  clear hA hB
  go_enter Tryd.func44, Tryd.ntmps44
  go_wp2
  go_loopw [5] (fun i wr => ∃ k : Nat, k ≤ l.length ∧ i = .int .i64 k ∧ Below w.heap.size w wr)
    (fun i _ => l.length - (intOf i).toNat)
  case atStart => exact ⟨0, Nat.zero_le _, rfl, Below.refl _ _⟩
  case round =>
    obtain ⟨k, hk, rfl, hb⟩ := hrel
    have HBe := Lib.hid hb
    have HAr := Lib.hid (HA.out.below hb)
    have HBr := Lib.hid (HB.out.below hb)
    clear hb
    by_cases hlt : k < l.length
    · obtain ⟨b, off, rfl, l0, hc⟩ := HAr.out.int_at hlt
      obtain ⟨b', off', rfl, l0', hc'⟩ := HBr.out.int_at hlt
      have a0 := hc k _ (List.getElem?_eq_getElem hlt)
      have b0 := hc' k _ (List.getElem?_eq_getElem hlt)
      clear hc hc'
      generalize l[k]'hlt = x at *
      have f0 := Ext.cell a0
      have f1 := Ext.cell b0
      clear a0 b0
      go_wp2
      refine wp_region_ext (by kernel_rfl) (by kernel_rfl) ?_
      repeat (first | go_big_quiet_skip | (go_big_quiet_want; go_big_quiet_op; go_big_quiet_on))
      refine wpQuiet_nil ?_
      rintro _ ⟨x, rfl⟩
      go_wp2
      go_roundw
      case rel => exact ⟨k + 1, by omega, by go_num, HBe.out.trans (x.h.mono HBe.out.size)⟩
      case measure => simp [intOf]; omega
    · go_wp2
      go_ret
      exact ⟨ret_bool rfl, HBe.out⟩
/-! ### ants -/
def antMarks (k : Int) (n : Nat) : List (Int × Int) := (List.range n).map fun (i : Nat) => (k + 2 * (i : Int), k + 2 * (i : Int) + 1)
theorem antMarks_len (k : Int) (n : Nat) : (antMarks k n).length = n := by simp [antMarks]
theorem antMarks_at (k : Int) (n j : Nat) (h : j < n) : (antMarks k n).getD j (0, 0) = (k + 2 * (j : Int), k + 2 * (j : Int) + 1) := by simp [antMarks, List.getD, h]
theorem antMarks_set (k : Int) (l : List (Int × Int)) (j : Nat) (h : j < l.length) : (antMarks k j ++ l.drop j).set j (k + 2 * (j : Int), k + 2 * (j : Int) + 1) = antMarks k (j + 1) ++ l.drop (j + 1) := by
  rw [List.set_append_right _ _ (by rw [antMarks_len]; omega), antMarks_len, Nat.sub_self, List.drop_eq_getElem_cons h, List.set_cons_zero]
  unfold antMarks
  rw [List.range_succ, List.map_append, List.append_assoc]
  rfl

set_option maxHeartbeats 1000000 in
theorem markAntS_any (A : Option Addr) (c B : Nat) (l : List (Int × Int)) (k0 : Int) (w : World) (hk0 : 0 ≤ k0) (hk1 : k0 ≤ 1048576) (hn : (l.length : Int) ≤ 1048576) (h : AntsOwn w B 58 (.slice A l.length c) l) :
    Calls Tryd.prog 59 #[.slice A l.length c, .int .i64 k0] w fun e w' => e = .returned (.int .i64 (k0 + 2 * l.length)) ∧ AntsOwn w' B 58 (.slice A l.length c) (antMarks k0 l.length) ∧ w.grownBy w' (Value.slice A l.length c).ownBlock := by
  have H := Lib.hid h
  clear h
  obtain ⟨n, hn'⟩ : ∃ n, n = l.length := ⟨_, rfl⟩
  have HN := Lib.hid hn'
  rw [← hn'] at H hn ⊢
  clear hn'
  go_enter Tryd.func59, Tryd.ntmps59
  go_wp2
  go_loopw [1, 5] (fun v i wr => ∃ j : Nat, j ≤ n ∧ i = .int .i64 j ∧ v = .int .i64 (k0 + 2 * j) ∧ AntsOwn wr B 58 (.slice A n c) (antMarks k0 j ++ l.drop j) ∧ w.grownBy wr (Value.slice A n c).ownBlock)
    (fun _ i _ => n - (intOf i).toNat)
  case atStart => exact ⟨0, Nat.zero_le _, rfl, by simp, by simpa [antMarks] using H.out, World.grownBy.refl _ _⟩
  case round =>
    obtain ⟨j, hj, rfl, rfl, hown, hg⟩ := hrel
    have HO := Lib.hid hown
    have HG := Lib.hid hg
    clear hown hg
    have hlen : (antMarks k0 j ++ l.drop j).length = n := by
      have := HN.out
      rw [List.length_append, antMarks_len, List.length_drop]; omega
    have HL := Lib.hid hlen
    clear hlen
    by_cases hlt : j < n
    · obtain ⟨g, rfl, -⟩ := own_some (S := pairS) HO.out (by rw [HL.out]; omega)
      obtain ⟨v0, v1, q0, q1, f0, f1, ho, hgr⟩ := AntsOwn.store HO.out (k := j) (by rw [HL.out]; exact hlt) (k0 + 2 * j) (k0 + 2 * j + 1)
      rw [antMarks_set k0 l j (by have := HN.out; omega)] at ho
      have HO2 := Lib.hid ho
      have HG2 := Lib.hid hgr
      clear ho hgr
      go_wp2
      go_roundw
      case rel => exact ⟨j + 1, by omega, by go_num, by congr 1; omega, HO2.out, grown_trans HG.out HG2.out⟩
      case measure => simp [intOf]; omega
    · obtain rfl : j = n := by omega
      go_wp2
      go_ret
      refine ⟨ret_int rfl, ?_, HG.out⟩
      have h1 := HO.out
      have h2 : l.drop j = [] := List.drop_eq_nil_of_le (by have := HN.out; omega)
      rw [h2, List.append_nil] at h1
      exact h1
theorem heldAntS_any (A : Option Addr) (c n : Nat) (k0 : Int) (w : World) (hk0 : 0 ≤ k0) (hk1 : k0 ≤ 1048576) (hn : (n : Int) ≤ 1048576) (h : AntsAt w A (antMarks k0 n)) :
    Calls Tryd.prog 60 #[.slice A n c, .int .i64 k0] w fun e w' => e = .returned (.int .i64 (k0 + 2 * n)) ∧ w = w' := by
  have H := Lib.hid h
  clear h
  go_enter Tryd.func60, Tryd.ntmps60
  go_wp2
  go_loop [1, 5] (fun v i => ∃ j : Nat, j ≤ n ∧ i = .int .i64 j ∧ v = .int .i64 (k0 + 2 * j)) (fun _ i => n - (intOf i).toNat)
  case atStart => exact ⟨0, Nat.zero_le _, rfl, by simp⟩
  case round =>
    obtain ⟨j, hj, rfl, rfl⟩ := hrel
    by_cases hlt : j < n
    · obtain ⟨b, off, rfl, l0, hc⟩ := H.out.at_ (show j < (antMarks k0 n).length by rw [antMarks_len]; exact hlt)
      obtain ⟨a0, a1⟩ := hc j (by rw [antMarks_len]; exact hlt)
      rw [antMarks_at k0 n j hlt] at a0 a1
      simp only at a0 a1
      clear hc
      go_wp2
      go_round
      case rel => exact ⟨j + 1, by omega, by go_num, by congr 1; omega⟩
      case measure => simp [intOf]; omega
    · obtain rfl : j = n := by omega
      go_wp2
      go_ret
      exact ⟨ret_int rfl, rfl⟩

set_option maxHeartbeats 400000 in
theorem markRod_any (L : Int) (A : Option Addr) (c B : Nat) (l : List (Int × Int)) (k0 : Int) (w : World) (hk0 : 0 ≤ k0) (hk1 : k0 ≤ 1048576) (hn : (l.length : Int) ≤ 1048576) (h : AntsOwn w B 58 (.slice A l.length c) l) :
    Calls Tryd.prog 27 #[.agg #[.int .i64 L, .slice A l.length c], .int .i64 k0] w fun e w' => e = .returned (.int .i64 (k0 + 2 * l.length)) ∧ AntsOwn w' B 58 (.slice A l.length c) (antMarks k0 l.length) ∧ w.grownBy w' (Value.slice A l.length c).ownBlock := by
  have H := Lib.hid (AntsOwn.below h ((Below.refl _ _).alloc (Nat.le_refl _) (Obj.cells #[Value.int IntKind.i64 L, Value.slice A l.length c] 24)))
  clear h
  go_enter Tryd.func27, Tryd.ntmps27
  go_wp2_with fail
  refine (markAntS_any A c B l k0 _ hk0 hk1 hn H.out).mono ?_
  rintro e w1 ⟨rfl, ho, hg⟩
  have HO := Lib.hid ho
  have HG := Lib.hid hg
  clear ho hg
  go_wp2
  go_ret
  exact ⟨ret_int rfl, HO.out, grown_trans (World.grownBy_alloc _ _ _) HG.out⟩
set_option maxHeartbeats 400000 in
theorem heldRod_any (L : Int) (A : Option Addr) (c n : Nat) (k0 : Int) (w : World) (hk0 : 0 ≤ k0) (hk1 : k0 ≤ 1048576) (hn : (n : Int) ≤ 1048576) (h : AntsAt w A (antMarks k0 n)) :
    Calls Tryd.prog 28 #[.agg #[.int .i64 L, .slice A n c], .int .i64 k0] w fun e w' => e = .returned (.int .i64 (k0 + 2 * n)) ∧ Below w.heap.size w w' := by
  have H := Lib.hid (h.alloc (Obj.cells #[Value.int IntKind.i64 L, Value.slice A n c] 24))
  clear h
  have hz : ¬ (k0 + 2 * (n : Int)) < 0 := by omega
  go_enter Tryd.func28, Tryd.ntmps28
  go_wp2_with fail
  refine (heldAntS_any A c n k0 _ hk0 hk1 hn H.out).mono ?_
  rintro e w1 ⟨rfl, rfl⟩
  go_wp2
  go_ret
  exact ⟨ret_int rfl, (Below.refl _ _).alloc (Nat.le_refl _) _⟩

end Go.Proofs.YtenpmjinbjlpbaaDoor
