/- The contracts of the laws' own helpers on clues and puzzles. -/
import Derived.Test.YtenpmjinbjlpbaaDoorMark
import Derived.Test.YtenpmjinbjlpbaaDoorHelpI
namespace Go.Proofs.YtenpmjinbjlpbaaDoor
open Go.RowKit

def tripMarks (k : Int) (n : Nat) : List (Int × Int × Int) := (List.range n).map fun (i : Nat) => (k + 3 * (i : Int), k + 3 * (i : Int) + 1, k + 3 * (i : Int) + 2)
theorem tripMarks_len (k : Int) (n : Nat) : (tripMarks k n).length = n := by simp [tripMarks]
theorem tripMarks_at (k : Int) (n j : Nat) (h : j < n) : (tripMarks k n)[j]? = some (k + 3 * (j : Int), k + 3 * (j : Int) + 1, k + 3 * (j : Int) + 2) := by simp [tripMarks, h]
theorem tripMarks_set (k : Int) (l : List (Int × Int × Int)) (j : Nat) (h : j < l.length) : (tripMarks k j ++ l.drop j).set j (k + 3 * (j : Int), k + 3 * (j : Int) + 1, k + 3 * (j : Int) + 2) = tripMarks k (j + 1) ++ l.drop (j + 1) := by
  rw [List.set_append_right _ _ (by rw [tripMarks_len]; omega), tripMarks_len, Nat.sub_self, List.drop_eq_getElem_cons h, List.set_cons_zero]
  unfold tripMarks
  rw [List.range_succ, List.map_append, List.append_assoc]
  rfl
theorem trip_row_set (l : List (Int × Int × Int)) (a b d : Int) : ∀ k, (((tripS.row l).set (k * 3) (.int .i64 a)).set (k * 3 + 1) (.int .i64 b)).set (k * 3 + 2) (.int .i64 d) = tripS.row (l.set k (a, b, d)) := by
  induction l with
  | nil => intro k; simp [Shape.row]
  | cons p l ih =>
    intro k
    cases k with
    | zero => rw [Shape.row_cons, List.set_cons_zero, Shape.row_cons]; rfl
    | succ k =>
      have e : tripS.row (p :: l) = .int .i64 p.1 :: .int .i64 p.2.1 :: .int .i64 p.2.2 :: tripS.row l := rfl
      rw [e, show (k + 1) * 3 = k * 3 + 1 + 1 + 1 by omega, show k * 3 + 1 + 1 + 1 + 1 = (k * 3 + 1) + 1 + 1 + 1 by omega, show k * 3 + 1 + 1 + 1 + 2 = (k * 3 + 2) + 1 + 1 + 1 by omega]
      simp only [List.set_cons_succ]
      rw [ih k]
      rfl
theorem SlOwn.trip_store {w : World} {B g n c : Nat} {e : TypeId} {l : List (Int × Int × Int)} (h : SlOwn tripS w B e (.slice (some ⟨g, 0, none⟩) n c) l) {k : Nat} (hk : k < l.length) (x y z : Int) :
    ∃ v0 v1 v2, w.cell? ⟨g, k * 3, none⟩ = some v0 ∧ w.cell? ⟨g, k * 3 + 1, none⟩ = some v1 ∧ w.cell? ⟨g, k * 3 + 2, none⟩ = some v2 ∧ w.frozen? ⟨g, k * 3, none⟩ = false ∧ w.frozen? ⟨g, k * 3 + 1, none⟩ = false ∧ w.frozen? ⟨g, k * 3 + 2, none⟩ = false ∧
      SlOwn tripS (((w.setCell ⟨g, k * 3, none⟩ (.int .i64 x)).setCell ⟨g, k * 3 + 1, none⟩ (.int .i64 y)).setCell ⟨g, k * 3 + 2, none⟩ (.int .i64 z)) B e (.slice (some ⟨g, 0, none⟩) n c) (l.set k (x, y, z)) ∧
      w.grownBy (((w.setCell ⟨g, k * 3, none⟩ (.int .i64 x)).setCell ⟨g, k * 3 + 1, none⟩ (.int .i64 y)).setCell ⟨g, k * 3 + 2, none⟩ (.int .i64 z)) (some g) := by
  have hn : n = l.length := by
    rcases h.2 with ⟨h', _⟩ | ⟨g', cap', cur, h', _⟩
    · simp at h'
    · simp only [Value.slice.injEq] at h'
      exact h'.2.1
  subst hn
  have hx : l[k]? = some (l[k]'hk) := List.getElem?_eq_getElem hk
  have r0 := tripS.row_at l k _ hx 0 (by decide)
  have r1 := tripS.row_at l k _ hx 1 (by decide)
  have r2 := tripS.row_at l k _ hx 2 (by decide)
  have s0 := World.ownsRow.stored h (k * 3) (.int .i64 x)
  have s1 := World.ownsRow.stored s0.1 (k * 3 + 1) (.int .i64 y)
  have s2 := World.ownsRow.stored s1.1 (k * 3 + 2) (.int .i64 z)
  have hl : k * 3 + 2 < l.length * tripS.size := by show _ < l.length * 3; omega
  refine ⟨_, _, _, (World.ownsRow.cellAt h _ (by omega)).trans r0, (World.ownsRow.cellAt h _ (by omega)).trans r1, (World.ownsRow.cellAt h _ hl).trans r2, World.ownsRow.frozenAt h _, World.ownsRow.frozenAt h _, World.ownsRow.frozenAt h _, ?_, ?_⟩
  · have := s2.1
    rw [trip_row_set] at this
    show World.ownsRow _ _ _ _ _ _ _
    rw [List.length_set]
    exact this
  · exact grown_trans (grown_trans s0.2 s1.2) s2.2

set_option maxHeartbeats 1000000 in
theorem markClueS_any (A : Option Addr) (c B : Nat) (l : List (Int × Int × Int)) (k0 : Int) (w : World) (hk0 : 0 ≤ k0) (hk1 : k0 ≤ 2097152) (hn : (l.length : Int) ≤ 1048576) (h : SlOwn tripS w B 74 (.slice A l.length c) l) :
    Calls Tryd.prog 52 #[.slice A l.length c, .int .i64 k0] w fun e w' => e = .returned (.int .i64 (k0 + 3 * l.length)) ∧ SlOwn tripS w' B 74 (.slice A l.length c) (tripMarks k0 l.length) ∧ w.grownBy w' (Value.slice A l.length c).ownBlock := by
  have H := Lib.hid h
  clear h
  obtain ⟨n, hn'⟩ : ∃ n, n = l.length := ⟨_, rfl⟩
  have HN := Lib.hid hn'
  rw [← hn'] at H hn ⊢
  clear hn'
  go_enter Tryd.func52, Tryd.ntmps52
  go_wp2
  go_loopw [1, 5] (fun v i wr => ∃ j : Nat, j ≤ n ∧ i = .int .i64 j ∧ v = .int .i64 (k0 + 3 * j) ∧ SlOwn tripS wr B 74 (.slice A n c) (tripMarks k0 j ++ l.drop j) ∧ w.grownBy wr (Value.slice A n c).ownBlock)
    (fun _ i _ => n - (intOf i).toNat)
  case atStart => exact ⟨0, Nat.zero_le _, rfl, by simp, by simpa [tripMarks] using H.out, World.grownBy.refl _ _⟩
  case round =>
    obtain ⟨j, hj, rfl, rfl, hown, hg⟩ := hrel
    have HO := Lib.hid hown
    have HG := Lib.hid hg
    clear hown hg
    have hlen : (tripMarks k0 j ++ l.drop j).length = n := by
      have := HN.out
      rw [List.length_append, tripMarks_len, List.length_drop]; omega
    have HL := Lib.hid hlen
    clear hlen
    by_cases hlt : j < n
    · obtain ⟨g, rfl, -⟩ := own_some (S := tripS) HO.out (by rw [HL.out]; omega)
      obtain ⟨v0, v1, v2, q0, q1, q2, f0, f1, f2, ho, hgr⟩ := SlOwn.trip_store HO.out (k := j) (by rw [HL.out]; exact hlt) (k0 + 3 * j) (k0 + 3 * j + 1) (k0 + 3 * j + 2)
      rw [tripMarks_set k0 l j (by have := HN.out; omega)] at ho
      have HO2 := Lib.hid ho
      have HG2 := Lib.hid hgr
      clear ho hgr
      have e3 : (k0 + 3 * (j : Int)) + 1 + 1 = k0 + 3 * (j : Int) + 2 := by omega
      go_wp2
      go_roundw
      case rel => exact ⟨j + 1, by omega, by go_num, by congr 1; omega, HO2.out, grown_trans HG.out HG2.out⟩
      case measure => simp [intOf]; omega
    · obtain rfl : j = n := by omega
      go_wp2
      go_ret
      refine ⟨ret_int rfl, ?_, HG.out⟩
      have h1 := HO.out
      have h2 : l.drop j = [] := List.drop_eq_nil_of_le (by have := HN.out; omega)
      rw [h2, List.append_nil] at h1
      exact h1
theorem heldClueS_any (A : Option Addr) (c n : Nat) (k0 : Int) (w : World) (hk0 : 0 ≤ k0) (hk1 : k0 ≤ 2097152) (hn : (n : Int) ≤ 1048576) (h : SlAt tripS w A (tripMarks k0 n)) :
    Calls Tryd.prog 54 #[.slice A n c, .int .i64 k0] w fun e w' => e = .returned (.int .i64 (k0 + 3 * n)) ∧ w = w' := by
  have H := Lib.hid h
  clear h
  go_enter Tryd.func54, Tryd.ntmps54
  go_wp2
  go_loop [1, 5] (fun v i => ∃ j : Nat, j ≤ n ∧ i = .int .i64 j ∧ v = .int .i64 (k0 + 3 * j)) (fun _ i => n - (intOf i).toNat)
  case atStart => exact ⟨0, Nat.zero_le _, rfl, by simp⟩
  case round =>
    obtain ⟨j, hj, rfl, rfl⟩ := hrel
    by_cases hlt : j < n
    · obtain ⟨b, off, rfl, l0, hc⟩ := H.out.trip_at (show j < (tripMarks k0 n).length by rw [tripMarks_len]; exact hlt)
      obtain ⟨a0, a1, a2⟩ := hc j _ (tripMarks_at k0 n j hlt)
      simp only at a0 a1 a2
      clear hc
      have e3 : (k0 + 3 * (j : Int)) + 1 + 1 = k0 + 3 * (j : Int) + 2 := by omega
      go_wp2
      go_round
      case rel => exact ⟨j + 1, by omega, by go_num, by congr 1; omega⟩
      case measure => simp [intOf]; omega
    · obtain rfl : j = n := by omega
      go_wp2
      go_ret
      exact ⟨ret_int rfl, rfl⟩
theorem eqClue_true (a b d : Int) (w : World) :
    Calls Tryd.prog 78 #[.agg #[.int .i64 a, .int .i64 b, .int .i64 d], .agg #[.int .i64 a, .int .i64 b, .int .i64 d]] w fun e w' => e = .returned (.bool true) ∧ Below w.heap.size w w' := by
  go_enter Tryd.func78, Tryd.ntmps78
  go_wp2
  go_ret
  exact ⟨ret_bool rfl, ((Below.refl _ _).alloc (Nat.le_refl _) _).alloc (by simp) _⟩

set_option maxHeartbeats 1000000 in
theorem eqClueS_true (A B : Option Addr) (c d : Nat) (l : List (Int × Int × Int)) (w : World) (hn : (l.length : Int) ≤ 1048576) (hA : SlAt tripS w A l) (hB : SlAt tripS w B l) :
    Calls Tryd.prog 45 #[.slice A l.length c, .slice B l.length d] w fun e w' => e = .returned (.bool true) ∧ Below w.heap.size w w' := by
  have HA := Lib.hid hA
  have HB := Lib.hid hB
  clear hA hB
  go_enter Tryd.func45, Tryd.ntmps45
  go_wp2
  go_loopw [5] (fun i wr => ∃ k : Nat, k ≤ l.length ∧ i = .int .i64 k ∧ Below w.heap.size w wr)
    (fun i _ => l.length - (intOf i).toNat)
  case atStart => exact ⟨0, Nat.zero_le _, rfl, Below.refl _ _⟩
  case round =>
    obtain ⟨k, hk, rfl, hb⟩ := hrel
    have HBe := Lib.hid hb
    have HAr := Lib.hid (HA.out.below hb)
    have HBr := Lib.hid (HB.out.below hb)
    clear hb
    by_cases hlt : k < l.length
    · obtain ⟨b, off, rfl, l0, hc⟩ := HAr.out.trip_at hlt
      obtain ⟨b', off', rfl, l0', hc'⟩ := HBr.out.trip_at hlt
      obtain ⟨a0, a1, a2⟩ := hc k _ (List.getElem?_eq_getElem hlt)
      obtain ⟨b0, b1, b2⟩ := hc' k _ (List.getElem?_eq_getElem hlt)
      clear hc hc'
      generalize l[k]'hlt = x at *
      obtain ⟨x1, x2, x3⟩ := x
      simp only at a0 a1 a2 b0 b1 b2
      have f0 := Ext.cell a0
      have f1 := Ext.cell a1
      have f2 := Ext.cell a2
      have g0 := Ext.cell b0
      have g1 := Ext.cell b1
      have g2 := Ext.cell b2
      clear a0 a1 a2 b0 b1 b2
      go_wp2
      refine wp_region_ext (by kernel_rfl) (by kernel_rfl) ?_
      repeat (first | go_big_quiet_skip | (go_big_quiet_want; go_big_quiet_op; first | go_big_quiet_on | (apply Exists.intro; refine ⟨fun _ => ?_, ?_⟩; (go_at_call 78; exact Ext.call (eqClue_true _ _ _ _)); go_big_quiet_on)))
      refine wpQuiet_nil ?_
      rintro _ ⟨x, rfl⟩
      go_wp2
      go_roundw
      case rel => exact ⟨k + 1, by omega, by go_num, HBe.out.trans (x.h.mono HBe.out.size)⟩
      case measure => simp [intOf]; omega
    · go_wp2
      go_ret
      exact ⟨ret_bool rfl, HBe.out⟩

theorem szIntS_any (A : Option Addr) (n c : Nat) (k : Int) (w : World) (hk : 0 ≤ k) (hk2 : k ≤ 1048576) (hn : (n : Int) ≤ 9223372036854775807) :
    Calls Tryd.prog 34 #[.slice A n c, .int .i64 k] w fun e w' => e = .returned (.int .i64 (if k < n then -1 else k - n)) ∧ w = w' := by
  have h1 : -9223372036854775808 ≤ k - (n : Int) := by omega
  by_cases h : k < n
  · have h2 : k - (n : Int) < 0 := by omega
    go_enter Tryd.func34, Tryd.ntmps34
    go_wp2
    go_ret
    exact ⟨ret_int (by simp), rfl⟩
  · have h2 : ¬ k - (n : Int) < 0 := by omega
    go_enter Tryd.func34, Tryd.ntmps34
    go_wp2
    go_ret
    exact ⟨ret_int (by simp), rfl⟩
theorem szClueS_any (A : Option Addr) (n c : Nat) (k : Int) (w : World) (hk : 0 ≤ k) (hk2 : k ≤ 1048576) (hn : (n : Int) ≤ 9223372036854775807) :
    Calls Tryd.prog 35 #[.slice A n c, .int .i64 k] w fun e w' => e = .returned (.int .i64 (if k < n then -1 else k - n)) ∧ w = w' := by
  have h1 : -9223372036854775808 ≤ k - (n : Int) := by omega
  by_cases h : k < n
  · have h2 : k - (n : Int) < 0 := by omega
    go_enter Tryd.func35, Tryd.ntmps35
    go_wp2
    go_ret
    exact ⟨ret_int (by simp), rfl⟩
  · have h2 : ¬ k - (n : Int) < 0 := by omega
    go_enter Tryd.func35, Tryd.ntmps35
    go_wp2
    go_ret
    exact ⟨ret_int (by simp), rfl⟩
theorem szPuzzle_big (L : Int) (A C : Option Addr) (n c m d : Nat) (w : World) (hn : (n : Int) ≤ 9223372036854775807) (hm : (m : Int) ≤ 9223372036854775807) (h : (1048576 : Int) < n + m) :
    Calls Tryd.prog 16 #[.agg #[.int .i64 L, .slice A n c, .slice C m d], .int .i64 1048576] w fun e w' => e = .returned (.int .i64 (-1)) ∧ Below w.heap.size w w' := by
  by_cases h1 : (1048576 : Int) < n
  · have H : Hid (∀ w, Calls Tryd.prog 34 #[.slice A n c, .int .i64 1048576] w fun e w' => e = .returned (.int .i64 (-1)) ∧ w = w') := fun w =>
      (szIntS_any A n c 1048576 w (by omega) (by omega) hn).mono fun e w' ⟨he, hw⟩ => ⟨by rw [he, if_pos h1], hw⟩
    clear h h1
    go_enter Tryd.func16, Tryd.ntmps16
    go_wp2_with (go_at_call 34; refine (H.out _).mono ?_; rintro e w' ⟨rfl, rfl⟩)
    go_ret
    exact ⟨rfl, (Below.refl _ _).alloc (Nat.le_refl _) _⟩
  · obtain ⟨k, hk⟩ : ∃ k : Int, k = 1048576 - n := ⟨_, rfl⟩
    have H : Hid (∀ w, Calls Tryd.prog 34 #[.slice A n c, .int .i64 1048576] w fun e w' => e = .returned (.int .i64 k) ∧ w = w') := fun w =>
      (szIntS_any A n c 1048576 w (by omega) (by omega) hn).mono fun e w' ⟨he, hw⟩ => ⟨by rw [he, if_neg h1, hk], hw⟩
    have H2 : Hid (∀ w, Calls Tryd.prog 35 #[.slice C m d, .int .i64 k] w fun e w' => e = .returned (.int .i64 (-1)) ∧ w = w') := fun w =>
      (szClueS_any C m d k w (by omega) (by omega) hm).mono fun e w' ⟨he, hw⟩ => ⟨by rw [he, if_pos (by omega)], hw⟩
    have h3 : ¬ k < 0 := by omega
    clear h h1 hk
    go_enter Tryd.func16, Tryd.ntmps16
    go_wp2_with (first | (go_at_call 34; refine (H.out _).mono ?_; rintro e w' ⟨rfl, rfl⟩) | (go_at_call 35; refine (H2.out _).mono ?_; rintro e w' ⟨rfl, rfl⟩))
    go_ret
    exact ⟨rfl, (Below.refl _ _).alloc (Nat.le_refl _) _⟩
theorem szPuzzle_fits (L : Int) (A C : Option Addr) (n c m d : Nat) (w : World) (h : ¬ (1048576 : Int) < n + m) :
    Calls Tryd.prog 16 #[.agg #[.int .i64 L, .slice A n c, .slice C m d], .int .i64 1048576] w fun e w' => e = .returned (.int .i64 (1048576 - n - m)) ∧ Below w.heap.size w w' := by
  obtain ⟨k, hk⟩ : ∃ k : Int, k = 1048576 - n := ⟨_, rfl⟩
  obtain ⟨k2, hk2⟩ : ∃ k2 : Int, k2 = 1048576 - n - m := ⟨_, rfl⟩
  rw [← hk2]
  have H : Hid (∀ w, Calls Tryd.prog 34 #[.slice A n c, .int .i64 1048576] w fun e w' => e = .returned (.int .i64 k) ∧ w = w') := fun w =>
    (szIntS_any A n c 1048576 w (by omega) (by omega) (by omega)).mono fun e w' ⟨he, hw⟩ => ⟨by rw [he, if_neg (by omega), hk], hw⟩
  have H2 : Hid (∀ w, Calls Tryd.prog 35 #[.slice C m d, .int .i64 k] w fun e w' => e = .returned (.int .i64 k2) ∧ w = w') := fun w =>
    (szClueS_any C m d k w (by omega) (by omega) (by omega)).mono fun e w' ⟨he, hw⟩ => ⟨by rw [he, if_neg (by omega), hk2, hk], hw⟩
  have h3 : ¬ k < 0 := by omega
  have h4 : ¬ k2 < 0 := by omega
  clear h hk hk2
  go_enter Tryd.func16, Tryd.ntmps16
  go_wp2_with (first | (go_at_call 34; refine (H.out _).mono ?_; rintro e w' ⟨rfl, rfl⟩) | (go_at_call 35; refine (H2.out _).mono ?_; rintro e w' ⟨rfl, rfl⟩))
  go_ret
  exact ⟨rfl, (Below.refl _ _).alloc (Nat.le_refl _) _⟩
theorem toClue_any (a y z : Int) (w : World) :
    Calls Tryd.prog 71 #[.agg #[.int .i64 a, .int .i64 y, .int .i64 z]] w fun e w' => e = .returned (.agg #[.int .i64 a, .int .i64 y, .int .i64 z]) ∧ Below w.heap.size w w' := by
  go_enter Tryd.func71, Tryd.ntmps71
  go_wp2
  exact bodyPost_ret (v := .agg #[.int .i64 a, .int .i64 y, .int .i64 z]) (by simp [results, Tryd.results71, go_sem]) rfl ⟨rfl, ((((Below.refl _ _).alloc (Nat.le_refl _) _).alloc (by simp) _).alloc (by simp; omega) _)⟩
theorem take_repZ (l : List (Int × Int × Int)) (k : Nat) (hk : k < l.length) (x : Int × Int × Int) (hx : l[k]? = some x) : (l.take k ++ List.replicate (l.length - k) ((0, 0, 0) : Int × Int × Int)).set k x = l.take (k + 1) ++ List.replicate (l.length - (k + 1)) (0, 0, 0) := by
  obtain ⟨_, rfl⟩ := List.getElem?_eq_some_iff.1 hx
  rw [List.set_append_right _ _ (by rw [List.length_take]; omega), List.length_take, Nat.min_eq_left (by omega), Nat.sub_self,
    show l.length - k = (l.length - (k + 1)) + 1 by omega, List.replicate_succ, List.set_cons_zero, List.take_succ_eq_append_getElem hk, List.append_assoc]
  simp
theorem madeTrips (n : Nat) : (madeCells #[.int .i64 0, .int .i64 0, .int .i64 0] (n * 3)).toList = tripS.row (List.replicate n (0, 0, 0)) := by
  apply List.ext_getElem?
  intro j
  by_cases hj : j < n * 3
  · have hk : j / 3 < n := by omega
    have hr := tripS.row_at (List.replicate n ((0, 0, 0) : Int × Int × Int)) (j / 3) (0, 0, 0) (by rw [List.getElem?_replicate, if_pos hk]) (j % 3) (Nat.mod_lt _ (by decide))
    rw [show j / 3 * tripS.size + j % 3 = j by show j / 3 * 3 + j % 3 = j; omega] at hr
    rw [hr]
    have h3 : j % 3 = 0 ∨ j % 3 = 1 ∨ j % 3 = 2 := by omega
    rcases h3 with h3 | h3 | h3 <;> simp [madeCells, hj, h3, tripS]
  · rw [List.getElem?_eq_none (by simp [madeCells]; omega), List.getElem?_eq_none (by rw [tripS.row_length]; show (List.replicate n _).length * 3 ≤ j; simp; omega)]
theorem clueInfoH : (Tryd.prog.info? 74).map (fun i => (i.zero, i.size, i.bytes)) = some (some (.agg #[.int .i64 0, .int .i64 0, .int .i64 0]), 3, 24) := by kernel_rfl

set_option maxHeartbeats 1000000 in
theorem toClueS_any (A : Option Addr) (c : Nat) (l : List (Int × Int × Int)) (w : World) (hn : (l.length : Int) ≤ 1048576) (hA : SlAt tripS w A l) :
    Calls Tryd.prog 39 #[.slice A l.length c] w fun e w' => ∃ A' c', e = .returned (.slice A' l.length c') ∧ SlOwn tripS w' w.heap.size 74 (.slice A' l.length c') l ∧ Below w.heap.size w w' := by
  obtain ⟨i0, hi, hz0, hz1, hz2⟩ := info_parts clueInfoH
  have HA := Lib.hid hA
  clear hA
  go_enter Tryd.func39, Tryd.ntmps39
  go_wp2_with (at_make; refine wpList_make_full _ rfl _ _ _ rfl w.heap.size 74 i0 _ 3 Tryd.underlying47 hi hz0 hz1 .i64 .i64 _ _ l.length rfl rfl rfl rfl (by rw [hz2]; omega) (by unfold maxLen; omega) (Nat.le_refl _) ?_; intro w1 hown hg)
  have HB1 := Lib.hid ((Below.refl w.heap.size w).grown hg (Nat.le_refl _) (by simp))
  clear hg
  have HO1 : Hid (SlOwn tripS w1 w.heap.size 74 (.slice (some ⟨w.heap.size, 0, none⟩) l.length l.length) (l.take 0 ++ List.replicate (l.length - 0) (0, 0, 0))) := by
    have e := madeTrips l.length
    show World.ownsRow _ _ _ _ _ _ _
    simp only [List.take_zero, List.nil_append, Nat.sub_zero, List.length_replicate]
    rw [← e]
    exact hown
  clear hown
  clear hi hz0 hz1 hz2
  go_loopw [4] (fun i wr => ∃ k : Nat, k ≤ l.length ∧ i = .int .i64 k ∧ Below w.heap.size w wr ∧ SlOwn tripS wr w.heap.size 74 (.slice (some ⟨w.heap.size, 0, none⟩) l.length l.length) (l.take k ++ List.replicate (l.length - k) (0, 0, 0)))
    (fun i _ => l.length - (intOf i).toNat)
  case atStart => exact ⟨0, Nat.zero_le _, rfl, HB1.out, HO1.out⟩
  case round =>
    obtain ⟨k, hk, rfl, hb, hown⟩ := hrel
    have HB := Lib.hid hb
    have HO := Lib.hid hown
    have HAr := Lib.hid (HA.out.below hb)
    clear hb hown
    by_cases hlt : k < l.length
    · obtain ⟨b, off, rfl, l0, hc⟩ := HAr.out.trip_at hlt
      obtain ⟨a0, a1, a2⟩ := hc k _ (List.getElem?_eq_getElem hlt)
      have hx := take_repZ l k hlt _ (List.getElem?_eq_getElem hlt)
      clear hc
      generalize l[k]'hlt = x at *
      obtain ⟨x1, x2, x3⟩ := x
      simp only at a0 a1 a2
      have HX := Lib.hid hx
      clear hx
      go_wp2_with fail
      refine (toClue_any _ _ _ _).mono ?_
      rintro e w2 ⟨rfl, hb2⟩
      have HO2 := Lib.hid (HO.out.below hb2)
      have HB2 := Lib.hid (HB.out.trans (hb2.mono HB.out.size))
      clear hb2
      obtain ⟨v0, v1, v2, c0, c1, c2, g0, g1, g2, hrow, hgrow⟩ := SlOwn.trip_store HO2.out (k := k) (by simp; omega) x1 x2 x3
      have HR := Lib.hid hrow
      have HG := Lib.hid hgrow
      clear hrow hgrow
      go_wp2
      go_roundw
      case rel =>
        refine ⟨k + 1, by omega, by go_num, ?_, ?_⟩
        · exact HB2.out.grown HG.out (by have := HB2.out.size; omega) (by simp)
        · rw [← HX.out]; exact HR.out
      case measure => simp [intOf]; omega
    · obtain rfl : k = l.length := by omega
      go_wp2
      go_ret
      exact ⟨_, _, rfl, by simpa using HO.out, HB.out⟩
set_option maxRecDepth 100000 in
set_option maxHeartbeats 1000000 in
theorem toPuzzle_any (L : Int) (A C : Option Addr) (c d : Nat) (l : List Int) (cs : List (Int × Int × Int)) (w : World) (hn : (l.length : Int) ≤ 1048576) (hm : (cs.length : Int) ≤ 1048576) (hA : SlAt intS w A l) (hC : SlAt tripS w C cs) :
    Calls Tryd.prog 18 #[.agg #[.int .i64 L, .slice A l.length c, .slice C cs.length d]] w fun e w' => ∃ A' c' C' d', e = .returned (.agg #[.int .i64 L, .slice A' l.length c', .slice C' cs.length d']) ∧
      SlOwn intS w' w.heap.size 3 (.slice A' l.length c') l ∧ SlOwn tripS w' w.heap.size 74 (.slice C' cs.length d') cs ∧ Below w.heap.size w w' := by
  have HA := Lib.hid hA
  have HC := Lib.hid hC
  clear hA hC
  go_enter Tryd.func18, Tryd.ntmps18
  go_wp2_with fail
  refine (toIntS_any A c l _ hn ?_).mono ?_
  · exact HA.out.below ((((Below.refl _ _).alloc (Nat.le_refl _) _).alloc (by simp) _).alloc (by simp; omega) _)
  rintro e w1 ⟨A1, c1, rfl, hown, hb⟩
  have HO := Lib.hid hown
  have HB : Hid (Below w.heap.size w w1) := ((((Below.refl _ _).alloc (Nat.le_refl _) _).alloc (by simp) _).alloc (by simp; omega) _).trans (hb.mono (by simp; omega))
  have hz : w.heap.size + 3 ≤ w1.heap.size := by have := hb.size; simpa using this
  have c20 : w1.cell? ⟨w.heap.size + 1 + 1, 0, none⟩ = some (.int .i64 L) := by rw [hb.cell (p := ⟨w.heap.size + 1 + 1, 0, none⟩) (by simp)]; simp [go_sem]
  have c21 : w1.cell? ⟨w.heap.size + 1 + 1, 1, none⟩ = some (.slice none 0 0) := by rw [hb.cell (p := ⟨w.heap.size + 1 + 1, 1, none⟩) (by simp)]; simp [go_sem]
  have c22 : w1.cell? ⟨w.heap.size + 1 + 1, 2, none⟩ = some (.slice none 0 0) := by rw [hb.cell (p := ⟨w.heap.size + 1 + 1, 2, none⟩) (by simp)]; simp [go_sem]
  have c10 : w1.cell? ⟨w.heap.size + 1, 0, none⟩ = some (.int .i64 0) := by rw [hb.cell (p := ⟨w.heap.size + 1, 0, none⟩) (by simp)]; simp [go_sem]
  have c11 : w1.cell? ⟨w.heap.size + 1, 1, none⟩ = some (.slice none 0 0) := by rw [hb.cell (p := ⟨w.heap.size + 1, 1, none⟩) (by simp)]; simp [go_sem]
  have c12 : w1.cell? ⟨w.heap.size + 1, 2, none⟩ = some (.slice none 0 0) := by rw [hb.cell (p := ⟨w.heap.size + 1, 2, none⟩) (by simp)]; simp [go_sem]
  have c02 : w1.cell? ⟨w.heap.size, 2, none⟩ = some (.slice C cs.length d) := by rw [hb.cell (p := ⟨w.heap.size, 2, none⟩) (by simp <;> omega)]; simp [go_sem]
  have f2 : ∀ o, w1.frozen? ⟨w.heap.size + 1 + 1, o, none⟩ = false := fun o => by rw [hb.frozen (p := ⟨w.heap.size + 1 + 1, o, none⟩) (by simp)]; simp [go_sem]
  have f1 : ∀ o, w1.frozen? ⟨w.heap.size + 1, o, none⟩ = false := fun o => by rw [hb.frozen (p := ⟨w.heap.size + 1, o, none⟩) (by simp)]; simp [go_sem]
  clear hb hown
  obtain ⟨W, hW⟩ : ∃ W, W = w1.setCell ⟨w.heap.size + 1 + 1, 1, none⟩ (.slice A1 l.length c1) := ⟨_, rfl⟩
  have d20 : W.cell? ⟨w.heap.size + 1 + 1, 0, none⟩ = some (.int .i64 L) := by rw [hW]; exact (World.cell?_setCell_other _ _ _ _ (by simp)).trans c20
  have d21 : W.cell? ⟨w.heap.size + 1 + 1, 1, none⟩ = some (.slice A1 l.length c1) := by rw [hW]; exact World.cell?_setCell_same _ _ _ c21
  have d22 : W.cell? ⟨w.heap.size + 1 + 1, 2, none⟩ = some (.slice none 0 0) := by rw [hW]; exact (World.cell?_setCell_other _ _ _ _ (by simp)).trans c22
  have d10 : W.cell? ⟨w.heap.size + 1, 0, none⟩ = some (.int .i64 0) := by rw [hW]; exact (World.cell?_setCell_other _ _ _ _ (by simp)).trans c10
  have d11 : W.cell? ⟨w.heap.size + 1, 1, none⟩ = some (.slice none 0 0) := by rw [hW]; exact (World.cell?_setCell_other _ _ _ _ (by simp)).trans c11
  have d12 : W.cell? ⟨w.heap.size + 1, 2, none⟩ = some (.slice none 0 0) := by rw [hW]; exact (World.cell?_setCell_other _ _ _ _ (by simp)).trans c12
  have HBW : Hid (Below w.heap.size w W) := by show Below _ _ _; rw [hW]; exact HB.out.setCell (by simp; omega) _
  have HOW : Hid (SlOwn intS W (w.heap.size + 3) 3 (.slice A1 l.length c1) l) := by
    show SlOwn _ _ _ _ _ _
    have h := HO.out
    simp only [World.size_alloc] at h
    rw [hW]
    exact ownsRow_setCell_below h (by simp) _
  have hzW : w.heap.size + 3 ≤ W.heap.size := by rw [hW]; simpa using hz
  have g2 : ∀ o, W.frozen? ⟨w.heap.size + 1 + 1, o, none⟩ = false := fun o => by rw [hW, World.frozen?_setCell]; exact f2 o
  have g1 : ∀ o, W.frozen? ⟨w.heap.size + 1, o, none⟩ = false := fun o => by rw [hW, World.frozen?_setCell]; exact f1 o
  clear HO
  go_wp2_with fail
  rw [← hW]
  clear hW c20 c21 c22 c10 c11 c12 f1 f2
  refine (toClueS_any C d cs W hm (HC.out.below HBW.out)).mono ?_
  rintro e w2 ⟨A2, c2, rfl, hown2, hb2⟩
  have HO2 := Lib.hid hown2
  have HOA := Lib.hid (HOW.out.below hb2)
  have HB2 := Lib.hid (HBW.out.trans (hb2.mono HBW.out.size))
  have hz2 : W.heap.size ≤ w2.heap.size := hb2.size
  have c20 := Below.cell_some hb2 d20
  have c21 := Below.cell_some hb2 d21
  have c22 := Below.cell_some hb2 d22
  have c10 := Below.cell_some hb2 d10
  have c11 := Below.cell_some hb2 d11
  have c12 := Below.cell_some hb2 d12
  have f2 : ∀ o, w2.frozen? ⟨w.heap.size + 1 + 1, o, none⟩ = false := fun o => (hb2.frozen (p := ⟨w.heap.size + 1 + 1, o, none⟩) (by simp only; omega)).trans (g2 o)
  have f1 : ∀ o, w2.frozen? ⟨w.heap.size + 1, o, none⟩ = false := fun o => (hb2.frozen (p := ⟨w.heap.size + 1, o, none⟩) (by simp only; omega)).trans (g1 o)
  clear hb2 hown2 d20 d21 d22 d10 d11 d12 g1 g2
  go_wp2
  exact bodyPost_ret (v := .agg #[.int .i64 L, .slice A1 l.length c1, .slice A2 cs.length c2]) (by simp [results, Tryd.results18, go_sem, c10, c11, c12]) rfl ⟨A1, c1, A2, c2, rfl,
    ownsRow_base (ownsRow_setCell_below (ownsRow_setCell_below (ownsRow_setCell_below (ownsRow_setCell_below HOA.out (by simp only; omega) _) (by simp only; omega) _) (by simp only; omega) _) (by simp only; omega) _) (by omega),
    ownsRow_base (ownsRow_setCell_below (ownsRow_setCell_below (ownsRow_setCell_below (ownsRow_setCell_below HO2.out (by simp only; omega) _) (by simp only; omega) _) (by simp only; omega) _) (by simp only; omega) _) (by omega),
    (((HB2.out.setCell (by simp only; omega) _).setCell (by simp only; omega) _).setCell (by simp only; omega) _).setCell (by simp only; omega) _⟩

set_option maxHeartbeats 1000000 in
theorem eqPuzzle_true (L : Int) (A B C D : Option Addr) (c d e f : Nat) (l : List Int) (cs : List (Int × Int × Int)) (w : World) (hn : (l.length : Int) ≤ 1048576) (hm : (cs.length : Int) ≤ 1048576) (hA : SlAt intS w A l) (hB : SlAt intS w B l) (hC : SlAt tripS w C cs) (hD : SlAt tripS w D cs) :
    Calls Tryd.prog 20 #[.agg #[.int .i64 L, .slice A l.length c, .slice C cs.length e], .agg #[.int .i64 L, .slice B l.length d, .slice D cs.length f]] w fun e w' => e = .returned (.bool true) ∧ Below w.heap.size w w' := by
  have HA := Lib.hid hA
  have HB := Lib.hid hB
  have HC := Lib.hid hC
  have HD := Lib.hid hD
  clear hA hB hC hD
  go_enter Tryd.func20, Tryd.ntmps20
  go_wp2_with fail
  refine (eqIntS_true A B c d l _ hn ?_ ?_).mono ?_
  · exact (HA.out.alloc _).alloc _
  · exact (HB.out.alloc _).alloc _
  rintro e1 w1 ⟨rfl, hb⟩
  have HB1 : Hid (Below w.heap.size w w1) := (((Below.refl _ w).alloc (Nat.le_refl _) _).alloc (by simp) _).trans (hb.mono (by simp; omega))
  have a2 : w1.cell? ⟨w.heap.size, 2, none⟩ = some (.slice C cs.length e) := by rw [hb.cell (p := ⟨w.heap.size, 2, none⟩) (by simp <;> omega)]; simp [go_sem]
  have b2 : w1.cell? ⟨w.heap.size + 1, 2, none⟩ = some (.slice D cs.length f) := by rw [hb.cell (p := ⟨w.heap.size + 1, 2, none⟩) (by simp)]; simp [go_sem]
  clear hb
  go_wp2_with fail
  refine (eqClueS_true C D e f cs _ hm (HC.out.below HB1.out) (HD.out.below HB1.out)).mono ?_
  rintro e1 w2 ⟨rfl, hb2⟩
  go_wp2
  go_ret
  exact ⟨ret_bool rfl, HB1.out.trans (hb2.mono HB1.out.size)⟩
/-! ### what only blocks of [lo, hi) change -/
structure Kept (lo hi : Nat) (w w' : World) : Prop where
  os : w'.os = w.os
  tape : w'.tape = w.tape
  output : w'.output = w.output
  size : w.heap.size ≤ w'.heap.size
  block : ∀ i, i < w.heap.size → (i < lo ∨ hi ≤ i) → w'.heap[i]? = w.heap[i]?
theorem Kept.of_grown {lo hi : Nat} {w w' : World} {row : Option Nat} (hg : w.grownBy w' row) (hr : ∀ k, row = some k → lo ≤ k ∧ k < hi) : Kept lo hi w w' :=
  ⟨hg.os, hg.tape, hg.output, hg.size, fun i hi h => hg.block i hi (fun e => by have := hr i e.symm; omega)⟩
theorem Kept.trans {lo hi : Nat} {a b c : World} (h : Kept lo hi a b) (k : Kept lo hi b c) : Kept lo hi a c :=
  ⟨k.os.trans h.os, k.tape.trans h.tape, k.output.trans h.output, Nat.le_trans h.size k.size, fun i hi hn => (k.block i (Nat.lt_of_lt_of_le hi h.size) hn).trans (h.block i hi hn)⟩
theorem Kept.of_below {lo hi : Nat} {w w' : World} (h : Below w.heap.size w w') : Kept lo hi w w' := ⟨h.os, h.tape, h.output, h.size, fun i hi _ => h.block i hi⟩
theorem Kept.below {lo hi B : Nat} {w w' : World} (h : Kept lo hi w w') (hB : B ≤ lo) (hw : B ≤ w.heap.size) : Below B w w' := ⟨h.os, h.tape, h.output, h.size, fun i hi => h.block i (by omega) (.inl (by omega))⟩
theorem cell_of_heap {w w' : World} {p : Addr} (h : w'.heap[p.block]? = w.heap[p.block]?) : w'.cell? p = w.cell? p := by
  unfold World.cell?
  rw [h]
theorem Kept.cell {lo hi : Nat} {w w' : World} {p : Addr} {v : Value} (h : Kept lo hi w w') (hp : p.block < lo ∨ hi ≤ p.block) (hc : w.cell? p = some v) : w'.cell? p = some v := by
  rw [← hc]
  exact cell_of_heap (h.block p.block (World.block_lt_of_cell? _ _ hc) hp)
theorem Kept.own {α : Type} {S : Shape α} {lo hi B : Nat} {w w' : World} {e : TypeId} {v : Value} {l : List α} (hk : Kept lo hi w w') (h : SlOwn S w B e v l) (hv : ∀ k, v.ownBlock = some k → k < lo ∨ hi ≤ k) : SlOwn S w' B e v l := by
  refine ⟨h.1, ?_⟩
  rcases h.2 with h2 | ⟨g, cap, cur, hv', hB, hrow, h3⟩
  · exact .inl h2
  · refine .inr ⟨g, cap, cur, hv', hB, ?_, h3⟩
    rw [hk.block g (Array.getElem?_eq_some_iff.1 hrow).1 (hv g (by rw [hv']; rfl))]
    exact hrow
set_option maxHeartbeats 1000000 in
theorem markPuzzle_any (L : Int) (A C : Option Addr) (c d B lo hi : Nat) (l : List Int) (cs : List (Int × Int × Int)) (w : World) (hn : (l.length : Int) ≤ 1048576) (hm : (cs.length : Int) ≤ 1048576)
    (h : SlOwn intS w B 3 (.slice A l.length c) l) (h2 : SlOwn tripS w B 74 (.slice C cs.length d) cs) (hi1 : ∀ b, (Value.slice A l.length c).ownBlock = some b → lo ≤ b ∧ b < hi) (hi2 : ∀ b, (Value.slice C cs.length d).ownBlock = some b → lo ≤ b ∧ b < hi) (hhi : hi ≤ w.heap.size) :
    Calls Tryd.prog 23 #[.agg #[.int .i64 L, .slice A l.length c, .slice C cs.length d], .int .i64 1] w fun e w' => e = .returned (.int .i64 (1 + l.length + 3 * cs.length)) ∧ SlOwn intS w' B 3 (.slice A l.length c) (intMarks 1 l.length) ∧ SlOwn tripS w' B 74 (.slice C cs.length d) (tripMarks (1 + l.length) cs.length) ∧ Kept lo hi w w' := by
  have HO := Lib.hid (SlOwn.below h ((Below.refl _ _).alloc (Nat.le_refl _) (Obj.cells #[Value.int IntKind.i64 L, Value.slice A l.length c, Value.slice C cs.length d] 49)))
  have HP := Lib.hid (SlOwn.below h2 ((Below.refl _ _).alloc (Nat.le_refl _) (Obj.cells #[Value.int IntKind.i64 L, Value.slice A l.length c, Value.slice C cs.length d] 49)))
  have HKA : Hid (Kept lo hi w (w.alloc (Obj.cells #[Value.int IntKind.i64 L, Value.slice A l.length c, Value.slice C cs.length d] 49))) := Kept.of_below ((Below.refl _ _).alloc (Nat.le_refl _) _)
  have HCA : Hid ((w.alloc (Obj.cells #[Value.int IntKind.i64 L, Value.slice A l.length c, Value.slice C cs.length d] 49)).cell? ⟨w.heap.size, 2, none⟩ = some (.slice C cs.length d)) := by show _ = _; simp [go_sem]
  have HI1 := Lib.hid hi1
  have HI2 := Lib.hid hi2
  -- the two rows lie apart: their elements' types differ
  have HD : Hid (∀ b, (Value.slice A l.length c).ownBlock = some b → (Value.slice C cs.length d).ownBlock = some b → False) := fun b e1 e2 => by
    rcases h.2 with ⟨g1, _⟩ | ⟨g, cap, cur, hv, _, hrow, _⟩
    · rw [g1] at e1; simp [Value.ownBlock] at e1
    · rcases h2.2 with ⟨g1, _⟩ | ⟨g', cap', cur', hv', _, hrow', _⟩
      · rw [g1] at e2; simp [Value.ownBlock] at e2
      · rw [hv] at e1
        rw [hv'] at e2
        simp [Value.ownBlock] at e1 e2
        subst e1; subst e2
        rw [hrow] at hrow'
        simp at hrow'
  clear h h2 hi1 hi2
  go_enter Tryd.func23, Tryd.ntmps23
  go_wp2_with fail
  refine (markIntS_any A c B l 1 _ (by omega) (by omega) hn HO.out).mono ?_
  rintro e1 w1 ⟨rfl, ho, hg⟩
  have HO1 := Lib.hid ho
  have HK1 : Hid (Kept lo hi w w1) := HKA.out.trans (Kept.of_grown hg HI1.out)
  have c2 : w1.cell? ⟨w.heap.size, 2, none⟩ = some (.slice C cs.length d) := (Kept.of_grown hg HI1.out).cell (.inr hhi) HCA.out
  have HP1 : Hid (SlOwn tripS w1 B 74 (.slice C cs.length d) cs) := by
    refine HP.out.kept hg ?_
    cases hb : (Value.slice C cs.length d).ownBlock with
    | none => exact .inl rfl
    | some k => exact .inr (fun e => HD.out k e.symm hb)
  clear ho hg
  go_wp2_with fail
  refine (markClueS_any C d B cs (1 + (l.length : Int)) _ (by omega) (by omega) hm HP1.out).mono ?_
  rintro e1 w2 ⟨rfl, ho2, hg2⟩
  have HO2 : Hid (SlOwn intS w2 B 3 (.slice A l.length c) (intMarks 1 l.length)) := by
    refine HO1.out.kept hg2 ?_
    cases hb : (Value.slice A l.length c).ownBlock with
    | none => exact .inl rfl
    | some k => exact .inr (fun e => HD.out k hb e.symm)
  have HP2 := Lib.hid ho2
  have HK2 : Hid (Kept lo hi w w2) := HK1.out.trans (Kept.of_grown hg2 HI2.out)
  clear ho2 hg2
  go_wp2
  go_ret
  exact ⟨ret_int rfl, HO2.out, HP2.out, HK2.out⟩
set_option maxHeartbeats 1000000 in
theorem heldPuzzle_any (L : Int) (A C : Option Addr) (c d n m : Nat) (w : World) (hn : (n : Int) ≤ 1048576) (hm : (m : Int) ≤ 1048576) (h : SlAt intS w A (intMarks 1 n)) (h2 : SlAt tripS w C (tripMarks (1 + (n : Int)) m)) :
    Calls Tryd.prog 24 #[.agg #[.int .i64 L, .slice A n c, .slice C m d], .int .i64 1] w fun e w' => e = .returned (.int .i64 (1 + n + 3 * m)) ∧ Below w.heap.size w w' := by
  have H := Lib.hid (h.alloc (Obj.cells #[Value.int IntKind.i64 L, Value.slice A n c, Value.slice C m d] 49))
  have H2 := Lib.hid (h2.alloc (Obj.cells #[Value.int IntKind.i64 L, Value.slice A n c, Value.slice C m d] 49))
  clear h h2
  have hz : ¬ (1 + (n : Int)) < 0 := by omega
  have hz2 : ¬ (1 + (n : Int) + 3 * (m : Int)) < 0 := by omega
  go_enter Tryd.func24, Tryd.ntmps24
  go_wp2_with fail
  refine (heldIntS_any A c n 1 _ (by omega) (by omega) hn H.out).mono ?_
  rintro e w1 ⟨rfl, rfl⟩
  go_wp2_with fail
  refine (heldClueS_any C d m (1 + (n : Int)) _ (by omega) (by omega) hm H2.out).mono ?_
  rintro e w1 ⟨rfl, rfl⟩
  go_wp2
  go_ret
  exact ⟨ret_int rfl, (Below.refl _ _).alloc (Nat.le_refl _) _⟩

end Go.Proofs.YtenpmjinbjlpbaaDoor
