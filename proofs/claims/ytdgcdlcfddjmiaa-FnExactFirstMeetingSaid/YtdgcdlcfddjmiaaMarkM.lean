/- The contracts of the laws' marks on slices of meetings (structs of three integers). -/
import Derived.Test.YtdgcdlcfddjmiaaMark
import Derived.Test.YtdgcdlcfddjmiaaMeet
namespace Go.Proofs.Ytdgcdlcfddjmiaa
open Go.RowKit

def tripMarks (k : Int) (n : Nat) : List (Int × Int × Int) := (List.range n).map fun (i : Nat) => (k + 3 * (i : Int), k + 3 * (i : Int) + 1, k + 3 * (i : Int) + 2)
theorem tripMarks_len (k : Int) (n : Nat) : (tripMarks k n).length = n := by simp [tripMarks]
theorem tripMarks_at (k : Int) (n j : Nat) (h : j < n) : (tripMarks k n)[j]? = some (k + 3 * (j : Int), k + 3 * (j : Int) + 1, k + 3 * (j : Int) + 2) := by simp [tripMarks, h]
theorem tripMarks_set (k : Int) (l : List (Int × Int × Int)) (j : Nat) (h : j < l.length) : (tripMarks k j ++ l.drop j).set j (k + 3 * (j : Int), k + 3 * (j : Int) + 1, k + 3 * (j : Int) + 2) = tripMarks k (j + 1) ++ l.drop (j + 1) := by
  rw [List.set_append_right _ _ (by rw [tripMarks_len]; omega), tripMarks_len, Nat.sub_self, List.drop_eq_getElem_cons h, List.set_cons_zero]
  unfold tripMarks
  rw [List.range_succ, List.map_append, List.append_assoc]
  rfl
theorem trip_row_set (l : List (Int × Int × Int)) (a b d : Int) : ∀ k, (((tripS.row l).set (k * 3) (.int .i64 a)).set (k * 3 + 1) (.int .i64 b)).set (k * 3 + 2) (.int .i64 d) = tripS.row (l.set k (a, b, d)) := by
  induction l with
  | nil => intro k; simp [Shape.row]
  | cons p l ih =>
    intro k
    cases k with
    | zero => rw [Shape.row_cons, List.set_cons_zero, Shape.row_cons]; rfl
    | succ k =>
      have e : tripS.row (p :: l) = .int .i64 p.1 :: .int .i64 p.2.1 :: .int .i64 p.2.2 :: tripS.row l := rfl
      rw [e, show (k + 1) * 3 = k * 3 + 1 + 1 + 1 by omega, show k * 3 + 1 + 1 + 1 + 1 = (k * 3 + 1) + 1 + 1 + 1 by omega, show k * 3 + 1 + 1 + 1 + 2 = (k * 3 + 2) + 1 + 1 + 1 by omega]
      simp only [List.set_cons_succ]
      rw [ih k]
      rfl
theorem SlOwn.trip_store {w : World} {B g n c : Nat} {e : TypeId} {l : List (Int × Int × Int)} (h : SlOwn tripS w B e (.slice (some ⟨g, 0, none⟩) n c) l) {k : Nat} (hk : k < l.length) (x y z : Int) :
    ∃ v0 v1 v2, w.cell? ⟨g, k * 3, none⟩ = some v0 ∧ w.cell? ⟨g, k * 3 + 1, none⟩ = some v1 ∧ w.cell? ⟨g, k * 3 + 2, none⟩ = some v2 ∧ w.frozen? ⟨g, k * 3, none⟩ = false ∧ w.frozen? ⟨g, k * 3 + 1, none⟩ = false ∧ w.frozen? ⟨g, k * 3 + 2, none⟩ = false ∧
      SlOwn tripS (((w.setCell ⟨g, k * 3, none⟩ (.int .i64 x)).setCell ⟨g, k * 3 + 1, none⟩ (.int .i64 y)).setCell ⟨g, k * 3 + 2, none⟩ (.int .i64 z)) B e (.slice (some ⟨g, 0, none⟩) n c) (l.set k (x, y, z)) ∧
      w.grownBy (((w.setCell ⟨g, k * 3, none⟩ (.int .i64 x)).setCell ⟨g, k * 3 + 1, none⟩ (.int .i64 y)).setCell ⟨g, k * 3 + 2, none⟩ (.int .i64 z)) (some g) := by
  have hn : n = l.length := by
    rcases h.2 with ⟨h', _⟩ | ⟨g', cap', cur, h', _⟩
    · simp at h'
    · simp only [Value.slice.injEq] at h'
      exact h'.2.1
  subst hn
  have hx : l[k]? = some (l[k]'hk) := List.getElem?_eq_getElem hk
  have r0 := tripS.row_at l k _ hx 0 (by decide)
  have r1 := tripS.row_at l k _ hx 1 (by decide)
  have r2 := tripS.row_at l k _ hx 2 (by decide)
  have s0 := World.ownsRow.stored h (k * 3) (.int .i64 x)
  have s1 := World.ownsRow.stored s0.1 (k * 3 + 1) (.int .i64 y)
  have s2 := World.ownsRow.stored s1.1 (k * 3 + 2) (.int .i64 z)
  have hl : k * 3 + 2 < l.length * tripS.size := by show _ < l.length * 3; omega
  refine ⟨_, _, _, (World.ownsRow.cellAt h _ (by omega)).trans r0, (World.ownsRow.cellAt h _ (by omega)).trans r1, (World.ownsRow.cellAt h _ hl).trans r2, World.ownsRow.frozenAt h _, World.ownsRow.frozenAt h _, World.ownsRow.frozenAt h _, ?_, ?_⟩
  · have := s2.1
    rw [trip_row_set] at this
    show World.ownsRow _ _ _ _ _ _ _
    rw [List.length_set]
    exact this
  · exact grown_trans (grown_trans s0.2 s1.2) s2.2

set_option maxHeartbeats 1000000 in
theorem markMeetingS_any (A : Option Addr) (c B : Nat) (l : List (Int × Int × Int)) (k0 : Int) (w : World) (hk0 : 0 ≤ k0) (hk1 : k0 ≤ 1048576) (hn : (l.length : Int) ≤ 1048576) (h : SlOwn tripS w B 42 (.slice A l.length c) l) :
    Calls Try.prog 21 #[.slice A l.length c, .int .i64 k0] w fun e w' => e = .returned (.int .i64 (k0 + 3 * l.length)) ∧ SlOwn tripS w' B 42 (.slice A l.length c) (tripMarks k0 l.length) ∧ w.grownBy w' (Value.slice A l.length c).ownBlock := by
  have H := Lib.hid h
  clear h
  obtain ⟨n, hn'⟩ : ∃ n, n = l.length := ⟨_, rfl⟩
  have HN := Lib.hid hn'
  rw [← hn'] at H hn ⊢
  clear hn'
  go_enter Try.func21, Try.ntmps21
  go_wp2
  go_loopw [1, 5] (fun v i wr => ∃ j : Nat, j ≤ n ∧ i = .int .i64 j ∧ v = .int .i64 (k0 + 3 * j) ∧ SlOwn tripS wr B 42 (.slice A n c) (tripMarks k0 j ++ l.drop j) ∧ w.grownBy wr (Value.slice A n c).ownBlock)
    (fun _ i _ => n - (intOf i).toNat)
  case atStart => exact ⟨0, Nat.zero_le _, rfl, by simp, by simpa [tripMarks] using H.out, World.grownBy.refl _ _⟩
  case round =>
    obtain ⟨j, hj, rfl, rfl, hown, hg⟩ := hrel
    have HO := Lib.hid hown
    have HG := Lib.hid hg
    clear hown hg
    have hlen : (tripMarks k0 j ++ l.drop j).length = n := by
      have := HN.out
      rw [List.length_append, tripMarks_len, List.length_drop]; omega
    have HL := Lib.hid hlen
    clear hlen
    by_cases hlt : j < n
    · obtain ⟨g, rfl, -⟩ := own_some (S := tripS) HO.out (by rw [HL.out]; omega)
      obtain ⟨v0, v1, v2, q0, q1, q2, f0, f1, f2, ho, hgr⟩ := SlOwn.trip_store HO.out (k := j) (by rw [HL.out]; exact hlt) (k0 + 3 * j) (k0 + 3 * j + 1) (k0 + 3 * j + 2)
      rw [tripMarks_set k0 l j (by have := HN.out; omega)] at ho
      have HO2 := Lib.hid ho
      have HG2 := Lib.hid hgr
      clear ho hgr
      have e3 : (k0 + 3 * (j : Int)) + 1 + 1 = k0 + 3 * (j : Int) + 2 := by omega
      go_wp2
      go_roundw
      case rel => exact ⟨j + 1, by omega, by go_num, by congr 1; omega, HO2.out, grown_trans HG.out HG2.out⟩
      case measure => simp [intOf]; omega
    · obtain rfl : j = n := by omega
      go_wp2
      go_ret
      refine ⟨ret_int rfl, ?_, HG.out⟩
      have h1 := HO.out
      have h2 : l.drop j = [] := List.drop_eq_nil_of_le (by have := HN.out; omega)
      rw [h2, List.append_nil] at h1
      exact h1

theorem heldMeetingS_any (A : Option Addr) (c n : Nat) (k0 : Int) (w : World) (hk0 : 0 ≤ k0) (hk1 : k0 ≤ 1048576) (hn : (n : Int) ≤ 1048576) (h : SlAt tripS w A (tripMarks k0 n)) :
    Calls Try.prog 22 #[.slice A n c, .int .i64 k0] w fun e w' => e = .returned (.int .i64 (k0 + 3 * n)) ∧ w = w' := by
  have H := Lib.hid h
  clear h
  go_enter Try.func22, Try.ntmps22
  go_wp2
  go_loop [1, 5] (fun v i => ∃ j : Nat, j ≤ n ∧ i = .int .i64 j ∧ v = .int .i64 (k0 + 3 * j)) (fun _ i => n - (intOf i).toNat)
  case atStart => exact ⟨0, Nat.zero_le _, rfl, by simp⟩
  case round =>
    obtain ⟨j, hj, rfl, rfl⟩ := hrel
    by_cases hlt : j < n
    · obtain ⟨b, off, rfl, l0, hc⟩ := H.out.trip_at (show j < (tripMarks k0 n).length by rw [tripMarks_len]; exact hlt)
      obtain ⟨a0, a1, a2⟩ := hc j _ (tripMarks_at k0 n j hlt)
      simp only at a0 a1 a2
      clear hc
      have e3 : (k0 + 3 * (j : Int)) + 1 + 1 = k0 + 3 * (j : Int) + 2 := by omega
      go_wp2
      go_round
      case rel => exact ⟨j + 1, by omega, by go_num, by congr 1; omega⟩
      case measure => simp [intOf]; omega
    · obtain rfl : j = n := by omega
      go_wp2
      go_ret
      exact ⟨ret_int rfl, rfl⟩

theorem eqMeeting_true (a b d : Int) (w : World) :
    Calls Try.prog 27 #[.agg #[.int .i64 a, .int .i64 b, .int .i64 d], .agg #[.int .i64 a, .int .i64 b, .int .i64 d]] w fun e w' => e = .returned (.bool true) ∧ Below w.heap.size w w' := by
  go_enter Try.func27, Try.ntmps27
  go_wp2
  go_ret
  exact ⟨ret_bool rfl, ((Below.refl _ _).alloc (Nat.le_refl _) _).alloc (by simp) _⟩

set_option maxHeartbeats 1000000 in
theorem eqMeetingS_true (A B : Option Addr) (c d : Nat) (l : List (Int × Int × Int)) (w : World) (hn : (l.length : Int) ≤ 1048576) (hA : SlAt tripS w A l) (hB : SlAt tripS w B l) :
    Calls Try.prog 18 #[.slice A l.length c, .slice B l.length d] w fun e w' => e = .returned (.bool true) ∧ Below w.heap.size w w' := by
  have HA := Lib.hid hA
  have HB := Lib.hid hB
  clear hA hB
  go_enter Try.func18, Try.ntmps18
  go_wp2
  go_loopw [5] (fun i wr => ∃ k : Nat, k ≤ l.length ∧ i = .int .i64 k ∧ Below w.heap.size w wr)
    (fun i _ => l.length - (intOf i).toNat)
  case atStart => exact ⟨0, Nat.zero_le _, rfl, Below.refl _ _⟩
  case round =>
    obtain ⟨k, hk, rfl, hb⟩ := hrel
    have HBe := Lib.hid hb
    have HAr := Lib.hid (HA.out.below hb)
    have HBr := Lib.hid (HB.out.below hb)
    clear hb
    by_cases hlt : k < l.length
    · obtain ⟨b, off, rfl, l0, hc⟩ := HAr.out.trip_at hlt
      obtain ⟨b', off', rfl, l0', hc'⟩ := HBr.out.trip_at hlt
      obtain ⟨a0, a1, a2⟩ := hc k _ (List.getElem?_eq_getElem hlt)
      obtain ⟨b0, b1, b2⟩ := hc' k _ (List.getElem?_eq_getElem hlt)
      clear hc hc'
      generalize l[k]'hlt = x at *
      obtain ⟨x1, x2, x3⟩ := x
      simp only at a0 a1 a2 b0 b1 b2
      have f0 := Ext.cell a0
      have f1 := Ext.cell a1
      have f2 := Ext.cell a2
      have g0 := Ext.cell b0
      have g1 := Ext.cell b1
      have g2 := Ext.cell b2
      clear a0 a1 a2 b0 b1 b2
      go_wp2
      refine wp_region_ext (by kernel_rfl) (by kernel_rfl) ?_
      repeat (first | go_big_quiet_skip | (go_big_quiet_want; go_big_quiet_op; first | go_big_quiet_on | (apply Exists.intro; refine ⟨fun _ => ?_, ?_⟩; (go_at_call 27; exact Ext.call (eqMeeting_true _ _ _ _)); go_big_quiet_on)))
      refine wpQuiet_nil ?_
      rintro _ ⟨x, rfl⟩
      go_wp2
      go_roundw
      case rel => exact ⟨k + 1, by omega, by go_num, HBe.out.trans (x.h.mono HBe.out.size)⟩
      case measure => simp [intOf]; omega
    · go_wp2
      go_ret
      exact ⟨ret_bool rfl, HBe.out⟩
end Go.Proofs.Ytdgcdlcfddjmiaa
