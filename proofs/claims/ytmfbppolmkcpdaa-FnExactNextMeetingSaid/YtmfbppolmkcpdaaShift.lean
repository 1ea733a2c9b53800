/- How far ants are shifted around a circle: ShiftInRound on both sides. -/
import Derived.Test.YtmfbppolmkcpdaaIsCirc
import Derived.Test.YtmfbppolmkcpdaaAround
import Derived.Test.YtmfbppolmkcpdaaCount
namespace Go.Proofs.Ytmfbppolmkcpdaa
open Go.RowKit

theorem around_b (x L : Int) (w : World) (hx0 : -1000000 ≤ x) (hx1 : x ≤ 1000000) (hL : 0 < L) (hL1 : L ≤ 1000000) :
    Calls Try.prog 31 #[.int .i64 x, .int .i64 L] w fun e w' => e = .returned (.int .i64 (x % L)) ∧ Below w.heap.size w w' :=
  (around_any x L w hx0 hx1 hL hL1).mono fun _ _ ⟨he, hw⟩ => ⟨he, hw ▸ Below.refl _ _⟩

/-- the ghosts' rounds, one after the other -/
def shAll (L t : Int) (l : List (Int × Int)) : Int := l.foldl (fun s p => s + (p.1 + p.2 * t) / L) 0
theorem shAll_snoc (L t : Int) (l : List (Int × Int)) (k : Nat) (x : Int × Int) (hx : l[k]? = some x) : shAll L t (l.take (k + 1)) = shAll L t (l.take k) + (x.1 + x.2 * t) / L := by
  obtain ⟨hk, rfl⟩ := List.getElem?_eq_some_iff.1 hx
  unfold shAll
  rw [List.take_succ_eq_append_getElem hk, List.foldl_append]
  rfl
def rAll (l : List (Int × Int)) : Int := l.foldl (fun n p => if 0 < p.2 then n + 1 else n) 0
theorem rAll_snoc (l : List (Int × Int)) (k : Nat) (x : Int × Int) (hx : l[k]? = some x) : rAll (l.take (k + 1)) = if 0 < x.2 then rAll (l.take k) + 1 else rAll (l.take k) := by
  obtain ⟨hk, rfl⟩ := List.getElem?_eq_some_iff.1 hx
  unfold rAll
  rw [List.take_succ_eq_append_getElem hk, List.foldl_append]
  rfl
theorem rAll_bounds (l : List (Int × Int)) : ∀ k, k ≤ l.length → 0 ≤ rAll (l.take k) ∧ rAll (l.take k) ≤ k := by
  intro k
  induction k with
  | zero => intro _; simp [rAll]
  | succ k ih =>
    intro hk
    obtain ⟨h1, h2⟩ := ih (by omega)
    rw [rAll_snoc l k _ (List.getElem?_eq_getElem hk)]
    split <;> omega
theorem ciB_way {L : Int} {l : List (Int × Int)} (h : ciB L l = true) {k : Nat} {x : Int × Int} (hx : l[k]? = some x) : 0 ≤ x.1 ∧ x.1 ≤ L - 2 ∧ (x.2 = -1 ∨ x.2 = 1) := by
  have h1 := good_ant (ciB_good h) hx
  have h2 := ciB_ant h (List.getElem?_eq_some_iff.1 hx).1
  rw [getD_of hx] at h2
  exact ⟨h1.1, h2.2, h1.2.2.2⟩
theorem shAll_bounds {L : Int} {l : List (Int × Int)} (h : ciB L l = true) (t : Int) (h0 : 0 ≤ t) (h1 : t ≤ 4000) : ∀ k, k ≤ l.length → -(5000 * k) ≤ shAll L t (l.take k) ∧ shAll L t (l.take k) ≤ 5000 * k := by
  have hl := ciB_len h
  intro k
  induction k with
  | zero => intro _; simp [shAll]
  | succ k ih =>
    intro hk
    obtain ⟨h3, h4⟩ := ih (by omega)
    have hx : l[k]? = some l[k] := List.getElem?_eq_getElem hk
    have hw := ciB_way h hx
    rw [shAll_snoc L t l k _ hx]
    have hb := ediv_bound (l[k].1 + l[k].2 * t) L 5000 hl.1 (by rcases hw.2.2 with e | e <;> rw [e] <;> omega) (by rcases hw.2.2 with e | e <;> rw [e] <;> omega) (by omega)
    omega
theorem shAll_round {L : Int} {l : List (Int × Int)} (h : ciB L l = true) : ∀ k, k ≤ l.length → shAll L L (l.take k) = 2 * rAll (l.take k) - k := by
  have hl := ciB_len h
  intro k
  induction k with
  | zero => intro _; simp [shAll, rAll]
  | succ k ih =>
    intro hk
    have h3 := ih (by omega)
    have hx : l[k]? = some l[k] := List.getElem?_eq_getElem hk
    obtain ⟨w0, w1, hw⟩ := ciB_way h hx
    rw [shAll_snoc L L l k _ hx, rAll_snoc l k _ hx, h3]
    have hz : l[k].1 / L = 0 := Int.ediv_eq_zero_of_lt w0 (by omega)
    rw [Int.add_mul_ediv_right _ _ (by omega), hz]
    rcases hw with e | e <;> rw [e]
    · rw [if_neg (by omega)]; omega
    · rw [if_pos (by omega)]; omega

set_option maxHeartbeats 1000000 in
theorem ciRight_any (L : Int) (A : Option Addr) (c : Nat) (l : List (Int × Int)) (w : World) (hn : l.length ≤ 16) (hA : AntsAt w A l) :
    Calls Try.prog 21 #[.agg #[.int .i64 L, .slice A l.length c]] w fun e w' => e = .returned (.int .i64 (rAll l)) ∧ Below w.heap.size w w' := by
  have HA := Lib.hid hA
  clear hA
  go_enter Try.func21, Try.ntmps21
  go_wp2
  go_loopw [3, 9] (fun r i wr => ∃ k : Nat, k ≤ l.length ∧ i = .int .i64 k ∧ r = .int .i64 (rAll (l.take k)) ∧ Below (w.heap.size + 1) (w.alloc (Obj.cells #[Value.int IntKind.i64 L, Value.slice A l.length c] 30)) wr)
    (fun _ i _ => l.length - (intOf i).toNat)
  case atStart => exact ⟨0, Nat.zero_le _, rfl, rfl, Below.refl _ _⟩
  case round =>
    obtain ⟨k, hk, rfl, rfl, hb⟩ := hrel
    have HB := Lib.hid hb
    have hs1 : w.heap.size < wr.heap.size := by have := hb.size; simp at this; omega
    have HAr := Lib.hid (HA.out.below (((Below.refl _ _).alloc (Nat.le_refl _) _).trans (hb.mono (by simp))))
    clear hb
    by_cases hlt : k < l.length
    · obtain ⟨b, off, rfl, l0, hc⟩ := HAr.out.at_ hlt
      obtain ⟨a0, a1⟩ := hc k hlt
      have hx : l[k]? = some (l.getD k (0, 0)) := by rw [List.getD_eq_getElem?_getD, List.getElem?_eq_getElem hlt]; rfl
      have hm := rAll_snoc l k _ hx
      obtain ⟨b1, b2⟩ := rAll_bounds l k hk
      clear hc hx
      generalize l.getD k (0, 0) = x at *
      obtain ⟨x1, x2⟩ := x
      simp only at a0 a1 hm
      generalize rAll (l.take k) = r at *
      by_cases hy : 0 < x2
      · have HM : Hid (rAll (l.take (k + 1)) = r + 1) := by show _ = _; rw [hm, if_pos hy]
        clear hm
        go_wp2
        go_roundw
        case rel => exact ⟨k + 1, by omega, by go_num, by rw [HM.out], HB.out.trans (((Below.refl _ _).alloc (Nat.le_refl _) _).mono (by omega))⟩
        case measure => simp [intOf]; omega
      · have HM : Hid (rAll (l.take (k + 1)) = r) := by show _ = _; rw [hm, if_neg hy]
        clear hm
        go_wp2
        go_roundw
        case rel => exact ⟨k + 1, by omega, by go_num, by rw [HM.out], HB.out.trans (((Below.refl _ _).alloc (Nat.le_refl _) _).mono (by omega))⟩
        case measure => simp [intOf]; omega
    · obtain rfl : k = l.length := by omega
      have HE : Hid (l.take l.length = l) := List.take_length
      go_wp2
      go_ret
      exact ⟨ret_int (by rw [HE.out]), ((Below.refl _ _).alloc (Nat.le_refl _) _).trans (HB.out.mono (by simp))⟩

/-- what ShiftInRound returns -/
def siOk (L : Int) (l : List (Int × Int)) : Bool := ciB L l && !(((l.length : Nat) : Int) == 0)
def siV (L : Int) (l : List (Int × Int)) : Int := if siOk L l then (2 * rAll l - l.length) % l.length else 0
theorem rAll_all (l : List (Int × Int)) : 0 ≤ rAll l ∧ rAll l ≤ l.length := by
  have := rAll_bounds l l.length (Nat.le_refl _)
  rwa [List.take_length] at this

end Go.Proofs.Ytmfbppolmkcpdaa
