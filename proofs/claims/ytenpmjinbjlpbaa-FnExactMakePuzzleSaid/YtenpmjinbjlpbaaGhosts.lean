/- Ghosts: the contracts of impl.ghostsOf and of the methods of a ghost. -/
import Derived.Test.YtenpmjinbjlpbaaProg
import Derived.Test.YtenpmjinbjlpbaaSl
namespace Go.Proofs.Ytenpmjinbjlpbaa
open Go.RowKit

theorem goesRight_any (a y L : Int) (w : World) :
    Calls Try.prog 78 #[.agg #[.int .i64 a, .int .i64 y, .int .i64 L]] w fun e w' => e = .returned (.bool (y == 1)) ∧ Below w.heap.size w w' := by
  go_enter Try.func78, Try.ntmps78
  go_wp2
  go_ret
  exact ⟨ret_bool rfl, (Below.refl _ _).alloc (Nat.le_refl _) _⟩
theorem goesRight_at (a y L : Int) (r : Bool) (hr : (y == 1) = r) (w : World) :
    Calls Try.prog 78 #[.agg #[.int .i64 a, .int .i64 y, .int .i64 L]] w fun e w' => e = .returned (.bool r) ∧ Below w.heap.size w w' := by
  subst hr; exact goesRight_any a y L w
theorem goesLeft_any (a y L : Int) (w : World) :
    Calls Try.prog 77 #[.agg #[.int .i64 a, .int .i64 y, .int .i64 L]] w fun e w' => e = .returned (.bool (y == -1)) ∧ Below w.heap.size w w' := by
  go_enter Try.func77, Try.ntmps77
  go_wp2
  go_ret
  exact ⟨ret_bool rfl, (Below.refl _ _).alloc (Nat.le_refl _) _⟩
theorem goesLeft_at (a y L : Int) (r : Bool) (hr : (y == -1) = r) (w : World) :
    Calls Try.prog 77 #[.agg #[.int .i64 a, .int .i64 y, .int .i64 L]] w fun e w' => e = .returned (.bool r) ∧ Below w.heap.size w w' := by
  subst hr; exact goesLeft_any a y L w
theorem ghostInfo : (Try.prog.info? 102).map (fun i => (i.zero, i.size, i.bytes)) = some (some (.agg #[.int .i64 0, .int .i64 0, .int .i64 0]), 3, 24) := by kernel_rfl

theorem antI : (Try.prog.info? 67).map (fun i => (i.zero, i.size, i.bytes)) = some (some (.agg #[.int .i64 0, .int .i64 0]), pairS.size, 16) := by kernel_rfl

def gsOf (L : Int) (l : List (Int × Int)) : List (Int × Int × Int) := l.map fun p => (p.1, p.2, L)
theorem gsOf_take (L : Int) (l : List (Int × Int)) (k : Nat) (x : Int × Int) (hx : l[k]? = some x) : gsOf L (l.take (k + 1)) = gsOf L (l.take k) ++ [(x.1, x.2, L)] := by
  obtain ⟨hk, rfl⟩ := List.getElem?_eq_some_iff.1 hx
  unfold gsOf
  rw [List.take_succ_eq_append_getElem hk, List.map_append]
  rfl

set_option maxRecDepth 100000 in
set_option maxHeartbeats 1000000 in
theorem ghostsOf_any (L : Int) (A : Option Addr) (c : Nat) (l : List (Int × Int)) (w : World) (hn : (l.length : Int) ≤ 16) (hA : AntsAt w A l) :
    Calls Try.prog 79 #[.agg #[.int .i64 L, .slice A l.length c]] w fun e w' => ∃ A' c', e = .returned (.slice A' l.length c') ∧ SlOwn tripS w' w.heap.size 102 (.slice A' l.length c') (gsOf L l) ∧ Below w.heap.size w w' := by
  obtain ⟨i0, hi, hz0, hz1, hz2⟩ := info_parts ghostInfo
  have HA := Lib.hid hA
  clear hA
  go_enter Try.func79, Try.ntmps79
  go_wp2_with (at_make; refine wpList_make_own _ rfl _ _ _ rfl (w.heap.size + 1) 102 i0 _ 3 Try.underlying97 hi hz0 hz1 .i64 .i64 _ l.length rfl rfl rfl (by rw [hz2]; omega) (by unfold maxLen; omega) (by simp) ?_; intro w1 hown hg; have c0 := hg.cell (a := ⟨w.heap.size, 0, none⟩) (v := .int .i64 L) (by simp) (by simp); have c1 := hg.cell (a := ⟨w.heap.size, 1, none⟩) (v := .slice A l.length c) (by simp) (by simp))
  have HB1 : Hid (Below (w.heap.size + 1) (w.alloc (Obj.cells #[Value.int IntKind.i64 L, Value.slice A l.length c] 47)) w1) := (Below.refl _ _).grown hg (by simp) (by simp)
  have HO1 : Hid (SlOwn tripS w1 (w.heap.size + 1) 102 (.slice (some ⟨w.heap.size + 1, 0, none⟩) 0 l.length) (gsOf L (l.take 0))) := by
    have h : w1.ownsRow (w.heap.size + 1) 102 3 (.slice (some ⟨w.heap.size + 1, 0, none⟩) 0 l.length) 0 [] := by simpa using hown
    exact h
  clear hg hown
  go_loopw [3, 13] (fun v i wr => ∃ k : Nat, k ≤ l.length ∧ i = .int .i64 k ∧ Below (w.heap.size + 1) (w.alloc (Obj.cells #[Value.int IntKind.i64 L, Value.slice A l.length c] 47)) wr ∧ SlOwn tripS wr (w.heap.size + 1) 102 v (gsOf L (l.take k)))
    (fun _ i _ => l.length - (intOf i).toNat)
  case atStart => exact ⟨0, Nat.zero_le _, rfl, HB1.out, HO1.out⟩
  case round =>
    obtain ⟨k, hk, rfl, hb, hown⟩ := hrel
    have HB := Lib.hid hb
    have hs : w.heap.size + 1 ≤ wr.heap.size := by have := hb.size; simpa using this
    have hs1 : w.heap.size < wr.heap.size := by omega
    have c0 : wr.cell? ⟨w.heap.size, 0, none⟩ = some (.int .i64 L) := by rw [hb.cell (p := ⟨w.heap.size, 0, none⟩) (by simp)]; simp
    have c1 : wr.cell? ⟨w.heap.size, 1, none⟩ = some (.slice A l.length c) := by rw [hb.cell (p := ⟨w.heap.size, 1, none⟩) (by simp)]; simp
    have HAr := Lib.hid (HA.out.below (((Below.refl _ _).alloc (Nat.le_refl _) _).trans (hb.mono (by simp))))
    clear hb
    obtain ⟨A3, k3, rfl, hat, hin⟩ := hown.form
    have HO := Lib.hid hown
    clear hown hat
    by_cases hlt : k < l.length
    · obtain ⟨b, off, rfl, l0, hc⟩ := HAr.out.at_ hlt
      obtain ⟨a0, a1⟩ := hc k hlt
      have hx : l[k]? = some (l.getD k (0, 0)) := by rw [List.getD_eq_getElem?_getD, List.getElem?_eq_getElem hlt]; rfl
      have HT := Lib.hid (gsOf_take L l k _ hx)
      clear hc hx
      generalize l.getD k (0, 0) = x at *
      obtain ⟨x1, x2⟩ := x
      simp only at a0 a1
      have hlen : (gsOf L (l.take k)).length = k := by simp [gsOf]; omega
      have HLEN := Lib.hid hlen
      clear hlen
      go_wp2_with (at_builtin; go_must (refine wpList_append_sl tripS _ rfl _ _ 97 rfl (w.heap.size + 1) 102 i0 _ 24 Try.underlying97 hi hz0 hz1 hz2 rfl (by decide) _ _ rfl ((HO.out.below ((Below.refl _ _).alloc (Nat.le_refl _) _)).below ((Below.refl _ _).alloc (Nat.le_refl _) _)) (wr.heap.size + 1) (x1, x2, L) #[.int .i64 x1, .int .i64 x2, .int .i64 L] _ _ rfl (heap_new (by simp)) rfl (by have := HLEN.out; omega) (by simp; omega) ?_); intro A5 k5 w5 hown5 hb5 hg5)
      go_roundw
      case rel =>
        refine ⟨k + 1, by omega, by go_num, ?_, ?_⟩
        · exact HB.out.trans ((((Below.refl _ _).alloc (Nat.le_refl _) _).mono hs).trans ((((Below.refl _ _).alloc (Nat.le_refl _) _).mono (by simp; omega)).trans hb5))
        · rw [HT.out]; simpa using hown5
      case measure => simp [intOf]; omega
    · obtain rfl : k = l.length := by omega
      have e : gsOf L (l.take l.length) = gsOf L l := by rw [List.take_length]
      have HE := Lib.hid e
      clear e
      go_wp2
      go_ret
      have ho := HO.out
      rw [HE.out] at ho
      exact ⟨A3, k3, by simp [gsOf], by simpa [gsOf] using ho.base (by simp), ((Below.refl _ _).alloc (Nat.le_refl _) _).trans (HB.out.mono (by simp))⟩

end Go.Proofs.Ytenpmjinbjlpbaa
