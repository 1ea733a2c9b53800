/- l1Put: a number put into an increasing list. -/
import Derived.Test.YtiledncedekefaaPlM
import Derived.Test.YtiledncedekefaaStep
namespace Go.Proofs.Ytiledncedekefaa
open Go.RowKit

theorem intInfoP : (Try.prog.info? 3).map (fun i => (i.zero, i.size, i.bytes)) = some (some (.int .i64 0), intS.size, 8) := by kernel_rfl
theorem slAt_oneP {w : World} {g : Nat} {x : Int} {e : TypeId} {m : Nat × Nat} (h : w.heap[g]? = some (.cells #[.int .i64 x] e m)) : SlAt intS w (some ⟨g, 0, none⟩) [x] := by
  refine .inr ⟨g, 0, rfl, (Array.getElem?_eq_some_iff.1 h).1, fun k y hk j hj => ?_⟩
  cases k with
  | succ k => simp at hk
  | zero =>
    simp only [List.getElem?_cons_zero, Option.some.injEq] at hk
    subst hk
    simp only [Nat.zero_mul, Nat.zero_add]
    rw [cell_of_row w g j _ _ _ h, ← Array.getElem?_toList]
    rfl

theorem SlOwn.allocP {α : Type} {S : Shape α} {w : World} {B : Nat} {e : TypeId} {v : Value} {l : List α} (h : SlOwn S w B e v l) (o : Obj) : SlOwn S (w.alloc o) B e v l := h.below ((Below.refl _ _).alloc (Nat.le_refl _) _)
set_option maxRecDepth 100000 in
set_option maxHeartbeats 2000000 in
theorem put_any (B : Nat) (A : Option Addr) (c : Nat) (q : List Int) (x : Int) (w : World) (hup : Up q) (hx : x ∉ q) (hn : (q.length : Int) ≤ 65536) (ho : SlOwn intS w B 3 (.slice A q.length c) q) :
    Calls Try.prog 95 #[.slice A q.length c, .int .i64 x] w fun e w' => ∃ A' n' c', e = .returned (.slice A' n' c') ∧ n' = (insA q x).length ∧ SlOwn intS w' w.heap.size 3 (.slice A' n' c') (insA q x) ∧ Below w.heap.size w w' := by
  obtain ⟨i0, hi, hz0, hz1, hz2⟩ := info_parts intInfoP
  have hcap := own_cap ho
  have hcap' : (q.length : Int) ≤ (c : Int) := by omega
  have HQ := Lib.hid ho.sl
  have HUP := Lib.hid hup
  have HX := Lib.hid hx
  clear ho hup hx
  go_enter Try.func95, Try.ntmps95
  go_wp2
  go_loop [5] (fun i => ∃ k : Nat, k ≤ q.length ∧ i = .int .i64 k ∧ ∀ j (hj : j < q.length), j < k → q[j] < x) (fun i => q.length - (intOf i).toNat)
  case atStart => exact ⟨0, Nat.zero_le _, rfl, fun j _ h => absurd h (Nat.not_lt_zero j)⟩
  case round =>
    obtain ⟨k, hk, rfl, hbf⟩ := hrel
    have HBF := Lib.hid hbf
    clear hbf
    have hkc : (k : Int) ≤ (c : Int) := by omega
    have hkq : (k : Int) ≤ (q.length : Int) := by omega
    by_cases hlt : k < q.length
    · obtain ⟨b, off, rfl, l0, hc⟩ := HQ.out.int_at hlt
      have a0 := hc k _ (List.getElem?_eq_getElem hlt)
      have hck : ¬ c = k := by omega
      have HAT' : Hid (∀ hj : k < q.length, q[k] = q[k]'hlt) := fun _ => rfl
      have HNE : Hid (q[k]'hlt ≠ x) := fun e => HX.out (e ▸ List.getElem_mem hlt)
      have HY : Hid (∃ y, y = q[k]'hlt) := ⟨_, rfl⟩
      clear hc
      obtain ⟨y, hy⟩ := HY.out
      rw [← hy] at a0
      have HYY := Lib.hid hy
      clear hy
      by_cases hyx : y < x
      · have HBF2 : Hid (∀ j (hj : j < q.length), j < k + 1 → q[j] < x) := fun j hj hjk => by
          by_cases h : j = k
          · subst h; rw [← HYY.out]; exact hyx
          · exact HBF.out j hj (by omega)
        have d : decide (y < x) = true := decide_eq_true hyx
        go_wp2
        go_round
        case rel => exact ⟨k + 1, by omega, by go_num, HBF2.out⟩
        case measure => simp [intOf]; omega
      · have HAT : Hid (∀ hj : k < q.length, ¬ q[k] < x) := fun hj => by rw [← HYY.out]; exact hyx
        have d : decide (y < x) = false := decide_eq_false hyx
        have d2 : (y == x) = false := by simpa using (fun e => HNE.out (HYY.out ▸ e))
        have HKE : Hid ([] ++ q.take k ++ [x] ++ q.drop k = insA q x) := by show _ = _; rw [List.nil_append]; exact insA_at HUP.out HX.out hk HBF.out HAT.out
        have NK : Hid (k = (q.take k).length) := by show _ = _; rw [List.length_take]; omega
        have LA := Lib.hid ((HQ.out.take k).alloc (Obj.cells #[] 3))
        have OE := Lib.hid (own_empty intS w 3)
        have LE1 : Hid (([] : List Int).length + (q.take k).length ≤ 1048576) := by show _ ≤ _; simp only [List.length_take, List.length_nil]; omega
        have LE2 : Hid (([] ++ q.take k).length + [x].length ≤ 1048576) := by show _ ≤ _; simp only [List.length_append, List.length_take, List.length_nil, List.length_cons]; omega
        have LE3 : Hid (([] ++ q.take k ++ [x]).length + (q.drop k).length ≤ 1048576) := by show _ ≤ _; simp only [List.length_append, List.length_take, List.length_nil, List.length_cons, List.length_drop]; omega
        go_wp2_with (first
          | (at_builtin; refine wpList_append_slsv intS _ rfl _ _ 22 rfl w.heap.size 3 i0 _ 8 Try.underlying22 hi hz0 hz1 hz2 rfl (by decide) _ ([] ++ q.take k ++ [x]) rfl HO6.out _ _ _ (q.drop k) rfl (by rw [List.length_drop]) (by first | exact HQ6.out.drop k | simpa [intS] using HQ6.out.drop k) LE3.out HB6.out.size ?_; intro A7 n7 k7 w7 hn7 ho7 hb7; have HN7 := Lib.hid hn7; have HO7 := Lib.hid ho7; have HB7 := Lib.hid (HB6.out.trans hb7); clear hn7 ho7 hb7)
          | (at_builtin; refine wpList_append_slsv intS _ rfl _ _ 22 rfl w.heap.size 3 i0 _ 8 Try.underlying22 hi hz0 hz1 hz2 rfl (by decide) _ ([] ++ q.take k) rfl (HO5.out.allocP _) _ 1 1 [x] rfl rfl (slAt_oneP (heap_new rfl)) LE2.out (HB5.out.alloc HB5.out.size _).size ?_; intro A6 n6 k6 w6 hn6 ho6 hb6; have HO6 := Lib.hid ho6; have HB6 := Lib.hid ((HB5.out.alloc HB5.out.size _).trans hb6); have HQ6 := Lib.hid (HQ.out.below HB6.out); clear hn6 ho6 hb6)
          | (at_builtin; refine wpList_append_slsv intS _ rfl _ _ 22 rfl w.heap.size 3 i0 _ 8 Try.underlying22 hi hz0 hz1 hz2 rfl (by decide) _ [] rfl OE.out _ _ _ (q.take k) rfl NK.out LA.out LE1.out (by simp) ?_; intro A5 n5 k5 w5 hn5 ho5 hb5; have HO5 := Lib.hid ho5; have HB5 := Lib.hid (((Below.refl _ w).alloc (Nat.le_refl _) _).trans hb5); clear hn5 ho5 hb5))
        go_ret
        refine ⟨A7, n7, k7, rfl, by rw [HN7.out, HKE.out], ?_, HB7.out⟩
        have := HO7.out
        rw [HKE.out] at this
        exact this
    · have hke : k = q.length := by omega
      subst hke
      have HAT : Hid (∀ hj : q.length < q.length, ¬ q[q.length] < x) := fun hj => absurd hj (Nat.lt_irrefl _)
      have HKE : Hid ([] ++ q.take q.length ++ [x] ++ q.drop q.length = insA q x) := by show _ = _; rw [List.nil_append]; exact insA_at HUP.out HX.out hk HBF.out HAT.out
      have NK : Hid (q.length = (q.take q.length).length) := by show _ = _; rw [List.length_take]; omega
      have LA := Lib.hid ((HQ.out.take q.length).alloc (Obj.cells #[] 3))
      have OE := Lib.hid (own_empty intS w 3)
      have LE1 : Hid (([] : List Int).length + (q.take q.length).length ≤ 1048576) := by show _ ≤ _; simp only [List.length_take, List.length_nil]; omega
      have LE2 : Hid (([] ++ q.take q.length).length + [x].length ≤ 1048576) := by show _ ≤ _; simp only [List.length_append, List.length_take, List.length_nil, List.length_cons]; omega
      have LE3 : Hid (([] ++ q.take q.length ++ [x]).length + (q.drop q.length).length ≤ 1048576) := by show _ ≤ _; simp only [List.length_append, List.length_take, List.length_nil, List.length_cons, List.length_drop]; omega
      go_wp2_with (first
        | (at_builtin; refine wpList_append_slsv intS _ rfl _ _ 22 rfl w.heap.size 3 i0 _ 8 Try.underlying22 hi hz0 hz1 hz2 rfl (by decide) _ ([] ++ q.take q.length ++ [x]) rfl HO6.out _ _ _ (q.drop q.length) rfl (by simp) (.inl List.drop_length) LE3.out HB6.out.size ?_; intro A7 n7 k7 w7 hn7 ho7 hb7; have HN7 := Lib.hid hn7; have HO7 := Lib.hid ho7; have HB7 := Lib.hid (HB6.out.trans hb7); clear hn7 ho7 hb7)
        | (at_builtin; refine wpList_append_slsv intS _ rfl _ _ 22 rfl w.heap.size 3 i0 _ 8 Try.underlying22 hi hz0 hz1 hz2 rfl (by decide) _ ([] ++ q.take q.length) rfl (HO5.out.allocP _) _ 1 1 [x] rfl rfl (slAt_oneP (heap_new rfl)) LE2.out (HB5.out.alloc HB5.out.size _).size ?_; intro A6 n6 k6 w6 hn6 ho6 hb6; have HO6 := Lib.hid ho6; have HB6 := Lib.hid ((HB5.out.alloc HB5.out.size _).trans hb6); have HQ6 := Lib.hid (HQ.out.below HB6.out); clear hn6 ho6 hb6)
        | (at_builtin; refine wpList_append_slsv intS _ rfl _ _ 22 rfl w.heap.size 3 i0 _ 8 Try.underlying22 hi hz0 hz1 hz2 rfl (by decide) _ [] rfl OE.out _ _ _ (q.take q.length) rfl NK.out LA.out LE1.out (by simp) ?_; intro A5 n5 k5 w5 hn5 ho5 hb5; have HO5 := Lib.hid ho5; have HB5 := Lib.hid (((Below.refl _ w).alloc (Nat.le_refl _) _).trans hb5); clear hn5 ho5 hb5))
      all_goals (
        go_ret
        refine ⟨A7, n7, k7, rfl, by rw [HN7.out, HKE.out], ?_, HB7.out⟩
        have := HO7.out
        rw [HKE.out] at this
        exact this)

end Go.Proofs.Ytiledncedekefaa
