/- The different places of meetings, on both sides. -/
import Derived.Test.YtdgcdlcfddjmiaaPlM
import Derived.Test.YtdgcdlcfddjmiaaMeetA
import Derived.Test.YtdgcdlcfddjmiaaNever
import Derived.Test.YtdgcdlcfddjmiaaBridgeI
import Derived.Test.YtdgcdlcfddjmiaaShelfK
namespace Go.Proofs.Ytdgcdlcfddjmiaa
open Go.RowKit Go.Shelf Go.Lib Go.Sort

def plOf (m : List (Int × Int × Int)) : List Int := m.map fun x => x.2.1
theorem plOf_snoc (m : List (Int × Int × Int)) (k : Nat) (x : Int × Int × Int) (hx : m[k]? = some x) : plOf (m.take (k + 1)) = plOf (m.take k) ++ [x.2.1] := by
  obtain ⟨hk, rfl⟩ := List.getElem?_eq_some_iff.1 hx
  unfold plOf
  rw [List.take_succ_eq_append_getElem hk, List.map_append]
  rfl
theorem plOf_len (m : List (Int × Int × Int)) : (plOf m).length = m.length := by simp [plOf]
def pmV (L : Int) (l : List (Int × Int)) : List Int := compact (srtI (plOf (meV L l)))
theorem compact_len (zs : List Int) : (compact zs).length ≤ zs.length := by
  unfold compact
  have h : ∀ m, m ≤ zs.length → (compactUpTo zs.toArray m).length ≤ m := by
    intro m
    induction m with
    | zero => intro _; simp [compactUpTo]
    | succ m ih =>
      intro hm
      rw [compactUpTo_succ, List.length_append]
      have := ih (by omega)
      split <;> simp <;> omega
  exact h _ (Nat.le_refl _)
theorem pmV_lenI (L : Int) (l : List (Int × Int)) : ((pmV L l).length : Int) ≤ 1048576 := by
  have h1 := compact_len (srtI (plOf (meV L l)))
  rw [srtI_len, plOf_len] at h1
  have h2 := meV_len L l
  unfold pmV
  omega

theorem SlOwn.front {w : World} {B n c : Nat} {e : TypeId} {A : Option Addr} {l m : List Int} (h : SlOwn intS w B e (.slice A n c) (l ++ m)) : SlOwn intS w B e (.slice A l.length c) l ∨ (A = none ∧ l = []) := by
  rcases h.2 with ⟨hv, h0⟩ | ⟨g, cap, cur, hv, hB, hg, hnc, hm, hs, ht⟩
  · injection hv with e1 e2 e3
    have : l = [] := by
      have h1 : (l ++ m).length = 0 := h0
      rw [List.length_append] at h1
      exact List.eq_nil_of_length_eq_zero (by omega)
    exact .inr ⟨e1, this⟩
  · refine .inl ⟨by rw [intS.row_length], ?_⟩
    injection hv with e1 e2 e3
    subst e1; subst e3
    have hl : l.length ≤ c := by rw [List.length_append] at hnc; omega
    refine .inr ⟨g, c, cur, rfl, hB, hg, hl, hm, hs, ?_⟩
    rw [List.length_append, intS.row_append] at ht
    have h2 := congrArg (List.take (l.length * intS.size)) ht
    rw [List.take_take, List.take_append_of_le_length (by rw [intS.row_length]; exact Nat.le_refl _), Nat.min_eq_left (Nat.mul_le_mul_right _ (by omega))] at h2
    rw [h2, List.take_of_length_le (by rw [intS.row_length]; exact Nat.le_refl _)]

theorem compact_any {w : World} {B n c : Nat} {A : Option Addr} {e : TypeId} {l : List Int} (hll : l.length ≤ 65536) (h : SlOwn intS w B e (.slice A n c) l) :
    Calls Try.prog 79 #[.slice A n c] w fun e' w' => ∃ A' n' c', e' = .returned (.slice A' n' c') ∧ n' = (compact l).length ∧ SlOwn intS w' B e (.slice A' n' c') (compact l) ∧ RowKit.Below B w w' := by
  have hnc := own_cap h
  have hn := own_len h
  subst hn
  rcases h.2 with ⟨hv, h0⟩ | ⟨g, cap, cur, hv, _, hg, _⟩
  · injection hv with e1 e2 e3
    have hl : l = [] := List.eq_nil_of_length_eq_zero h0
    subst e1; subst hl; subst e3
    refine (Any.slices_Compact_int_empty compactInt none 0 w).mono ?_
    rintro e' w' ⟨rfl, rfl⟩
    refine ⟨none, 0, 0, rfl, ?_, ?_, RowKit.Below.refl _ _⟩
    · have := compact_len []; simp at this; rw [this]; rfl
    · have := compact_len []; simp at this; rw [this]; exact SlOwn.nil _ _ _ _
  · injection hv with e1 e2 e3
    subst e1
    obtain ⟨hH, hg2, hB, _⟩ := own_holdsI h
    have hcon := Any.slices_Compact_int compactInt g 0 c l w hH (by omega) hnc
    have hcl := compact_len l
    refine Calls.mono hcon ?_
    rintro e' w' ⟨rfl, q, rfl⟩
    have h1 := sorted_ownI h (compact l ++ List.replicate (l.length - (compact l).length) 0).toArray (by simp; omega) q #[]
    have e2 : grow (putRow (Value.int .i64) (Sort.ahead w q) g 0 (compact l ++ List.replicate (l.length - (compact l).length) 0).toArray) #[] = putRow (Value.int .i64) (Sort.ahead w q) g 0 (compact l ++ List.replicate (l.length - (compact l).length) 0).toArray := by
      unfold grow
      rw [Array.append_empty]
    rw [e2] at h1
    refine ⟨_, _, _, rfl, rfl, ?_, h1.2⟩
    have h3 := h1.1
    rw [List.toList_toArray] at h3
    rcases h3.front with h4 | ⟨h4, _⟩
    · exact h4
    · cases h4

set_option maxHeartbeats 1000000 in
theorem has_any (A : Option Addr) (c : Nat) (q : List Int) (x : Int) (r : Bool) (hr : decide (x ∈ q) = r) (w : World) (hn : (q.length : Int) ≤ 65536) (hq : SlAt intS w A q) :
    Calls Try.prog 76 #[.slice A q.length c, .int .i64 x] w fun e w' => e = .returned (.bool r) ∧ w = w' := by
  have HQ := Lib.hid hq
  have HR := Lib.hid hr
  clear hq hr
  go_enter Try.func76, Try.ntmps76
  go_wp2
  go_loop [9] (fun i => ∃ k : Nat, k ≤ q.length ∧ i = .int .i64 k ∧ x ∉ q.take k) (fun i => q.length - (intOf i).toNat)
  case atStart => exact ⟨0, Nat.zero_le _, rfl, by simp⟩
  case round =>
    obtain ⟨k, hk, rfl, hno⟩ := hrel
    have HNO := Lib.hid hno
    clear hno
    by_cases hlt : k < q.length
    · obtain ⟨b, off, rfl, l0, hc⟩ := HQ.out.int_at hlt
      have a0 := hc k _ (List.getElem?_eq_getElem hlt)
      have HS : Hid (q.take (k + 1) = q.take k ++ [q[k]]) := List.take_succ_eq_append_getElem hlt
      have HM : Hid (q[k] ∈ q) := List.getElem_mem hlt
      clear hc
      generalize q[k] = y at *
      by_cases hy : y = x
      · have HT : Hid (r = true) := by show _ = _; rw [← HR.out]; exact decide_eq_true (hy ▸ HM.out)
        have d : (y == x) = true := by simpa using hy
        clear hy
        go_wp2
        go_ret
        exact ⟨ret_bool HT.out.symm, rfl⟩
      · have HE : Hid (x ∉ q.take (k + 1)) := by
          show ¬ _
          rw [HS.out, List.mem_append, List.mem_singleton]
          rintro (h | h)
          · exact HNO.out h
          · exact hy h.symm
        have d : (y == x) = false := by simpa using hy
        clear hy
        go_wp2
        go_round
        case rel => exact ⟨k + 1, by omega, by go_num, HE.out⟩
        case measure => simp [intOf]; omega
    · obtain rfl : k = q.length := by omega
      have HT : Hid (r = false) := by
        show _ = _
        rw [← HR.out]
        have h := HNO.out
        rw [List.take_length] at h
        exact decide_eq_false h
      go_wp2
      go_ret
      exact ⟨ret_bool HT.out.symm, rfl⟩

set_option maxRecDepth 100000 in
set_option maxHeartbeats 2000000 in
theorem put_any (B : Nat) (A : Option Addr) (c : Nat) (q : List Int) (x : Int) (w : World) (hup : Up q) (hx : x ∉ q) (hn : (q.length : Int) ≤ 65536) (ho : SlOwn intS w B 3 (.slice A q.length c) q) :
    Calls Try.prog 77 #[.slice A q.length c, .int .i64 x] w fun e w' => ∃ A' n' c', e = .returned (.slice A' n' c') ∧ n' = (insA q x).length ∧ SlOwn intS w' w.heap.size 3 (.slice A' n' c') (insA q x) ∧ Below w.heap.size w w' := by
  obtain ⟨i0, hi, hz0, hz1, hz2⟩ := info_parts intInfo
  have hcap := own_cap ho
  have hcap' : (q.length : Int) ≤ (c : Int) := by omega
  have HQ := Lib.hid ho.sl
  have HUP := Lib.hid hup
  have HX := Lib.hid hx
  clear ho hup hx
  go_enter Try.func77, Try.ntmps77
  go_wp2
  go_loop [5] (fun i => ∃ k : Nat, k ≤ q.length ∧ i = .int .i64 k ∧ ∀ j (hj : j < q.length), j < k → q[j] < x) (fun i => q.length - (intOf i).toNat)
  case atStart => exact ⟨0, Nat.zero_le _, rfl, fun j _ h => absurd h (Nat.not_lt_zero j)⟩
  case round =>
    obtain ⟨k, hk, rfl, hbf⟩ := hrel
    have HBF := Lib.hid hbf
    clear hbf
    have hkc : (k : Int) ≤ (c : Int) := by omega
    have hkq : (k : Int) ≤ (q.length : Int) := by omega
    by_cases hlt : k < q.length
    · obtain ⟨b, off, rfl, l0, hc⟩ := HQ.out.int_at hlt
      have a0 := hc k _ (List.getElem?_eq_getElem hlt)
      have hck : ¬ c = k := by omega
      have HAT' : Hid (∀ hj : k < q.length, q[k] = q[k]'hlt) := fun _ => rfl
      have HNE : Hid (q[k]'hlt ≠ x) := fun e => HX.out (e ▸ List.getElem_mem hlt)
      have HY : Hid (∃ y, y = q[k]'hlt) := ⟨_, rfl⟩
      clear hc
      obtain ⟨y, hy⟩ := HY.out
      rw [← hy] at a0
      have HYY := Lib.hid hy
      clear hy
      by_cases hyx : y < x
      · have HBF2 : Hid (∀ j (hj : j < q.length), j < k + 1 → q[j] < x) := fun j hj hjk => by
          by_cases h : j = k
          · subst h; rw [← HYY.out]; exact hyx
          · exact HBF.out j hj (by omega)
        have d : decide (y < x) = true := decide_eq_true hyx
        go_wp2
        go_round
        case rel => exact ⟨k + 1, by omega, by go_num, HBF2.out⟩
        case measure => simp [intOf]; omega
      · have HAT : Hid (∀ hj : k < q.length, ¬ q[k] < x) := fun hj => by rw [← HYY.out]; exact hyx
        have d : decide (y < x) = false := decide_eq_false hyx
        have d2 : (y == x) = false := by simpa using (fun e => HNE.out (HYY.out ▸ e))
        have HKE : Hid ([] ++ q.take k ++ [x] ++ q.drop k = insA q x) := by show _ = _; rw [List.nil_append]; exact insA_at HUP.out HX.out hk HBF.out HAT.out
        have NK : Hid (k = (q.take k).length) := by show _ = _; rw [List.length_take]; omega
        have LA := Lib.hid ((HQ.out.take k).alloc (Obj.cells #[] 3))
        have OE := Lib.hid (own_empty intS w 3)
        have LE1 : Hid (([] : List Int).length + (q.take k).length ≤ 1048576) := by show _ ≤ _; simp only [List.length_take, List.length_nil]; omega
        have LE2 : Hid (([] ++ q.take k).length + [x].length ≤ 1048576) := by show _ ≤ _; simp only [List.length_append, List.length_take, List.length_nil, List.length_cons]; omega
        have LE3 : Hid (([] ++ q.take k ++ [x]).length + (q.drop k).length ≤ 1048576) := by show _ ≤ _; simp only [List.length_append, List.length_take, List.length_nil, List.length_cons, List.length_drop]; omega
        go_wp2_with (first
          | (at_builtin; refine wpList_append_slsv intS _ rfl _ _ 47 rfl w.heap.size 3 i0 _ 8 Try.underlying47 hi hz0 hz1 hz2 rfl (by decide) _ ([] ++ q.take k ++ [x]) rfl HO6.out _ _ _ (q.drop k) rfl (by rw [List.length_drop]) (by first | exact HQ6.out.drop k | simpa [intS] using HQ6.out.drop k) LE3.out HB6.out.size ?_; intro A7 n7 k7 w7 hn7 ho7 hb7; have HN7 := Lib.hid hn7; have HO7 := Lib.hid ho7; have HB7 := Lib.hid (HB6.out.trans hb7); clear hn7 ho7 hb7)
          | (at_builtin; refine wpList_append_slsv intS _ rfl _ _ 47 rfl w.heap.size 3 i0 _ 8 Try.underlying47 hi hz0 hz1 hz2 rfl (by decide) _ ([] ++ q.take k) rfl (HO5.out.alloc' _) _ 1 1 [x] rfl rfl (slAt_oneK (heap_new rfl)) LE2.out (HB5.out.alloc HB5.out.size _).size ?_; intro A6 n6 k6 w6 hn6 ho6 hb6; have HO6 := Lib.hid ho6; have HB6 := Lib.hid ((HB5.out.alloc HB5.out.size _).trans hb6); have HQ6 := Lib.hid (HQ.out.below HB6.out); clear hn6 ho6 hb6)
          | (at_builtin; refine wpList_append_slsv intS _ rfl _ _ 47 rfl w.heap.size 3 i0 _ 8 Try.underlying47 hi hz0 hz1 hz2 rfl (by decide) _ [] rfl OE.out _ _ _ (q.take k) rfl NK.out LA.out LE1.out (by simp) ?_; intro A5 n5 k5 w5 hn5 ho5 hb5; have HO5 := Lib.hid ho5; have HB5 := Lib.hid (((Below.refl _ w).alloc (Nat.le_refl _) _).trans hb5); clear hn5 ho5 hb5))
        go_ret
        refine ⟨A7, n7, k7, rfl, by rw [HN7.out, HKE.out], ?_, HB7.out⟩
        have := HO7.out
        rw [HKE.out] at this
        exact this
    · have hke : k = q.length := by omega
      subst hke
      have HAT : Hid (∀ hj : q.length < q.length, ¬ q[q.length] < x) := fun hj => absurd hj (Nat.lt_irrefl _)
      have HKE : Hid ([] ++ q.take q.length ++ [x] ++ q.drop q.length = insA q x) := by show _ = _; rw [List.nil_append]; exact insA_at HUP.out HX.out hk HBF.out HAT.out
      have NK : Hid (q.length = (q.take q.length).length) := by show _ = _; rw [List.length_take]; omega
      have LA := Lib.hid ((HQ.out.take q.length).alloc (Obj.cells #[] 3))
      have OE := Lib.hid (own_empty intS w 3)
      have LE1 : Hid (([] : List Int).length + (q.take q.length).length ≤ 1048576) := by show _ ≤ _; simp only [List.length_take, List.length_nil]; omega
      have LE2 : Hid (([] ++ q.take q.length).length + [x].length ≤ 1048576) := by show _ ≤ _; simp only [List.length_append, List.length_take, List.length_nil, List.length_cons]; omega
      have LE3 : Hid (([] ++ q.take q.length ++ [x]).length + (q.drop q.length).length ≤ 1048576) := by show _ ≤ _; simp only [List.length_append, List.length_take, List.length_nil, List.length_cons, List.length_drop]; omega
      go_wp2_with (first
        | (at_builtin; refine wpList_append_slsv intS _ rfl _ _ 47 rfl w.heap.size 3 i0 _ 8 Try.underlying47 hi hz0 hz1 hz2 rfl (by decide) _ ([] ++ q.take q.length ++ [x]) rfl HO6.out _ _ _ (q.drop q.length) rfl (by simp) (.inl List.drop_length) LE3.out HB6.out.size ?_; intro A7 n7 k7 w7 hn7 ho7 hb7; have HN7 := Lib.hid hn7; have HO7 := Lib.hid ho7; have HB7 := Lib.hid (HB6.out.trans hb7); clear hn7 ho7 hb7)
        | (at_builtin; refine wpList_append_slsv intS _ rfl _ _ 47 rfl w.heap.size 3 i0 _ 8 Try.underlying47 hi hz0 hz1 hz2 rfl (by decide) _ ([] ++ q.take q.length) rfl (HO5.out.alloc' _) _ 1 1 [x] rfl rfl (slAt_oneK (heap_new rfl)) LE2.out (HB5.out.alloc HB5.out.size _).size ?_; intro A6 n6 k6 w6 hn6 ho6 hb6; have HO6 := Lib.hid ho6; have HB6 := Lib.hid ((HB5.out.alloc HB5.out.size _).trans hb6); have HQ6 := Lib.hid (HQ.out.below HB6.out); clear hn6 ho6 hb6)
        | (at_builtin; refine wpList_append_slsv intS _ rfl _ _ 47 rfl w.heap.size 3 i0 _ 8 Try.underlying47 hi hz0 hz1 hz2 rfl (by decide) _ [] rfl OE.out _ _ _ (q.take q.length) rfl NK.out LA.out LE1.out (by simp) ?_; intro A5 n5 k5 w5 hn5 ho5 hb5; have HO5 := Lib.hid ho5; have HB5 := Lib.hid (((Below.refl _ w).alloc (Nat.le_refl _) _).trans hb5); clear hn5 ho5 hb5))
      all_goals (
        go_ret
        refine ⟨A7, n7, k7, rfl, by rw [HN7.out, HKE.out], ?_, HB7.out⟩
        have := HO7.out
        rw [HKE.out] at this
        exact this)

set_option maxRecDepth 100000 in
set_option maxHeartbeats 2000000 in
theorem specPlaces_any (L : Int) (A : Option Addr) (c : Nat) (l : List (Int × Int)) (w : World) (hcap : l.length ≤ c) (hA : AntsAt w A l) :
    Calls Try.prog 48 #[.agg #[.int .i64 L, .slice A l.length c]] w fun e w' => ∃ A' n c', e = .returned (.tuple #[.slice A' n c', .bool (goodB L l)]) ∧ n = (pmV L l).length ∧ SlOwn intS w' w.heap.size 3 (.slice A' n c') (pmV L l) ∧ Below w.heap.size w w' := by
  have HA := Lib.hid (hA.alloc (Obj.cells #[Value.int IntKind.i64 L, Value.slice A l.length c] 31))
  clear hA
  cases hg : goodB L l with
  | false =>
    have HV : Hid (pmV L l = []) := by show _ = _; unfold pmV; rw [meV_bad hg]; exact List.eq_nil_of_length_eq_zero (by have := compact_len (srtI (plOf [])); rw [srtI_len] at this; simpa [plOf] using this)
    have HG : Hid (∀ w, AntsAt w A l → Calls Try.prog 51 #[.agg #[.int .i64 L, .slice A l.length c]] w fun e w' => e = .returned (.bool false) ∧ Below w.heap.size w w') := fun w h => by
      rw [← hg]; exact roGood_any L A c l w h
    clear hg
    go_enter Try.func48, Try.ntmps48
    go_wp2_with fail
    refine (HG.out _ HA.out).mono ?_
    rintro e w1 ⟨rfl, hb⟩
    go_wp2
    go_ret2
    exact ⟨none, 0, 0, rfl, by rw [HV.out]; rfl, by rw [HV.out]; exact SlOwn.nil _ _ _ _, ((Below.refl _ _).alloc (Nat.le_refl _) _).trans (hb.mono (by simp))⟩
  | true =>
    have HV : Hid (pmV L l = puL (plOf (meL L l)) (meL L l).length) := by show _ = _; unfold pmV; rw [meV_good hg, ← puL_compact, plOf_len]
    have HG : Hid (∀ w, AntsAt w A l → Calls Try.prog 51 #[.agg #[.int .i64 L, .slice A l.length c]] w fun e w' => e = .returned (.bool true) ∧ Below w.heap.size w w') := fun w h => by
      rw [← hg]; exact roGood_any L A c l w h
    have HM := Lib.hid (fun w h => meAll_good L A c l w hg hcap h)
    have hml := meL_len hg
    clear hg
    generalize meL L l = m at *
    go_enter Try.func48, Try.ntmps48
    go_wp2_with fail
    refine (HG.out _ HA.out).mono ?_
    rintro e w1 ⟨rfl, hb⟩
    have c0 : w1.cell? ⟨w.heap.size, 0, none⟩ = some (.int .i64 L) := by rw [hb.cell (p := ⟨w.heap.size, 0, none⟩) (by simp)]; simp
    have c1 : w1.cell? ⟨w.heap.size, 1, none⟩ = some (.slice A l.length c) := by rw [hb.cell (p := ⟨w.heap.size, 1, none⟩) (by simp)]; simp
    have HB := Lib.hid (((Below.refl _ w).alloc (Nat.le_refl _) _).trans (hb.mono (by simp)))
    have HA1 := Lib.hid (HA.out.below hb)
    clear hb
    go_wp2_with fail
    refine (HM.out _ HA1.out).mono ?_
    rintro e w3 ⟨A3, n3, c3, rfl, hn3, ho3, hb3⟩
    subst hn3
    have HB3 := Lib.hid (HB.out.trans (hb3.mono HB.out.size))
    have HO := Lib.hid ho3.sl
    clear hb3 ho3
    go_wp2
    go_loopw [4, 13] (fun v i wr => ∃ (k : Nat) (A5 : Option Addr) (n5 c5 : Nat), k ≤ m.length ∧ i = .int .i64 k ∧ v = .slice A5 n5 c5 ∧ Below w3.heap.size w3 wr ∧ SlOwn intS wr w3.heap.size 3 (.slice A5 n5 c5) (puL (plOf m) k))
      (fun _ i _ => m.length - (intOf i).toNat)
    case atStart => exact ⟨0, none, 0, 0, Nat.zero_le _, rfl, rfl, Below.refl _ _, SlOwn.nil intS _ _ _⟩
    case round =>
      obtain ⟨k, A5, n5, c5, hk, rfl, rfl, hbr, hown⟩ := hrel
      have HBr := Lib.hid hbr
      have hsr := hbr.size
      have HOr := Lib.hid (HO.out.below hbr)
      have HL := Lib.hid hown
      clear hbr hown
      by_cases hlt : k < m.length
      · obtain ⟨b, off, rfl, l0, hc⟩ := HOr.out.trip_at hlt
        have hx : m[k]? = some (m[k]'hlt) := List.getElem?_eq_getElem hlt
        obtain ⟨a0, a1, a2⟩ := hc k _ hx
        have HS : Hid (puL (plOf m) (k + 1) = if (m[k]'hlt).2.1 ∈ puL (plOf m) k then puL (plOf m) k else insA (puL (plOf m) k) (m[k]'hlt).2.1) := by
          show _ = _
          have e : (plOf m).getD k 0 = (m[k]'hlt).2.1 := by rw [getD_lt (by rw [plOf_len]; exact hlt)]; simp [plOf]
          rw [← e]; rfl
        have hup := (puL_ok (plOf m) k (by rw [plOf_len]; omega)).1
        have hpl := puL_len (plOf m) k
        clear hc hx
        generalize m[k]'hlt = x at *
        obtain ⟨x1, x2, x3⟩ := x
        simp only at a0 a1 a2 HS
        generalize puL (plOf m) k = s at *
        have hn5 := own_len HL.out
        subst hn5
        have HUP := Lib.hid hup
        have hb5 : Below wr.heap.size wr (wr.alloc (Obj.cells #[.int .i64 x1, .int .i64 x2, .int .i64 x3] 42)) := (Below.refl _ _).alloc (Nat.le_refl _) _
        have HB5 := Lib.hid (HBr.out.trans (hb5.mono hsr))
        have HL5 := Lib.hid (HL.out.below hb5)
        clear hup hb5
        by_cases hin : x2 ∈ s
        · have HE : Hid (puL (plOf m) (k + 1) = s) := by show _ = _; rw [HS.out, if_pos hin]
          have HC := Lib.hid (fun w h => has_any A5 c5 s x2 true (decide_eq_true hin) w (by omega) h)
          clear hin
          go_wp2_with fail
          refine (HC.out _ HL5.out.sl).mono ?_
          rintro e w' ⟨rfl, rfl⟩
          go_wp2
          go_roundw
          case rel => exact ⟨k + 1, A5, s.length, c5, by omega, by go_num, rfl, HB5.out, by rw [HE.out]; exact HL5.out⟩
          case measure => simp [intOf]; omega
        · have HE : Hid (puL (plOf m) (k + 1) = insA s x2) := by show _ = _; rw [HS.out, if_neg hin]
          have HC := Lib.hid (fun w h => has_any A5 c5 s x2 false (decide_eq_false hin) w (by omega) h)
          have HP := Lib.hid (fun B w h => put_any B A5 c5 s x2 w HUP.out hin (by omega) h)
          clear hin
          go_wp2_with fail
          refine (HC.out _ HL5.out.sl).mono ?_
          rintro e w' ⟨rfl, rfl⟩
          go_wp2_with fail
          refine (HP.out _ _ HL5.out).mono ?_
          rintro e w7 ⟨A7, n7, k7, rfl, hn7, ho7, hb7⟩
          have HO7 := Lib.hid (ho7.base HB5.out.size)
          have HB7 := Lib.hid (HB5.out.trans (hb7.mono HB5.out.size))
          clear ho7 hb7 hn7
          go_wp2
          go_roundw
          case rel => exact ⟨k + 1, A7, n7, k7, by omega, by go_num, rfl, HB7.out, by rw [HE.out]; exact HO7.out⟩
          case measure => simp [intOf]; omega
      · obtain rfl : k = m.length := by omega
        have hn5 := Lib.hid (own_len HL.out)
        go_wp2
        go_ret2
        refine ⟨A5, n5, c5, rfl, by rw [HV.out, hn5.out], ?_, HB3.out.trans (HBr.out.mono HB3.out.size)⟩
        rw [HV.out]
        exact HL.out.base HB3.out.size

set_option maxRecDepth 100000 in
set_option maxHeartbeats 2000000 in
theorem implPlaces_any (L : Int) (A : Option Addr) (c : Nat) (l : List (Int × Int)) (w : World) (hA : AntsAt w A l) :
    Calls Try.prog 49 #[.agg #[.int .i64 L, .slice A l.length c]] w fun e w' => ∃ A' n c', e = .returned (.tuple #[.slice A' n c', .bool (goodB L l)]) ∧ n = (pmV L l).length ∧ SlOwn intS w' w.heap.size 3 (.slice A' n c') (pmV L l) ∧ RowKit.Below w.heap.size w w' := by
  obtain ⟨i0, hi, hz0, hz1, hz2⟩ := info_parts intInfo
  have HA := Lib.hid (hA.alloc (Obj.cells #[Value.int IntKind.i64 L, Value.slice A l.length c] 31))
  clear hA
  have HM := Lib.hid (fun w h => implMeetingsOf_any L A c l w h)
  have hml := meV_len L l
  have HV : Hid (pmV L l = compact (srtI (plOf (meV L l)))) := rfl
  generalize meV L l = m at *
  generalize goodB L l = g at *
  go_enter Try.func49, Try.ntmps49
  go_wp2_with fail
  refine (HM.out _ HA.out).mono ?_
  rintro e w3 ⟨A1, n1, c1, rfl, hn1, ho1, hb⟩
  subst hn1
  have HB3 := Lib.hid (((Below.refl _ w).alloc (Nat.le_refl _) _).trans (hb.mono (by simp)))
  have HO := Lib.hid ho1.sl
  clear hb ho1
  go_wp2
  go_loopw [6, 16] (fun v i wr => ∃ (k : Nat) (A5 : Option Addr) (n5 c5 : Nat), k ≤ m.length ∧ i = .int .i64 k ∧ v = .slice A5 n5 c5 ∧ RowKit.Below w3.heap.size w3 wr ∧ SlOwn intS wr w3.heap.size 3 (.slice A5 n5 c5) (plOf (m.take k)))
    (fun _ i _ => m.length - (intOf i).toNat)
  case atStart => exact ⟨0, none, 0, 0, Nat.zero_le _, rfl, rfl, Below.refl _ _, SlOwn.nil intS _ _ _⟩
  case round =>
    obtain ⟨k, A5, n5, c5, hk, rfl, rfl, hbr, hown⟩ := hrel
    have HBr := Lib.hid hbr
    have hsr := hbr.size
    have HOr := Lib.hid (HO.out.below hbr)
    have HL := Lib.hid hown
    clear hbr hown
    by_cases hlt : k < m.length
    · obtain ⟨b, off, rfl, l0, hc⟩ := HOr.out.trip_at hlt
      have hx : m[k]? = some (m[k]'hlt) := List.getElem?_eq_getElem hlt
      obtain ⟨a0, a1, a2⟩ := hc k _ hx
      have HS := Lib.hid (plOf_snoc m k _ hx)
      have HPL : Hid ((plOf (m.take k)).length ≤ 256) := by show _ ≤ _; rw [plOf_len, List.length_take]; omega
      clear hc hx
      generalize m[k]'hlt = x at *
      obtain ⟨x1, x2, x3⟩ := x
      simp only at a0 a1 a2 HS
      generalize plOf (m.take k) = s at *
      have hn5 := own_len HL.out
      subst hn5
      have hb5 : RowKit.Below wr.heap.size wr (wr.alloc (Obj.cells #[.int .i64 x1, .int .i64 x2, .int .i64 x3] 42)) := (Below.refl _ _).alloc (Nat.le_refl _) _
      have HB5 := Lib.hid (HBr.out.trans (hb5.mono hsr))
      have HL5 := Lib.hid (HL.out.below hb5)
      clear hb5
      go_wp2_with (at_builtin; refine wpList_append_slsv intS _ rfl _ _ 47 rfl w3.heap.size 3 i0 _ 8 Try.underlying47 hi hz0 hz1 hz2 rfl (by decide) _ s rfl (HL5.out.alloc' _) _ 1 1 [x2] rfl rfl (slAt_oneK (heap_new (by simp))) (by have := HPL.out; simp only [List.length_cons, List.length_nil]; omega) (by simp; omega) ?_; intro A7 n7 k7 w7 hn7 ho7 hb7; have HO7 := Lib.hid ho7; have HB7 := Lib.hid ((HB5.out.alloc HB5.out.size _).trans hb7); clear hn7 ho7 hb7)
      go_roundw
      case rel => exact ⟨k + 1, A7, n7, k7, by omega, by go_num, rfl, HB7.out, by rw [HS.out]; exact HO7.out⟩
      case measure => simp [intOf]; omega
    · obtain rfl : k = m.length := by omega
      have HE : Hid (m.take m.length = m) := List.take_length
      have HPL : Hid ((plOf m).length ≤ 256) := by show _ ≤ _; rw [plOf_len]; omega
      have HSL : Hid ((srtI (plOf m)).length ≤ 256) := by show _ ≤ _; rw [srtI_len]; exact HPL.out
      have HL2 : Hid (SlOwn intS wr w3.heap.size 3 (.slice A5 n5 c5) (plOf m)) := by
        have := HL.out
        rw [HE.out] at this
        exact this
      have HSO := Lib.hid (sortI_any (by have := HPL.out; omega) HL2.out)
      have HCO := Lib.hid (fun w (h : SlOwn intS w w3.heap.size 3 (.slice A5 n5 c5) (srtI (plOf m))) => compact_any (by have := HSL.out; omega) h)
      go_wp2_with fail
      refine HSO.out.mono ?_
      rintro e w8 ⟨rfl, ho8, hb8⟩
      have HO8 : Hid (SlOwn intS w8 w3.heap.size 3 (.slice A5 n5 c5) (srtI (plOf m))) := ho8
      have HB8 := Lib.hid (HBr.out.trans hb8)
      clear ho8 hb8
      go_wp2_with fail
      refine (HCO.out _ HO8.out).mono ?_
      rintro e w9 ⟨A9, n9, c9, rfl, hn9, ho9, hb9⟩
      have HN9 := Lib.hid hn9
      have HO9 := Lib.hid ho9
      have HB9 := Lib.hid (HB8.out.trans hb9)
      clear ho9 hb9 hn9
      go_wp2
      go_ret2
      refine ⟨A9, n9, c9, rfl, by rw [HV.out, HN9.out], ?_, HB3.out.trans (HB9.out.mono HB3.out.size)⟩
      rw [HV.out]
      exact HO9.out.base HB3.out.size
end Go.Proofs.Ytdgcdlcfddjmiaa
