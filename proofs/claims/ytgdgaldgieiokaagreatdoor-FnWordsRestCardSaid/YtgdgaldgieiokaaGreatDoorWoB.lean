/- Words, the model's functions that list numbers: woFacing, woNumbers, woSum, woSteps. -/
import Derived.Test.YtgdgaldgieiokaaGreatDoorWoA
import Derived.Test.YtgdgaldgieiokaaGreatDoorStepR
namespace Go.Proofs.YtgdgaldgieiokaaGreatDoor
open Go.RowKit

theorem SlOwn.allocW {α : Type} {S : Shape α} {w : World} {B : Nat} {e : TypeId} {v : Value} {l : List α} (h : SlOwn S w B e v l) (o : Obj) : SlOwn S (w.alloc o) B e v l := h.below ((Below.refl _ _).alloc (Nat.le_refl _) _)
theorem slAt_oneW {w : World} {g : Nat} {x : Int} {e : TypeId} {m : Nat × Nat} (h : w.heap[g]? = some (.cells #[.int .i64 x] e m)) : SlAt intS w (some ⟨g, 0, none⟩) [x] := by
  refine .inr ⟨g, 0, rfl, (Array.getElem?_eq_some_iff.1 h).1, fun k z hk j hj => ?_⟩
  cases k with
  | succ k => simp at hk
  | zero =>
    simp only [List.getElem?_cons_zero, Option.some.injEq] at hk
    subst hk
    simp only [Nat.zero_mul, Nat.zero_add]
    rw [cell_of_row w g j _ _ _ h, ← Array.getElem?_toList]
    rfl
theorem own_baseW {α : Type} {S : Shape α} {w : World} {B B' : Nat} {e : TypeId} {v : Value} {l : List α} (h : SlOwn S w B e v l) (hB : B' ≤ B) : SlOwn S w B' e v l := ownsRow_base h hB
theorem intInfoW : (Tryz.prog.info? 3).map (fun i => (i.zero, i.size, i.bytes)) = some (some (.int .i64 0), 1, 8) := by kernel_rfl

/-- natural numbers as integers -/
def natI (l : List Nat) : List Int := l.map fun (n : Nat) => (n : Int)
theorem natI_len (l : List Nat) : (natI l).length = l.length := List.length_map ..
theorem natI_snoc (l : List Nat) (n : Nat) : natI (l ++ [n]) = natI l ++ [(n : Int)] := List.map_append

set_option maxHeartbeats 2000000 in
set_option maxRecDepth 100000 in
theorem woFacing_any (l : List UInt8) (hl : l.length ≤ 524288) (w : World) :
    Calls Tryz.prog 40 #[.string (mkB l)] w fun e w' => ∃ A n c, e = .returned (.slice A n c) ∧ n = (facP l l.length).length ∧ SlOwn intS w' w.heap.size 3 (.slice A n c) (natI (facP l l.length)) ∧ Below w.heap.size w w' := by
  have hb := get_mk l
  have hz : (mkB l).size = l.length := rfl
  obtain ⟨i0, hi, hz0, hz1, hz2⟩ := info_parts intInfoW
  go_enter Tryz.func40, Tryz.ntmps40
  go_wp2
  go_loopw [3, 4] (fun v i wr => ∃ (k n : Nat) (A : Option Addr) (c : Nat), k ≤ l.length ∧ i = .int .i64 k ∧ n = (facP l k).length ∧ v = .slice A n c ∧ SlOwn intS wr w.heap.size 3 (.slice A n c) (natI (facP l k)) ∧ Below w.heap.size w wr)
    (fun _ i _ => l.length - (intOf i).toNat)
  case atStart => exact ⟨0, 0, none, 0, Nat.zero_le _, rfl, rfl, rfl, SlOwn.nil intS _ _ _, Below.refl _ _⟩
  case round =>
    obtain ⟨k, n, A, c, hk, rfl, hn, rfl, hown, hbw⟩ := hrel
    have HO := Lib.hid hown
    have HB := Lib.hid hbw
    have HN := Lib.hid hn
    have hlen := facP_len_le l k
    have hsz := hbw.size
    rw [← hn] at hlen
    clear hown hbw hn
    by_cases hlt : k + 1 < l.length
    · obtain ⟨x, hx⟩ : ∃ x, l[k]? = some x := ⟨_, List.getElem?_eq_getElem (by omega)⟩
      obtain ⟨y, hy⟩ : ∃ y, l[k + 1]? = some y := ⟨_, List.getElem?_eq_getElem (by omega)⟩
      have e1 := btL_eq l k 114 (by omega)
      have e2 := btL_eq l (k + 1) 108 hlt
      rw [hx] at e1
      rw [hy] at e2
      simp only [Option.some.injEq] at e1 e2
      have hfa : faceAt l k = (decide (x = 114) && decide (y = 108)) := by unfold faceAt; rw [hx, hy]; simp
      have hsu := facP_succ l k
      rw [hfa] at hsu
      clear hx hy hfa
      by_cases h3 : x = 114
      · have hb1 : btL l k = 114 := e1.2 h3
        by_cases h4 : y = 108
        · have hb2 : btL l (k + 1) = 108 := e2.2 h4
          have HS : Hid (facP l (k + 1) = facP l k ++ [k]) := Lib.hid (by rw [hsu, h3, h4]; rfl)
          clear e1 e2 hsu h3 h4
          go_wp2_with (at_builtin; go_must (refine wpList_append_slsv intS _ rfl _ _ 29 rfl w.heap.size 3 i0 _ 8 Tryz.underlying29 hi hz0 hz1 hz2 rfl (by decide) (.slice A n c) (natI (facP l k)) rfl (HO.out.allocW _) _ 1 1 [(k : Int)] rfl rfl (slAt_oneW (heap_new rfl)) (by rw [natI_len, ← HN.out, List.length_singleton]; omega) (by simp; omega) ?_); intro A8 n8 c8 w8 hn8 ho8 hb8; obtain rfl : n8 = n + 1 := (by rw [hn8, List.length_append, natI_len, ← HN.out]; rfl); have HO8 := Lib.hid ho8; have HB8 : Hid (Below w.heap.size wr w8) := Lib.hid (((Below.refl w.heap.size wr).alloc (by omega) _).trans hb8); clear hn8 ho8 hb8)
          go_roundw
          case rel => exact ⟨k + 1, n + 1, A8, c8, by omega, by go_num, by rw [HS.out, List.length_append, ← HN.out]; rfl, rfl, by rw [HS.out, natI_snoc]; exact HO8.out, HB.out.trans HB8.out⟩
          case measure => simp [intOf]; omega
        · have hb2 : ¬ btL l (k + 1) = 108 := fun e => h4 (e2.1 e)
          have HS : Hid (facP l (k + 1) = facP l k) := Lib.hid (by rw [hsu, decide_eq_false h4, Bool.and_false]; simp)
          clear e1 e2 hsu h3 h4
          go_wp2
          go_roundw
          case rel => exact ⟨k + 1, n, A, c, by omega, by go_num, by rw [HS.out, ← HN.out], rfl, by rw [HS.out]; exact HO.out, HB.out⟩
          case measure => simp [intOf]; omega
      · have hb1 : ¬ btL l k = 114 := fun e => h3 (e1.1 e)
        have HS : Hid (facP l (k + 1) = facP l k) := Lib.hid (by rw [hsu, decide_eq_false h3, Bool.false_and]; simp)
        clear e1 e2 hsu h3
        go_wp2
        go_roundw
        case rel => exact ⟨k + 1, n, A, c, by omega, by go_num, by rw [HS.out, ← HN.out], rfl, by rw [HS.out]; exact HO.out, HB.out⟩
        case measure => simp [intOf]; omega
    · have HS : Hid (facP l k = facP l l.length) := Lib.hid (by
        by_cases hke : k = l.length
        · rw [hke]
        · obtain ⟨m, hm⟩ : ∃ m, l.length = m := ⟨_, rfl⟩
          rw [hm] at hlt hk hke ⊢
          rw [show m = k + 1 by omega, facP_end l k (by omega)])
      rw [HS.out] at HO HN
      go_wp2
      go_ret
      exact ⟨A, n, c, rfl, HN.out, HO.out, HB.out⟩

set_option maxHeartbeats 2000000 in
set_option maxRecDepth 100000 in
theorem woNumbers_any (l : List UInt8) (hl : l.length ≤ 524288) (w : World) :
    Calls Tryz.prog 43 #[.string (mkB l)] w fun e w' => ∃ A n c, e = .returned (.slice A n c) ∧ n = (num 0 l).length ∧ SlOwn intS w' w.heap.size 3 (.slice A n c) (natI (num 0 l)) ∧ Below w.heap.size w w' := by
  have hb := get_mk l
  have hz : (mkB l).size = l.length := rfl
  obtain ⟨i0, hi, hz0, hz1, hz2⟩ := info_parts intInfoW
  go_enter Tryz.func43, Tryz.ntmps43
  go_wp2
  go_loopw [3, 4, 5] (fun v r i wr => ∃ (k n q : Nat) (A : Option Addr) (c : Nat), k ≤ l.length ∧ i = .int .i64 k ∧ n = (num 0 (l.take k)).length ∧ q = (l.take k).count 114 ∧ n ≤ k ∧ r = .int .i64 q ∧ v = .slice A n c ∧ SlOwn intS wr w.heap.size 3 (.slice A n c) (natI (num 0 (l.take k))) ∧ Below w.heap.size w wr)
    (fun _ _ i _ => l.length - (intOf i).toNat)
  case atStart => exact ⟨0, 0, 0, none, 0, Nat.zero_le _, rfl, rfl, rfl, Nat.le_refl _, rfl, rfl, SlOwn.nil intS _ _ _, Below.refl _ _⟩
  case round =>
    obtain ⟨k, n, q, A, c, hk, rfl, hn, hq, hnk, rfl, rfl, hown, hbw⟩ := hrel
    have HO := Lib.hid hown
    have HB := Lib.hid hbw
    have HN := Lib.hid hn
    have HQ := Lib.hid hq
    have hqk : q ≤ k := by rw [hq]; have := List.count_le_length (a := (114 : UInt8)) (l := l.take k); rw [List.length_take] at this; omega
    have hsz := hbw.size
    clear hown hbw hn hq
    by_cases hlt : k < l.length
    · obtain ⟨x, hx⟩ : ∃ x, l[k]? = some x := ⟨_, List.getElem?_eq_getElem (by omega)⟩
      have e1 := btL_eq l k 114 (by omega)
      rw [hx] at e1
      simp only [Option.some.injEq] at e1
      have hts := take_snoc l hx
      have hnu := num_snoc (l.take k) x 0
      rw [← hts, ← HQ.out] at hnu
      have hqu : (l.take (k + 1)).count 114 = q + [x].count 114 := by rw [hts, List.count_append, ← HQ.out]
      clear hx
      by_cases h3 : x = 114
      · have hb1 : btL l k = 114 := e1.2 h3
        have HS : Hid (num 0 (l.take (k + 1)) = num 0 (l.take k)) := Lib.hid (by rw [hnu, if_pos h3]; simp)
        have HQ2 : Hid ((l.take (k + 1)).count 114 = q + 1) := Lib.hid (by rw [hqu, h3]; rfl)
        clear e1 hts hnu hqu h3
        go_wp2
        go_roundw
        case rel => exact ⟨k + 1, n, q + 1, A, c, by omega, by go_num, by rw [HS.out, ← HN.out], HQ2.out.symm, by omega, by go_num, rfl, by rw [HS.out]; exact HO.out, HB.out⟩
        case measure => simp [intOf]; omega
      · have hb1 : ¬ btL l k = 114 := fun e => h3 (e1.1 e)
        have HS : Hid (num 0 (l.take (k + 1)) = num 0 (l.take k) ++ [q]) := Lib.hid (by rw [hnu, if_neg h3, Nat.zero_add])
        have HQ2 : Hid ((l.take (k + 1)).count 114 = q) := Lib.hid (by rw [hqu, List.count_cons_of_ne h3]; rfl)
        clear e1 hts hnu hqu h3
        go_wp2_with (at_builtin; go_must (refine wpList_append_slsv intS _ rfl _ _ 29 rfl w.heap.size 3 i0 _ 8 Tryz.underlying29 hi hz0 hz1 hz2 rfl (by decide) (.slice A n c) (natI (num 0 (l.take k))) rfl (HO.out.allocW _) _ 1 1 [(q : Int)] rfl rfl (slAt_oneW (heap_new rfl)) (by rw [natI_len, ← HN.out, List.length_singleton]; omega) (by simp; omega) ?_); intro A8 n8 c8 w8 hn8 ho8 hb8; obtain rfl : n8 = n + 1 := (by rw [hn8, List.length_append, natI_len, ← HN.out]; rfl); have HO8 := Lib.hid ho8; have HB8 : Hid (Below w.heap.size wr w8) := Lib.hid (((Below.refl w.heap.size wr).alloc (by omega) _).trans hb8); clear hn8 ho8 hb8)
        go_roundw
        case rel => exact ⟨k + 1, n + 1, q, A8, c8, by omega, by go_num, by rw [HS.out, List.length_append, ← HN.out]; rfl, HQ2.out.symm, by omega, rfl, rfl, by rw [HS.out, natI_snoc]; exact HO8.out, HB.out.trans HB8.out⟩
        case measure => simp [intOf]; omega
    · have HT : Hid (l.take k = l) := Lib.hid (List.take_of_length_le (by omega))
      rw [HT.out] at HO HN
      go_wp2
      go_ret
      exact ⟨A, n, c, rfl, HN.out, HO.out, HB.out⟩

theorem natI_at {l : List Nat} {k : Nat} {x : Nat} (h : l[k]? = some x) : (natI l)[k]? = some (x : Int) := by unfold natI; rw [List.getElem?_map, h]; rfl
theorem sum_take {l : List Nat} {k : Nat} {x : Nat} (h : l[k]? = some x) : (l.take (k + 1)).sum = (l.take k).sum + x := by rw [List.take_add_one, h]; simp
theorem sum_take_le (l : List Nat) (b : Nat) (h : ∀ x ∈ l, x ≤ b) (k : Nat) : (l.take k).sum ≤ l.length * b := by
  induction l generalizing k with
  | nil => simp
  | cons x l ih =>
    cases k with
    | zero => simp
    | succ k =>
      have := ih (fun y hy => h y (List.mem_cons_of_mem _ hy)) k
      have := h x List.mem_cons_self
      rw [List.take_succ_cons, List.sum_cons, List.length_cons, Nat.succ_mul]
      omega
set_option maxHeartbeats 2000000 in
set_option maxRecDepth 100000 in
theorem woSum_any (A : Option Addr) (c : Nat) (l : List Nat) (hl : l.length ≤ 524288) (hx : ∀ x ∈ l, x ≤ 524288) (w : World) (hA : SlAt intS w A (natI l)) :
    Calls Tryz.prog 42 #[.slice A l.length c] w fun e w' => e = .returned (.int .i64 (l.sum : Nat)) ∧ w' = w := by
  have HA := Lib.hid hA
  have hsl := sum_take_le l 524288 hx
  have hbig : l.length * 524288 ≤ 524288 * 524288 := Nat.mul_le_mul_right _ hl
  clear hA
  go_enter Tryz.func42, Tryz.ntmps42
  go_wp2
  go_loopw [3, 8] (fun s i wr => ∃ k : Nat, k ≤ l.length ∧ i = .int .i64 k ∧ s = .int .i64 ((l.take k).sum : Nat) ∧ wr = w)
    (fun _ i _ => l.length - (intOf i).toNat)
  case atStart => exact ⟨0, Nat.zero_le _, rfl, rfl, rfl⟩
  case round =>
    obtain ⟨k, hk, rfl, rfl, rfl⟩ := hrel
    have hsk := hsl k
    by_cases hlt : k < l.length
    · obtain ⟨x, hxk⟩ : ∃ x, l[k]? = some x := ⟨_, List.getElem?_eq_getElem (by omega)⟩
      have hxb := hx x (List.mem_of_getElem? hxk)
      obtain ⟨b, off, hAe, hlt2, hc⟩ := HA.out.int_at (k := k) (by rw [natI_len]; exact hlt)
      subst hAe
      have a0 := hc k _ (natI_at hxk)
      have HT := Lib.hid (sum_take hxk)
      clear hxk hc
      generalize (l.take k).sum = s at *
      go_wp2
      go_roundw
      case rel => exact ⟨k + 1, by omega, by go_num, by rw [HT.out]; go_num, trivial⟩
      case measure => simp [intOf]; omega
    · have hke : Hid (k = l.length) := Lib.hid (by omega)
      go_wp2
      go_ret
      exact ⟨ret_int (by rw [hke.out, List.take_length]), rfl⟩

/-- how far the steps have come: what is told, and what is left -/
theorem met_left {l p : List UInt8} {m : List Nat} (h : metL l = m ++ metL p) (hf : fcR p ≠ 0) : metL l = m ++ [fcR p] ++ metL (stp p) := by rw [h, metL_step hf]; simp
theorem metL_len (l : List UInt8) (h : l.length ≤ 14) : (metL l).length ≤ 196 := by
  have h1 := metF_len (plc 0 l + 1) l
  have h2 := plc_le l 0
  have h3 : l.length * (0 + l.length) ≤ 14 * 14 := Nat.mul_le_mul h (by omega)
  unfold metL
  omega
set_option maxHeartbeats 4000000 in
set_option maxRecDepth 100000 in
theorem woSteps_any (l : List UInt8) (hl : l.length ≤ 14) (w : World) :
    Calls Tryz.prog 34 #[.string (mkB l)] w fun e w' => ∃ A n c, e = .returned (.slice A n c) ∧ n = (metL l).length ∧ SlOwn intS w' w.heap.size 3 (.slice A n c) (natI (metL l)) ∧ Below w.heap.size w w' := by
  have HML := metL_len l hl
  obtain ⟨i0, hi, hz0, hz1, hz2⟩ := info_parts intInfoW
  go_enter Tryz.func34, Tryz.ntmps34
  go_wp2
  go_loopw [0, 3] (fun t v wr => ∃ (p : List UInt8) (m : List Nat) (n : Nat) (A : Option Addr) (c : Nat), t = .string (mkB p) ∧ p.length ≤ 14 ∧ metL l = m ++ metL p ∧ n = m.length ∧ v = .slice A n c ∧ SlOwn intS wr w.heap.size 3 (.slice A n c) (natI m) ∧ Below w.heap.size w wr)
    (fun t _ _ => match t with | .string s => plc 0 s.data.toList | _ => 0)
  case atStart => exact ⟨l, [], 0, none, 0, rfl, hl, rfl, rfl, rfl, SlOwn.nil intS _ _ _, Below.refl _ _⟩
  case round =>
    obtain ⟨p, m, n, A, c, rfl, hp, hm, hn, rfl, hown, hbw⟩ := hrel
    have HO := Lib.hid hown
    have HB := Lib.hid hbw
    have HN := Lib.hid hn
    have HM := Lib.hid hm
    have hnl : n ≤ 196 := by rw [hm, List.length_append, ← hn] at HML; omega
    have hsz := hbw.size
    have hfc := facP_fc p
    obtain ⟨q, hq⟩ : ∃ q, fcR p = q := ⟨_, rfl⟩
    have HQ := Lib.hid hq
    have hqb : q ≤ 14 := by have := count_two_le p; omega
    have HF : Hid (∀ W, Calls Tryz.prog 40 #[.string (mkB p)] W fun e w' => ∃ A c, e = .returned (.slice A q c) ∧ Below W.heap.size W w') := Lib.hid fun W => (woFacing_any p (by omega) W).mono (by
      rintro e w' ⟨A, n, c, rfl, hn, _, hb⟩
      exact ⟨A, c, by rw [hn, hfc, hq], hb⟩)
    have HST := Lib.hid (fun W => woStep_any p (by omega) W)
    clear hown hbw hn hm hfc hq
    by_cases h0 : q = 0
    · have HE : Hid (metL l = m) := Lib.hid (by rw [HM.out, metL_rest (by rw [HQ.out, h0]), List.append_nil])
      subst h0
      go_wp2_with fail
      refine (HF.out _).mono ?_
      rintro e w2 ⟨A2, c2, rfl, hb2⟩
      have HB2 := Lib.hid (hb2.mono hsz)
      have HO2 := Lib.hid (HO.out.below hb2)
      clear hb2
      go_wp2
      go_ret
      exact ⟨A, n, c, rfl, by rw [HE.out]; exact HN.out, by rw [HE.out]; exact HO2.out, HB.out.trans HB2.out⟩
    · have HLF := Lib.hid (met_left HM.out (by rw [HQ.out]; exact h0))
      have HLT : Hid (plc 0 (stp p) < plc 0 p) := Lib.hid (by have := plc_stp p 0; rw [HQ.out] at this; omega)
      have hq0 : (0 : Int) < q := by omega
      have hsl := stp_len p
      rw [HQ.out] at HLF
      go_wp2_with fail
      refine (HF.out _).mono ?_
      rintro e w2 ⟨A2, c2, rfl, hb2⟩
      have hs2 := hb2.size
      have HB2 := Lib.hid (hb2.mono hsz)
      have HO2 := Lib.hid (HO.out.below hb2)
      clear hb2
      go_wp2_with fail
      refine (HF.out _).mono ?_
      rintro e w3 ⟨A3, c3, rfl, hb3⟩
      have hs3 := hb3.size
      have HB3 := Lib.hid (HB2.out.trans (hb3.mono (by omega)))
      have HO3 := Lib.hid (HO2.out.below hb3)
      clear hb3
      go_wp2_with (at_builtin; go_must (refine wpList_append_slsv intS _ rfl _ _ 29 rfl w.heap.size 3 i0 _ 8 Tryz.underlying29 hi hz0 hz1 hz2 rfl (by decide) (.slice A n c) (natI m) rfl (HO3.out.allocW _) _ 1 1 [(q : Int)] rfl rfl (slAt_oneW (heap_new rfl)) (by rw [natI_len, ← HN.out, List.length_singleton]; omega) (by simp; omega) ?_); intro A8 n8 c8 w8 hn8 ho8 hb8; obtain rfl : n8 = n + 1 := (by rw [hn8, List.length_append, natI_len, ← HN.out]; rfl); have HO8 := Lib.hid ho8; have HB8 : Hid (Below w.heap.size w3 w8) := Lib.hid (((Below.refl w.heap.size w3).alloc (by omega) _).trans hb8); clear hn8 ho8 hb8) <;> skip
      refine (HST.out _).mono ?_
      rintro e w9 ⟨rfl, rfl⟩
      go_wp2
      go_roundw
      case rel => exact ⟨stp p, m ++ [q], n + 1, A8, c8, rfl, by omega, HLF.out, by rw [List.length_append, ← HN.out]; rfl, rfl, by rw [natI_snoc]; exact HO8.out, HB.out.trans (HB3.out.trans HB8.out)⟩
      case measure => exact HLT.out
end Go.Proofs.YtgdgaldgieiokaaGreatDoor
