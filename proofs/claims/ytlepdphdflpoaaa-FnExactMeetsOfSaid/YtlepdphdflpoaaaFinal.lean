/- FinalPaces on both sides: all paces, sorted. -/
import Derived.Test.YtlepdphdflpoaaaKept
import Derived.Test.YtlepdphdflpoaaaBridgeI
namespace Go.Proofs.Ytlepdphdflpoaaa
open Go.RowKit

/-- the paces less than q - 9, one after the other -/
def fpK (ps : List Int) : Nat → List Int
  | 0 => []
  | q + 1 => fpK ps q ++ ps.filter (fun a => a == (q : Int) - 9)
theorem fpK_count (ps : List Int) (a : Int) : ∀ q, (fpK ps q).count a = if -9 ≤ a ∧ a < (q : Int) - 9 then ps.count a else 0
  | 0 => by simp [fpK]; omega
  | q + 1 => by
    rw [fpK, List.count_append, fpK_count ps a q]
    by_cases h : a = (q : Int) - 9
    · subst h
      have e : (ps.filter (fun a => a == (q : Int) - 9)).count ((q : Int) - 9) = ps.count ((q : Int) - 9) := List.count_filter (by simp)
      rw [e, if_neg (by omega), if_pos (by omega)]
      omega
    · have e : (ps.filter (fun a => a == (q : Int) - 9)).count a = 0 := by
        rw [List.count_eq_zero]
        intro hm
        have := (List.mem_filter.1 hm).2
        simp at this
        exact h this
      rw [e]
      by_cases h2 : -9 ≤ a ∧ a < (q : Int) - 9
      · rw [if_pos h2, if_pos (by omega)]; omega
      · rw [if_neg h2, if_neg (by omega)]
theorem fpK_lt (ps : List Int) : ∀ q a, a ∈ fpK ps q → a < (q : Int) - 9
  | 0, a, h => by simp [fpK] at h
  | q + 1, a, h => by
    rw [fpK, List.mem_append] at h
    rcases h with h | h
    · have := fpK_lt ps q a h; omega
    · have := (List.mem_filter.1 h).2
      simp at this
      omega
theorem fpK_sorted (ps : List Int) : ∀ q, (fpK ps q).Pairwise (fun x y => decide (x ≤ y) = true)
  | 0 => by simp [fpK]
  | q + 1 => by
    rw [fpK, List.pairwise_append]
    refine ⟨fpK_sorted ps q, ?_, ?_⟩
    · rw [List.pairwise_iff_getElem]
      intro i j hi hj _
      have h1 := (List.mem_filter.1 (List.getElem_mem hi)).2
      have h2 := (List.mem_filter.1 (List.getElem_mem hj)).2
      simp only [beq_iff_eq] at h1 h2
      simp only [decide_eq_true_eq]
      omega
    · intro a ha b hb
      have h1 := fpK_lt ps q a ha
      have h2 := (List.mem_filter.1 hb).2
      simp only [beq_iff_eq] at h2
      simp only [decide_eq_true_eq]
      omega
theorem fpK_all {ps : List Int} (h : ∀ a, a ∈ ps → -9 ≤ a ∧ a ≤ 9) : fpK ps 19 = ps.mergeSort fun x y => decide (x ≤ y) := by
  refine List.Perm.eq_of_pairwise (le := fun x y => decide (x ≤ y) = true) (fun a b _ _ h1 h2 => by simp at h1 h2; omega) (fpK_sorted ps 19) ?_ ?_
  · exact List.pairwise_mergeSort (fun a b c h1 h2 => by simp at *; omega) (fun a b => by simp; omega) ps
  · refine List.Perm.trans ?_ (List.mergeSort_perm ps _).symm
    rw [List.perm_iff_count]
    intro a
    rw [fpK_count]
    by_cases ha : a ∈ ps
    · have := h a ha
      rw [if_pos (by omega)]
    · rw [List.count_eq_zero.2 ha]; simp
def fpV (l : List (Int × Int)) : List Int := if rnnB l then (l.map Prod.snd).mergeSort (fun x y => decide (x ≤ y)) else []
theorem fpV_len (l : List (Int × Int)) : (fpV l).length ≤ 12 := by
  unfold fpV
  split
  · rename_i h
    have := rnn_len h
    rw [List.length_mergeSort, List.length_map]; exact this
  · simp
theorem ret_sbR {A : Option Addr} {n n' c : Nat} {b b' : Bool} (h2 : n = n') (h3 : b = b') : Ending.returned (.tuple #[.slice A n c, .bool b]) = .returned (.tuple #[.slice A n' c, .bool b']) := by rw [h2, h3]

set_option maxHeartbeats 400000 in
theorem implFinalPaces_any (A : Option Addr) (c : Nat) (l : List (Int × Int)) (w : World) (hA : AntsAt w A l) :
    Calls Try.prog 49 #[.slice A l.length c] w fun e w' => ∃ A' n' c', e = .returned (.tuple #[.slice A' n' c', .bool (rnnB l)]) ∧ n' = (fpV l).length ∧ SlOwn intS w' w.heap.size 3 (.slice A' n' c') (fpV l) ∧ Below w.heap.size w w' := by
  have HA := Lib.hid hA
  clear hA
  cases hg : rnnB l with
  | false =>
    have HV : Hid (fpV l = []) := by show _ = _; simp [fpV, hg]
    have HG := Lib.hid (areRunners_at A c l false hg)
    clear hg
    go_enter Try.func49, Try.ntmps49
    go_wp2_with fail
    refine (HG.out _ HA.out).mono ?_
    rintro e w1 ⟨rfl, hb⟩
    go_wp2
    go_ret2
    exact ⟨none, 0, 0, rfl, by rw [HV.out]; rfl, by rw [HV.out]; exact SlOwn.nil intS _ _ _, hb⟩
  | true =>
    have HV : Hid (fpV l = (l.map Prod.snd).mergeSort (fun x y => decide (x ≤ y))) := by show _ = _; simp [fpV, hg]
    have HG := Lib.hid (areRunners_at A c l true hg)
    have hl := rnn_len hg
    clear hg
    go_enter Try.func49, Try.ntmps49
    go_wp2_with fail
    refine (HG.out _ HA.out).mono ?_
    rintro e w1 ⟨rfl, hb⟩
    have HB1 := Lib.hid hb
    clear hb
    go_wp2_with fail
    refine (pacesOf_any A c l _ (by omega) (HA.out.below HB1.out)).mono ?_
    rintro e w2 ⟨A2, n2, c2, rfl, hn2, ho2, hb2⟩
    have HO2 := Lib.hid ho2
    have HN2 := Lib.hid hn2
    have HB2 := Lib.hid (HB1.out.trans (hb2.mono HB1.out.size))
    have S2 := Lib.hid hb2.size
    clear ho2 hb2 hn2
    go_wp2_with fail
    refine (sortI_any (by simp; omega) HO2.out).mono ?_
    rintro e w3 ⟨rfl, ho3, hb3⟩
    go_wp2
    go_ret2
    exact ⟨_, _, _, rfl, by rw [HV.out, HN2.out]; simp, by rw [HV.out]; exact SlOwn.base ho3 HB1.out.size, HB2.out.trans (hb3.mono HB1.out.size)⟩

set_option maxRecDepth 100000 in
set_option maxHeartbeats 1000000 in
theorem specFinalPaces_any (A : Option Addr) (c : Nat) (l : List (Int × Int)) (w : World) (hA : AntsAt w A l) :
    Calls Try.prog 48 #[.slice A l.length c] w fun e w' => ∃ A' n' c', e = .returned (.tuple #[.slice A' n' c', .bool (rnnB l)]) ∧ n' = (fpV l).length ∧ SlOwn intS w' w.heap.size 3 (.slice A' n' c') (fpV l) ∧ Below w.heap.size w w' := by
  obtain ⟨i0, hi, hz0, hz1, hz2⟩ := info_parts intInfoR
  have HA := Lib.hid hA
  clear hA
  cases hg : rnnB l with
  | false =>
    have HV : Hid (fpV l = []) := by show _ = _; simp [fpV, hg]
    have HG := Lib.hid (spGood_at A c l false hg)
    clear hg
    go_enter Try.func48, Try.ntmps48
    go_wp2_with fail
    refine (HG.out _ HA.out).mono ?_
    rintro e w1 ⟨rfl, hb⟩
    go_wp2
    go_ret2
    exact ⟨none, 0, 0, rfl, by rw [HV.out]; rfl, by rw [HV.out]; exact SlOwn.nil intS _ _ _, hb⟩
  | true =>
    have HPS : Hid (∀ j, j < l.length → (l.map Prod.snd)[j]? = some (l.getD j (0, 0)).2) := fun j hj => by rw [List.getElem?_map, getDq hj]; rfl
    have HV : Hid (fpV l = fpK (l.map Prod.snd) 19) := by
      show _ = _
      rw [fpK_all]
      · simp [fpV, hg]
      · intro a ha
        obtain ⟨x, hx, rfl⟩ := List.mem_map.1 ha
        have := rnn_mem hg hx
        omega
    have hl := rnn_len hg
    have hlp : (l.map Prod.snd).length = l.length := by simp
    have HG := Lib.hid (spGood_at A c l true hg)
    clear hg
    generalize l.map Prod.snd = ps at *
    have hlen : ∀ q, q ≤ 19 → (fpK ps q).length ≤ 12 * q := fun q _ => by
      induction q with
      | zero => simp [fpK]
      | succ q ih =>
        have := ih (by omega)
        have h2 : (ps.filter (fun a => a == (q : Int) - 9)).length ≤ ps.length := List.length_filter_le _ _
        rw [fpK, List.length_append]; omega
    have HLEN := Lib.hid hlen
    have HLP := Lib.hid hlp
    clear hlen hlp
    go_enter Try.func48, Try.ntmps48
    go_wp2_with fail
    refine (HG.out _ HA.out).mono ?_
    rintro e w1 ⟨rfl, hb⟩
    have HB1 := Lib.hid hb
    clear hb
    go_wp2
    go_loopw [4, 5] (fun v p wr => ∃ (q : Nat) (A5 : Option Addr) (n5 c5 : Nat), q ≤ 19 ∧ p = .int .i64 ((q : Int) - 9) ∧ v = .slice A5 n5 c5 ∧ Below w.heap.size w wr ∧ SlOwn intS wr w.heap.size 3 (.slice A5 n5 c5) (fpK ps q))
      (fun _ p _ => (10 - intOf p).toNat)
    case atStart => exact ⟨0, none, 0, 0, by omega, rfl, rfl, HB1.out, SlOwn.nil intS _ _ _⟩
    case round =>
      obtain ⟨q, A5, n5, c5, hq, rfl, rfl, hbr, hown⟩ := hrel
      obtain ⟨W1, rfl⟩ : ∃ W, W = wr := ⟨_, rfl⟩
      have HBr := Lib.hid hbr
      have HO := Lib.hid hown
      clear hbr hown
      by_cases hq9 : q < 19
      · have hle : (q : Int) - 9 ≤ 9 := by omega
        have HQL := Lib.hid (HLEN.out q hq)
        have HS : Hid (fpK ps (q + 1) = fpK ps q ++ (ps.take ps.length).filter (fun a => a == (q : Int) - 9)) := by show _ = _; rw [List.take_length]; rfl
        have HST : Hid (∀ j x, ps[j]? = some x → fpK ps q ++ (ps.take (j + 1)).filter (fun a => a == (q : Int) - 9) = (fpK ps q ++ (ps.take j).filter (fun a => a == (q : Int) - 9)) ++ if x = (q : Int) - 9 then [x] else []) := fun j x hx => by
          obtain ⟨hj, rfl⟩ := List.getElem?_eq_some_iff.1 hx
          rw [List.take_succ_eq_append_getElem hj, List.filter_append, List.append_assoc]
          congr 2
          by_cases h : ps[j] = (q : Int) - 9
          · simp [h]
          · simp [h]
        have HTL : Hid (∀ j, (fpK ps q ++ (ps.take j).filter (fun a => a == (q : Int) - 9)).length ≤ 300) := fun j => by
          have h1 := HQL.out
          have h2 : ((ps.take j).filter (fun a => a == (q : Int) - 9)).length ≤ (ps.take j).length := List.length_filter_le _ _
          rw [List.length_take] at h2
          have h3 := HLP.out
          rw [List.length_append]; omega
        generalize fpK ps q = s0 at *
        generalize hpv : (q : Int) - 9 = p at *
        have hw1 : IntKind.i64.wrap (p + 1) = p + 1 := IntWalk.i64_in _ (by omega)
        go_wp2
        go_loopw [4, 17] (fun v i w2 => ∃ (j : Nat) (A6 : Option Addr) (n6 c6 : Nat), j ≤ l.length ∧ i = .int .i64 j ∧ v = .slice A6 n6 c6 ∧ Below w.heap.size w w2 ∧ SlOwn intS w2 w.heap.size 3 (.slice A6 n6 c6) (s0 ++ (ps.take j).filter (fun a => a == p)))
          (fun _ i _ => l.length - (intOf i).toNat)
        case atStart => exact ⟨0, A5, n5, c5, Nat.zero_le _, rfl, rfl, HBr.out, by simpa using HO.out⟩
        case round =>
          obtain ⟨j, A6, n6, c6, hj, rfl, rfl, hb2, hown⟩ := hrel
          have HB2 := Lib.hid hb2
          have hsw := hb2.size
          have HO2 := Lib.hid hown
          have HAr := Lib.hid (HA.out.below hb2)
          clear hb2 hown
          by_cases hlj : j < l.length
          · obtain ⟨b, off, rfl, l0, hc⟩ := HAr.out.at_ hlj
            obtain ⟨a0, a1⟩ := hc j hlj
            have HSJ := Lib.hid (HST.out j _ (HPS.out j hlj))
            have HTJ := Lib.hid (HTL.out j)
            clear hc
            generalize l.getD j (0, 0) = x at *
            obtain ⟨x1, x2⟩ := x
            simp only at a0 a1 HSJ
            generalize s0 ++ (ps.take j).filter (fun a => a == p) = s at *
            by_cases hx : x2 = p
            · subst hx
              have HE : Hid (s0 ++ (ps.take (j + 1)).filter (fun a => a == x2) = s ++ [x2]) := by show _ = _; rw [HSJ.out, if_pos rfl]
              go_wp2_with (at_builtin; go_must (refine wpList_append_slsv intS _ rfl _ _ 42 rfl w.heap.size 3 i0 _ 8 Try.underlying42 hi hz0 hz1 hz2 rfl (by decide) (.slice A6 n6 c6) s rfl ((HO2.out.alloc' _).alloc' _) _ 1 1 [x2] rfl rfl (slAt_one1 (heap_new (by simp))) (by have := HTJ.out; simp only [List.length_cons, List.length_nil]; omega) (by simp; omega) ?_); intro A7 n7 k7 w7 hn7 ho7 hb7; have HO7 := Lib.hid ho7; have HB7 := Lib.hid (((HB2.out.alloc HB2.out.size _).alloc (by simp; omega) _).trans hb7); clear hn7 ho7 hb7)
              go_roundw
              case rel => exact ⟨j + 1, A7, n7, k7, by omega, by go_num, rfl, HB7.out, by rw [HE.out]; exact HO7.out⟩
              case measure => simp [intOf]; omega
            · have HE : Hid (s0 ++ (ps.take (j + 1)).filter (fun a => a == p) = s) := by show _ = _; rw [HSJ.out, if_neg hx, List.append_nil]
              have hxb : (x2 == p) = false := by simpa using hx
              go_wp2
              go_roundw
              case rel => exact ⟨j + 1, A6, n6, c6, by omega, by go_num, rfl, HB2.out.alloc HB2.out.size _, by rw [HE.out]; exact HO2.out.alloc' _⟩
              case measure => simp [intOf]; omega
          · obtain rfl : j = l.length := by omega
            go_wp2
            go_roundw
            case rel => exact ⟨q + 1, A6, n6, c6, by omega, by congr 1; omega, rfl, HB2.out, by rw [HS.out, HLP.out]; exact HO2.out⟩
            case measure => simp [intOf]; omega
      · obtain rfl : q = 19 := by omega
        have hn5 := own_len HO.out
        go_wp2
        go_ret2
        exact ⟨_, _, _, rfl, by rw [HV.out]; exact hn5, by rw [HV.out]; exact HO.out, HBr.out⟩
end Go.Proofs.Ytlepdphdflpoaaa
