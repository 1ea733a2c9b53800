/- CountLastFalls on both sides. -/
import Derived.Test.YtodcacifpjakdaaMean
namespace Go.Proofs.Ytodcacifpjakdaa
open Go.RowKit

/-! ### how many rows there are at most -/
theorem insR_key (R : List (Int × Int)) (t : Int) (p : Int × Int) (hp : p ∈ insR R t) : p.1 = t ∨ ∃ q ∈ R, p.1 = q.1 := by
  rcases insR_mem R t p hp with h | rfl | ⟨q, hq, rfl⟩
  · exact .inr ⟨p, h, rfl⟩
  · exact .inl rfl
  · exact .inr ⟨q, hq, rfl⟩
def incP (R : List (Int × Int)) : Prop := R.Pairwise fun a b => a.1 < b.1
theorem insR_inc (t : Int) : ∀ R : List (Int × Int), incP R → incP (insR R t)
  | [], _ => by simp [incP, insR]
  | p :: R, h => by
    obtain ⟨h1, h2⟩ := List.pairwise_cons.1 h
    unfold insR
    by_cases c1 : p.1 < t
    · rw [if_pos c1]
      refine List.pairwise_cons.2 ⟨fun q hq => ?_, insR_inc t R h2⟩
      rcases insR_key R t q hq with e | ⟨r, hr, e⟩
      · omega
      · have := h1 r hr; omega
    · rw [if_neg c1]
      by_cases c2 : p.1 = t
      · rw [if_pos c2]
        exact List.pairwise_cons.2 ⟨fun q hq => h1 q hq, h2⟩
      · rw [if_neg c2]
        refine List.pairwise_cons.2 ⟨fun q hq => ?_, h⟩
        rcases List.mem_cons.1 hq with rfl | hq
        · show t < q.1; omega
        · have := h1 q hq; show t < q.1; omega
theorem insAll_inc (f : Nat → Int) : ∀ k, incP (insAll ((List.range k).map f))
  | 0 => by simp [incP, insAll]
  | k + 1 => by rw [insAll_range]; exact insR_inc _ _ (insAll_inc f k)
theorem inc_even {R : List (Int × Int)} (h : incP R) (he : ∀ p ∈ R, 0 ≤ p.1 ∧ p.1 % 2 = 0) : ∀ i (hi : i < R.length), 2 * (i : Int) ≤ R[i].1
  | 0, hi => by have := he _ (List.getElem_mem hi); omega
  | i + 1, hi => by
    have ih := inc_even h he i (by omega)
    have h1 := List.pairwise_iff_getElem.1 h i (i + 1) (by omega) hi (by omega)
    have h2 := he _ (List.getElem_mem hi)
    have h3 := he _ (List.getElem_mem (show i < R.length by omega))
    omega
theorem falls_even {L : Int} {l : List (Int × Int)} (hg : goodB L l = true) : ∀ x ∈ fallsOf L l, x % 2 = 0 := by
  intro x hx
  have hL := good_hdr hg
  have key : ∀ g ∈ gsOf L l, ft g % 2 = 0 := by
    intro g hm
    unfold gsOf at hm
    obtain ⟨p, hp, rfl⟩ := List.mem_map.1 hm
    obtain ⟨k, hk, rfl⟩ := List.mem_iff_getElem.1 hp
    have := good_ant hg (List.getElem?_eq_getElem hk)
    unfold ft
    split <;> (simp only; omega)
  unfold fallsOf fallAs at hx
  obtain ⟨g, hm, rfl⟩ := List.mem_map.1 hx
  rcases List.mem_append.1 hm with h | h
  · exact key g (way_mem h).1
  · exact key g (way_mem h).1
theorem max_even : ∀ (l : List Int) (a : Int), a % 2 = 0 → (∀ x ∈ l, x % 2 = 0) → (l.foldl (fun a b => if a < b then b else a) a) % 2 = 0
  | [], _, h, _ => h
  | x :: l, a, h, hl => by
    rw [List.foldl_cons]
    refine max_even l _ ?_ (fun y hy => hl y (List.mem_cons_of_mem _ hy))
    split
    · exact hl x List.mem_cons_self
    · exact h
theorem lfk_even (L : Int) (l : List Int) (k : Nat) (hp : plB L l = true) : lfk L l k % 2 = 0 := by
  unfold lfk maxOf
  exact max_even _ 0 rfl (falls_even (goodB_rd hp (wyN_len l.length k) (wyN_mem _ _)))
theorem tbl_few (L : Int) (l : List Int) (k : Nat) (hp : plB L l = true) : (tbl L l k).length ≤ 501 := by
  by_cases h0 : (tbl L l k).length ≤ 501
  · exact h0
  · exfalso
    have hi : 501 < (tbl L l k).length := by omega
    have h1 := inc_even (R := tbl L l k) (insAll_inc (lfk L l) k) (fun p hpm => by
      obtain ⟨_, _, j, _, h3⟩ := insAll_cnt (lfk L l) k p hpm
      have h4 := lfk_in L l j hp
      have h5 := lfk_even L l j hp
      rw [← h3] at h4 h5
      exact ⟨h4.1, h5⟩) 501 hi
    have h2 := tbl_in L l k hp _ (List.getElem_mem hi)
    omega
def clR (L : Int) (l : List Int) : List (List Int) := rowsP (tbl L l (nAll L l))
theorem tot_two : ∀ R : List (Int × Int), tot (rowsP R) = 2 * R.length
  | [] => rfl
  | p :: R => by
    have ih := tot_two R
    unfold tot rowsP at *
    simp only [List.map_cons, List.sum_cons, List.length_cons, List.length_nil, ih]
    omega
theorem clR_len (L : Int) (l : List Int) : (tbl L l (nAll L l)).length ≤ 501 := by
  cases hp : plB L l with
  | false =>
    have : nAll L l = 0 := by unfold nAll; rw [hp]; rfl
    rw [this]
    exact Nat.le_trans (tbl_len L l 0) (by omega)
  | true => exact tbl_few L l _ hp
theorem clR_bd (L : Int) (l : List Int) : (((clR L l).length : Nat) : Int) ≤ 1000 ∧ ((tot (clR L l) : Nat) : Int) ≤ 100000 ∧ ∀ r ∈ clR L l, (r.length : Int) ≤ 1000 := by
  have h := clR_len L l
  unfold clR
  refine ⟨by rw [rowsP_len]; omega, by rw [tot_two]; omega, fun r hr => ?_⟩
  unfold rowsP at hr
  obtain ⟨p, _, rfl⟩ := List.mem_map.1 hr
  simp
theorem ret_rwb {A : Option Addr} {n c : Nat} {x y : Bool} (h : x = y) : Ending.returned (.tuple #[.slice A n c, .bool x]) = .returned (.tuple #[.slice A n c, .bool y]) := by rw [h]

set_option maxHeartbeats 1000000 in
theorem specClf_any (L : Int) (A : Option Addr) (c : Nat) (l : List Int) (w : World) (hn : (l.length : Int) ≤ 9223372036854775807) (hA : SlAt intS w A l) :
    Calls Try.prog 6 #[.int .i64 L, .slice A l.length c] w fun e w' => ∃ A' n c', e = .returned (.tuple #[.slice A' n c', .bool (plB L l)]) ∧ RowsOwn w' w.heap.size (.slice A' n c') (clR L l) ∧ Below w.heap.size w w' := by
  have HA := Lib.hid hA
  clear hA
  cases hp : plB L l with
  | false =>
    have HV : Hid (clR L l = []) := by
      show _ = _
      unfold clR nAll
      rw [hp]
      rfl
    have HG : Hid (∀ w, SlAt intS w A l → Calls Try.prog 18 #[.int .i64 L, .slice A l.length c] w fun e w' => e = .returned (.bool false) ∧ w = w') := fun w h => stGood_at L A c l false hp w hn h
    clear hp
    go_enter Try.func6, Try.ntmps6
    go_wp2_with fail
    refine (HG.out _ HA.out).mono ?_
    rintro e w1 ⟨rfl, rfl⟩
    go_wp2
    go_ret2
    exact ⟨none, 0, 0, rfl, by rw [HV.out]; exact RowsOwn.nil _ _, Below.refl _ _⟩
  | true =>
    have HV : Hid (clR L l = rowsP (tbl L l (2 ^ l.length))) := by show _ = _; unfold clR nAll; rw [hp]; rfl
    have HG : Hid (∀ w, SlAt intS w A l → Calls Try.prog 18 #[.int .i64 L, .slice A l.length c] w fun e w' => e = .returned (.bool true) ∧ w = w') := fun w h => stGood_at L A c l true hp w hn h
    have HC : Hid (∀ w, SlAt intS w A l → Calls Try.prog 19 #[.int .i64 L, .slice A l.length c] w fun e w' => ∃ q A' n' c', e = .returned (.slice A' n' c') ∧ RowsQ q w' w.heap.size (.slice A' n' c') (rowsP (tbl L l (2 ^ l.length))) ∧ Below w.heap.size w w') := fun w h => stCounts_any L A c l w hp h
    clear hp
    go_enter Try.func6, Try.ntmps6
    go_wp2_with fail
    refine (HG.out _ HA.out).mono ?_
    rintro e w1 ⟨rfl, rfl⟩
    go_wp2_with fail
    refine (HC.out _ HA.out).mono ?_
    rintro e w2 ⟨q, A2, n2, c2, rfl, hq, hb⟩
    have HQ := Lib.hid hq
    have HB := Lib.hid hb
    clear hq hb
    go_wp2
    go_ret2
    exact ⟨A2, n2, c2, rfl, by rw [HV.out]; exact ⟨q, HQ.out⟩, HB.out⟩

set_option maxRecDepth 100000 in
set_option maxHeartbeats 4000000 in
theorem implClf_any (L : Int) (A : Option Addr) (c : Nat) (l : List Int) (w : World) (hn : (l.length : Int) ≤ 9223372036854775807) (hA : SlAt intS w A l) :
    Calls Try.prog 8 #[.int .i64 L, .slice A l.length c] w fun e w' => ∃ A' n c', e = .returned (.tuple #[.slice A' n c', .bool (plB L l)]) ∧ RowsOwn w' w.heap.size (.slice A' n c') (clR L l) ∧ Below w.heap.size w w' := by
  obtain ⟨i1, hj, hy0, hy1, hy2⟩ := info_parts refI
  have HLA := Lib.hid (lastFallsAll_any L A c l w hn hA)
  have hN : nAll L l ≤ 4096 := by
    unfold nAll
    cases hp : plB L l with
    | false => exact Nat.zero_le _
    | true => exact (pow_in ((plB_iff L l).1 hp).2.1.2).2
  have HSL : Hid ((srtI (lfT L l (nAll L l))).length = nAll L l) := by show _ = _; rw [srtI_len, lfT_len]
  have HSS := Lib.hid (srtI_srt (lfT L l (nAll L l)))
  have HV : Hid (clR L l = rowsP (insAll (srtI (lfT L l (nAll L l))))) := by
    show _ = _
    unfold clR tbl
    show rowsP (insAll (lfT L l (nAll L l))) = _
    rw [show insAll (srtI (lfT L l (nAll L l))) = insAll (lfT L l (nAll L l)) from insAll_perm (List.mergeSort_perm _ _)]
  have HSO : Hid (∀ (w : World) (A1 : Option Addr) (n1 c1 : Nat) (B : Nat), SlOwn intS w B 3 (.slice A1 n1 c1) (lfT L l (nAll L l)) → Calls Try.prog 21 #[.slice A1 n1 c1] w fun e' w' => e' = .returned (.tuple #[]) ∧ SlOwn intS w' B 3 (.slice A1 n1 c1) (srtI (lfT L l (nAll L l))) ∧ RowKit.Below B w w') := fun w A1 n1 c1 B h => sortI_any (by rw [lfT_len]; omega) h
  clear hA
  generalize plB L l = pb at *
  generalize nAll L l = N at *
  generalize srtI (lfT L l N) = S at *
  go_enter Try.func8, Try.ntmps8
  go_wp2_with fail
  refine HLA.out.mono ?_
  rintro e w1 ⟨A1, n1, c1, rfl, hn1, ho, hb⟩
  subst hn1
  have HB := Lib.hid hb
  have HO := Lib.hid ho
  clear hb ho
  go_wp2_with fail
  refine (HSO.out _ _ _ _ _ HO.out).mono ?_
  rintro e w2 ⟨rfl, ho2, hb2⟩
  have HB2 := Lib.hid (HB.out.trans hb2)
  have HO2 := Lib.hid ho2.sl
  have hcap := own_cap ho2
  have hs2 : w.heap.size ≤ w2.heap.size := HB2.out.size
  clear hb2 ho2 HO HLA HSO
  go_wp2
  go_loopw [8, 21] (fun v i wr => ∃ (k : Nat) (q : List (Nat × Nat × Nat)), k ≤ n1 ∧ i = .int .i64 k ∧ Below w2.heap.size w2 wr ∧ RowsQ q wr w2.heap.size v (rowsP (insAll (S.take k))))
    (fun _ i _ => n1 - (intOf i).toNat)
  case atStart => exact ⟨0, [], Nat.zero_le _, rfl, Below.refl _ _, rfl, SlOwn.nil refS w2 _ _, fun i x r h => by simp at h, fun i j x y _ h => by simp at h, fun x hx => by cases hx⟩
  case round =>
    obtain ⟨k, q, hk, rfl, hbr, hq⟩ := hrel
    obtain ⟨A5, c5, rfl, -, -⟩ := hq.own.form
    have HBr := Lib.hid hbr
    have HQ := Lib.hid hq
    have hsr := hbr.size
    have HOr := Lib.hid (HO2.out.below hbr)
    clear hbr hq
    by_cases hlt : k < n1
    · have hkS : k < S.length := by rw [HSL.out]; exact hlt
      have hki : (k : Int) < (n1 : Int) := by omega
      have hkc : (k : Int) < (c1 : Int) := by omega
      have hk0 : (0 : Int) ≤ (k : Int) := by omega
      obtain ⟨g, off, rfl, hgl, hcells⟩ := HOr.out.int_at hkS
      have z0 := hcells k _ (List.getElem?_eq_getElem hkS)
      have HNW := Lib.hid (insAll_new S HSS.out k hkS)
      have HSM := Lib.hid (insAll_same S HSS.out)
      have HTK : Hid (S.take (k + 1) = S.take k ++ [S[k]]) := List.take_succ_eq_append_getElem hkS
      obtain ⟨n5, hn5⟩ : ∃ n5, n5 = q.length := ⟨_, rfl⟩
      rw [← hn5] at HQ ⊢
      have HN5 := Lib.hid hn5
      clear hn5
      by_cases hk1 : k = 0
      · have d0 : ((k : Int) == 0) = true := by simp; omega
        have HNWX := HNW.out (.inl hk1)
        generalize S[k] = t at *
        clear hcells hk1
        have HT : Hid (insAll (S.take (k + 1)) = insAll (S.take k) ++ [(t, 1)]) := HNWX
        obtain ⟨Y, hY⟩ : ∃ Y, Y = insAll (S.take k) := ⟨_, rfl⟩
        have hYl : Y.length ≤ 4096 := by have := insAll_len (S.take k); rw [List.length_take] at this; rw [hY]; omega
        rw [← hY] at HQ HT
        clear hY
        have HQL : Hid (q.length ≤ 4096) := by show _ ≤ _; rw [HQ.out.len, rowsP_len]; exact hYl
        go_wp2_with (at_builtin; go_must (refine wpList_append_slsw refS _ rfl _ _ 23 rfl w2.heap.size 22 i1 _ 24 Try.underlying23 hj hy0 hy1 hy2 rfl (by decide) (.slice A5 n5 c5) q rfl ((HQ.out.own.below ((Below.refl _ _).alloc (Nat.le_refl _) _)).below ((Below.refl _ _).alloc (Nat.le_refl _) _)) ⟨wr.heap.size + 1, 0, none⟩ 1 1 [(wr.heap.size, 2, 2)] rfl rfl (slAt_ref1 (x := (wr.heap.size, 2, 2)) (heap_new (by simp))) (by have := HQL.out; simp only [List.length_cons, List.length_nil]; omega) (by simp <;> omega) ?_; intro A7 n7 c7 w7 ho7 hg7 hb7; have HR7 : Hid (RowsQ (q ++ [(wr.heap.size, 2, 2)]) w7 w2.heap.size (.slice A7 n7 c7) (rowsP (Y ++ [(t, 0)]))) := (by have h := HQ.out.app' hsr rfl t 0 ho7 hg7 hb7; show RowsQ _ _ _ _ _; unfold rowsP at h ⊢; rw [List.map_append]; exact h); have HB7 : Hid (Below w2.heap.size w2 w7) := HBr.out.trans (HQ.out.app_below hsr t 0 hg7); clear ho7 hg7 hb7; obtain ⟨m0, hm0⟩ : ∃ m0, m0 = (Y).length := ⟨_, rfl⟩; have hin : (Y ++ [(t, 0)])[m0]? = some (t, 0) := (by rw [hm0, List.getElem?_append_right (Nat.le_refl _), Nat.sub_self]; rfl); obtain ⟨x, cx, hqx, hcx, y0, y1, yf⟩ := ref_in HR7.out hin; have hnm : n7 = m0 + 1 := (by rw [own_lenR HR7.out.own, HR7.out.len, rowsP_len, List.length_append, hm0]; rfl); have hcn : n7 ≤ c7 := own_cap HR7.out.own; obtain ⟨g2, off2, rfl, _, hc2⟩ := HR7.out.own.sl.ref_at (show m0 < (q ++ [(wr.heap.size, 2, 2)]).length by rw [← own_lenR HR7.out.own]; omega); have z2 := hc2 m0 _ hqx; have hwl : IntKind.i64.wrap ((n7 : Int) - 1) = (m0 : Int) := (by rw [show (n7 : Int) - 1 = (m0 : Int) by omega]; exact IntWalk.i64_in _ (by omega)); have h20 : (0 : Int) ≤ (m0 : Int) := (by omega); have h21 : (m0 : Int) < (n7 : Int) := (by omega); have h22 : (m0 : Int) < (c7 : Int) := (by omega); have h23 : (1 : Int) < (cx : Int) := (by omega); have hwb : IntKind.i64.wrap ((0 : Int) + 1) = (0 : Int) + 1 := IntWalk.i64_in _ (by omega); have HQX := Lib.hid hqx; have HIN2 := Lib.hid (rowsP_at hin); have HM0 := Lib.hid hm0; clear hc2 hqx hnm hin hm0; simp only at z2))
        go_roundw
        case rel =>
          have hst := (HR7.out.row m0 _ _ HQX.out HIN2.out).int_store (j := 1) (by simp) ((0 : Int) + 1)
          obtain ⟨_, _, _, h5, h6⟩ := hst
          have h7 := HR7.out.upd HQX.out h6 h5
          refine ⟨k + 1, q ++ [(wr.heap.size, 2, 2)], by omega, by go_num, HB7.out.setCell (p := ⟨x, 1, none⟩) (HR7.out.rowlt _ (List.mem_of_getElem? HQX.out)).1 _, ?_⟩
          have e : rowsP (insAll (S.take (k + 1))) = (rowsP (Y ++ [(t, 0)])).set m0 [t, (0 : Int) + 1] := by
            rw [HT.out, rowsP_set ((Y ++ [(t, 0)])) m0 (t, (0 : Int) + 1), HM0.out, List.set_append_right _ _ (Nat.le_refl _), Nat.sub_self]
            rfl
          rw [e]
          exact h7
        case measure => simp [intOf]; omega
      · have d0 : ((k : Int) == 0) = false := by simp; omega
        obtain ⟨k1, rfl⟩ : ∃ k1, k = k1 + 1 := ⟨k - 1, by omega⟩
        have z1 := hcells k1 _ (List.getElem?_eq_getElem (show k1 < S.length by omega))
        have hwk : IntKind.i64.wrap (((k1 + 1 : Nat) : Int) - 1) = (k1 : Int) := by rw [show ((k1 + 1 : Nat) : Int) - 1 = (k1 : Int) by omega]; exact IntWalk.i64_in _ (by omega)
        have hk10 : (0 : Int) ≤ (k1 : Int) := by omega
        have hk11 : (k1 : Int) < (n1 : Int) := by omega
        have hk12 : (k1 : Int) < (c1 : Int) := by omega
        clear hcells hk1
        by_cases heq : S[k1 + 1] = S[k1]
        · have d1 : (S[k1] != S[k1 + 1]) = false := by simp [heq]
          obtain ⟨Y, cc, hy1', hy2', hy3, hy4⟩ := HSM.out k1 (by omega) heq
          rw [hy1'] at HQ
          have HT := Lib.hid hy2'
          have hYl : Y.length ≤ 4096 := by have := insAll_len (S.take (k1 + 1)); rw [hy1', List.length_append, List.length_take] at this; omega
          clear hy1' hy2' heq HNW HSM HTK
          generalize S[k1] = t1 at *
          generalize S[k1 + 1] = t at *
          generalize hkk : k1 + 1 = k at *
          obtain ⟨m0, hm0⟩ : ∃ m0, m0 = (Y).length := ⟨_, rfl⟩
          have hin : (Y ++ [(t, cc)])[m0]? = some (t, cc) := by rw [hm0, List.getElem?_append_right (Nat.le_refl _), Nat.sub_self]; rfl
          obtain ⟨x, cx, hqx, hcx, y0, y1, yf⟩ := ref_in HQ.out hin
          have hnm : n5 = m0 + 1 := by rw [own_lenR HQ.out.own, HQ.out.len, rowsP_len, List.length_append, hm0]; rfl
          have hcn : n5 ≤ c5 := own_cap HQ.out.own
          obtain ⟨g2, off2, rfl, _, hc2⟩ := HQ.out.own.sl.ref_at (show m0 < (q).length by rw [← own_lenR HQ.out.own]; omega)
          have z2 := hc2 m0 _ hqx
          have hwl : IntKind.i64.wrap ((n5 : Int) - 1) = (m0 : Int) := by rw [show (n5 : Int) - 1 = (m0 : Int) by omega]; exact IntWalk.i64_in _ (by omega)
          have h20 : (0 : Int) ≤ (m0 : Int) := by omega
          have h21 : (m0 : Int) < (n5 : Int) := by omega
          have h22 : (m0 : Int) < (c5 : Int) := by omega
          have h23 : (1 : Int) < (cx : Int) := by omega
          have hwb : IntKind.i64.wrap ((cc : Int) + 1) = (cc : Int) + 1 := IntWalk.i64_in _ (by omega)
          have HQX := Lib.hid hqx
          have HIN2 := Lib.hid (rowsP_at hin)
          have HM0 := Lib.hid hm0
          clear hc2 hqx hnm hin hm0
          simp only at z2
          go_wp2
          go_roundw
          case rel =>
            have hst := (HQ.out.row m0 _ _ HQX.out HIN2.out).int_store (j := 1) (by simp) ((cc : Int) + 1)
            obtain ⟨_, _, _, h5, h6⟩ := hst
            have h7 := HQ.out.upd HQX.out h6 h5
            refine ⟨k + 1, q, by omega, by go_num, HBr.out.setCell (p := ⟨x, 1, none⟩) (HQ.out.rowlt _ (List.mem_of_getElem? HQX.out)).1 _, ?_⟩
            have e : rowsP (insAll (S.take (k + 1))) = (rowsP (Y ++ [(t, cc)])).set m0 [t, (cc : Int) + 1] := by
              rw [(show insAll (S.take (k + 1)) = Y ++ [(t, cc + 1)] by rw [← hkk]; exact HT.out), rowsP_set ((Y ++ [(t, cc)])) m0 (t, (cc : Int) + 1), HM0.out, List.set_append_right _ _ (Nat.le_refl _), Nat.sub_self]
              rfl
            rw [e]
            exact h7
          case measure => simp [intOf]; omega
        · have d1 : (S[k1] != S[k1 + 1]) = true := by simp only [bne_iff_ne, ne_eq]; exact fun e => heq e.symm
          have HNWX := HNW.out (.inr (fun h e => heq (by simp only [Nat.add_sub_cancel] at e; exact e.symm)))
          clear heq HNW HSM HTK
          generalize S[k1] = t1 at *
          generalize S[k1 + 1] = t at *
          generalize hkk : k1 + 1 = k at *
          have HT : Hid (insAll (S.take (k + 1)) = insAll (S.take k) ++ [(t, 1)]) := HNWX
          obtain ⟨Y, hY⟩ : ∃ Y, Y = insAll (S.take k) := ⟨_, rfl⟩
          have hYl : Y.length ≤ 4096 := by have := insAll_len (S.take k); rw [List.length_take] at this; rw [hY]; omega
          rw [← hY] at HQ HT
          clear hY
          have HQL : Hid (q.length ≤ 4096) := by show _ ≤ _; rw [HQ.out.len, rowsP_len]; exact hYl
          go_wp2_with (at_builtin; go_must (refine wpList_append_slsw refS _ rfl _ _ 23 rfl w2.heap.size 22 i1 _ 24 Try.underlying23 hj hy0 hy1 hy2 rfl (by decide) (.slice A5 n5 c5) q rfl ((HQ.out.own.below ((Below.refl _ _).alloc (Nat.le_refl _) _)).below ((Below.refl _ _).alloc (Nat.le_refl _) _)) ⟨wr.heap.size + 1, 0, none⟩ 1 1 [(wr.heap.size, 2, 2)] rfl rfl (slAt_ref1 (x := (wr.heap.size, 2, 2)) (heap_new (by simp))) (by have := HQL.out; simp only [List.length_cons, List.length_nil]; omega) (by simp <;> omega) ?_; intro A7 n7 c7 w7 ho7 hg7 hb7; have HR7 : Hid (RowsQ (q ++ [(wr.heap.size, 2, 2)]) w7 w2.heap.size (.slice A7 n7 c7) (rowsP (Y ++ [(t, 0)]))) := (by have h := HQ.out.app' hsr rfl t 0 ho7 hg7 hb7; show RowsQ _ _ _ _ _; unfold rowsP at h ⊢; rw [List.map_append]; exact h); have HB7 : Hid (Below w2.heap.size w2 w7) := HBr.out.trans (HQ.out.app_below hsr t 0 hg7); clear ho7 hg7 hb7; obtain ⟨m0, hm0⟩ : ∃ m0, m0 = (Y).length := ⟨_, rfl⟩; have hin : (Y ++ [(t, 0)])[m0]? = some (t, 0) := (by rw [hm0, List.getElem?_append_right (Nat.le_refl _), Nat.sub_self]; rfl); obtain ⟨x, cx, hqx, hcx, y0, y1, yf⟩ := ref_in HR7.out hin; have hnm : n7 = m0 + 1 := (by rw [own_lenR HR7.out.own, HR7.out.len, rowsP_len, List.length_append, hm0]; rfl); have hcn : n7 ≤ c7 := own_cap HR7.out.own; obtain ⟨g2, off2, rfl, _, hc2⟩ := HR7.out.own.sl.ref_at (show m0 < (q ++ [(wr.heap.size, 2, 2)]).length by rw [← own_lenR HR7.out.own]; omega); have z2 := hc2 m0 _ hqx; have hwl : IntKind.i64.wrap ((n7 : Int) - 1) = (m0 : Int) := (by rw [show (n7 : Int) - 1 = (m0 : Int) by omega]; exact IntWalk.i64_in _ (by omega)); have h20 : (0 : Int) ≤ (m0 : Int) := (by omega); have h21 : (m0 : Int) < (n7 : Int) := (by omega); have h22 : (m0 : Int) < (c7 : Int) := (by omega); have h23 : (1 : Int) < (cx : Int) := (by omega); have hwb : IntKind.i64.wrap ((0 : Int) + 1) = (0 : Int) + 1 := IntWalk.i64_in _ (by omega); have HQX := Lib.hid hqx; have HIN2 := Lib.hid (rowsP_at hin); have HM0 := Lib.hid hm0; clear hc2 hqx hnm hin hm0; simp only at z2))
          go_roundw
          case rel =>
            have hst := (HR7.out.row m0 _ _ HQX.out HIN2.out).int_store (j := 1) (by simp) ((0 : Int) + 1)
            obtain ⟨_, _, _, h5, h6⟩ := hst
            have h7 := HR7.out.upd HQX.out h6 h5
            refine ⟨k + 1, q ++ [(wr.heap.size, 2, 2)], by omega, by go_num, HB7.out.setCell (p := ⟨x, 1, none⟩) (HR7.out.rowlt _ (List.mem_of_getElem? HQX.out)).1 _, ?_⟩
            have e : rowsP (insAll (S.take (k + 1))) = (rowsP (Y ++ [(t, 0)])).set m0 [t, (0 : Int) + 1] := by
              rw [HT.out, rowsP_set ((Y ++ [(t, 0)])) m0 (t, (0 : Int) + 1), HM0.out, List.set_append_right _ _ (Nat.le_refl _), Nat.sub_self]
              rfl
            rw [e]
            exact h7
          case measure => simp [intOf]; omega
    · obtain rfl : k = n1 := by omega
      have HE : Hid (S.take k = S) := by show _ = _; rw [← HSL.out]; exact List.take_length
      go_wp2
      go_ret2
      exact ⟨A5, q.length, c5, rfl, by rw [HV.out, ← HE.out]; exact ⟨q, HQ.out.base hs2⟩, HB2.out.trans (HBr.out.mono hs2)⟩
end Go.Proofs.Ytodcacifpjakdaa
