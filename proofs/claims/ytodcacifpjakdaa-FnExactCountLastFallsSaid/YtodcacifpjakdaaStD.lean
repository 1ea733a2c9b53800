/- The model's stCounts: the table of last falls in memory. -/
import Derived.Test.YtodcacifpjakdaaStC
namespace Go.Proofs.Ytodcacifpjakdaa
open Go.RowKit

theorem ref_drop {w : World} {g : Nat} {q : List (Nat × Nat × Nat)} (h : SlAt refS w (some ⟨g, 0, none⟩) q) (k : Nat) : SlAt refS w (some ⟨g, k, none⟩) (q.drop k) := by
  have := h.drop k
  simpa [refS] using this
set_option maxRecDepth 100000 in
set_option maxHeartbeats 8000000 in
theorem stCounts_any (L : Int) (A : Option Addr) (c : Nat) (l : List Int) (w : World) (hp : plB L l = true) (hA : SlAt intS w A l) :
    Calls Try.prog 19 #[.int .i64 L, .slice A l.length c] w fun e w' => ∃ q A' n' c', e = .returned (.slice A' n' c') ∧ RowsQ q w' w.heap.size (.slice A' n' c') (rowsP (tbl L l (2 ^ l.length))) ∧ Below w.heap.size w w' := by
  obtain ⟨hh1, ⟨hl1, hl2⟩, hrow⟩ := (plB_iff L l).1 hp
  obtain ⟨i0, hi, hz0, hz1, hz2⟩ := info_parts refI
  have HA := Lib.hid hA
  have hp12 : ((2 ^ l.length : Nat) : Int) ≤ 4096 := by
    have : 2 ^ l.length ≤ 2 ^ 12 := Nat.pow_le_pow_right (by omega) hl2
    omega
  have hw : wrap64 (2 ^ l.length) = ((2 ^ l.length : Nat) : Int) := by
    have e : (2 : Int) ^ l.length = ((2 ^ l.length : Nat) : Int) := by rw [Int.natCast_pow]; rfl
    rw [e]
    have h0 : (0 : Int) ≤ ((2 ^ l.length : Nat) : Int) := Int.natCast_nonneg _
    generalize ((2 ^ l.length : Nat) : Int) = x at *
    unfold wrap64
    omega
  have HRL := Lib.hid (fun k W A c B h => speRLx L l k hp W A c B h)
  have HSR := Lib.hid (fun k hk w hA => stRod_any L A c l k w hl2 hk hA)
  have HTI := Lib.hid (fun k => tbl_in L l k hp)
  have HTL := Lib.hid (tbl_len L l)
  have HTS := Lib.hid (tbl_succ L l)
  clear hA hp hh1 hrow
  obtain ⟨T, hT⟩ : ∃ T, T = 2 ^ l.length := ⟨_, rfl⟩
  rw [← hT] at hw hp12 ⊢
  have HT := Lib.hid hT
  clear hT
  go_enter Try.func19, Try.ntmps19
  go_wp2
  go_loopw [5, 6] (fun v i wr => ∃ (k : Nat) (q : List (Nat × Nat × Nat)), k ≤ T ∧ i = .int .i64 k ∧ Below w.heap.size w wr ∧ RowsQ q wr w.heap.size v (rowsP (tbl L l k)))
    (fun _ i _ => T - (intOf i).toNat)
  case atStart => exact ⟨0, [], Nat.zero_le _, rfl, Below.refl _ _, rfl, SlOwn.nil refS w _ _, fun i x r h => by simp at h, fun i j x y _ h => by simp at h, fun x hx => by cases hx⟩
  case round =>
    obtain ⟨k, q, hk, rfl, hbr, hq⟩ := hrel
    obtain ⟨A5, c5, rfl, -, -⟩ := hq.own.form
    have HBr := Lib.hid hbr
    have HQ := Lib.hid hq
    have hsr := hbr.size
    clear hbr hq
    by_cases hlt : k < T
    · have hki : (k : Int) < (T : Int) := by omega
      have HSK := Lib.hid (HSR.out k (by rw [← HT.out]; exact hlt) wr (HA.out.below HBr.out))
      have HRK := Lib.hid (fun W A c B h => HRL.out k W A c B h)
      have HNX := Lib.hid (HTS.out k)
      have HIN := Lib.hid (HTI.out k)
      have hlen := HTL.out k
      generalize lfk L l k = t at *
      generalize tbl L l k = R at *
      have HQR : Hid (q.length = R.length) := by show _ = _; rw [HQ.out.len, rowsP_len]
      have hq4 : q.length ≤ 4096 := by have := HQR.out; omega
      go_wp2_with fail
      refine HSK.out.mono ?_
      rintro e w3 ⟨A3, n3, c3, rfl, rfl, ho3, hb3⟩
      have HB3 := Lib.hid (HBr.out.trans (hb3.mono hsr))
      have HQ3 := Lib.hid (HQ.out.below hb3)
      have HLL := Lib.hid (HRK.out w3 A3 c3 _ ho3)
      clear ho3 hb3
      go_wp2_with fail
      refine HLL.out.mono ?_
      rintro e W0 ⟨rfl, hb4⟩
      have HB0 := Lib.hid (HB3.out.trans (hb4.mono HB3.out.size))
      have HQ0 := Lib.hid (HQ3.out.below hb4)
      have hs0 : w.heap.size ≤ W0.heap.size := HB0.out.size
      clear hb4 HB3 HQ3 HLL HSK
      go_wp2
      go_loopw [8] (fun v wr => ∃ j : Nat, j ≤ R.length ∧ v = .int .i64 j ∧ W0 = wr ∧ ∀ (i : Nat) (p : Int × Int), i < j → R[i]? = some p → p.1 < t)
        (fun v _ => R.length - (intOf v).toNat)
      case atStart => exact ⟨0, Nat.zero_le _, rfl, rfl, fun i p h => absurd h (Nat.not_lt_zero i)⟩
      case round =>
        obtain ⟨j, hj, rfl, hwr, hall⟩ := hrel
        subst hwr
        have HAL := Lib.hid hall
        clear hall
        by_cases hjl : j < R.length
        · obtain ⟨p, hpj⟩ : ∃ p, R[j]? = some p := ⟨_, List.getElem?_eq_getElem hjl⟩
          have hpi := HIN.out p (List.mem_of_getElem? hpj)
          have HPJ := Lib.hid hpj
          obtain ⟨x, cx, hqj, hcx, y0, y1, yf⟩ := ref_in HQ0.out hpj
          obtain ⟨g, off, rfl, hgl, hcells⟩ := HQ0.out.own.sl.ref_at (show j < q.length by have := HQR.out; omega)
          have z0 := hcells j _ hqj
          have hjn : (j : Int) < (q.length : Int) := by have := HQR.out; omega
          have hjq : j ≤ q.length := by omega
          have hjR : (j : Int) < (R.length : Int) := by omega
          have hj0 : (0 : Int) ≤ (j : Int) := by omega
          have hcap : q.length ≤ c5 := own_cap HQ0.out.own
          have hjc : (j : Int) < (c5 : Int) := by omega
          have hcxi : (1 : Int) < (cx : Int) := by omega
          have hcxj : (0 : Int) < (cx : Int) := by omega
          have HQJ := Lib.hid hqj
          clear hpj hqj hcells
          simp only at z0
          obtain ⟨p1, p2⟩ := p
          simp only at hpi y0 y1
          have hd : decide ((j : Int) < (q.length : Int)) = true := by simpa using hjn
          by_cases hpt : p1 < t
          · have hd2 : decide (p1 < t) = true := by simpa using hpt
            go_wp2
            go_roundw
            case rel =>
              refine ⟨j + 1, by omega, by go_num, by trivial, fun i r hi hr => ?_⟩
              by_cases hij : i = j
              · subst hij
                have e := HPJ.out
                rw [hr] at e
                injection e with e
                rw [e]
                exact hpt
              · exact HAL.out i r (by omega) hr
            case measure => simp [intOf]; omega
          · have hd2 : decide (p1 < t) = false := by simpa using hpt
            have HKI : Hid (kIns R t = j) := kIns_at t R j (fun i r hi hr => HAL.out i r hi hr) (by omega) (fun r hr => by
              rw [HPJ.out] at hr
              injection hr with hr
              rw [← hr]
              exact hpt)
            by_cases heq : p1 = t
            · have hd3 : (p1 == t) = true := by simpa using heq
              have HHIT : Hid (insR R t = R.set j (p1, p2 + 1)) := by
                have h := insR_hit t R (p1, p2) (by rw [HKI.out]; exact HPJ.out) heq
                rw [HKI.out] at h
                exact h
              have hwp : IntKind.i64.wrap (p2 + 1) = p2 + 1 := IntWalk.i64_in _ (by omega)
              clear heq hpt
              go_wp2
              go_roundw
              case rel =>
                have hst := (HQ0.out.row j _ _ HQJ.out (rowsP_at HPJ.out)).int_store (j := 1) (by simp) (p2 + 1)
                obtain ⟨_, _, _, h5, h6⟩ := hst
                have h7 := HQ0.out.upd HQJ.out h6 h5
                refine ⟨k + 1, q, by omega, by go_num, HB0.out.setCell (p := ⟨x, 1, none⟩) (HQ0.out.rowlt _ (List.mem_of_getElem? HQJ.out)).1 _, ?_⟩
                rw [HNX.out, HHIT.out, ← rowsP_set]
                exact h7
              case measure => simp [intOf]; omega
            · have hd3 : (p1 == t) = false := by simpa using heq
              have HMISS : Hid (insR R t = R.take j ++ (t, 1) :: R.drop j) := by
                have h := insR_miss t R (fun r hr => by
                  rw [HKI.out, HPJ.out] at hr
                  injection hr with hr
                  rw [← hr]
                  exact heq)
                rw [HKI.out] at h
                exact h
              clear heq hpt
              obtain rfl : off = 0 := by
                rcases HQ0.out.own.2 with ⟨h1, _⟩ | ⟨g', cap, cur, hv, _⟩
                · cases h1
                · injection hv with hv _ _
                  injection hv with hv
                  injection hv
              have hck2 : decide (c5 = j) = false := by simp; omega
              have hck3 : ¬ c5 = j := by omega
              simp only [Nat.zero_add] at z0
              have HOE : Hid (SlOwn refS (W0.alloc (Obj.cells #[] 22)) W0.heap.size 22 (.slice (some ⟨W0.heap.size, 0, none⟩) 0 0) []) := own_empty refS W0 _
              have HSL : Hid (SlAt refS W0 (some ⟨g, 0, none⟩) q) := HQ0.out.own.sl
              have HT1 : Hid (SlAt refS (W0.alloc (Obj.cells #[] 22)) (some ⟨g, 0, none⟩) (q.take j)) := (HSL.out.below ((Below.refl _ _).alloc (Nat.le_refl _) _)).take j
              have NK : Hid (j = (q.take j).length) := by show _ = _; rw [List.length_take]; omega
              have ND : Hid (q.length - j = (q.drop j).length) := by show _ = _; rw [List.length_drop]
              have LE1 : Hid (([] : List (Nat × Nat × Nat)).length + (q.take j).length ≤ 1048576) := by show _ ≤ _; simp only [List.length_take, List.length_nil]; omega
              have LE2 : Hid (([] ++ q.take j).length + [((0 : Nat), 2, 2)].length ≤ 1048576) := by show _ ≤ _; simp only [List.length_append, List.length_take, List.length_nil, List.length_cons]; omega
              have LE3 : Hid (([] ++ q.take j ++ [((0 : Nat), 2, 2)]).length + (q.drop j).length ≤ 1048576) := by show _ ≤ _; simp only [List.length_append, List.length_take, List.length_nil, List.length_cons, List.length_drop]; omega
              go_wp2_with (at_builtin; first
                | (refine wpList_append_slsg refS _ rfl _ _ 23 rfl W0.heap.size 22 i0 _ 24 Try.underlying23 hi hz0 hz1 hz2 rfl (by decide) _ ([] ++ q.take j ++ [(g5, 2, 2)]) rfl HO6.out (some ⟨g, j, none⟩) _ _ (q.drop j) rfl (by first | exact ND.out | exact ND0.out) HD6.out (by have := LE3.out; simp only [List.length_append, List.length_cons, List.length_nil] at this ⊢; omega) HZ6.out ?_; intro A7 n7 k7 w7 hn7 ho7 hb7 hg7; have HO7 := Lib.hid ho7; have HB7 := Lib.hid (HB6.out.trans hb7); have HR7 := Lib.hid (own_keep HR6.out HO6.out (by decide) hg7); clear hn7 ho7 hb7 hg7)
                | (refine wpList_append_slsg refS _ rfl _ _ 23 rfl W0.heap.size 22 i0 _ 24 Try.underlying23 hi hz0 hz1 hz2 rfl (by decide) _ ([] ++ q.take j) rfl (HO5.out.below (((Below.refl _ _).alloc (Nat.le_refl _) _).alloc (by simp) _)) (some ⟨w5.heap.size + 1, 0, none⟩) 1 1 [(w5.heap.size, 2, 2)] rfl rfl (slAt_ref1 (heap_new (by simp))) LE2.out (by have := HB5.out.size; simp; omega) ?_; intro A6 n6 k6 w6 hn6 ho6 hb6 hg6; have HO6 := Lib.hid ho6; have HB6 := Lib.hid (((HB5.out.alloc HB5.out.size _).alloc (by have := HB5.out.size; simp; omega) _).trans hb6); have HR6 := Lib.hid (own_keep (((own_fresh intS w5 3 [t, 1] #[.int .i64 t, .int .i64 1] rfl (by simp)).base HB5.out.size).below ((Below.refl _ _).alloc (Nat.le_refl _) _)) (HO5.out.below (((Below.refl _ _).alloc (Nat.le_refl _) _).alloc (by simp) _)) (by decide) hg6); have HZ6 : Hid (W0.heap.size ≤ w6.heap.size) := HB6.out.size; have HD6 : Hid (SlAt refS w6 (some ⟨g, j, none⟩) (q.drop j)) := (ref_drop (HSL.out.below HB6.out) j); obtain ⟨g5, hg5e⟩ : ∃ g5, g5 = w5.heap.size := ⟨_, rfl⟩; have HG5 : Hid (W0.heap.size ≤ g5) := (by rw [hg5e]; exact HB5.out.size); rw [← hg5e] at HO6 HR6; clear hn6 ho6 hb6 hg6 hg5e)
                | (refine wpList_append_slsg refS _ rfl _ _ 23 rfl W0.heap.size 22 i0 _ 24 Try.underlying23 hi hz0 hz1 hz2 rfl (by decide) _ [] rfl HOE.out (some ⟨g, 0, none⟩) _ _ (q.take j) rfl NK.out HT1.out LE1.out (by simp) ?_; intro A5x n5 k5 w5 hn5 ho5 hb5 hg5; have HO5 := Lib.hid ho5; have HB5 : Hid (Below W0.heap.size W0 w5) := (((Below.refl _ _).alloc (Nat.le_refl _) _).trans hb5); clear hn5 ho5 hb5 hg5))
              go_roundw
              case rel =>
                refine ⟨k + 1, ([] ++ q.take j ++ [(g5, 2, 2)]) ++ q.drop j, by omega, by go_num, HB0.out.trans (HB7.out.mono HB0.out.size), ?_⟩
                rw [HNX.out, HMISS.out, rowsP_ins]
                exact RowsQ.ins HQ0.out HB7.out HB0.out.size HG5.out (HR7.out.base (by omega)) HO7.out (by omega)
              case measure => simp [intOf]; omega
        · obtain rfl : j = R.length := by omega
          have HKI : Hid (kIns R t = R.length) := kIns_at t R R.length (fun i r hi hr => HAL.out i r hi hr) (Nat.le_refl _) (fun r hr => by rw [List.getElem?_eq_none (Nat.le_refl _)] at hr; cases hr)
          have HMISS : Hid (insR R t = R.take R.length ++ (t, 1) :: R.drop R.length) := by
            have h := insR_miss t R (fun r hr => by rw [HKI.out, List.getElem?_eq_none (Nat.le_refl _)] at hr; cases hr)
            rw [HKI.out] at h
            exact h
          obtain ⟨j, hjR⟩ : ∃ j, j = R.length := ⟨_, rfl⟩
          have hjq : j ≤ q.length := by have := HQR.out; omega
          have hjq2 : q.length ≤ j := by have := HQR.out; omega
          have hd : decide ((j : Int) < (q.length : Int)) = false := by simp; omega
          rw [← hjR] at HMISS ⊢
          have HJR := Lib.hid hjR
          clear hjR
          have hcpq : q.length ≤ c5 := own_cap HQ0.out.own
          have hjcc : j ≤ c5 := by omega
          rcases HQ0.out.own.2 with ⟨hv, h0⟩ | ⟨g, cap, cur, hv, _⟩
          · injection hv with e1 e2 e3
            subst e1
            subst e3
            have HQ00 : Hid (q = []) := List.eq_nil_of_length_eq_zero h0
            obtain rfl : j = 0 := by omega
            have HOE : Hid (SlOwn refS (W0.alloc (Obj.cells #[] 22)) W0.heap.size 22 (.slice (some ⟨W0.heap.size, 0, none⟩) 0 0) []) := own_empty refS W0 _
            have HSL : Hid (SlAt refS W0 none q) := HQ0.out.own.sl
            have HT1 : Hid (SlAt refS (W0.alloc (Obj.cells #[] 22)) none (q.take 0)) := (HSL.out.below ((Below.refl _ _).alloc (Nat.le_refl _) _)).take 0
            have NK : Hid (0 = (q.take 0).length) := by show _ = _; rw [List.length_take]; omega
            have ND : Hid (0 = (q.drop 0).length) := by show _ = _; rw [List.length_drop]; omega
            have LE1 : Hid (([] : List (Nat × Nat × Nat)).length + (q.take 0).length ≤ 1048576) := by show _ ≤ _; simp only [List.length_take, List.length_nil]; omega
            have LE2 : Hid (([] ++ q.take 0).length + [((0 : Nat), 2, 2)].length ≤ 1048576) := by show _ ≤ _; simp only [List.length_append, List.length_take, List.length_nil, List.length_cons]; omega
            have LE3 : Hid (([] ++ q.take 0 ++ [((0 : Nat), 2, 2)]).length + (q.drop 0).length ≤ 1048576) := by show _ ≤ _; simp only [List.length_append, List.length_take, List.length_nil, List.length_cons, List.length_drop]; omega
            go_wp2_with (at_builtin; first
              | (refine wpList_append_slsg refS _ rfl _ _ 23 rfl W0.heap.size 22 i0 _ 24 Try.underlying23 hi hz0 hz1 hz2 rfl (by decide) _ ([] ++ q.take 0 ++ [(g5, 2, 2)]) rfl HO6.out none _ _ (q.drop 0) rfl (by first | exact ND.out | exact ND0.out) HD6.out (by have := LE3.out; simp only [List.length_append, List.length_cons, List.length_nil] at this ⊢; omega) HZ6.out ?_; intro A7 n7 k7 w7 hn7 ho7 hb7 hg7; have HO7 := Lib.hid ho7; have HB7 := Lib.hid (HB6.out.trans hb7); have HR7 := Lib.hid (own_keep HR6.out HO6.out (by decide) hg7); clear hn7 ho7 hb7 hg7)
              | (refine wpList_append_slsg refS _ rfl _ _ 23 rfl W0.heap.size 22 i0 _ 24 Try.underlying23 hi hz0 hz1 hz2 rfl (by decide) _ ([] ++ q.take 0) rfl (HO5.out.below (((Below.refl _ _).alloc (Nat.le_refl _) _).alloc (by simp) _)) (some ⟨w5.heap.size + 1, 0, none⟩) 1 1 [(w5.heap.size, 2, 2)] rfl rfl (slAt_ref1 (heap_new (by simp))) LE2.out (by have := HB5.out.size; simp; omega) ?_; intro A6 n6 k6 w6 hn6 ho6 hb6 hg6; have HO6 := Lib.hid ho6; have HB6 := Lib.hid (((HB5.out.alloc HB5.out.size _).alloc (by have := HB5.out.size; simp; omega) _).trans hb6); have HR6 := Lib.hid (own_keep (((own_fresh intS w5 3 [t, 1] #[.int .i64 t, .int .i64 1] rfl (by simp)).base HB5.out.size).below ((Below.refl _ _).alloc (Nat.le_refl _) _)) (HO5.out.below (((Below.refl _ _).alloc (Nat.le_refl _) _).alloc (by simp) _)) (by decide) hg6); have HZ6 : Hid (W0.heap.size ≤ w6.heap.size) := HB6.out.size; have HD6 : Hid (SlAt refS w6 none (q.drop 0)) := (.inl (by rw [HQ00.out]; rfl)); obtain ⟨g5, hg5e⟩ : ∃ g5, g5 = w5.heap.size := ⟨_, rfl⟩; have HG5 : Hid (W0.heap.size ≤ g5) := (by rw [hg5e]; exact HB5.out.size); rw [← hg5e] at HO6 HR6; clear hn6 ho6 hb6 hg6 hg5e)
              | (refine wpList_append_slsg refS _ rfl _ _ 23 rfl W0.heap.size 22 i0 _ 24 Try.underlying23 hi hz0 hz1 hz2 rfl (by decide) _ [] rfl HOE.out none _ _ (q.take 0) rfl NK.out HT1.out LE1.out (by simp) ?_; intro A5x n5 k5 w5 hn5 ho5 hb5 hg5; have HO5 := Lib.hid ho5; have HB5 : Hid (Below W0.heap.size W0 w5) := (((Below.refl _ _).alloc (Nat.le_refl _) _).trans hb5); clear hn5 ho5 hb5 hg5))
            go_roundw
            case rel =>
              refine ⟨k + 1, ([] ++ q.take 0 ++ [(g5, 2, 2)]) ++ q.drop 0, by omega, by go_num, HB0.out.trans (HB7.out.mono HB0.out.size), ?_⟩
              rw [HNX.out, HMISS.out, rowsP_ins]
              exact RowsQ.ins HQ0.out HB7.out HB0.out.size HG5.out (HR7.out.base (by omega)) HO7.out (by omega)
            case measure => simp [intOf]; omega
          · injection hv with e1 e2 e3
            subst e1
            clear e2 e3
            by_cases hck : c5 = j
            · have ND0 : Hid (0 = (q.drop j).length) := by show _ = _; rw [List.length_drop]; omega
              have hnil : q.drop j = [] := List.drop_eq_nil_of_le (by omega)
              have HOE : Hid (SlOwn refS (W0.alloc (Obj.cells #[] 22)) W0.heap.size 22 (.slice (some ⟨W0.heap.size, 0, none⟩) 0 0) []) := own_empty refS W0 _
              have HSL : Hid (SlAt refS W0 (some ⟨g, 0, none⟩) q) := HQ0.out.own.sl
              have HT1 : Hid (SlAt refS (W0.alloc (Obj.cells #[] 22)) (some ⟨g, 0, none⟩) (q.take j)) := (HSL.out.below ((Below.refl _ _).alloc (Nat.le_refl _) _)).take j
              have NK : Hid (j = (q.take j).length) := by show _ = _; rw [List.length_take]; omega
              have ND : Hid (q.length - j = (q.drop j).length) := by show _ = _; rw [List.length_drop]
              have LE1 : Hid (([] : List (Nat × Nat × Nat)).length + (q.take j).length ≤ 1048576) := by show _ ≤ _; simp only [List.length_take, List.length_nil]; omega
              have LE2 : Hid (([] ++ q.take j).length + [((0 : Nat), 2, 2)].length ≤ 1048576) := by show _ ≤ _; simp only [List.length_append, List.length_take, List.length_nil, List.length_cons]; omega
              have LE3 : Hid (([] ++ q.take j ++ [((0 : Nat), 2, 2)]).length + (q.drop j).length ≤ 1048576) := by show _ ≤ _; simp only [List.length_append, List.length_take, List.length_nil, List.length_cons, List.length_drop]; omega
              go_wp2_with (at_builtin; first
                | (refine wpList_append_slsg refS _ rfl _ _ 23 rfl W0.heap.size 22 i0 _ 24 Try.underlying23 hi hz0 hz1 hz2 rfl (by decide) _ ([] ++ q.take j ++ [(g5, 2, 2)]) rfl HO6.out (some ⟨g, 0, none⟩) _ _ (q.drop j) rfl (by first | exact ND.out | exact ND0.out) HD6.out (by have := LE3.out; simp only [List.length_append, List.length_cons, List.length_nil] at this ⊢; omega) HZ6.out ?_; intro A7 n7 k7 w7 hn7 ho7 hb7 hg7; have HO7 := Lib.hid ho7; have HB7 := Lib.hid (HB6.out.trans hb7); have HR7 := Lib.hid (own_keep HR6.out HO6.out (by decide) hg7); clear hn7 ho7 hb7 hg7)
                | (refine wpList_append_slsg refS _ rfl _ _ 23 rfl W0.heap.size 22 i0 _ 24 Try.underlying23 hi hz0 hz1 hz2 rfl (by decide) _ ([] ++ q.take j) rfl (HO5.out.below (((Below.refl _ _).alloc (Nat.le_refl _) _).alloc (by simp) _)) (some ⟨w5.heap.size + 1, 0, none⟩) 1 1 [(w5.heap.size, 2, 2)] rfl rfl (slAt_ref1 (heap_new (by simp))) LE2.out (by have := HB5.out.size; simp; omega) ?_; intro A6 n6 k6 w6 hn6 ho6 hb6 hg6; have HO6 := Lib.hid ho6; have HB6 := Lib.hid (((HB5.out.alloc HB5.out.size _).alloc (by have := HB5.out.size; simp; omega) _).trans hb6); have HR6 := Lib.hid (own_keep (((own_fresh intS w5 3 [t, 1] #[.int .i64 t, .int .i64 1] rfl (by simp)).base HB5.out.size).below ((Below.refl _ _).alloc (Nat.le_refl _) _)) (HO5.out.below (((Below.refl _ _).alloc (Nat.le_refl _) _).alloc (by simp) _)) (by decide) hg6); have HZ6 : Hid (W0.heap.size ≤ w6.heap.size) := HB6.out.size; have HD6 : Hid (SlAt refS w6 (some ⟨g, 0, none⟩) (q.drop j)) := (.inl hnil); obtain ⟨g5, hg5e⟩ : ∃ g5, g5 = w5.heap.size := ⟨_, rfl⟩; have HG5 : Hid (W0.heap.size ≤ g5) := (by rw [hg5e]; exact HB5.out.size); rw [← hg5e] at HO6 HR6; clear hn6 ho6 hb6 hg6 hg5e)
                | (refine wpList_append_slsg refS _ rfl _ _ 23 rfl W0.heap.size 22 i0 _ 24 Try.underlying23 hi hz0 hz1 hz2 rfl (by decide) _ [] rfl HOE.out (some ⟨g, 0, none⟩) _ _ (q.take j) rfl NK.out HT1.out LE1.out (by simp) ?_; intro A5x n5 k5 w5 hn5 ho5 hb5 hg5; have HO5 := Lib.hid ho5; have HB5 : Hid (Below W0.heap.size W0 w5) := (((Below.refl _ _).alloc (Nat.le_refl _) _).trans hb5); clear hn5 ho5 hb5 hg5))
              go_roundw
              case rel =>
                refine ⟨k + 1, ([] ++ q.take j ++ [(g5, 2, 2)]) ++ q.drop j, by omega, by go_num, HB0.out.trans (HB7.out.mono HB0.out.size), ?_⟩
                rw [HNX.out, HMISS.out, rowsP_ins]
                exact RowsQ.ins HQ0.out HB7.out HB0.out.size HG5.out (HR7.out.base (by omega)) HO7.out (by omega)
              case measure => simp [intOf]; omega
            · have ND0 : Hid (0 = (q.drop j).length) := by show _ = _; rw [List.length_drop]; omega
              have hck2 : decide (c5 = j) = false := by simpa using hck
              have HOE : Hid (SlOwn refS (W0.alloc (Obj.cells #[] 22)) W0.heap.size 22 (.slice (some ⟨W0.heap.size, 0, none⟩) 0 0) []) := own_empty refS W0 _
              have HSL : Hid (SlAt refS W0 (some ⟨g, 0, none⟩) q) := HQ0.out.own.sl
              have HT1 : Hid (SlAt refS (W0.alloc (Obj.cells #[] 22)) (some ⟨g, 0, none⟩) (q.take j)) := (HSL.out.below ((Below.refl _ _).alloc (Nat.le_refl _) _)).take j
              have NK : Hid (j = (q.take j).length) := by show _ = _; rw [List.length_take]; omega
              have ND : Hid (q.length - j = (q.drop j).length) := by show _ = _; rw [List.length_drop]
              have LE1 : Hid (([] : List (Nat × Nat × Nat)).length + (q.take j).length ≤ 1048576) := by show _ ≤ _; simp only [List.length_take, List.length_nil]; omega
              have LE2 : Hid (([] ++ q.take j).length + [((0 : Nat), 2, 2)].length ≤ 1048576) := by show _ ≤ _; simp only [List.length_append, List.length_take, List.length_nil, List.length_cons]; omega
              have LE3 : Hid (([] ++ q.take j ++ [((0 : Nat), 2, 2)]).length + (q.drop j).length ≤ 1048576) := by show _ ≤ _; simp only [List.length_append, List.length_take, List.length_nil, List.length_cons, List.length_drop]; omega
              go_wp2_with (at_builtin; first
                | (refine wpList_append_slsg refS _ rfl _ _ 23 rfl W0.heap.size 22 i0 _ 24 Try.underlying23 hi hz0 hz1 hz2 rfl (by decide) _ ([] ++ q.take j ++ [(g5, 2, 2)]) rfl HO6.out (some ⟨g, j, none⟩) _ _ (q.drop j) rfl (by first | exact ND.out | exact ND0.out) HD6.out (by have := LE3.out; simp only [List.length_append, List.length_cons, List.length_nil] at this ⊢; omega) HZ6.out ?_; intro A7 n7 k7 w7 hn7 ho7 hb7 hg7; have HO7 := Lib.hid ho7; have HB7 := Lib.hid (HB6.out.trans hb7); have HR7 := Lib.hid (own_keep HR6.out HO6.out (by decide) hg7); clear hn7 ho7 hb7 hg7)
                | (refine wpList_append_slsg refS _ rfl _ _ 23 rfl W0.heap.size 22 i0 _ 24 Try.underlying23 hi hz0 hz1 hz2 rfl (by decide) _ ([] ++ q.take j) rfl (HO5.out.below (((Below.refl _ _).alloc (Nat.le_refl _) _).alloc (by simp) _)) (some ⟨w5.heap.size + 1, 0, none⟩) 1 1 [(w5.heap.size, 2, 2)] rfl rfl (slAt_ref1 (heap_new (by simp))) LE2.out (by have := HB5.out.size; simp; omega) ?_; intro A6 n6 k6 w6 hn6 ho6 hb6 hg6; have HO6 := Lib.hid ho6; have HB6 := Lib.hid (((HB5.out.alloc HB5.out.size _).alloc (by have := HB5.out.size; simp; omega) _).trans hb6); have HR6 := Lib.hid (own_keep (((own_fresh intS w5 3 [t, 1] #[.int .i64 t, .int .i64 1] rfl (by simp)).base HB5.out.size).below ((Below.refl _ _).alloc (Nat.le_refl _) _)) (HO5.out.below (((Below.refl _ _).alloc (Nat.le_refl _) _).alloc (by simp) _)) (by decide) hg6); have HZ6 : Hid (W0.heap.size ≤ w6.heap.size) := HB6.out.size; have HD6 : Hid (SlAt refS w6 (some ⟨g, j, none⟩) (q.drop j)) := (ref_drop (HSL.out.below HB6.out) j); obtain ⟨g5, hg5e⟩ : ∃ g5, g5 = w5.heap.size := ⟨_, rfl⟩; have HG5 : Hid (W0.heap.size ≤ g5) := (by rw [hg5e]; exact HB5.out.size); rw [← hg5e] at HO6 HR6; clear hn6 ho6 hb6 hg6 hg5e)
                | (refine wpList_append_slsg refS _ rfl _ _ 23 rfl W0.heap.size 22 i0 _ 24 Try.underlying23 hi hz0 hz1 hz2 rfl (by decide) _ [] rfl HOE.out (some ⟨g, 0, none⟩) _ _ (q.take j) rfl NK.out HT1.out LE1.out (by simp) ?_; intro A5x n5 k5 w5 hn5 ho5 hb5 hg5; have HO5 := Lib.hid ho5; have HB5 : Hid (Below W0.heap.size W0 w5) := (((Below.refl _ _).alloc (Nat.le_refl _) _).trans hb5); clear hn5 ho5 hb5 hg5))
              go_roundw
              case rel =>
                refine ⟨k + 1, ([] ++ q.take j ++ [(g5, 2, 2)]) ++ q.drop j, by omega, by go_num, HB0.out.trans (HB7.out.mono HB0.out.size), ?_⟩
                rw [HNX.out, HMISS.out, rowsP_ins]
                exact RowsQ.ins HQ0.out HB7.out HB0.out.size HG5.out (HR7.out.base (by omega)) HO7.out (by omega)
              case measure => simp [intOf]; omega
    · obtain rfl : k = T := by omega
      go_wp2
      go_ret
      exact ⟨q, A5, q.length, c5, rfl, HQ.out, HBr.out⟩
end Go.Proofs.Ytodcacifpjakdaa
