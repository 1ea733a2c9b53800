/- Balls on the program's side: the way of bounces. -/
import Derived.Test.YtikmkmpekjijpaaPaU
import Derived.Test.YtikmkmpekjijpaaBalI
namespace Go.Proofs.Ytikmkmpekjijpaa
open Go.RowKit

theorem slW (b off N c k : Nat) (h : k + 1 ≤ c) : ∃ A, (∀ w : World, (Instr.sliceAt 37 (.slice (some ⟨b, off, none⟩) N c) (some (.int .i64 1)) (some (.int .i64 ((k : Int) + 1))) none).run Try.prog w = .ok (.slice A k (c - 1)) w) ∧ A = (if c = 0 + 1 then some ⟨b, off, none⟩ else some ⟨b, off + (0 + 1) * 2, none⟩) := by
  refine ⟨_, fun w => ?_, rfl⟩
  have ht' : Try.prog.underlying 37 = some (.slice (Try.prog.elem 37)) := by simp [Program.elem, Try.underlying37]
  have he : Try.prog.elem 37 = 25 := by simp [Program.elem, Try.underlying37]
  rw [run_sliceAt_slice w 37 _ _ _ _ ht', run_slice_lh w 37 _ _ _ ht' .i64 .i64 1 ((k : Int) + 1) (by omega) (by omega) (by omega), he, Try.sizeOf25]
  by_cases hc : c = 1
  · subst hc
    obtain rfl : k = 0 := by omega
    simp [Result.andThen, sliced]
  · have h2 : ((k : Int) + 1).toNat = k + 1 := by omega
    simp [Result.andThen, sliced, Addr.add, hc, h2]
theorem ws_sm {p : Int × Int} (h : keB p = true) {k : Nat} (hk : hgOk p k = true) (w : World) :
    Calls Try.prog 90 #[.agg #[.int .i64 1, .int .i64 1], .agg #[.int .i64 (twS p k).1, .int .i64 (twS p k).2]] w fun e w' => e = .returned (.agg #[.int .i64 (wsP p k).1, .int .i64 (wsP p k).2]) ∧ Below w.heap.size w w' :=
  plus_any 1 1 40000000 1000000 (1, 1) (twS p k) w (smB_one 1 (by decide)) (twS_sm h hk) (by decide) (by decide) (by decide) (by decide)
/-- what the variable holds ahead of the k-th round -/
def wvP (p : Int × Int) : Nat → Int × Int
  | 0 => (0, 1)
  | k + 1 => wsP p k
theorem wa_out {p : Int × Int} {b : Int} (h : ¬ (1 ≤ b ∧ b ≤ 20)) : waV p b = (0, 0) ∧ waOk p b = false :=
  wa_f (haB_f2 (by rw [← Bool.not_eq_true, Bool.and_eq_true, decide_eq_true_eq, decide_eq_true_eq]; exact h))
theorem wa_far {p : Int × Int} {k : Nat} (h : keB p = true) (h1 : k + 1 ≤ 20) (hk : hgN p < k + 1) : waV p ((k : Int) + 1) = (0, 0) ∧ waOk p ((k : Int) + 1) = false := by
  obtain ⟨e1, e2⟩ := wa_t (p := p) (b := (k : Int) + 1) (haB_t h (by simp; omega))
  have hk1 : ((k : Int) + 1).toNat - 1 = k := by omega
  rw [hk1] at e1 e2
  have hno : wyOk p k = false := by
    obtain ⟨q1, _, q3, _⟩ := hgN_spec h
    obtain ⟨j, hj⟩ : ∃ j, hgN p = j + 1 := ⟨hgN p - 1, by omega⟩
    rw [hj] at q1 hk
    exact wy_no (wy_stop q1) (by omega)
  rw [e1, e2, hno]
  exact ⟨rfl, rfl⟩
theorem wa_near {p : Int × Int} {k : Nat} (h : keB p = true) (h1 : k + 1 ≤ 20) (hk : k < hgN p) :
    (∀ j, j ≤ k → paP (wsP p j) = false → waV p ((k : Int) + 1) = (0, 0) ∧ waOk p ((k : Int) + 1) = false) ∧ ((∀ j, j ≤ k → paP (wsP p j) = true) → waV p ((k : Int) + 1) = wsP p k ∧ waOk p ((k : Int) + 1) = true) := by
  obtain ⟨e1, e2⟩ := wa_t (p := p) (b := (k : Int) + 1) (haB_t h (by simp; omega))
  have hk1 : ((k : Int) + 1).toNat - 1 = k := by omega
  rw [hk1] at e1 e2
  obtain ⟨w1, w2⟩ := wy_ws h k (by rw [hgOk_iff h]; simpa using hk)
  refine ⟨fun j hj hf => ?_, fun hall => ?_⟩
  · have hno : wyOk p k = false := by
      rw [w1, decide_eq_false_iff_not]
      intro hh; rw [hh j hj] at hf; cases hf
    rw [e1, e2, hno]; exact ⟨rfl, rfl⟩
  · have hyes : wyOk p k = true := by rw [w1, decide_eq_true_eq]; exact hall
    rw [e1, e2, if_pos hyes, w2 hyes]; exact ⟨rfl, hyes⟩

set_option maxRecDepth 100000 in
set_option maxHeartbeats 8000000 in
theorem implWayOfBounces_any (p : Int × Int) (b : Int) (w : World) :
    Calls Try.prog 56 #[.agg #[.int .i64 p.1, .int .i64 p.2], .int .i64 b] w fun e w' =>
      e = .returned (.tuple #[.agg #[.int .i64 (waV p b).1, .int .i64 (waV p b).2], .bool (waOk p b)]) ∧ Below w.heap.size w w' := by
  cases h1 : keB p with
  | false =>
    have HV := Lib.hid (wa_f (haB_f1 (b := b) (lo := 1) h1))
    have H1 := Lib.hid (isKept_at p false h1)
    generalize waV p b = V at *
    generalize waOk p b = R at *
    clear h1
    obtain ⟨p1, p2⟩ := p
    simp only at H1 ⊢
    go_enter Try.func56, Try.ntmps56
    go_wp2_with fail
    refine (H1.out _).mono ?_
    rintro e w1 ⟨rfl, hb⟩
    obtain ⟨s, c0, c1, f0, f1⟩ := ((PZ.start2 w _ 25).below hb).parts
    have HB := Lib.hid ((Below.two w _ _).trans (hb.mono (by simp; omega)))
    clear hb
    go_wp2
    exact bodyPost_ret (v := .tuple #[.agg #[.int .i64 0, .int .i64 0], .bool false]) (by simp [results, Try.results56, go_sem, c0, c1]) rfl ⟨by rw [HV.out.1, HV.out.2], below_set2 HB.out _ _ (by omega)⟩
  | true =>
    have H1 := Lib.hid (isKept_at p true h1)
    by_cases hb1 : 1 ≤ b
    · by_cases hb2 : b ≤ 20
      · obtain ⟨K, rfl⟩ : ∃ K : Nat, b = (K : Int) + 1 := ⟨(b - 1).toNat, by omega⟩
        have HH := Lib.hid (fun w => heightsOf_any p w h1)
        have hN := (hgN_spec h1).2.2.2
        by_cases hk : K < hgN p
        · have HWA := Lib.hid (wa_near h1 (by omega) hk)
          have HOK : Hid (∀ k, k ≤ K → hgOk p k = true) := fun k hkk => (hgN_spec h1).2.1 k (by omega)
          have HPL : Hid (∀ k, k ≤ K → ∀ w, Calls Try.prog 90 #[.agg #[.int .i64 1, .int .i64 1], .agg #[.int .i64 (twS p k).1, .int .i64 (twS p k).2]] w fun e w' => e = .returned (.agg #[.int .i64 (wsP p k).1, .int .i64 (wsP p k).2]) ∧ Below w.heap.size w w') := fun k hkk w => ws_sm h1 (HOK.out k hkk) w
          have HSB : Hid (∀ k, k ≤ K → ∀ (A : Option Addr) (c : Nat) (W : World), SlAt pairS W A (((hgL p (hgN p)).drop 1).take k) → Calls Try.prog 91 #[.func (.func 92) #[] #[], .slice A k c] W fun e w' => e = .returned (.agg #[.int .i64 (twS p k).1, .int .i64 (twS p k).2]) ∧ Below W.heap.size W w') := fun k hkk A c W hA => by
            have hlen : (((hgL p (hgN p)).drop 1).take k).length = k := by rw [List.length_take, List.length_drop, hgL_len]; omega
            have := sumTwice_any p A c (((hgL p (hgN p)).drop 1).take k) W h1 (by rw [hlen]; exact HOK.out k hkk) (fun j hj => by
              rw [hlen] at hj
              rw [List.getD_eq_getElem?_getD, List.getElem?_take_of_lt hj, List.getElem?_drop, ← List.getD_eq_getElem?_getD, hgL_at p (by omega), Nat.add_comm]) hA
            rwa [hlen] at this
          have HIP : Hid (∀ k w, Calls Try.prog 21 #[.agg #[.int .i64 (wsP p k).1, .int .i64 (wsP p k).2]] w fun e w' => e = .returned (.bool (paP (wsP p k))) ∧ Below w.heap.size w w') := fun k w => isPace_any _ _ w
          have HW0 : Hid (wvP p 0 = (0, 1)) := rfl
          have HWS : Hid (∀ k, wvP p (k + 1) = wsP p k) := fun _ => rfl
          have HNL := Lib.hid (hgL_len p (hgN p))
          have hN1 := (hgN_spec h1).2.2.1
          generalize waV p ((K : Int) + 1) = V at *
          generalize waOk p ((K : Int) + 1) = R at *
          generalize hgN p = N at *
          generalize hgL p N = L at *
          generalize wvP p = WV at *
          generalize wsP p = WS at *
          generalize twS p = TS at *
          clear h1 HOK
          obtain ⟨p1, p2⟩ := p
          simp only at H1 HH ⊢
          have hq1 : ¬ (K : Int) + 1 < 1 := by omega
          have hq2 : ¬ (20 : Int) < (K : Int) + 1 := by omega
          have hq3 : ¬ (N : Int) < (K : Int) + 1 := by omega
          go_enter Try.func56, Try.ntmps56
          go_wp2_with fail
          refine (H1.out _).mono ?_
          rintro e w1 ⟨rfl, hb⟩
          have HK := Lib.hid (((PC.start w p1 p2 25).grow _).below hb)
          have HZ : Hid (PC (w.heap.size + 1) (0, 0) w1) := ((PC.at1 w _ 0 0 25).below hb)
          obtain ⟨_, k0, k1, _, _⟩ := HK.out.parts
          simp only at k0 k1
          have HB := Lib.hid ((Below.two w _ _).trans (hb.mono (by simp; omega)))
          clear hb
          go_wp2_with fail
          refine (HH.out _).mono ?_
          rintro e w2 ⟨Ah, n, c, rfl, rfl, ho, hb⟩
          have HZ2 := Lib.hid (HZ.out.below hb)
          have HB2 := Lib.hid (HB.out.trans (hb.mono HB.out.size))
          have hNc : n ≤ c := own_cap ho
          obtain ⟨bb, off, rfl, l0, _⟩ := ho.sl.at_ (show 0 < L.length by rw [HNL.out]; omega)
          have HSL2 := Lib.hid ho.sl
          clear hb ho k0 k1
          go_wp2_with fail
          refine (whole_any 0 _).mono ?_
          rintro e w3 ⟨rfl, hb⟩
          have HZ3 := Lib.hid ((HZ2.out.below hb).grow (Obj.cells #[Value.int .i64 0, Value.int .i64 1] 25))
          have HSL3 := Lib.hid ((HSL2.out.below hb).alloc (Obj.cells #[Value.int .i64 0, Value.int .i64 1] 25))
          have HBb := Lib.hid (HB2.out.trans (hb.mono HB2.out.size))
          have HB3 := Lib.hid (HBb.out.alloc HBb.out.size (Obj.cells #[Value.int .i64 0, Value.int .i64 1] 25))
          have HT3 := Lib.hid (PC.start w3 0 1 25)
          have hT1 : w.heap.size + 1 < w3.heap.size := Nat.lt_of_lt_of_le HZ2.out.lt hb.size
          have hT2 : bb < w3.heap.size := Nat.lt_of_lt_of_le l0 hb.size
          clear hb HBb
          go_wp2
          go_loopw [8] (fun i wr => ∃ k : Nat, k ≤ K + 1 ∧ i = .int .i64 ((k : Int) + 1) ∧ Below w.heap.size w wr ∧ PC (w.heap.size + 1) (0, 0) wr ∧ PC w3.heap.size (WV k) wr ∧ SlAt pairS wr (some ⟨bb, off, none⟩) L ∧ ∀ j, j < k → paP (WS j) = true)
            (fun i _ => K + 2 - (intOf i).toNat)
          case atStart => exact ⟨0, by omega, rfl, HB3.out, HZ3.out, by rw [HW0.out]; exact HT3.out, HSL3.out, fun j hj => absurd hj (by omega)⟩
          case round =>
            obtain ⟨k, hkk, rfl, hbr, hpz, hpt, hsl, hall⟩ := hrel
            have HBr := Lib.hid hbr
            have HPZ := Lib.hid hpz
            have HPT := Lib.hid hpt
            have HSL := Lib.hid hsl
            have HAL := Lib.hid hall
            by_cases hlt : k ≤ K
            · have kw : (k : Int) + 1 ≤ (K : Int) + 1 := by omega
              have kw1 : IntKind.i64.wrap ((k : Int) + 1 + 1) = (k : Int) + 1 + 1 := IntWalk.i64_in _ (by omega)
              have kw2 : IntKind.i64.wrap ((k : Int) + 1) = (k : Int) + 1 := IntWalk.i64_in _ (by omega)
              obtain ⟨A', sle, hA'⟩ := slW bb off n c k (by omega)
              have HSA : ∀ W : World, SlAt pairS W (some ⟨bb, off, none⟩) L → SlAt pairS W A' ((L.drop 1).take k) := fun W h => by
                rw [hA']; exact (h.dropIf 0 c (by rw [HNL.out]; exact hNc)).take k
              have HSA := Lib.hid HSA
              have HSBk := Lib.hid (HSB.out k hlt A' (c - 1))
              have HPLk := Lib.hid (HPL.out k hlt)
              have HIPk := Lib.hid (HIP.out k)
              have HWSk := Lib.hid (HWS.out k)
              have HWH := Lib.hid (whole_any 1)
              obtain ⟨⟨t1, t2⟩, ht⟩ : ∃ x, TS k = x := ⟨_, rfl⟩
              obtain ⟨⟨x1, x2⟩, hx⟩ : ∃ x, WS k = x := ⟨_, rfl⟩
              obtain ⟨⟨v1, v2⟩, hv⟩ : ∃ x, WV k = x := ⟨_, rfl⟩
              rw [ht] at HSBk HPLk
              rw [hx] at HPLk HIPk HWSk
              rw [hv] at HPT
              have HX := Lib.hid hx
              simp only at HSBk HPLk HIPk
              clear hA' ht hx hv hbr hpz hpt hsl hall
              go_wp2
              go_region_held3 (fun _ => True) (trivial)
                (first
                  | (go_at_call 84; with_reducible refine (HWH.out _).mono ?_; rintro e qa ⟨rfl, hbx⟩; have hbw := below_drew hbx; have HPTa := Lib.hid (HPT.out.below hbw); have HPZa := Lib.hid (HPZ.out.below hbw); have HSLa := Lib.hid (HSL.out.below hbw); have HBa := Lib.hid (HBr.out.trans (hbw.mono HBr.out.size)); clear hbx hbw)
                  | (go_at_call 91; with_reducible refine (HSBk.out qa (HSA.out qa HSLa.out)).mono ?_; rintro e qb ⟨rfl, hbw⟩; have HPTb := Lib.hid (HPTa.out.below hbw); have HPZb := Lib.hid (HPZa.out.below hbw); have HSLb := Lib.hid (HSLa.out.below hbw); have HBb := Lib.hid (HBa.out.trans (hbw.mono HBa.out.size)); clear hbw)
                  | (go_at_call 90; with_reducible refine (HPLk.out qb).mono ?_; rintro e qc ⟨rfl, hbw⟩; have HPTc := Lib.hid (HPTb.out.below hbw); have HPZc := Lib.hid (HPZb.out.below hbw); have HSLc := Lib.hid (HSLb.out.below hbw); have HBc := Lib.hid (HBb.out.trans (hbw.mono HBb.out.size)); obtain ⟨_, t0', t1', tf0, tf1⟩ := HPTc.out.parts; simp only at t0' t1'; clear hbw))
              have HPTd := Lib.hid (HPTc.out.set x1 x2)
              have HPZd := Lib.hid ((HPZc.out.far (b := w3.heap.size) (by omega) 0 (.int .i64 x1)).far (b := w3.heap.size) (by omega) 1 (.int .i64 x2))
              have HSLd := Lib.hid (sl_set1 (sl_set1 HSLc.out (g := w3.heap.size) (by omega) 0 (.int .i64 x1)) (g := w3.heap.size) (by omega) 1 (.int .i64 x2))
              have HBd := Lib.hid ((HBc.out.setCell (p := ⟨w3.heap.size, 0, none⟩) (show w.heap.size ≤ w3.heap.size by omega) (.int .i64 x1)).setCell (p := ⟨w3.heap.size, 1, none⟩) (show w.heap.size ≤ w3.heap.size by omega) (.int .i64 x2))
              generalize (qc.setCell ⟨w3.heap.size, 0, none⟩ (.int .i64 x1)).setCell ⟨w3.heap.size, 1, none⟩ (.int .i64 x2) = Y at *
              obtain ⟨_, t0, t1, _, _⟩ := HPTd.out.parts
              simp only at t0 t1
              cases hp : paP (x1, x2) with
              | false =>
                have HE := Lib.hid (HWA.out.1 k hlt (by rw [HX.out]; exact hp))
                rw [hp] at HIPk
                clear hp
                go_wp2_with fail
                refine (HIPk.out _).mono ?_
                rintro e w5 ⟨rfl, hb⟩
                obtain ⟨_, c0, c1, f0, f1⟩ := (HPZd.out.below hb).parts
                simp only at c0 c1
                have HB5 := Lib.hid (HBd.out.trans (hb.mono HBd.out.size))
                clear hb
                go_wp2
                exact bodyPost_ret (v := .tuple #[.agg #[.int .i64 0, .int .i64 0], .bool false]) (by simp [results, Try.results56, go_sem, c0, c1]) rfl ⟨by rw [HE.out.1, HE.out.2], below_set2 HB5.out _ _ (by omega)⟩
              | true =>
                rw [hp] at HIPk
                have HPX : Hid (paP (WS k) = true) := by show _ = _; rw [HX.out]; exact hp
                clear hp
                go_wp2_with fail
                refine (HIPk.out _).mono ?_
                rintro e w5 ⟨rfl, hb⟩
                have HPT5 := Lib.hid (HPTd.out.below hb)
                have HPZ5 := Lib.hid (HPZd.out.below hb)
                have HSL5 := Lib.hid (HSLd.out.below hb)
                have HB5 := Lib.hid (HBd.out.trans (hb.mono HBd.out.size))
                clear hb
                go_wp2
                go_roundw
                case rel => exact ⟨k + 1, by omega, by congr 1, HB5.out, HPZ5.out, by rw [HWSk.out]; exact HPT5.out, HSL5.out, fun j hj => by rcases (by omega : j < k ∨ j = k) with h | h; exact HAL.out j h; subst h; exact HPX.out⟩
                case measure => simp [intOf]; omega
            · obtain rfl : k = K + 1 := by omega
              have kw : ¬ ((K + 1 : Nat) : Int) + 1 ≤ (K : Int) + 1 := by omega
              have HE := Lib.hid (HWA.out.2 (fun j hj => hall j (by omega)))
              rw [HWS.out] at HPT
              obtain ⟨⟨x1, x2⟩, hx⟩ : ∃ x, WS K = x := ⟨_, rfl⟩
              rw [hx] at HPT HE
              obtain ⟨_, t0, t1, _, _⟩ := HPT.out.parts
              obtain ⟨_, c0, c1, f0, f1⟩ := HPZ.out.parts
              simp only at t0 t1 c0 c1
              clear hbr hpz hpt hsl hall hx
              go_wp2
              exact bodyPost_ret (v := .tuple #[.agg #[.int .i64 x1, .int .i64 x2], .bool true]) (by simp [results, Try.results56, go_sem, c0, c1]) rfl ⟨by rw [HE.out.1, HE.out.2], below_set2 HBr.out _ _ (by omega)⟩
        · have HV := Lib.hid (wa_far (k := K) h1 (by omega) (by omega))
          generalize waV p ((K : Int) + 1) = V at *
          generalize waOk p ((K : Int) + 1) = R at *
          generalize hgN p = N at *
          generalize hgL p N = L at *
          clear h1
          obtain ⟨p1, p2⟩ := p
          simp only at H1 HH ⊢
          have hq1 : ¬ (K : Int) + 1 < 1 := by omega
          have hq2 : ¬ (20 : Int) < (K : Int) + 1 := by omega
          have hq3 : (N : Int) < (K : Int) + 1 := by omega
          go_enter Try.func56, Try.ntmps56
          go_wp2_with fail
          refine (H1.out _).mono ?_
          rintro e w1 ⟨rfl, hb⟩
          have HK := Lib.hid (((PC.start w p1 p2 25).grow _).below hb)
          have HZ := Lib.hid ((PZ.start2 w _ 25).below hb)
          obtain ⟨_, k0, k1, _, _⟩ := HK.out.parts
          simp only at k0 k1
          have HB := Lib.hid ((Below.two w _ _).trans (hb.mono (by simp; omega)))
          clear hb
          go_wp2_with fail
          refine (HH.out _).mono ?_
          rintro e w2 ⟨A, n, c, rfl, rfl, ho, hb⟩
          obtain ⟨s, c0, c1, f0, f1⟩ := (HZ.out.below hb).parts
          have HB2 := Lib.hid (HB.out.trans (hb.mono HB.out.size))
          clear hb ho
          go_wp2
          exact bodyPost_ret (v := .tuple #[.agg #[.int .i64 0, .int .i64 0], .bool false]) (by simp [results, Try.results56, go_sem, c0, c1]) rfl ⟨by rw [HV.out.1, HV.out.2], below_set2 HB2.out _ _ (by omega)⟩
      · have HV := Lib.hid (wa_out (p := p) (b := b) (by omega))
        generalize waV p b = V at *
        generalize waOk p b = R at *
        clear h1
        obtain ⟨p1, p2⟩ := p
        simp only at H1 ⊢
        have hq1 : ¬ b < 1 := by omega
        have hq2 : 20 < b := by omega
        go_enter Try.func56, Try.ntmps56
        go_wp2_with fail
        refine (H1.out _).mono ?_
        rintro e w1 ⟨rfl, hb⟩
        obtain ⟨s, c0, c1, f0, f1⟩ := ((PZ.start2 w _ 25).below hb).parts
        have HB := Lib.hid ((Below.two w _ _).trans (hb.mono (by simp; omega)))
        clear hb
        go_wp2
        exact bodyPost_ret (v := .tuple #[.agg #[.int .i64 0, .int .i64 0], .bool false]) (by simp [results, Try.results56, go_sem, c0, c1]) rfl ⟨by rw [HV.out.1, HV.out.2], below_set2 HB.out _ _ (by omega)⟩
    · have HV := Lib.hid (wa_out (p := p) (b := b) (by omega))
      generalize waV p b = V at *
      generalize waOk p b = R at *
      clear h1
      obtain ⟨p1, p2⟩ := p
      simp only at H1 ⊢
      have hq1 : b < 1 := by omega
      go_enter Try.func56, Try.ntmps56
      go_wp2_with fail
      refine (H1.out _).mono ?_
      rintro e w1 ⟨rfl, hb⟩
      obtain ⟨s, c0, c1, f0, f1⟩ := ((PZ.start2 w _ 25).below hb).parts
      have HB := Lib.hid ((Below.two w _ _).trans (hb.mono (by simp; omega)))
      clear hb
      go_wp2
      exact bodyPost_ret (v := .tuple #[.agg #[.int .i64 0, .int .i64 0], .bool false]) (by simp [results, Try.results56, go_sem, c0, c1]) rfl ⟨by rw [HV.out.1, HV.out.2], below_set2 HB.out _ _ (by omega)⟩
end Go.Proofs.Ytikmkmpekjijpaa
