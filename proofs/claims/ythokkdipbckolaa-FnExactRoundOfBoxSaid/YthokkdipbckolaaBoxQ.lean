/- The model's RoundOfBox. -/
import Derived.Test.YthokkdipbckolaaBoxO
import Derived.Test.YthokkdipbckolaaPutR
namespace Go.Proofs.Ythokkdipbckolaa
open Go.RowKit

theorem rd_zero {L : Int} {x : Int × Int} (hL : 2 ≤ L) (h : 0 ≤ x.1 ∧ x.1 ≤ L) (h1 : ¬ (x.1 = 0 ∧ x.2 < 0)) : (x.2 = -1 → rdB L x 0 = 2 * L - x.1) ∧ (x.2 = 1 → rdB L x 0 = x.1) := by
  obtain ⟨a, b⟩ := x
  simp only at h h1 ⊢
  unfold rdB
  simp only
  constructor
  · rintro rfl
    have : -1 * a + 0 = (2 * L - a) + (2 * L) * (-1) := by omega
    rw [this, Int.add_mul_emod_self_left, Int.emod_eq_of_lt (by omega) (by omega)]
  · rintro rfl
    have : 1 * a + 0 = a := by omega
    rw [this, Int.emod_eq_of_lt (by omega) (by omega)]

set_option maxRecDepth 100000 in
set_option maxHeartbeats 4000000 in
theorem specRound_any (L : Int) (A : Option Addr) (c : Nat) (l : List (Int × Int)) (w : World) (_hcap : l.length ≤ c) (hA : AntsAt w A l) :
    Calls Try.prog 33 #[.agg #[.int .i64 L, .slice A l.length c]] w fun e w' => ∃ A' n' c', e = .returned (.tuple #[.agg #[.int .i64 (rnL L l), .slice A' n' c'], .bool (rnOk L l)]) ∧ n' = (rnV L l).length ∧ AntsOwn w' w.heap.size 53 (.slice A' n' c') (rnV L l) ∧ Below w.heap.size w w' := by
  have HA := Lib.hid ((hA.alloc (Obj.cells #[Value.int IntKind.i64 L, Value.slice A l.length c] 29)).alloc (Obj.cells #[Value.int IntKind.i64 0, Value.slice none 0 0] 43))
  have HAW := Lib.hid hA
  clear hA
  cases hg : boxB L l with
  | false =>
    have HO : Hid (rnOk L l = false) := by show _ = _; unfold rnOk; rw [hg]; rfl
    have HV := Lib.hid (rn_no HO.out)
    have HG : Hid (∀ w, AntsAt w A l → Calls Try.prog 39 #[.agg #[.int .i64 L, .slice A l.length c]] w fun e w' => e = .returned (.bool false) ∧ Below w.heap.size w w') := fun w h => by rw [← hg]; exact waGood_any L A c l w h
    clear hg
    go_enter Try.func33, Try.ntmps33
    go_wp2_with fail
    refine (HG.out _ HA.out).mono ?_
    rintro e w1 ⟨rfl, hb⟩
    have hs : w.heap.size + 2 ≤ w1.heap.size := by have := hb.size; simp at this; omega
    have c0 : w1.cell? ⟨w.heap.size, 0, none⟩ = some (.int .i64 L) := by rw [hb.cell (p := ⟨w.heap.size, 0, none⟩) (by simp; omega)]; simp [go_sem]
    have c1 : w1.cell? ⟨w.heap.size, 1, none⟩ = some (.slice A l.length c) := by rw [hb.cell (p := ⟨w.heap.size, 1, none⟩) (by simp; omega)]; simp [go_sem]
    have r0 : w1.cell? ⟨w.heap.size + 1, 0, none⟩ = some (.int .i64 0) := by rw [hb.cell (p := ⟨w.heap.size + 1, 0, none⟩) (by simp)]; simp [go_sem]
    have r1 : w1.cell? ⟨w.heap.size + 1, 1, none⟩ = some (.slice none 0 0) := by rw [hb.cell (p := ⟨w.heap.size + 1, 1, none⟩) (by simp)]; simp [go_sem]
    have ff : ∀ o, w1.frozen? ⟨w.heap.size + 1, o, none⟩ = false := fun o => by rw [hb.frozen (p := ⟨w.heap.size + 1, o, none⟩) (by simp)]; simp [go_sem]
    have f0 := ff 0
    have f1 := ff 1
    have HB := Lib.hid (((Below.refl _ w).alloc (Nat.le_refl _) (Obj.cells #[Value.int IntKind.i64 L, Value.slice A l.length c] 29)).alloc (by simp) (Obj.cells #[Value.int IntKind.i64 0, Value.slice none 0 0] 43) |>.trans (hb.mono (by simp; omega)))
    have HA1 := Lib.hid (HA.out.below hb)
    clear hb c0 c1
    go_wp2
    refine bodyPost_ret (v := .tuple #[.agg #[.int .i64 0, .slice none 0 0], .bool false]) (by simp [results, Try.results33, go_sem, r0, r1]) rfl ⟨none, 0, 0, ret_rod HV.out.1.symm rfl HO.out.symm, by rw [HV.out.2]; rfl, by rw [HV.out.2]; exact SlOwn.nil pairS _ _ _, ?_⟩
    exact (HB.out.setCell (by simp) _).setCell (by simp) _
  | true =>
    have HG : Hid (∀ w, AntsAt w A l → Calls Try.prog 39 #[.agg #[.int .i64 L, .slice A l.length c]] w fun e w' => e = .returned (.bool true) ∧ Below w.heap.size w w') := fun w h => by rw [← hg]; exact waGood_any L A c l w h
    have HO : Hid (rnOk L l = ciB (2 * L) (rnA L l)) := by show _ = _; unfold rnOk; rw [hg]; rfl
    have hl := boxB_len hg
    have HGG := Lib.hid (boxB_good hg)
    have HIN : Hid (∀ x ∈ l, ¬ (x.1 = 0 ∧ x.2 < 0)) := fun x hx => (boxB_in hg hx).1
    clear hg
    have hw2L : IntKind.i64.wrap (2 * L) = 2 * L := IntWalk.i64_in _ (by omega)
    go_enter Try.func33, Try.ntmps33
    go_wp2_with fail
    refine (HG.out _ HA.out).mono ?_
    rintro e w1 ⟨rfl, hb⟩
    have hs : w.heap.size + 2 ≤ w1.heap.size := by have := hb.size; simp at this; omega
    have c0 : w1.cell? ⟨w.heap.size, 0, none⟩ = some (.int .i64 L) := by rw [hb.cell (p := ⟨w.heap.size, 0, none⟩) (by simp; omega)]; simp [go_sem]
    have c1 : w1.cell? ⟨w.heap.size, 1, none⟩ = some (.slice A l.length c) := by rw [hb.cell (p := ⟨w.heap.size, 1, none⟩) (by simp; omega)]; simp [go_sem]
    have r0 : w1.cell? ⟨w.heap.size + 1, 0, none⟩ = some (.int .i64 0) := by rw [hb.cell (p := ⟨w.heap.size + 1, 0, none⟩) (by simp)]; simp [go_sem]
    have r1 : w1.cell? ⟨w.heap.size + 1, 1, none⟩ = some (.slice none 0 0) := by rw [hb.cell (p := ⟨w.heap.size + 1, 1, none⟩) (by simp)]; simp [go_sem]
    have ff : ∀ o, w1.frozen? ⟨w.heap.size + 1, o, none⟩ = false := fun o => by rw [hb.frozen (p := ⟨w.heap.size + 1, o, none⟩) (by simp)]; simp [go_sem]
    have f0 := ff 0
    have f1 := ff 1
    have HB := Lib.hid (((Below.refl _ w).alloc (Nat.le_refl _) (Obj.cells #[Value.int IntKind.i64 L, Value.slice A l.length c] 29)).alloc (by simp) (Obj.cells #[Value.int IntKind.i64 0, Value.slice none 0 0] 43) |>.trans (hb.mono (by simp; omega)))
    have HA1 := Lib.hid (HA.out.below hb)
    clear hb
    obtain ⟨W0, hW0⟩ : ∃ W0, W0 = w1.alloc (Obj.cells #[Value.int IntKind.i64 (2 * L), Value.slice none 0 0] 43) := ⟨_, rfl⟩
    have hbA : Below w1.heap.size w1 W0 := by rw [hW0]; exact (Below.refl _ _).alloc (Nat.le_refl _) _
    have hs0 : W0.heap.size = w1.heap.size + 1 := by rw [hW0]; simp
    have d0 := Below.cell_some hbA c0
    have d1 := Below.cell_some hbA c1
    have HB0 := Lib.hid (HB.out.trans (hbA.mono (by omega)))
    have HRN : Hid (RnAt W0 w.heap.size w1.heap.size W0.heap.size L none [] none 0 0 (srtA ((l.take 0).map (rn1 L)))) := by
      refine ⟨by rw [hW0]; simp, by rw [hW0]; simp, fun o => by rw [hW0]; simp [go_sem], Below.cell_some hbA r0, Below.cell_some hbA r1, fun o => (hbA.frozen (p := ⟨w.heap.size + 1, o, none⟩) (by simp only; omega)).trans (ff o), .inl rfl, fun a ha => (by cases ha), ?_, by omega, by omega, Nat.le_refl _⟩
      have : srtA ((l.take 0).map (rn1 L)) = [] := srtA_nil
      rw [this]
      exact SlOwn.nil pairS _ _ _
    have HCL : Hid (W0.cell? ⟨w.heap.size, 0, none⟩ = some (.int .i64 L)) := d0
    have HS0 := Lib.hid hs0
    have x0 := alloc_some c0 (Obj.cells #[Value.int IntKind.i64 (2 * L), Value.slice none 0 0] 43)
    have x1 := alloc_some c1 (Obj.cells #[Value.int IntKind.i64 (2 * L), Value.slice none 0 0] 43)
    go_wp2
    rw [← hW0]
    clear hW0 x0 x1 c0 c1 d0 d1 hbA r0 r1 f0 f1 ff hs0
    go_loopw [19] (fun v wr => ∃ (k : Nat) (A3 : Option Addr) (c3 : Nat), k ≤ l.length ∧ v = .int .i64 k ∧ RnAt wr w.heap.size w1.heap.size W0.heap.size L none [] A3 k c3 (srtA ((l.take k).map (rn1 L))) ∧ wr.cell? ⟨w.heap.size, 0, none⟩ = some (.int .i64 L) ∧ Below w.heap.size w wr)
      (fun v _ => l.length - (intOf v).toNat)
    case atStart => exact ⟨0, none, 0, Nat.zero_le _, rfl, HRN.out, HCL.out, HB0.out⟩
    case round =>
      obtain ⟨k, A3, c3, hk, rfl, hrn, hcl, hbr⟩ := hrel
      obtain ⟨W1, rfl⟩ : ∃ W, W = wr := ⟨_, rfl⟩
      have HR := Lib.hid hrn
      have HBR := Lib.hid hbr
      have HAr := Lib.hid (HAW.out.below hbr)
      have HC1 := Lib.hid hcl
      clear hrn hbr
      by_cases hlt : k < l.length
      · obtain ⟨b, off, rfl, l0, hc⟩ := HAr.out.at_ hlt
        obtain ⟨a0, a1⟩ := hc k hlt
        have hx : l[k]? = some (l.getD k (0, 0)) := by rw [List.getD_eq_getElem?_getD, List.getElem?_eq_getElem hlt]; rfl
        have HSN := Lib.hid (srt_snoc (rn1 L) l k _ hx)
        have hq := good_ant HGG.out hx
        have hrz := rd_zero hl.1 ⟨hq.1, hq.2.1⟩ (HIN.out _ (List.mem_of_getElem? hx))
        have HR1 : Hid (rn1 L (l.getD k (0, 0)) = (rdB L (l.getD k (0, 0)) 0, 1)) := rfl
        rw [HR1.out] at HSN
        clear hc hx HR1
        generalize rdB L (l.getD k (0, 0)) 0 = rx at *
        generalize l.getD k (0, 0) = x at *
        obtain ⟨x1, x2⟩ := x
        simp only at a0 a1 hq hrz
        have hml : (srtA ((l.take k).map (rn1 L))).length = k := by rw [srtA_len]; simp; omega
        have HML := Lib.hid hml
        clear hml
        generalize srtA ((l.take k).map (rn1 L)) = m at *
        have hkn : (k : Int) < (l.length : Int) := by omega
        have HB4 := Lib.hid ((Below.refl W1.heap.size W1).alloc (Nat.le_refl _) (Obj.cells #[Value.int IntKind.i64 x1, Value.int IntKind.i64 x2] 53))
        have e0 : (W1.alloc (Obj.cells #[Value.int IntKind.i64 x1, Value.int IntKind.i64 x2] 53)).cell? ⟨W1.heap.size, 0, none⟩ = some (.int .i64 x1) := by simp
        have e1 : (W1.alloc (Obj.cells #[Value.int IntKind.i64 x1, Value.int IntKind.i64 x2] 53)).cell? ⟨W1.heap.size, 1, none⟩ = some (.int .i64 x2) := by simp
        have HR4 := Lib.hid (HR.out.below HB4.out)
        have c1 := HR4.out.c1
        have c0 := Below.cell_some HB4.out hcl
        have hlo := HR4.out.lo
        have hhi := HR4.out.hi
        have hsz := HR4.out.sz
        have hszr := HR.out.sz
        have HBB4 := Lib.hid (HBR.out.trans (HB4.out.mono (by omega)))
        have HPUT : Hid (Calls Try.prog 60 #[.slice A3 k c3, .agg #[.int .i64 rx, .int .i64 1]] (W1.alloc (Obj.cells #[Value.int IntKind.i64 x1, Value.int IntKind.i64 x2] 53)) fun e w' => ∃ A' n' c', e = .returned (.slice A' n' c') ∧ n' = (putA m (rx, 1)).length ∧ AntsOwn w' (W1.alloc (Obj.cells #[Value.int IntKind.i64 x1, Value.int IntKind.i64 x2] 53)).heap.size 53 (.slice A' n' c') (putA m (rx, 1)) ∧ Below (W1.alloc (Obj.cells #[Value.int IntKind.i64 x1, Value.int IntKind.i64 x2] 53)).heap.size (W1.alloc (Obj.cells #[Value.int IntKind.i64 x1, Value.int IntKind.i64 x2] 53)) w') := by
          have h := roPut_any A3 c3 m rx 1 (W1.alloc (Obj.cells #[Value.int IntKind.i64 x1, Value.int IntKind.i64 x2] 53)) (by rw [HML.out]; omega) (by rw [HML.out]; exact own_cap HR4.out.own) (antsOwn_iff.2 HR4.out.own).ants
          rw [HML.out] at h
          exact h
        have hw4 : x2 = -1 → IntKind.i64.wrap (2 * L - x1) = rx := fun h => by rw [← hrz.1 h]; exact IntWalk.i64_in _ (by have := hrz.1 h; omega)
        clear hcl
        rcases hq.2.2.2 with hw | hw
        · subst hw
          have hrx := hrz.1 rfl
          have hw4 := hw4 rfl
          clear hrz hq
          subst hrx
          go_wp2_with fail
          generalize W1.alloc (Obj.cells #[Value.int IntKind.i64 x1, Value.int IntKind.i64 (-1)] 53) = W4 at *
          with_reducible refine HPUT.out.mono ?_
          rintro e W5 ⟨A5, n5, c5, rfl, hn5, ho5, hb5⟩
          have hn6 : n5 = k + 1 := by rw [hn5, putA_len, HML.out]
          subst hn6
          have HBI : Hid (Below W0.heap.size W4 W5) := hb5.mono hsz
          have HO5 : Hid (SlOwn pairS W5 W0.heap.size 53 (.slice A5 (k + 1) c5) (putA m ((2 * L - x1), 1))) := ownsRow_base ho5 hsz
          have q1 := Below.cell_some hb5 c1
          have qf := (hb5.frozen (p := ⟨w1.heap.size, 1, none⟩) (by simp only; omega)).trans (HR4.out.cf 1)
          have q0 := Below.cell_some hb5 c0
          have HB5 := Lib.hid (HBB4.out.trans (hb5.mono (by omega)))
          clear hb5 ho5 hn5
          go_wp2
          go_roundw
          case rel =>
            refine ⟨k + 1, A5, c5, by omega, by go_num, ?_, ?_, ?_⟩
            · rw [← HSN.out]
              exact HR4.out.put2 HBI.out HO5.out
            · exact (cell_other (.inl (by omega))).trans q0
            · exact HB5.out.setCell (p := ⟨w1.heap.size, 1, none⟩) (by simp only; omega) _
          case measure => simp [intOf]; omega
        · subst hw
          have hrx := hrz.2 rfl
          clear hrz hq hw4
          subst hrx
          go_wp2_with fail
          generalize W1.alloc (Obj.cells #[Value.int IntKind.i64 rx, Value.int IntKind.i64 1] 53) = W4 at *
          with_reducible refine HPUT.out.mono ?_
          rintro e W5 ⟨A5, n5, c5, rfl, hn5, ho5, hb5⟩
          have hn6 : n5 = k + 1 := by rw [hn5, putA_len, HML.out]
          subst hn6
          have HBI : Hid (Below W0.heap.size W4 W5) := hb5.mono hsz
          have HO5 : Hid (SlOwn pairS W5 W0.heap.size 53 (.slice A5 (k + 1) c5) (putA m (rx, 1))) := ownsRow_base ho5 hsz
          have q1 := Below.cell_some hb5 c1
          have qf := (hb5.frozen (p := ⟨w1.heap.size, 1, none⟩) (by simp only; omega)).trans (HR4.out.cf 1)
          have q0 := Below.cell_some hb5 c0
          have HB5 := Lib.hid (HBB4.out.trans (hb5.mono (by omega)))
          clear hb5 ho5 hn5
          go_wp2
          go_roundw
          case rel =>
            refine ⟨k + 1, A5, c5, by omega, by go_num, ?_, ?_, ?_⟩
            · rw [← HSN.out]
              exact HR4.out.put2 HBI.out HO5.out
            · exact (cell_other (.inl (by omega))).trans q0
            · exact HB5.out.setCell (p := ⟨w1.heap.size, 1, none⟩) (by simp only; omega) _
          case measure => simp [intOf]; omega
      · obtain rfl : k = l.length := by omega
        have HTE : Hid (srtA ((l.take l.length).map (rn1 L)) = rnA L l) := by show _ = _; rw [List.take_length]; rfl
        rw [HTE.out] at HR
        have hlo := HR.out.lo
        have hhi := HR.out.hi
        have q0 := HR.out.c0
        have q1 := HR.out.c1
        obtain ⟨r, hr⟩ : ∃ r, r = ciB (2 * L) (rnA L l) := ⟨_, rfl⟩
        have HRR : Hid (rnOk L l = r) := by show _ = _; rw [HO.out, hr]
        have HIC : Hid (Calls Try.prog 61 #[.agg #[.int .i64 (2 * L), .slice A3 l.length c3]] W1 fun e w' => e = .returned (.bool r) ∧ Below W1.heap.size W1 w') := by
          rw [hr]
          have h := ciGood_any (2 * L) A3 c3 (rnA L l) W1 (antsOwn_iff.2 HR.out.own).ants
          rw [rnA_len] at h
          exact h
        clear hr hcl
        go_wp2_with fail
        refine HIC.out.mono ?_
        rintro e w4 ⟨rfl, hb4⟩
        have HR4 := Lib.hid (HR.out.below hb4)
        have q0 := Below.cell_some hb4 q0
        have q1 := Below.cell_some hb4 q1
        have r0 := HR4.out.r0
        have r1 := HR4.out.r1
        have rf0 := HR4.out.rf 0
        have rf1 := HR4.out.rf 1
        have hsz := HR.out.sz
        have HB4 := Lib.hid (HBR.out.trans (hb4.mono (by omega)))
        clear hb4
        cases r with
        | false =>
          have HV := Lib.hid (rn_no HRR.out)
          go_wp2
          refine bodyPost_ret (v := .tuple #[.agg #[.int .i64 0, .slice none 0 0], .bool false]) (by simp [results, Try.results33, go_sem, r0, r1]) rfl ⟨none, 0, 0, ret_rod HV.out.1.symm rfl HRR.out.symm, by rw [HV.out.2]; rfl, by rw [HV.out.2]; exact SlOwn.nil pairS _ _ _, ?_⟩
          exact (HB4.out.setCell (by simp) _).setCell (by simp) _
        | true =>
          have HV := Lib.hid (rn_yes HRR.out)
          go_wp2
          refine bodyPost_ret (v := .tuple #[.agg #[.int .i64 (2 * L), .slice A3 l.length c3], .bool true]) (by simp [results, Try.results33, go_sem, r0, r1]) rfl ⟨A3, l.length, c3, ret_rod HV.out.1.symm rfl HRR.out.symm, by rw [HV.out.2, rnA_len], ?_, ?_⟩
          · rw [HV.out.2]
            exact ownsRow_base (ownsRow_setCell_below (ownsRow_setCell_below HR4.out.own (by simp; omega) _) (by simp; omega) _) (by omega)
          · exact (HB4.out.setCell (by simp) _).setCell (by simp) _
end Go.Proofs.Ythokkdipbckolaa
