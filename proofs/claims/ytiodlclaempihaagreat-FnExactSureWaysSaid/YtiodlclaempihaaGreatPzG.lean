/- Puzzles, the program: all ways that fit (waysThatFit). -/
import Derived.Test.YtiodlclaempihaaGreatZaC
import Derived.Test.YtiodlclaempihaaGreatZaD
import Derived.Test.YtiodlclaempihaaGreatWtx
import Derived.Test.YtiodlclaempihaaGreatSol
import Derived.Test.YtiodlclaempihaaGreatStrZ
namespace Go.Proofs.YtiodlclaempihaaGreat
open Go.RowKit

theorem noFit_any (L k a b : Int) (A : Option Addr) (c : Nat) (l : List (Int × Int)) (g : Nat) (r : Bool) (hr : fitB L l k a b = r) (w : World) (hc : clB l.length k a b = true) (hg : goodB L l = true) (hA : AntsAt w A l) (h0 : w.cell? ⟨g, 0, none⟩ = some (.int .i64 L)) (h1 : w.cell? ⟨g, 1, none⟩ = some (.slice A l.length c)) :
    Calls Tryz.prog 69 #[.agg #[.int .i64 k, .int .i64 a, .int .i64 b], .pointer (some ⟨g, 0, none⟩)] w fun e w' => e = .returned (.bool (!r)) ∧ Below w.heap.size w w' := by
  have HF := Lib.hid (fun w h => fits_at L k a b A c l r hr w hc hg h)
  have h0 := alloc_some h0 (Obj.cells #[Value.int IntKind.i64 k, Value.int IntKind.i64 a, Value.int IntKind.i64 b] 67)
  have h1 := alloc_some h1 (Obj.cells #[Value.int IntKind.i64 k, Value.int IntKind.i64 a, Value.int IntKind.i64 b] 67)
  have HA := Lib.hid (hA.alloc (Obj.cells #[Value.int IntKind.i64 k, Value.int IntKind.i64 a, Value.int IntKind.i64 b] 67))
  clear hA hc hg hr
  go_enter Tryz.func69, Tryz.ntmps69
  go_wp2_with fail
  refine (HF.out _ HA.out).mono ?_
  rintro e w1 ⟨rfl, hb⟩
  go_wp2
  go_ret
  exact ⟨rfl, ((Below.refl _ _).alloc (Nat.le_refl _) _).trans (hb.mono (by simp))⟩

theorem fit_no {L : Int} {l : List (Int × Int)} {cs : List (Int × Int × Int)} {k : Nat} (hk : k < cs.length) (h : fitB L l cs[k].1 cs[k].2.1 cs[k].2.2 = false) : fitAll L l cs = false := by
  unfold fitAll
  rw [List.all_eq_false]
  exact ⟨_, List.getElem_mem hk, by rw [h]; simp⟩

set_option maxRecDepth 100000 in
set_option maxHeartbeats 2000000 in
theorem indexFunc_any (L : Int) (A C : Option Addr) (c d : Nat) (l : List (Int × Int)) (cs : List (Int × Int × Int)) (g : Nat) (w : World) (hcl : cluesB l.length cs = true) (hg : goodB L l = true) (hc6 : cs.length ≤ 6) (hA : AntsAt w A l) (hC : SlAt tripS w C cs) (h0 : w.cell? ⟨g, 0, none⟩ = some (.int .i64 L)) (h1 : w.cell? ⟨g, 1, none⟩ = some (.slice A l.length c)) :
    Calls Tryz.prog 90 #[.slice C cs.length d, .func (.func 69) #[] #[.pointer (some ⟨g, 0, none⟩)]] w fun e w' => ∃ r : Int, e = .returned (.int .i64 r) ∧ decide (0 ≤ r) = (!fitAll L l cs) ∧ Below w.heap.size w w' := by
  have HA := Lib.hid hA
  have HC := Lib.hid hC
  have HG := Lib.hid hg
  have HCL := Lib.hid hcl
  have H0 := Lib.hid h0
  have H1 := Lib.hid h1
  clear hA hC hg hcl h0 h1
  go_enter Tryz.func90, Tryz.ntmps90
  go_wp2
  go_loopw [8] (fun i wr => ∃ k : Nat, k ≤ cs.length ∧ i = .int .i64 k ∧ fitAll L l (cs.take k) = true ∧ Below w.heap.size w wr)
    (fun i _ => cs.length - (intOf i).toNat)
  case atStart => exact ⟨0, Nat.zero_le _, rfl, rfl, Below.refl _ _⟩
  case round =>
    obtain ⟨k, hk, rfl, hall, hb⟩ := hrel
    have HB := Lib.hid hb
    have HAr := Lib.hid (HA.out.below hb)
    have HCr := Lib.hid (HC.out.below hb)
    have h0 := Below.cell_some hb H0.out
    have h1 := Below.cell_some hb H1.out
    have HALL := Lib.hid hall
    clear hb hall
    by_cases hlt : k < cs.length
    · obtain ⟨b, off, rfl, l0, a0, a1, a2⟩ := trip_at HCr.out hlt
      have hkl : (k : Int) < (cs.length : Int) := by omega
      have hx : pclB l.length cs[k] = true := List.all_eq_true.1 HCL.out _ (List.getElem_mem hlt)
      have HS := Lib.hid (fitAll_snoc L l cs k hlt)
      have HN := Lib.hid (fit_no (L := L) (l := l) hlt)
      generalize cs[k] = x at *
      obtain ⟨x1, x2, x3⟩ := x
      simp only at a0 a1 a2
      have HX : Hid (clB l.length x1 x2 x3 = true) := hx
      clear hx
      cases hf : fitB L l x1 x2 x3 with
      | true =>
        have HF := Lib.hid (fun w h h0 h1 => noFit_any L x1 x2 x3 A c l g true hf w HX.out HG.out h h0 h1)
        have HT : Hid (fitAll L l (cs.take (k + 1)) = true) := by show _ = _; rw [HS.out, HALL.out, hf]; rfl
        clear hf
        go_wp2_with fail
        refine (HF.out _ HAr.out h0 h1).mono ?_
        rintro e w1 ⟨rfl, hb1⟩
        have HB1 := Lib.hid (HB.out.trans (hb1.mono HB.out.size))
        clear hb1
        go_wp2
        go_roundw
        case rel => exact ⟨k + 1, by omega, by go_num, HT.out, HB1.out⟩
        case measure => simp [intOf]; omega
      | false =>
        have HF := Lib.hid (fun w h h0 h1 => noFit_any L x1 x2 x3 A c l g false hf w HX.out HG.out h h0 h1)
        have HT : Hid (fitAll L l cs = false) := HN.out hf
        clear hf
        go_wp2_with fail
        refine (HF.out _ HAr.out h0 h1).mono ?_
        rintro e w1 ⟨rfl, hb1⟩
        have HB1 := Lib.hid (HB.out.trans (hb1.mono HB.out.size))
        clear hb1
        go_wp2
        go_ret
        exact ⟨k, rfl, by rw [HT.out]; simp, HB1.out⟩
    · obtain rfl : k = cs.length := by omega
      have hkl : ¬ (cs.length : Int) < (cs.length : Int) := by omega
      have HT : Hid (fitAll L l cs = true) := by show _ = _; have := HALL.out; rwa [List.take_length] at this
      go_wp2
      go_ret
      exact ⟨-1, rfl, by rw [HT.out]; rfl, HB.out⟩
theorem contains_any (L : Int) (A C : Option Addr) (c d : Nat) (l : List (Int × Int)) (cs : List (Int × Int × Int)) (g : Nat) (r : Bool) (hr : fitAll L l cs = r) (w : World) (hcl : cluesB l.length cs = true) (hg : goodB L l = true) (hc6 : cs.length ≤ 6) (hA : AntsAt w A l) (hC : SlAt tripS w C cs) (h0 : w.cell? ⟨g, 0, none⟩ = some (.int .i64 L)) (h1 : w.cell? ⟨g, 1, none⟩ = some (.slice A l.length c)) :
    Calls Tryz.prog 68 #[.slice C cs.length d, .func (.func 69) #[] #[.pointer (some ⟨g, 0, none⟩)]] w fun e w' => e = .returned (.bool (!r)) ∧ Below w.heap.size w w' := by
  have HI := Lib.hid (indexFunc_any L A C c d l cs g w hcl hg hc6 hA hC h0 h1)
  clear hA hC hg hcl h0 h1
  go_enter Tryz.func68, Tryz.ntmps68
  go_wp2_with fail
  refine HI.out.mono ?_
  rintro e w1 ⟨v, rfl, hv, hb⟩
  rw [hr] at hv
  go_wp2
  go_ret
  exact ⟨rfl, hb⟩

set_option maxRecDepth 100000 in
set_option maxHeartbeats 4000000 in
theorem waysThatFit_any (L : Int) (A C C2 : Option Addr) (c d n2 d2 : Nat) (l : List Int) (cs : List (Int × Int × Int)) (w : World) (hp : hplB L l = true) (hcl : cluesB l.length cs = true) (hc6 : cs.length ≤ 6) (hA : SlAt intS w A l) (hC : SlAt tripS w C cs) :
    Calls Tryz.prog 48 #[.agg #[.int .i64 L, .slice A l.length c, .slice C2 n2 d2], .slice C cs.length d] w fun e w' => ∃ A' n' c', e = .returned (.slice A' n' c') ∧ n' = (solV L l cs).length ∧ SlOwn strS w' w.heap.size 9 (.slice A' n' c') (solV L l cs) ∧ Below w.heap.size w w' := by
  obtain ⟨hl1, hl8⟩ := hplB_len hp
  have hpl := hplB_plB hp
  have hT : 2 ^ l.length ≤ 256 := by
    have : 2 ^ l.length ≤ 2 ^ 8 := Nat.pow_le_pow_right (by omega) hl8
    omega
  have HRO := Lib.hid (fun w h => rodsOfAll_any L A c l w h hpl)
  have HPL := Lib.hid hpl
  have HCL := Lib.hid hcl
  have HC := Lib.hid hC
  have HSV : Hid (solV L l cs = solK L l cs (2 ^ l.length)) := rfl
  rw [HSV.out]
  obtain ⟨i0, hi, hz0, hz1, hz2⟩ := info_parts strInfo
  obtain ⟨T, hTe⟩ : ∃ T, T = 2 ^ l.length := ⟨_, rfl⟩
  rw [← hTe] at hT HRO ⊢
  have HA := Lib.hid (hA.alloc (Obj.cells #[Value.int IntKind.i64 L, Value.slice A l.length c, Value.slice C2 n2 d2] 32))
  clear hTe hA hC hpl hp hcl HSV
  go_enter Tryz.func48, Tryz.ntmps48
  go_wp2_with fail
  refine (HRO.out _ HA.out).mono ?_
  rintro e w1 ⟨A1, c1, R, rfl, hRl, ho1, hr1, hb1⟩
  have HB1 : Hid (Below w.heap.size w w1) := ((Below.refl _ _).alloc (Nat.le_refl _) _).trans (hb1.mono (by simp))
  have HRS := Lib.hid ho1.sl
  have HRR := Lib.hid hr1
  have HRL := Lib.hid hRl
  have hs1 : w.heap.size + 1 ≤ w1.heap.size := by have := hb1.size; simpa using this
  clear hb1 ho1 hr1 hRl
  go_wp2
  go_loopw [7, 22] (fun v i wr => ∃ (k : Nat), k ≤ T ∧ i = .int .i64 k ∧ Below w1.heap.size w1 wr ∧ SlOwn strS wr w1.heap.size 9 v (solK L l cs k))
    (fun _ i _ => T - (intOf i).toNat)
  case atStart => exact ⟨0, Nat.zero_le _, rfl, Below.refl _ _, SlOwn.nil _ _ _ _⟩
  case round =>
    obtain ⟨k, hk, rfl, hb, hown⟩ := hrel
    have hsr := hb.size
    obtain ⟨A3, k3, rfl, _, _⟩ := hown.form
    have HBR := Lib.hid hb
    have HOW := Lib.hid hown
    have HKL := Lib.hid (solK_len L l cs k)
    by_cases hlt : k < T
    · have hkl : (k : Int) < (T : Int) := by omega
      have hkR : k < R.length := by rw [HRL.out]; exact hlt
      obtain ⟨b, off, rfl, l0, hc⟩ := (HRS.out.below hb).at_ hkR
      have hx := List.getElem?_eq_getElem hkR
      obtain ⟨p1, p2, p3⟩ := HRR.out k _ hx
      have q0 := hc k _ hx 0 (by decide)
      have q1 := hc k _ hx 1 (by decide)
      have hys := wyN_len l.length k
      have hym := wyN_mem l.length k
      have HG : Hid (goodB L (rdL l (wyN l.length k)) = true) := goodB_rd HPL.out hys hym
      have hrl : (rdL l (wyN l.length k)).length = l.length := rdL_len l _ hys
      have HW : Hid (wT (rdL l (wyN l.length k)) = txB (wyN l.length k)) := wT_tx hys hym
      have HYES := Lib.hid (solK_yes (L := L) (l := l) (cs := cs) (T := k))
      have HNO := Lib.hid (solK_no (L := L) (l := l) (cs := cs) (T := k))
      have HFK : Hid (fitK L l cs k = fitAll L (rdL l (wyN l.length k)) cs) := rfl
      generalize R[k] = x at *
      obtain ⟨x1, x2, x3, x4⟩ := x
      simp only at p1 p2 p3
      subst p1; subst p2
      have q0' : wr.cell? ⟨b, off + k * 2, none⟩ = some (.int .i64 x1) := q0
      have q1' : wr.cell? ⟨b, off + k * 2 + 1, none⟩ = some (.slice x2 l.length x4) := q1
      clear hc q0 q1 hx
      have HAN : Hid (∀ W, Below w1.heap.size w1 W → AntsAt W x2 (rdL l (wyN l.length k))) := fun W hW => slAt_ants ((p3.below hW).sl)
      have HWO : Hid (∀ W, AntsAt W x2 (rdL l (wyN l.length k)) → Calls Tryz.prog 71 #[.agg #[.int .i64 x1, .slice x2 l.length x4]] W fun e w' => e = .returned (.tuple #[.string (txB (wyN l.length k)), .bool true]) ∧ Below W.heap.size W w') := fun W h => by
        have h2 := implWaysOf_any x1 x2 x4 (rdL l (wyN l.length k)) W h
        have e : woV x1 (rdL l (wyN l.length k)) = txB (wyN l.length k) := by unfold woV; rw [HG.out]; exact HW.out
        rw [hrl, HG.out, e] at h2
        exact h2
      have HCO : Hid (∀ (r : Bool) (W : World), fitAll x1 (rdL l (wyN l.length k)) cs = r → AntsAt W x2 (rdL l (wyN l.length k)) → SlAt tripS W C cs → W.cell? ⟨wr.heap.size, 0, none⟩ = some (.int .i64 x1) → W.cell? ⟨wr.heap.size, 1, none⟩ = some (.slice x2 l.length x4) →
          Calls Tryz.prog 68 #[.slice C cs.length d, .func (.func 69) #[] #[.pointer (some ⟨wr.heap.size, 0, none⟩)]] W fun e w' => e = .returned (.bool (!r)) ∧ Below W.heap.size W w') := fun r W hr hA hC h0 h1 => by
        have h2 := contains_any x1 x2 C x4 d (rdL l (wyN l.length k)) cs wr.heap.size r hr W (by rw [hrl]; exact HCL.out) HG.out hc6 hA hC h0 (by rw [hrl]; exact h1)
        exact h2
      have hbA : Below w1.heap.size w1 (wr.alloc (Obj.cells #[Value.int IntKind.i64 x1, Value.slice x2 l.length x4] 71)) := hb.trans ((Below.refl _ _).alloc (by omega) _)
      have HA9 := Lib.hid (HAN.out _ hbA)
      have HC9 : Hid (SlAt tripS (wr.alloc (Obj.cells #[Value.int IntKind.i64 x1, Value.slice x2 l.length x4] 71)) C cs) := HC.out.below (HB1.out.trans (hbA.mono (by omega)))
      have HBA := Lib.hid hbA
      clear p3 hb hown hbA hys hym hrl
      generalize txB (wyN l.length k) = tx at *
      cases hf : fitK x1 l cs k with
      | true =>
        have HS := Lib.hid (HYES.out hf)
        have HC2 := Lib.hid (fun W h1 h2 h3 h4 => HCO.out true W (HFK.out.symm.trans hf) h1 h2 h3 h4)
        clear hf
        go_wp2_with fail
        refine (HC2.out _ HA9.out HC9.out (by simp [go_sem]) (by simp [go_sem])).mono ?_
        rintro e w2 ⟨rfl, hb2⟩
        have HB2 : Hid (Below w1.heap.size w1 w2) := HBA.out.trans (hb2.mono HBA.out.size)
        have r0 : w2.cell? ⟨wr.heap.size, 0, none⟩ = some (.int .i64 x1) := Below.cell_some hb2 (by simp [go_sem])
        have r1 : w2.cell? ⟨wr.heap.size, 1, none⟩ = some (.slice x2 l.length x4) := Below.cell_some hb2 (by simp [go_sem])
        have HO2 := Lib.hid ((HOW.out.below ((Below.refl _ wr).alloc (Nat.le_refl _) _)).below hb2)
        have HA2 := Lib.hid (HAN.out _ HB2.out)
        clear hb2
        go_wp2_with fail
        refine (HWO.out _ HA2.out).mono ?_
        rintro e w3 ⟨rfl, hb3⟩
        have HB3 : Hid (Below w1.heap.size w1 w3) := HB2.out.trans (hb3.mono HB2.out.size)
        have HO3 := Lib.hid (HO2.out.below hb3)
        have hs3 : w1.heap.size ≤ w3.heap.size := HB3.out.size
        clear hb3
        generalize solK x1 l cs k = sk at *
        go_wp2_with (at_builtin; go_must (refine wpList_append_sl strS _ rfl _ _ 27 rfl w1.heap.size 9 i0 _ 16 Tryz.underlying27 hi hz0 hz1 hz2 rfl (by decide) _ _ rfl (HO3.out.below ((Below.refl _ _).alloc (Nat.le_refl _) _)) w3.heap.size tx #[.string tx] _ _ rfl (heap_new (by simp)) rfl (by have := HKL.out; omega) (by simp; omega) ?_); intro A5 k5 w5 hown5 hb5 hg5)
        go_roundw
        case rel => exact ⟨k + 1, by omega, by go_num, HB3.out.trans (((Below.refl _ _).alloc hs3 _).trans hb5), by rw [HS.out]; rw [List.length_append] at hown5; exact hown5⟩
        case measure => simp [intOf]; omega
      | false =>
        have HS := Lib.hid (HNO.out hf)
        have HC2 := Lib.hid (fun W h1 h2 h3 h4 => HCO.out false W (HFK.out.symm.trans hf) h1 h2 h3 h4)
        clear hf
        go_wp2_with fail
        refine (HC2.out _ HA9.out HC9.out (by simp [go_sem]) (by simp [go_sem])).mono ?_
        rintro e w2 ⟨rfl, hb2⟩
        have HB2 : Hid (Below w1.heap.size w1 w2) := HBA.out.trans (hb2.mono HBA.out.size)
        have HO2 := Lib.hid ((HOW.out.below ((Below.refl _ wr).alloc (Nat.le_refl _) _)).below hb2)
        clear hb2
        go_wp2
        go_roundw
        case rel => exact ⟨k + 1, by omega, by go_num, HB2.out, by rw [HS.out]; exact HO2.out⟩
        case measure => simp [intOf]; omega
    · obtain rfl : k = T := by omega
      have hkl : ¬ (k : Int) < (k : Int) := by omega
      go_wp2
      go_ret
      exact ⟨A3, _, k3, rfl, rfl, ownsRow_base HOW.out (by omega), HB1.out.trans (HBR.out.mono (by omega))⟩
end Go.Proofs.YtiodlclaempihaaGreat
