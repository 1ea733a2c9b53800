/- PuzzleText, both sides. -/
import Derived.Test.YtenpmjinbjlpbaaDoorPtA
import Derived.Test.YtenpmjinbjlpbaaDoorPzC
import Derived.Test.YtenpmjinbjlpbaaDoorPuzC
import Derived.Deep.RegionHeld3
import Derived.BigQuiet
namespace Go.Proofs.YtenpmjinbjlpbaaDoor
open Go.RowKit

theorem clB_nums {n k a b : Int} (hn : n ≤ 16) (h : clB n k a b = true) : (0 ≤ k ∧ k ≤ 1000) ∧ (0 ≤ a ∧ a ≤ 1000) ∧ (0 ≤ b ∧ b ≤ 1000) := by
  unfold clB inB at h
  split at h
  · simp at h; omega
  · split at h
    · simp at h; omega
    · split at h
      · simp at h; omega
      · split at h
        · simp at h; omega
        · split at h
          · simp at h; omega
          · split at h
            · simp at h; omega
            · cases h
theorem puz_nums {L : Int} {l : List Int} {cs : List (Int × Int × Int)} (h : puzB L l cs = true) : (2 ≤ L ∧ L ≤ 1000) ∧ (1 ≤ l.length ∧ l.length ≤ 8) ∧ cs.length ≤ 6 ∧ (∀ x ∈ l, 0 ≤ x ∧ x ≤ 1000) ∧ (∀ x ∈ cs, (0 ≤ x.1 ∧ x.1 ≤ 1000) ∧ (0 ≤ x.2.1 ∧ x.2.1 ≤ 1000) ∧ (0 ≤ x.2.2 ∧ x.2.2 ≤ 1000)) := by
  unfold puzB at h
  simp only [Bool.and_eq_true, decide_eq_true_eq] at h
  obtain ⟨⟨h1, h2⟩, h3⟩ := h
  have hp := (plB_iff L l).1 (hplB_plB h1)
  unfold hplB at h1
  simp only [Bool.and_eq_true] at h1
  have hl := (inB_iff _ _ _).1 h1.1.1.2
  have hr := h1.1.2
  refine ⟨⟨hp.1.1, hp.1.2.1⟩, by omega, h2, fun x hx => ?_, fun x hx => ?_⟩
  · obtain ⟨k, hk, rfl⟩ := List.getElem_of_mem hx
    unfold risB at hr
    have h4 := List.all_eq_true.1 hr k (List.mem_range.2 hk)
    unfold risAt at h4
    simp only [Bool.and_eq_true] at h4
    have h5 := (inB_iff _ _ _).1 h4.1
    rw [List.getD_eq_getElem?_getD, List.getElem?_eq_getElem hk] at h5
    have h6 : (some l[k]).getD 0 = l[k] := rfl
    rw [h6] at h5
    omega
  · unfold cluesB at h3
    have h4 := List.all_eq_true.1 h3 x hx
    exact clB_nums (by omega) h4
def ptV (L : Int) (l : List Int) (cs : List (Int × Int × Int)) : List UInt8 := if puzB L l cs then pzT L l cs else []
theorem ctx_len {x : Int × Int × Int} (h : (0 ≤ x.1 ∧ x.1 ≤ 1000) ∧ (0 ≤ x.2.1 ∧ x.2.1 ≤ 1000) ∧ (0 ≤ x.2.2 ∧ x.2.2 ≤ 1000)) : (ctx x).length ≤ 15 := by
  unfold ctx
  exact jn_dcs_len 46 (l := [x.1, x.2.1, x.2.2]) (fun y hy => by simp at hy; rcases hy with rfl | rfl | rfl <;> omega)
theorem mkB_app (a b : List UInt8) : mkB a ++ mkB b = mkB (a ++ b) := by
  unfold mkB
  exact (ByteArray.mk_append_mk _ _).trans (by simp)
theorem slAt_ints3 {w : World} {g : Nat} {x y z : Int} {e : TypeId} {m : Nat × Nat} (h : w.heap[g]? = some (.cells #[.int .i64 x, .int .i64 y, .int .i64 z] e m)) : SlAt intS w (some ⟨g, 0, none⟩) [x, y, z] := by
  refine .inr ⟨g, 0, rfl, (Array.getElem?_eq_some_iff.1 h).1, fun k u hk j hj => ?_⟩
  have hj0 : j = 0 := by have : j < 1 := hj; omega
  subst hj0
  rw [Nat.add_zero, Nat.zero_add, show intS.size = 1 from rfl, Nat.mul_one]
  rw [cell_of_row w g k _ _ _ h, ← Array.getElem?_toList]
  match k, hk with
  | 0, hk => simp at hk; subst hk; rfl
  | 1, hk => simp at hk; subst hk; rfl
  | 2, hk => simp at hk; subst hk; rfl
  | k + 3, hk => simp at hk

set_option maxRecDepth 100000 in
set_option maxHeartbeats 4000000 in
theorem implPT_any (L : Int) (A C : Option Addr) (c d : Nat) (l : List Int) (cs : List (Int × Int × Int)) (w : World) (hn : (l.length : Int) ≤ 9223372036854775807) (hm : (cs.length : Int) ≤ 9223372036854775807) (hA : SlAt intS w A l) (hC : SlAt tripS w C cs) (hT : Tab w) :
    Calls Tryd.prog 19 #[.agg #[.int .i64 L, .slice A l.length c, .slice C cs.length d]] w fun e w' => e = .returned (.tuple #[.string (mkB (ptV L l cs)), .bool (puzB L l cs)]) ∧ Below w.heap.size w w' := by
  obtain ⟨i0, hi, hz0, hz1, hz2⟩ := info_parts strI
  have HA := Lib.hid (hA.alloc (Obj.cells #[Value.int IntKind.i64 L, Value.slice A l.length c, Value.slice C cs.length d] 49))
  have HC := Lib.hid (hC.alloc (Obj.cells #[Value.int IntKind.i64 L, Value.slice A l.length c, Value.slice C cs.length d] 49))
  have HT := Lib.hid (hT.below ((Below.refl _ _).alloc (Nat.le_refl _) (Obj.cells #[Value.int IntKind.i64 L, Value.slice A l.length c, Value.slice C cs.length d] 49)))
  clear hA hC hT
  cases hz : puzB L l cs with
  | false =>
    have HV : Hid (ptV L l cs = []) := by show _ = _; unfold ptV; rw [hz]; rfl
    have HG := Lib.hid (fun w h h' => implIsPuzzle_at L A C c d l cs false hz w hn hm h h')
    clear hz
    go_enter Tryd.func19, Tryd.ntmps19
    go_wp2_with fail
    refine (HG.out _ HA.out HC.out).mono ?_
    rintro e w1 ⟨rfl, hb⟩
    go_wp2
    go_ret2
    exact ⟨by rw [HV.out]; rfl, ((Below.refl _ _).alloc (Nat.le_refl _) _).trans (hb.mono (by simp))⟩
  | true =>
    have HN := Lib.hid (puz_nums hz)
    have HV : Hid (ptV L l cs = pzT L l cs) := by show _ = _; unfold ptV; rw [hz]; rfl
    have HG := Lib.hid (fun w h h' => implIsPuzzle_at L A C c d l cs true hz w hn hm h h')
    have hc6 : (cs.length : Int) ≤ 6 := by have := HN.out.2.2.1; omega
    clear hz
    go_enter Tryd.func19, Tryd.ntmps19
    go_wp2_with fail
    refine (HG.out _ HA.out HC.out).mono ?_
    rintro e w1 ⟨rfl, hb⟩
    have c0 : w1.cell? ⟨w.heap.size, 0, none⟩ = some (.int .i64 L) := by rw [hb.cell (p := ⟨w.heap.size, 0, none⟩) (by simp)]; simp [go_sem]
    have c1 : w1.cell? ⟨w.heap.size, 1, none⟩ = some (.slice A l.length c) := by rw [hb.cell (p := ⟨w.heap.size, 1, none⟩) (by simp)]; simp [go_sem]
    have c2 : w1.cell? ⟨w.heap.size, 2, none⟩ = some (.slice C cs.length d) := by rw [hb.cell (p := ⟨w.heap.size, 2, none⟩) (by simp)]; simp [go_sem]
    have HB := Lib.hid (((Below.refl _ w).alloc (Nat.le_refl _) _).trans (hb.mono (by simp)))
    have HA1 := Lib.hid (HA.out.below hb)
    have HC1 := Lib.hid (HC.out.below hb)
    have HT1 := Lib.hid (HT.out.below hb)
    have C0 := Lib.hid c0
    have C1 := Lib.hid c1
    clear hb c0 c1
    go_wp2
    go_loopw [4, 13] (fun v i wr => ∃ k : Nat, k ≤ cs.length ∧ i = .int .i64 k ∧ Below w1.heap.size w1 wr ∧ SlOwn strS wr w1.heap.size 9 v (((cs.take k).map ctx).map mkB))
      (fun _ i _ => cs.length - (intOf i).toNat)
    case atStart => exact ⟨0, Nat.zero_le _, rfl, Below.refl _ _, SlOwn.nil _ _ _ _⟩
    case round =>
      obtain ⟨k, hk, rfl, hb, hown⟩ := hrel
      have HBR := Lib.hid hb
      have hsr := hb.size
      obtain ⟨A3, k3, rfl, _, _⟩ := hown.form
      have hlen : (((cs.take k).map ctx).map mkB).length = k := by rw [List.length_map, List.length_map, List.length_take]; omega
      rw [hlen]
      rw [hlen] at hown
      have HOW := Lib.hid hown
      have HLK := Lib.hid hlen
      have HCr := Lib.hid (HC1.out.below hb)
      have HTr := Lib.hid (HT1.out.below hb)
      clear hown hlen
      by_cases hlt : k < cs.length
      · obtain ⟨b, off, rfl, l0, hc⟩ := HCr.out.trip_at hlt
        obtain ⟨a0, a1, a2⟩ := hc k _ (List.getElem?_eq_getElem hlt)
        have HSN : Hid (((cs.take (k + 1)).map ctx).map mkB = ((cs.take k).map ctx).map mkB ++ [mkB (ctx cs[k])]) := by
          show _ = _
          rw [List.take_succ_eq_append_getElem hlt, List.map_append, List.map_append]; rfl
        have hq := HN.out.2.2.2.2 cs[k] (List.getElem_mem hlt)
        have HI : Hid (∀ W A, SlAt intS W A [cs[k].1, cs[k].2.1, cs[k].2.2] → Tab W → Calls Tryd.prog 41 #[.string ⟨#[46]⟩, .slice A 3 3] W fun e w' => e = .returned (.string (mkB (ctx cs[k]))) ∧ Below W.heap.size W w') := fun W A h1 h2 => textN_any 46 A 3 _ W (by simp) (fun y hy => by simp at hy; rcases hy with rfl | rfl | rfl <;> omega) h1 h2
        clear hc hb hq
        generalize ((cs.take k).map ctx).map mkB = pk at *
        generalize mkB (ctx cs[k]) = y at *
        generalize cs[k] = x at *
        obtain ⟨x1, x2, x3⟩ := x
        simp only at a0 a1 a2 HI
        have hkl : (k : Int) < (cs.length : Int) := by omega
        go_wp2_with (first
          | (at_builtin; go_must (refine wpList_append_slsv strS _ rfl _ _ 72 rfl w1.heap.size 9 i0 _ 16 Tryd.underlying72 hi hz0 hz1 hz2 rfl (by decide) _ pk rfl (SlOwn.below HO4.out ((Below.refl _ _).alloc (Nat.le_refl _) _)) _ 1 1 [y] rfl rfl (slAt_oneB (heap_new (by simp))) (by have := HLK.out; simp only [List.length_cons, List.length_nil]; omega) (by simp; omega) ?_); intro A5 n5 k5 w5 hn5 hown5 hb5; have HO5 := Lib.hid hown5; have HN5 : Hid (n5 = k + 1) := (by show _ = _; rw [hn5, List.length_append, HLK.out]; rfl); have HB5 := Lib.hid (HB4.out.trans (((Below.refl _ _).alloc (Nat.le_refl _) _ |>.mono (by omega)).trans hb5)); clear hn5 hown5 hb5)
          | (go_at_call 41; refine (HI.out _ _ (slAt_ints3 (heap_new (by simp))) (HTr.out.below (((Below.refl _ _).alloc (Nat.le_refl _) _).alloc (by simp) _))).mono ?_; rintro e w4 ⟨rfl, hb4⟩; have hs4 := hb4.size; have HBQ : Hid (Below wr.heap.size wr w4) := ((((Below.refl _ _).alloc (Nat.le_refl _) _).alloc (by simp) _).trans (hb4.mono (by simp; omega))); have HO4 := Lib.hid (SlOwn.below HOW.out HBQ.out); have HB4 := Lib.hid (HBR.out.trans (HBQ.out.mono HBR.out.size)); have hs5 := HBQ.out.size; clear hb4))
        go_roundw
        case rel =>
          refine ⟨k + 1, by omega, by go_num, HB5.out, ?_⟩
          rw [HSN.out]
          exact HO5.out
        case measure => simp [intOf]; omega
      · obtain rfl : k = cs.length := by omega
        have HTK : Hid (((cs.take cs.length).map ctx).map mkB = (cs.map ctx).map mkB) := by show _ = _; rw [List.take_length]
        rw [HTK.out] at HOW
        have hcap := own_cap HOW.out
        have hjl := jn_len 44 (cs.map ctx) 15 (fun y hy => by obtain ⟨x, hx, rfl⟩ := List.mem_map.1 hy; exact ctx_len (HN.out.2.2.2.2 x hx))
        have hpl := jn_dcs_len 43 (l := l) (fun x hx => (HN.out.2.2.2.1 x hx).2)
        have hll := dcI_len HN.out.1.2
        rw [List.length_map] at hjl
        have hl8 := HN.out.2.1
        have hml : (cs.map ctx).length = cs.length := List.length_map _
        have HR1 : Hid (∀ x : Ext wr, Calls Tryd.prog 42 #[.int .i64 L] x.w fun e w' => e = .returned (.string (mkB (dcI L))) ∧ Below x.w.heap.size x.w w') := fun x => itoa_at L (by have := HN.out.1; omega) HN.out.1.2 x.w (HTr.out.below x.h)
        have HR2 : Hid (∀ x : Ext wr, Calls Tryd.prog 41 #[.string ⟨#[43]⟩, .slice A l.length c] x.w fun e w' => e = .returned (.string (mkB (jn 43 (dcs l)))) ∧ Below x.w.heap.size x.w w') := fun x => textN_any 43 A c l x.w (by omega) HN.out.2.2.2.1 ((HA1.out.below hb).below x.h) (HTr.out.below x.h)
        have HR3 : Hid (∀ x : Ext wr, Calls Tryd.prog 43 #[.slice A3 cs.length k3, .string ⟨#[44]⟩] x.w fun e w' => e = .returned (.string (mkB (jn 44 (cs.map ctx)))) ∧ Below x.w.heap.size x.w w') := fun x => by
          have h := join_texts 44 A3 k3 (cs.map ctx) x.w (by omega) (by omega) (by omega) (HOW.out.sl.below x.h)
          rw [hml] at h
          exact h
        have hs1 : (mkB (dcI L)).size ≤ 4 := hll
        have hs2 : (mkB (jn 43 (dcs l))).size ≤ 40 := by show (jn 43 (dcs l)).length ≤ 40; omega
        have hs3 : (mkB (jn 44 (cs.map ctx))).size ≤ 96 := by show (jn 44 (cs.map ctx)).length ≤ 96; omega
        have HF : Hid (mkB (dcI L) ++ ⟨#[58]⟩ ++ mkB (jn 43 (dcs l)) ++ ⟨#[58]⟩ ++ mkB (jn 44 (cs.map ctx)) = mkB (ptV L l cs)) := by
          show _ = _
          rw [HV.out]
          show mkB (dcI L) ++ mkB [58] ++ mkB (jn 43 (dcs l)) ++ mkB [58] ++ mkB (jn 44 (cs.map ctx)) = _
          rw [mkB_app, mkB_app, mkB_app, mkB_app]
          rfl
        clear hcap hjl hpl hll hml HTK
        generalize mkB (dcI L) = t1 at *
        generalize mkB (jn 43 (dcs l)) = t2 at *
        generalize mkB (jn 44 (cs.map ctx)) = t3 at *
        have f0 := Ext.cell (Below.cell_some hb C0.out)
        have f1 := Ext.cell (Below.cell_some hb C1.out)
        have z1 : ¬ 9223372036854775807 < t1.size + 1 := by omega
        have z2 : ¬ 9223372036854775807 < (t1 ++ ⟨#[58]⟩).size + t2.size := by rw [ByteArray.size_append]; show ¬ 9223372036854775807 < t1.size + 1 + t2.size; omega
        have z3 : ¬ 9223372036854775807 < (t1 ++ ⟨#[58]⟩ ++ t2).size + 1 := by rw [ByteArray.size_append, ByteArray.size_append]; show ¬ 9223372036854775807 < t1.size + 1 + t2.size + 1; omega
        have z4 : ¬ 9223372036854775807 < (t1 ++ ⟨#[58]⟩ ++ t2 ++ ⟨#[58]⟩).size + t3.size := by rw [ByteArray.size_append, ByteArray.size_append, ByteArray.size_append]; show ¬ 9223372036854775807 < t1.size + 1 + t2.size + 1 + t3.size; omega
        clear hb
        have hkl : ¬ (cs.length : Int) < (cs.length : Int) := by omega
        go_wp2
        refine wp_region_ext (by kernel_rfl) (by kernel_rfl) ?_
        repeat (first | go_big_quiet_skip | (go_big_quiet_want; go_big_quiet_op; first | go_big_quiet_on | (apply Exists.intro; refine ⟨fun _ => ?_, ?_⟩; (first | (go_at_call 42; exact Ext.call (HR1.out _)) | (go_at_call 41; exact Ext.call (HR2.out _)) | (go_at_call 43; exact Ext.call (HR3.out _))); go_big_quiet_on)))
        refine wpQuiet_nil ?_
        rintro _ ⟨x, rfl⟩
        go_wp2
        go_ret2
        exact ⟨by rw [← HF.out]; rfl, HB.out.trans ((HBR.out.trans (x.h.mono HBR.out.size)).mono HB.out.size)⟩
end Go.Proofs.YtenpmjinbjlpbaaDoor
