/- What rods may be hidden, on the model's side: pzHidden. -/
import Derived.Test.YtenpmjinbjlpbaaPuzG
namespace Go.Proofs.Ytenpmjinbjlpbaa
open Go.RowKit

/-- a rod of 1..8 ants, all in different places -/
def hidB (L : Int) (l : List (Int × Int)) : Bool := goodB L l && hplB L (l.map Prod.fst)

set_option maxRecDepth 100000 in
set_option maxHeartbeats 2000000 in
theorem pzHidden_any (L : Int) (A : Option Addr) (c : Nat) (l : List (Int × Int)) (w : World) (hA : AntsAt w A l) :
    Calls Try.prog 36 #[.agg #[.int .i64 L, .slice A l.length c]] w fun e w' => e = .returned (.bool (hidB L l)) ∧ Below w.heap.size w w' := by
  obtain ⟨i0, hi, hz0, hz1, hz2⟩ := info_parts intInfo
  have HA := Lib.hid (hA.alloc (Obj.cells #[Value.int IntKind.i64 L, Value.slice A l.length c] 47))
  clear hA
  cases hg : goodB L l with
  | false =>
    have HV : Hid (hidB L l = false) := by show _ = _; simp [hidB, hg]
    have HG : Hid (∀ w, AntsAt w A l → Calls Try.prog 58 #[.agg #[.int .i64 L, .slice A l.length c]] w fun e w' => e = .returned (.bool false) ∧ Below w.heap.size w w') := fun w h => by
      rw [← hg]; exact roGood_any L A c l w h
    clear hg
    go_enter Try.func36, Try.ntmps36
    go_wp2_with fail
    refine (HG.out _ HA.out).mono ?_
    rintro e w1 ⟨rfl, hb⟩
    go_wp2
    go_ret
    exact ⟨ret_bool HV.out.symm, ((Below.refl _ _).alloc (Nat.le_refl _) _).trans (hb.mono (by simp))⟩
  | true =>
    have HG : Hid (∀ w, AntsAt w A l → Calls Try.prog 58 #[.agg #[.int .i64 L, .slice A l.length c]] w fun e w' => e = .returned (.bool true) ∧ Below w.heap.size w w') := fun w h => by
      rw [← hg]; exact roGood_any L A c l w h
    have HV : Hid (hidB L l = hplB L (l.map Prod.fst)) := by show _ = _; simp [hidB, hg]
    have hn := good_len hg
    have HP : Hid (∀ (X : World) (A' : Option Addr) (c' : Nat), SlAt intS X A' (l.map Prod.fst) → Calls Try.prog 50 #[.int .i64 L, .slice A' l.length c'] X fun e w' => e = .returned (.bool (hplB L (l.map Prod.fst))) ∧ X = w') := fun X A' c' h => by
      have := pzPlaces_any L A' c' (l.map Prod.fst) X (by simp; omega) h
      simpa using this
    clear hg
    go_enter Try.func36, Try.ntmps36
    go_wp2_with fail
    refine (HG.out _ HA.out).mono ?_
    rintro e w1 ⟨rfl, hb⟩
    have c0 : w1.cell? ⟨w.heap.size, 0, none⟩ = some (.int .i64 L) := by rw [hb.cell (p := ⟨w.heap.size, 0, none⟩) (by simp)]; simp
    have c1 : w1.cell? ⟨w.heap.size, 1, none⟩ = some (.slice A l.length c) := by rw [hb.cell (p := ⟨w.heap.size, 1, none⟩) (by simp)]; simp
    have HB := Lib.hid (((Below.refl _ w).alloc (Nat.le_refl _) _).trans (hb.mono (by simp)))
    have HA1 := Lib.hid (HA.out.below hb)
    have hs1 : w.heap.size < w1.heap.size := by have := hb.size; simp at this; omega
    clear hb
    have C0 := Lib.hid c0
    have C1 := Lib.hid c1
    go_wp2
    go_loopw [3, 12] (fun v i wr => ∃ k : Nat, k ≤ l.length ∧ i = .int .i64 k ∧ Below w1.heap.size w1 wr ∧ SlOwn intS wr w1.heap.size 3 v ((l.map Prod.fst).take k))
      (fun _ i _ => l.length - (intOf i).toNat)
    case atStart => exact ⟨0, Nat.zero_le _, rfl, Below.refl _ _, SlOwn.nil _ _ _ _⟩
    case round =>
      obtain ⟨k, hk, rfl, hb, hown⟩ := hrel
      have HBR := Lib.hid hb
      have hsr := hb.size
      obtain ⟨A3, k3, rfl, hat, hin⟩ := hown.form
      have hlen : ((l.map Prod.fst).take k).length = k := by rw [List.length_take, List.length_map]; omega
      rw [hlen]
      rw [hlen] at hown
      have HOW := Lib.hid hown
      have HLK := Lib.hid hlen
      clear hown hat hin hlen
      have HAr := Lib.hid (HA1.out.below hb)
      by_cases hlt : k < l.length
      · obtain ⟨b, off, rfl, l0, hc⟩ := HAr.out.at_ hlt
        obtain ⟨a0, a1⟩ := hc k hlt
        have HSN : Hid ((l.map Prod.fst).take (k + 1) = (l.map Prod.fst).take k ++ [(l.getD k (0, 0)).1]) := by
          show _ = _
          rw [List.take_succ_eq_append_getElem (by simpa using hlt), List.getElem_map, List.getD_eq_getElem?_getD, List.getElem?_eq_getElem hlt]; rfl
        have c1 := Below.cell_some hb C1.out
        clear hc hb
        generalize l.getD k (0, 0) = x at *
        obtain ⟨x1, x2⟩ := x
        simp only at a0 a1 HSN
        have hkl : (k : Int) < (l.length : Int) := by omega
        go_wp2_with (at_builtin; go_must (refine wpList_append_sl intS _ rfl _ _ 22 rfl w1.heap.size 3 i0 _ 8 Try.underlying22 hi hz0 hz1 hz2 rfl (by decide) _ _ rfl ((HOW.out.below ((Below.refl _ _).alloc (Nat.le_refl _) _)).below ((Below.refl _ _).alloc (Nat.le_refl _) _)) (wr.heap.size + 1) x1 #[.int .i64 x1] _ _ rfl (heap_new (by simp)) rfl (by have := HLK.out; omega) (by simp; omega) ?_); intro A5 k5 w5 hown5 hb5 hg5)
        go_roundw
        case rel =>
          refine ⟨k + 1, by omega, by go_num, ?_, ?_⟩
          · exact HBR.out.trans ((((Below.refl _ _).alloc (by omega) _).alloc (by simp; omega) _).trans hb5)
          · rw [HSN.out]; rw [List.length_append, HLK.out] at hown5; exact hown5
        case measure => simp [intOf]; omega
      · obtain rfl : k = l.length := by omega
        have HT : Hid ((l.map Prod.fst).take l.length = l.map Prod.fst) := by show _ = _; rw [List.take_of_length_le (by simp)]
        rw [HT.out] at HOW
        have c0 := Below.cell_some hb C0.out
        have c1 := Below.cell_some hb C1.out
        clear hb
        go_wp2_with fail
        refine (HP.out _ _ _ HOW.out.sl).mono ?_
        rintro e w2 ⟨rfl, rfl⟩
        go_wp2
        go_ret
        exact ⟨ret_bool HV.out.symm, HB.out.trans (HBR.out.mono (by omega))⟩
end Go.Proofs.Ytenpmjinbjlpbaa
