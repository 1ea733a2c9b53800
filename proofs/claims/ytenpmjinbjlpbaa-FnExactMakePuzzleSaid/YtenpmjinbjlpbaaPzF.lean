/- Puzzles, the program: hiddenPlaces, DoesFit. -/
import Derived.Test.YtenpmjinbjlpbaaPzE
import Derived.Test.YtenpmjinbjlpbaaPuzH
import Derived.Test.YtenpmjinbjlpbaaPuzI
namespace Go.Proofs.Ytenpmjinbjlpbaa
open Go.RowKit

set_option maxRecDepth 100000 in
set_option maxHeartbeats 2000000 in
theorem hiddenPlaces_any (L : Int) (A : Option Addr) (c : Nat) (l : List (Int × Int)) (w : World) (hn : (l.length : Int) ≤ 1048576) (hA : AntsAt w A l) :
    Calls Try.prog 45 #[.agg #[.int .i64 L, .slice A l.length c]] w fun e w' => ∃ A' c', e = .returned (.tuple #[.slice A' l.length c', .bool (hidB L l)]) ∧ SlOwn intS w' w.heap.size 3 (.slice A' l.length c') (l.map Prod.fst) ∧ Below w.heap.size w w' := by
  obtain ⟨i0, hi, hz0, hz1, hz2⟩ := info_parts intInfo
  obtain ⟨W, hW⟩ : ∃ W, W = w.alloc (Obj.cells #[Value.int IntKind.i64 L, Value.slice A l.length c] 47) := ⟨_, rfl⟩
  have HBW : Hid (Below w.heap.size w W) := by show Below _ _ _; rw [hW]; exact (Below.refl _ _).alloc (Nat.le_refl _) _
  have hsW : w.heap.size + 1 ≤ W.heap.size := by rw [hW]; simp
  have HA := Lib.hid (hA.below HBW.out)
  have c0 : W.cell? ⟨w.heap.size, 0, none⟩ = some (.int .i64 L) := by rw [hW]; simp [go_sem]
  have c1 : W.cell? ⟨w.heap.size, 1, none⟩ = some (.slice A l.length c) := by rw [hW]; simp [go_sem]
  clear hA
  have C0 := Lib.hid c0
  have C1 := Lib.hid c1
  have hml : (l.map Prod.fst).length = l.length := List.length_map _
  have HML := Lib.hid hml
  clear hml
  have HG : Hid (∀ w, AntsAt w A l → Calls Try.prog 62 #[.agg #[.int .i64 L, .slice A l.length c]] w fun e w' => e = .returned (.bool (goodB L l)) ∧ Below w.heap.size w w') := fun w h => isRod_any L A c l w h
  have HP : Hid (∀ (X : World) (A' : Option Addr) (c' : Nat), SlAt intS X A' (l.map Prod.fst) → Calls Try.prog 52 #[.int .i64 L, .slice A' l.length c'] X fun e w' => e = .returned (.bool (hplB L (l.map Prod.fst))) ∧ Below X.heap.size X w') := fun X A' c' h => by
    have := placesP_any L A' c' (l.map Prod.fst) X (by rw [HML.out]; omega) h
    rw [HML.out] at this
    exact this
  go_enter Try.func45, Try.ntmps45
  go_wp2
  rw [← hW]
  clear hW
  go_loopw [4, 10] (fun v i wr => ∃ k : Nat, k ≤ l.length ∧ i = .int .i64 k ∧ Below W.heap.size W wr ∧ SlOwn intS wr W.heap.size 3 v ((l.map Prod.fst).take k))
    (fun _ i _ => l.length - (intOf i).toNat)
  case atStart => exact ⟨0, Nat.zero_le _, rfl, Below.refl _ _, SlOwn.nil _ _ _ _⟩
  case round =>
    obtain ⟨k, hk, rfl, hb, hown⟩ := hrel
    have HBR := Lib.hid hb
    have hsr := hb.size
    obtain ⟨A3, k3, rfl, hat, hin⟩ := hown.form
    have hlen : ((l.map Prod.fst).take k).length = k := by rw [List.length_take, List.length_map]; omega
    rw [hlen]
    rw [hlen] at hown
    have HOW := Lib.hid hown
    have HLK := Lib.hid hlen
    clear hown hat hin hlen
    have HAr := Lib.hid (HA.out.below hb)
    by_cases hlt : k < l.length
    · obtain ⟨b, off, rfl, l0, hc⟩ := HAr.out.at_ hlt
      obtain ⟨a0, a1⟩ := hc k hlt
      have HSN : Hid ((l.map Prod.fst).take (k + 1) = (l.map Prod.fst).take k ++ [(l.getD k (0, 0)).1]) := by
        show _ = _
        rw [List.take_succ_eq_append_getElem (by simpa using hlt), List.getElem_map, List.getD_eq_getElem?_getD, List.getElem?_eq_getElem hlt]; rfl
      clear hc hb
      generalize l.getD k (0, 0) = x at *
      obtain ⟨x1, x2⟩ := x
      simp only at a0 a1 HSN
      have hkl : (k : Int) < (l.length : Int) := by omega
      go_wp2_with (at_builtin; go_must (refine wpList_append_sl intS _ rfl _ _ 22 rfl W.heap.size 3 i0 _ 8 Try.underlying22 hi hz0 hz1 hz2 rfl (by decide) _ _ rfl ((HOW.out.below ((Below.refl _ _).alloc (Nat.le_refl _) _)).below ((Below.refl _ _).alloc (Nat.le_refl _) _)) (wr.heap.size + 1) x1 #[.int .i64 x1] _ _ rfl (heap_new (by simp)) rfl (by have := HLK.out; omega) (by simp; omega) ?_); intro A5 k5 w5 hown5 hb5 hg5)
      go_roundw
      case rel =>
        refine ⟨k + 1, by omega, by go_num, ?_, ?_⟩
        · exact HBR.out.trans ((((Below.refl _ _).alloc (by omega) _).alloc (by simp; omega) _).trans hb5)
        · rw [HSN.out]; rw [List.length_append, HLK.out] at hown5; exact hown5
      case measure => simp [intOf]; omega
    · obtain rfl : k = l.length := by omega
      have HT : Hid ((l.map Prod.fst).take l.length = l.map Prod.fst) := by show _ = _; rw [List.take_of_length_le (by simp)]
      rw [HT.out] at HOW
      have c0 := Below.cell_some hb C0.out
      have c1 := Below.cell_some hb C1.out
      have HBZ : Hid (Below w.heap.size w wr) := HBW.out.trans (HBR.out.mono (by omega))
      clear hb
      have hkl : ¬ (l.length : Int) < (l.length : Int) := by omega
      cases hg : goodB L l with
      | false =>
        have HV : Hid (hidB L l = false) := by show _ = _; simp [hidB, hg]
        rw [hg] at HG
        clear hg
        go_wp2_with fail
        refine (HG.out _ HAr.out).mono ?_
        rintro e w2 ⟨rfl, hb2⟩
        have HO2 := Lib.hid (HOW.out.below hb2)
        have HB2 := Lib.hid (HBZ.out.trans (hb2.mono HBZ.out.size))
        clear hb2
        go_wp2
        go_ret2
        exact ⟨A3, k3, ret_sb rfl HV.out.symm, ownsRow_base HO2.out (by omega), HB2.out⟩
      | true =>
        have HV : Hid (hidB L l = hplB L (l.map Prod.fst)) := by show _ = _; simp [hidB, hg]
        rw [hg] at HG
        clear hg
        generalize hplB L (l.map Prod.fst) = r at *
        go_wp2_with fail
        refine (HG.out _ HAr.out).mono ?_
        rintro e w2 ⟨rfl, hb2⟩
        have HO2 := Lib.hid (HOW.out.below hb2)
        have HB2 := Lib.hid (HBZ.out.trans (hb2.mono HBZ.out.size))
        have c0 := Below.cell_some hb2 c0
        clear hb2
        go_wp2_with fail
        refine (HP.out _ _ _ HO2.out.sl).mono ?_
        rintro e w3 ⟨rfl, hb3⟩
        have HO3 := Lib.hid (HO2.out.below hb3)
        have HB3 := Lib.hid (HB2.out.trans (hb3.mono HB2.out.size))
        clear hb3
        go_wp2
        go_ret2
        exact ⟨A3, k3, ret_sb rfl HV.out.symm, ownsRow_base HO3.out (by omega), HB3.out⟩
theorem hiddenPlaces_at (L : Int) (A : Option Addr) (c : Nat) (l : List (Int × Int)) (r : Bool) (hr : hidB L l = r) (w : World) (hn : (l.length : Int) ≤ 1048576) (hA : AntsAt w A l) :
    Calls Try.prog 45 #[.agg #[.int .i64 L, .slice A l.length c]] w fun e w' => ∃ A' c', e = .returned (.tuple #[.slice A' l.length c', .bool r]) ∧ SlOwn intS w' w.heap.size 3 (.slice A' l.length c') (l.map Prod.fst) ∧ Below w.heap.size w w' := by
  subst hr; exact hiddenPlaces_any L A c l w hn hA

end Go.Proofs.Ytenpmjinbjlpbaa
