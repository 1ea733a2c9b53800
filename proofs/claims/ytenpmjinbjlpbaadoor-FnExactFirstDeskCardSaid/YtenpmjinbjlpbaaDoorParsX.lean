/- impl.ParseRod: what the model reads. -/
import Derived.Test.YtenpmjinbjlpbaaDoorParsL
import Derived.Test.YtenpmjinbjlpbaaDoorText
namespace Go.Proofs.YtenpmjinbjlpbaaDoor
open Go.RowKit

theorem oneT_list (p : Int × Int) : (oneT p).data.toList = oneL p := by
  unfold oneT oneL
  split
  · rw [ByteArray.data_append, Array.toList_append]; rfl
  · rw [ByteArray.data_append, Array.toList_append]; rfl
theorem textOn_list (l : List (Int × Int)) : ∀ s : ByteArray, (textOn s l).data.toList = s.data.toList ++ textL l := by
  induction l with
  | nil => intro s; simp [textOn, textL]
  | cons p t ih =>
    intro s
    show (textOn (s ++ oneT p) t).data.toList = _
    rw [ih, ByteArray.data_append, Array.toList_append, oneT_list, List.append_assoc]
    rfl
theorem rodT_list {L : Int} {l : List (Int × Int)} (h : goodB L l = true) : (rodT L l).data.toList = txt 58 L l := by
  unfold rodT
  rw [h, if_pos rfl, textOn_list, ByteArray.data_append, Array.toList_append, List.append_assoc]
  rfl

def MaxL (w : World) : Prop := ∃ m, w.cell? ⟨2, 0, none⟩ = some (.int .i64 m)
theorem MaxL.below {w w' : World} (h : MaxL w) (hb : Below w.heap.size w w') : MaxL w' := by
  obtain ⟨m, h⟩ := h; exact ⟨m, Below.cell_some hb h⟩

theorem cut58 (s : ByteArray) (hs : s.size ≤ 1048577) (w : World) (hM : MaxL w) :
    Calls Tryd.prog 55 #[.string s, .string ⟨#[58]⟩] w fun e w' => e = .returned (.tuple #[.string (mkB (Lib.cut s.data.toList [58]).1), .string (mkB (Lib.cut s.data.toList [58]).2.1), .bool (Lib.cut s.data.toList [58]).2.2]) ∧ Below w.heap.size w w' := by
  obtain ⟨m, hm⟩ := hM
  refine (Any.strings_Cut cut s ⟨#[58]⟩ m w (by omega) hm).mono ?_
  rintro e w' ⟨h1, n, rfl⟩
  exact ⟨h1, ⟨rfl, rfl, rfl, Nat.le_refl _, fun _ _ => rfl⟩⟩

theorem cut_sizes (l : List UInt8) : (Lib.cut l [58]).1.length ≤ l.length ∧ (Lib.cut l [58]).2.1.length ≤ l.length := by
  unfold Lib.cut
  split
  · simp only [List.length_take, List.length_drop]; omega
  · simp

/-- how the program's reading ends -/
theorem prog_no {l : List UInt8} (h : (∀ v, Lib.atoiAll (Lib.cut l [58]).1 ≠ .ok v) ∨ pFine (Lib.cut l [58]).2.1 = false) : pL 58 l = 0 ∧ pA 58 l = [] ∧ pOk 58 l = false := by
  refine p_none ?_
  rw [← prog_model mark58]
  unfold progRod
  split
  · rename_i L q h1 h2
    rcases h with h | h
    · exact absurd h1 (h L)
    · unfold pFine at h; rw [h2] at h; cases h
  · rfl
theorem prog_parts {l : List UInt8} {L : Int} (h1 : Lib.atoiAll (Lib.cut l [58]).1 = .ok L) (h2 : pFine (Lib.cut l [58]).2.1 = true) :
    pRod 58 l = if goodB L (pAnts (Lib.cut l [58]).2.1) = true ∧ txt 58 L (pAnts (Lib.cut l [58]).2.1) = l then some (L, pAnts (Lib.cut l [58]).2.1) else none := by
  rw [← prog_model mark58]
  unfold progRod
  unfold pFine at h2
  obtain ⟨q, hq⟩ := Option.isSome_iff_exists.mp h2
  have e : pAnts (Lib.cut l [58]).2.1 = q := by unfold pAnts; rw [hq]; rfl
  rw [e, h1, hq]

set_option maxHeartbeats 4000000 in
set_option maxRecDepth 100000 in
theorem parseRod_wide (s : ByteArray) (hs : s.size ≤ 1048577) (hs1 : (Lib.cut s.data.toList [58]).1.length ≤ 1048576) (hs2 : (Lib.cut s.data.toList [58]).2.1.length ≤ 1048576) (w : World) (hE : Errs w) (hT : Tab w) (hM : MaxL w) :
    Calls Tryd.prog 25 #[.string s] w fun e w' => ∃ A n c', e = .returned (.tuple #[.agg #[.int .i64 (pL 58 s.data.toList), .slice A n c'], .bool (pOk 58 s.data.toList)]) ∧ n = (pA 58 s.data.toList).length ∧ SlOwn pairS w' w.heap.size 58 (.slice A n c') (pA 58 s.data.toList) ∧ Below w.heap.size w w' := by
  have hl := len_toList s
  have HC := Lib.hid (cut58 s hs)
  obtain ⟨l, hgl⟩ : ∃ l, s.data.toList = l := ⟨_, rfl⟩
  rw [hgl] at hl HC hs1 hs2 ⊢
  have hd1 := hs1
  have hd2 := hs2
  clear hs1 hs2
  obtain ⟨hd, hhd⟩ : ∃ hd, (Lib.cut l [58]).1 = hd := ⟨_, rfl⟩
  obtain ⟨td, htd⟩ : ∃ td, (Lib.cut l [58]).2.1 = td := ⟨_, rfl⟩
  obtain ⟨cb, hcb⟩ : ∃ cb, (Lib.cut l [58]).2.2 = cb := ⟨_, rfl⟩
  have hno := fun h => prog_no (l := l) h
  have hpp := fun (L : Int) h1 h2 => prog_parts (l := l) (L := L) h1 h2
  rw [hhd, htd] at hno hpp
  rw [hhd, htd, hcb] at HC
  rw [hhd] at hd1; rw [htd] at hd2
  have HNO := Lib.hid hno
  have HPP := Lib.hid hpp
  have HE := Lib.hid hE
  have HT := Lib.hid hT
  have HM := Lib.hid hM
  have HPA : Hid (∀ W, Errs W → Calls Tryd.prog 56 #[.string (mkB td)] W fun e w' => ∃ A n c, e = .returned (.tuple #[.slice A n c, .bool (pFine td)]) ∧ n = (pAnts td).length ∧ SlOwn pairS w' W.heap.size 58 (.slice A n c) (pAnts td) ∧ Below W.heap.size W w') := fun W hW => parseAnts_any (mkB td) (by rw [mkB_size]; omega) W hW
  have HGL := Lib.hid hgl
  clear hno hpp hE hT hM hhd htd hcb hgl
  go_enter Tryd.func25, Tryd.ntmps25
  go_wp2_with fail
  refine (HC.out _ (HM.out.below ((Below.refl _ _).alloc (Nat.le_refl _) _))).mono ?_
  rintro e w1 ⟨rfl, hb⟩
  have r0 : w1.cell? ⟨w.heap.size, 0, none⟩ = some (.int .i64 0) := by rw [hb.cell (p := ⟨w.heap.size, 0, none⟩) (by simp)]; simp [go_sem]
  have r1 : w1.cell? ⟨w.heap.size, 1, none⟩ = some (.slice none 0 0) := by rw [hb.cell (p := ⟨w.heap.size, 1, none⟩) (by simp)]; simp [go_sem]
  have f0 : w1.frozen? ⟨w.heap.size, 0, none⟩ = false := by rw [hb.frozen (p := ⟨w.heap.size, 0, none⟩) (by simp)]; simp [go_sem]
  have f1 : w1.frozen? ⟨w.heap.size, 1, none⟩ = false := by rw [hb.frozen (p := ⟨w.heap.size, 1, none⟩) (by simp)]; simp [go_sem]
  have hs1 : w.heap.size < w1.heap.size := by have := hb.size; simp at this; omega
  have HB := Lib.hid (((Below.refl _ w).alloc (Nat.le_refl _) (Obj.cells #[Value.int IntKind.i64 0, Value.slice none 0 0] 24)).trans (hb.mono (by simp)))
  clear hb
  have hszd : (mkB hd).size ≤ 1048576 := by rw [mkB_size]; omega
  by_cases hat : ∃ v, Lib.atoiAll hd = .ok v
  · obtain ⟨L, hL⟩ := hat
    have HAT := Lib.hid (fun W => atoi_ok (mkB hd) hszd L hL W)
    go_wp2_with fail
    refine (HAT.out _).mono ?_
    rintro e w2 ⟨rfl, hb2⟩
    have HB2 := Lib.hid (HB.out.trans (hb2.mono (Nat.le_of_lt hs1)))
    go_wp2_with fail
    refine (HPA.out _ (HE.out.below HB2.out)).mono ?_
    rintro e w3 ⟨A3, n3, c3, rfl, hn3, ho3, hb3⟩
    have HB3 := Lib.hid (HB2.out.trans (hb3.mono HB2.out.size))
    have hb23 := hb2.trans (hb3.mono hb2.size)
    have r0 := Below.cell_some hb23 r0
    have r1 := Below.cell_some hb23 r1
    have f0 := (hb23.frozen (p := ⟨w.heap.size, 0, none⟩) hs1).trans f0
    have f1 := (hb23.frozen (p := ⟨w.heap.size, 1, none⟩) hs1).trans f1
    have hs3 : w.heap.size < w3.heap.size := Nat.lt_of_lt_of_le hs1 hb23.size
    have hs2 : w.heap.size < w2.heap.size := Nat.lt_of_lt_of_le hs1 hb2.size
    have HO3 := Lib.hid ho3
    clear hb2 hb3 hb23 ho3
    cases hf : pFine td with
    | false =>
      have HV := Lib.hid (HNO.out (.inr hf))
      go_wp2
      refine bodyPost_ret (v := .tuple #[.agg #[.int .i64 0, .slice none 0 0], .bool false]) (by simp [results, Tryd.results25, go_sem, r0, r1]) rfl ⟨none, 0, 0, ret_rod HV.out.1.symm rfl HV.out.2.2.symm, by rw [HV.out.2.1]; rfl, by rw [HV.out.2.1]; exact SlOwn.nil pairS _ _ _, ?_⟩
      exact (HB3.out.setCell (by simp) _).setCell (by simp) _
    | true =>
      have hp := HPP.out L hL hf
      have HRT := Lib.hid (fun W h1 h2 => rodText_any L A3 c3 (pAnts td) W h1 h2)
      rw [← hn3] at HRT
      generalize hmm : pAnts td = m at *
      have HA3 : Hid (AntsAt (w3.alloc (Obj.cells #[Value.int IntKind.i64 L, Value.slice A3 n3 c3] 24)) A3 m) := (slAt_ants HO3.out.sl).alloc (Obj.cells #[Value.int IntKind.i64 L, Value.slice A3 n3 c3] 24)
      have HT3 : Hid (Tab (w3.alloc (Obj.cells #[Value.int IntKind.i64 L, Value.slice A3 n3 c3] 24))) := (HT.out.below HB3.out).alloc (Obj.cells #[Value.int IntKind.i64 L, Value.slice A3 n3 c3] 24)
      have HN3 := Lib.hid hn3
      clear hn3
      cases hg : goodB L m with
      | false =>
        have HV := Lib.hid (p_none (hp.trans (if_neg (fun h => by rw [hg] at h; cases h.1))))
        rw [hg] at HRT
        generalize rodT L m = rt at *
        clear hp
        go_wp2_with fail
        refine (HRT.out (w3.alloc (Obj.cells #[Value.int IntKind.i64 L, Value.slice A3 n3 c3] 24)) HA3.out HT3.out).mono ?_
        rintro e w4 ⟨rfl, hb4⟩
        have hb34 : Below w3.heap.size w3 w4 := ((Below.refl _ _).alloc (Nat.le_refl _) _).trans (hb4.mono (by simp))
        have r0 := Below.cell_some hb34 r0
        have r1 := Below.cell_some hb34 r1
        have f0 := (hb34.frozen (p := ⟨w.heap.size, 0, none⟩) hs3).trans f0
        have f1 := (hb34.frozen (p := ⟨w.heap.size, 1, none⟩) hs3).trans f1
        have q0 : w4.cell? ⟨w3.heap.size, 0, none⟩ = some (.int .i64 L) := by rw [hb4.cell (p := ⟨w3.heap.size, 0, none⟩) (by simp)]; simp
        have q1 : w4.cell? ⟨w3.heap.size, 1, none⟩ = some (.slice A3 n3 c3) := by rw [hb4.cell (p := ⟨w3.heap.size, 1, none⟩) (by simp)]; simp
        have HB4 := Lib.hid (HB3.out.trans (hb34.mono (Nat.le_of_lt hs3)))
        have HO4 := Lib.hid (HO3.out.below hb34)
        clear hb4 hb34
        go_wp2
        refine bodyPost_ret (v := .tuple #[.agg #[.int .i64 0, .slice none 0 0], .bool false]) (by simp [results, Tryd.results25, go_sem, r0, r1]) rfl ⟨none, 0, 0, ret_rod HV.out.1.symm rfl HV.out.2.2.symm, by rw [HV.out.2.1]; rfl, by rw [HV.out.2.1]; exact SlOwn.nil pairS _ _ _, ?_⟩
        exact (HB4.out.setCell (by simp) _).setCell (by simp) _
      | true =>
        by_cases he : rodT L m = s
        · have HV := Lib.hid (p_some (hp.trans (if_pos ⟨hg, by rw [← rodT_list hg, he]; exact HGL.out⟩)))
          rw [hg, he] at HRT
          clear hp he
          go_wp2_with fail
          refine (HRT.out (w3.alloc (Obj.cells #[Value.int IntKind.i64 L, Value.slice A3 n3 c3] 24)) HA3.out HT3.out).mono ?_
          rintro e w4 ⟨rfl, hb4⟩
          have hb34 : Below w3.heap.size w3 w4 := ((Below.refl _ _).alloc (Nat.le_refl _) _).trans (hb4.mono (by simp))
          have r0 := Below.cell_some hb34 r0
          have r1 := Below.cell_some hb34 r1
          have f0 := (hb34.frozen (p := ⟨w.heap.size, 0, none⟩) hs3).trans f0
          have f1 := (hb34.frozen (p := ⟨w.heap.size, 1, none⟩) hs3).trans f1
          have q0 : w4.cell? ⟨w3.heap.size, 0, none⟩ = some (.int .i64 L) := by rw [hb4.cell (p := ⟨w3.heap.size, 0, none⟩) (by simp)]; simp
          have q1 : w4.cell? ⟨w3.heap.size, 1, none⟩ = some (.slice A3 n3 c3) := by rw [hb4.cell (p := ⟨w3.heap.size, 1, none⟩) (by simp)]; simp
          have HB4 := Lib.hid (HB3.out.trans (hb34.mono (Nat.le_of_lt hs3)))
          have HO4 := Lib.hid (HO3.out.below hb34)
          clear hb4 hb34
          go_wp2
          refine bodyPost_ret (v := .tuple #[.agg #[.int .i64 L, .slice A3 n3 c3], .bool true]) (by simp [results, Tryd.results25, go_sem, r0, r1]) rfl ⟨A3, n3, c3, ret_rod HV.out.1.symm rfl HV.out.2.2.symm, by rw [HV.out.2.1]; exact HN3.out, ?_, ?_⟩
          · rw [HV.out.2.1]; exact ownsRow_base (ownsRow_setCell_below (ownsRow_setCell_below HO4.out (by simp; omega) _) (by simp; omega) _) (by omega)
          · exact (HB4.out.setCell (by simp) _).setCell (by simp) _
        · have HV := Lib.hid (p_none (hp.trans (if_neg (fun h => he (by
            have h2 : (rodT L m).data.toList = s.data.toList := by rw [rodT_list hg, h.2]; exact HGL.out.symm
            exact ByteArray.ext (Array.toList_inj.mp h2))))))
          rw [hg] at HRT
          generalize rodT L m = rt at *
          have he2 : (rt.toList == s.toList) = false := by
            rw [beq_eq_false_iff_ne]
            intro h2
            rw [Lib.toList_data, Lib.toList_data] at h2
            exact he (ByteArray.ext (Array.toList_inj.mp h2))
          clear hp
          go_wp2_with fail
          refine (HRT.out (w3.alloc (Obj.cells #[Value.int IntKind.i64 L, Value.slice A3 n3 c3] 24)) HA3.out HT3.out).mono ?_
          rintro e w4 ⟨rfl, hb4⟩
          have hb34 : Below w3.heap.size w3 w4 := ((Below.refl _ _).alloc (Nat.le_refl _) _).trans (hb4.mono (by simp))
          have r0 := Below.cell_some hb34 r0
          have r1 := Below.cell_some hb34 r1
          have f0 := (hb34.frozen (p := ⟨w.heap.size, 0, none⟩) hs3).trans f0
          have f1 := (hb34.frozen (p := ⟨w.heap.size, 1, none⟩) hs3).trans f1
          have q0 : w4.cell? ⟨w3.heap.size, 0, none⟩ = some (.int .i64 L) := by rw [hb4.cell (p := ⟨w3.heap.size, 0, none⟩) (by simp)]; simp
          have q1 : w4.cell? ⟨w3.heap.size, 1, none⟩ = some (.slice A3 n3 c3) := by rw [hb4.cell (p := ⟨w3.heap.size, 1, none⟩) (by simp)]; simp
          have HB4 := Lib.hid (HB3.out.trans (hb34.mono (Nat.le_of_lt hs3)))
          have HO4 := Lib.hid (HO3.out.below hb34)
          clear hb4 hb34
          go_wp2
          refine bodyPost_ret (v := .tuple #[.agg #[.int .i64 0, .slice none 0 0], .bool false]) (by simp [results, Tryd.results25, go_sem, r0, r1]) rfl ⟨none, 0, 0, ret_rod HV.out.1.symm rfl HV.out.2.2.symm, by rw [HV.out.2.1]; rfl, by rw [HV.out.2.1]; exact SlOwn.nil pairS _ _ _, ?_⟩
          exact (HB4.out.setCell (by simp) _).setCell (by simp) _
  · have hat' : ∀ v, Lib.atoiAll hd ≠ .ok v := fun v h => hat ⟨v, h⟩
    have HV := Lib.hid (HNO.out (.inl hat'))
    have HAN := Lib.hid (fun W hW => atoi_no (mkB hd) hszd hat' W hW)
    go_wp2_with fail
    refine (HAN.out _ (HE.out.below HB.out)).mono ?_
    rintro e w2 ⟨v, ty, ad, rfl, hb2⟩
    have HB2 := Lib.hid (HB.out.trans (hb2.mono (Nat.le_of_lt hs1)))
    go_wp2_with fail
    refine (HPA.out _ (HE.out.below HB2.out)).mono ?_
    rintro e w3 ⟨A3, n3, c3, rfl, hn3, ho3, hb3⟩
    have HB3 := Lib.hid (HB2.out.trans (hb3.mono HB2.out.size))
    have hb23 := hb2.trans (hb3.mono hb2.size)
    have r0 := Below.cell_some hb23 r0
    have r1 := Below.cell_some hb23 r1
    have f0 := (hb23.frozen (p := ⟨w.heap.size, 0, none⟩) hs1).trans f0
    have f1 := (hb23.frozen (p := ⟨w.heap.size, 1, none⟩) hs1).trans f1
    clear hb2 hb3 hb23 ho3
    go_wp2
    refine bodyPost_ret (v := .tuple #[.agg #[.int .i64 0, .slice none 0 0], .bool false]) (by simp [results, Tryd.results25, go_sem, r0, r1]) rfl ⟨none, 0, 0, ret_rod HV.out.1.symm rfl HV.out.2.2.symm, by rw [HV.out.2.1]; rfl, by rw [HV.out.2.1]; exact SlOwn.nil pairS _ _ _, ?_⟩
    exact (HB3.out.setCell (by simp) _).setCell (by simp) _
theorem parseRod_any (s : ByteArray) (hs : s.size ≤ 1048576) (w : World) (hE : Errs w) (hT : Tab w) (hM : MaxL w) :
    Calls Tryd.prog 25 #[.string s] w fun e w' => ∃ A n c', e = .returned (.tuple #[.agg #[.int .i64 (pL 58 s.data.toList), .slice A n c'], .bool (pOk 58 s.data.toList)]) ∧ n = (pA 58 s.data.toList).length ∧ SlOwn pairS w' w.heap.size 58 (.slice A n c') (pA 58 s.data.toList) ∧ Below w.heap.size w w' :=
  parseRod_wide s (by omega) (by have := (cut_sizes s.data.toList).1; have := len_toList s; omega) (by have := (cut_sizes s.data.toList).2; have := len_toList s; omega) w hE hT hM
end Go.Proofs.YtenpmjinbjlpbaaDoor
