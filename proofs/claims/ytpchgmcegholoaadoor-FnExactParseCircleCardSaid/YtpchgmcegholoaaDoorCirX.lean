/- impl.ParseCircle and spec.ParseCircle: both read qRod. -/
import Derived.Test.YtpchgmcegholoaaDoorCirO
namespace Go.Proofs.YtpchgmcegholoaaDoor
open Go.RowKit

theorem cut64 (s : ByteArray) (hs : s.size ≤ 1048576) (w : World) (hM : MaxL w) :
    Calls Tryd.prog 16 #[.string s, .string ⟨#[64]⟩] w fun e w' => e = .returned (.tuple #[.string (mkB (Lib.cut s.data.toList [64]).1), .string (mkB (Lib.cut s.data.toList [64]).2.1), .bool (Lib.cut s.data.toList [64]).2.2]) ∧ Below w.heap.size w w' := by
  obtain ⟨m, hm⟩ := hM
  refine (Any.strings_Cut cut s ⟨#[64]⟩ m w (by omega) hm).mono ?_
  rintro e w' ⟨h1, n, rfl⟩
  exact ⟨h1, ⟨rfl, rfl, rfl, Nat.le_refl _, fun _ _ => rfl⟩⟩

theorem cut_sum (l : List UInt8) : (Lib.cut l [64]).1.length + (Lib.cut l [64]).2.1.length ≤ l.length := by
  unfold Lib.cut
  split
  · simp only [List.length_take, List.length_drop, List.length_cons, List.length_nil]; omega
  · simp

theorem cut_part (a b : List UInt8) : (Lib.cut (a ++ 58 :: b) [58]).1.length + (Lib.cut (a ++ 58 :: b) [58]).2.1.length + 1 ≤ a.length + b.length + 1 := by
  obtain ⟨x, y, hxy, hn⟩ := List.eq_append_cons_of_mem (show (58 : UInt8) ∈ a ++ 58 :: b by simp)
  have hl : (a ++ 58 :: b).length = (x ++ 58 :: y).length := by rw [hxy]
  rw [hxy, cut_mark 58 x y (fun b hb e => hn (e ▸ hb))]
  simp at hl ⊢
  omega

theorem rope_list (a b : List UInt8) : (mkB a ++ ⟨#[58]⟩ ++ mkB b : ByteArray).data.toList = a ++ 58 :: b := by
  rw [ByteArray.data_append, ByteArray.data_append, Array.toList_append, Array.toList_append, mkB_data, mkB_data]
  simp

set_option maxHeartbeats 4000000 in
set_option maxRecDepth 100000 in
theorem parseCircle_any (s : ByteArray) (hs : s.size ≤ 1048576) (w : World) (hE : Errs w) (hT : Tab w) (hM : MaxL w) :
    Calls Tryd.prog 11 #[.string s] w fun e w' => ∃ A n c', e = .returned (.tuple #[.agg #[.int .i64 (qL s.data.toList), .slice A n c'], .bool (qOk s.data.toList)]) ∧ n = (qA s.data.toList).length ∧ SlOwn pairS w' w.heap.size 52 (.slice A n c') (qA s.data.toList) ∧ Below w.heap.size w w' := by
  have hl := len_toList s
  have HC := Lib.hid (cut64 s hs)
  obtain ⟨l, hgl⟩ : ∃ l, s.data.toList = l := ⟨_, rfl⟩
  rw [hgl] at hl HC ⊢
  have hsum := cut_sum l
  have hq := cir_same l
  unfold progCir at hq
  obtain ⟨ha, hha⟩ : ∃ x, (Lib.cut l [64]).1 = x := ⟨_, rfl⟩
  obtain ⟨tb, htb⟩ : ∃ x, (Lib.cut l [64]).2.1 = x := ⟨_, rfl⟩
  obtain ⟨cb, hcb⟩ : ∃ x, (Lib.cut l [64]).2.2 = x := ⟨_, rfl⟩
  rw [hha, htb, hcb] at HC
  rw [hha, htb] at hsum hq
  clear hha htb hcb
  have hpt := cut_part ha tb
  have hI : ∀ W, Errs W → Tab W → MaxL W → Calls Tryd.prog 6 #[.string (mkB ha ++ ⟨#[58]⟩ ++ mkB tb)] W fun e w' => ∃ A n c', e = .returned (.tuple #[.agg #[.int .i64 (pL 58 (ha ++ 58 :: tb)), .slice A n c'], .bool (pOk 58 (ha ++ 58 :: tb))]) ∧ n = (pA 58 (ha ++ 58 :: tb)).length ∧ SlOwn pairS w' W.heap.size 52 (.slice A n c') (pA 58 (ha ++ 58 :: tb)) ∧ Below W.heap.size W w' := fun W a b c => by
    have hz : (mkB ha ++ ⟨#[58]⟩ ++ mkB tb : ByteArray).size = ha.length + 1 + tb.length := by rw [ByteArray.size_append, ByteArray.size_append, mkB_size, mkB_size]; rfl
    have h := parseRod_wide (mkB ha ++ ⟨#[58]⟩ ++ mkB tb) (by omega) (by rw [rope_list]; omega) (by rw [rope_list]; omega) W a b c
    rwa [rope_list] at h
  obtain ⟨L0, l0, ok0, hI0, hok⟩ : ∃ L0 l0 ok0, (∀ W, Errs W → Tab W → MaxL W → Calls Tryd.prog 6 #[.string (mkB ha ++ ⟨#[58]⟩ ++ mkB tb)] W fun e w' => ∃ A n c', e = .returned (.tuple #[.agg #[.int .i64 L0, .slice A n c'], .bool ok0]) ∧ n = l0.length ∧ SlOwn pairS w' W.heap.size 52 (.slice A n c') l0 ∧ Below W.heap.size W w') ∧
      qRod l = if ok0 = true ∧ ciB L0 l0 = true ∧ txt 64 L0 l0 = l then some (L0, l0) else none := by
    refine ⟨_, _, _, hI, ?_⟩
    rw [← hq]
    cases h : pRod 58 (ha ++ 58 :: tb) with
    | none => rw [(p_none h).2.2]; simp
    | some p =>
      obtain ⟨a, b⟩ := p
      obtain ⟨e1, e2, e3⟩ := p_some h
      rw [e1, e2, e3]
      simp
  have HI := Lib.hid hI0
  have HGL := Lib.hid hgl
  have HE := Lib.hid hE
  have HT := Lib.hid hT
  have HM := Lib.hid hM
  have HOK := Lib.hid hok
  have f0 : ¬ 9223372036854775807 < (mkB ha).size + 1 := by rw [mkB_size]; omega
  have f1 : ¬ 9223372036854775807 < (mkB ha).size + 1 + (mkB tb).size := by rw [mkB_size, mkB_size]; omega
  clear hI hI0 hq hpt hE hT hM hgl hok
  generalize mkB ha = hb' at *
  generalize mkB tb = tb' at *
  go_enter Tryd.func11, Tryd.ntmps11
  go_wp2_with fail
  refine (HC.out _ (HM.out.below ((Below.refl _ _).alloc (Nat.le_refl _) _))).mono ?_
  rintro e w1 ⟨rfl, hb⟩
  have r0 : w1.cell? ⟨w.heap.size, 0, none⟩ = some (.int .i64 0) := by rw [hb.cell (p := ⟨w.heap.size, 0, none⟩) (by simp)]; simp [go_sem]
  have r1 : w1.cell? ⟨w.heap.size, 1, none⟩ = some (.slice none 0 0) := by rw [hb.cell (p := ⟨w.heap.size, 1, none⟩) (by simp)]; simp [go_sem]
  have f2 : w1.frozen? ⟨w.heap.size, 0, none⟩ = false := by rw [hb.frozen (p := ⟨w.heap.size, 0, none⟩) (by simp)]; simp [go_sem]
  have f3 : w1.frozen? ⟨w.heap.size, 1, none⟩ = false := by rw [hb.frozen (p := ⟨w.heap.size, 1, none⟩) (by simp)]; simp [go_sem]
  have hs1 : w.heap.size < w1.heap.size := by have := hb.size; simp at this; omega
  have HB := Lib.hid (((Below.refl _ w).alloc (Nat.le_refl _) (Obj.cells #[Value.int IntKind.i64 0, Value.slice none 0 0] 30)).trans (hb.mono (by simp)))
  clear hb
  go_wp2_with fail
  refine (HI.out _ (HE.out.below HB.out) (HT.out.below HB.out) (HM.out.below HB.out)).mono ?_
  rintro e w2 ⟨A2, n2, c2, rfl, rfl, ho2, hb2⟩
  have HB2 := Lib.hid (HB.out.trans (hb2.mono (Nat.le_of_lt hs1)))
  have r0 := Below.cell_some hb2 r0
  have r1 := Below.cell_some hb2 r1
  have f2 := (hb2.frozen (p := ⟨w.heap.size, 0, none⟩) hs1).trans f2
  have f3 := (hb2.frozen (p := ⟨w.heap.size, 1, none⟩) hs1).trans f3
  have hs2 : w.heap.size < w2.heap.size := Nat.lt_of_lt_of_le hs1 hb2.size
  have HO2 := Lib.hid ho2
  clear hb2 ho2
  have hb23 : Below w2.heap.size w2 ((w2.alloc (Obj.cells #[Value.int IntKind.i64 L0, Value.slice A2 l0.length c2] 24)).alloc (Obj.cells #[Value.int IntKind.i64 L0, Value.slice A2 l0.length c2] 30)) := ((Below.refl _ _).alloc (Nat.le_refl _) _).alloc (by simp) _
  have HCT : Hid (Calls Tryd.prog 24 #[.agg #[.int .i64 L0, .slice A2 l0.length c2]] ((w2.alloc (Obj.cells #[Value.int IntKind.i64 L0, Value.slice A2 l0.length c2] 24)).alloc (Obj.cells #[Value.int IntKind.i64 L0, Value.slice A2 l0.length c2] 30)) fun e w' => e = .returned (.tuple #[.string (cirT L0 l0), .bool (ciB L0 l0)]) ∧ Below w2.heap.size w2 w' ∧ w2.heap.size + 2 ≤ w'.heap.size ∧
      w'.cell? ⟨w2.heap.size + 1, 0, none⟩ = some (.int .i64 L0) ∧ w'.cell? ⟨w2.heap.size + 1, 1, none⟩ = some (.slice A2 l0.length c2)) := by
    refine (circleText_any L0 A2 c2 l0 _ (slAt_ants (HO2.out.below hb23).sl) ((HT.out.below HB2.out).below hb23)).mono ?_
    rintro e w' ⟨rfl, hb⟩
    refine ⟨rfl, hb23.trans (hb.mono (by simp; omega)), by have := hb.size; simpa using this, ?_, ?_⟩
    · rw [hb.cell (p := ⟨w2.heap.size + 1, 0, none⟩) (by simp)]; simp [go_sem]
    · rw [hb.cell (p := ⟨w2.heap.size + 1, 1, none⟩) (by simp)]; simp [go_sem]
  clear hb23
  have hfail : ∀ W, Below w.heap.size w W → qRod l = none → ∃ A n c', Ending.returned (.tuple #[.agg #[.int .i64 0, .slice none 0 0], .bool false]) = Ending.returned (.tuple #[.agg #[.int .i64 (qL l), .slice A n c'], .bool (qOk l)]) ∧ n = (qA l).length ∧ SlOwn pairS W w.heap.size 52 (.slice A n c') (qA l) ∧ Below w.heap.size w W := fun W hW h => by
    obtain ⟨e1, e2, e3⟩ := q_none h
    exact ⟨none, 0, 0, by rw [e1, e3], by rw [e2]; rfl, by rw [e2]; exact SlOwn.nil pairS _ _ _, hW⟩
  have HF := Lib.hid hfail
  clear hfail
  cases hg : ciB L0 l0 with
  | false =>
    have HN : Hid (qRod l = none) := HOK.out.trans (if_neg (fun h => by rw [hg] at h; cases h.2.1))
    rw [hg] at HCT
    generalize cirT L0 l0 = rt at *
    go_wp2_with fail
    refine HCT.out.mono ?_
    rintro e w3 ⟨rfl, hb3, hs3, o0, o1⟩
    have r0 := Below.cell_some hb3 r0
    have r1 := Below.cell_some hb3 r1
    have f2 := (hb3.frozen (p := ⟨w.heap.size, 0, none⟩) hs2).trans f2
    have f3 := (hb3.frozen (p := ⟨w.heap.size, 1, none⟩) hs2).trans f3
    have HB3 := Lib.hid (HB2.out.trans (hb3.mono (Nat.le_of_lt hs2)))
    clear hb3
    cases ok0
    all_goals
      go_wp2
      refine bodyPost_ret (v := .tuple #[.agg #[.int .i64 0, .slice none 0 0], .bool false]) (by simp [results, Tryd.results11, go_sem, r0, r1]) rfl (HF.out _ ((HB3.out.setCell (by simp) _).setCell (by simp) _) HN.out)
  | true =>
    by_cases he : cirT L0 l0 = s
    · have htx : txt 64 L0 l0 = l := by rw [← cirT_list hg, he]; exact HGL.out
      rw [hg, he] at HCT
      go_wp2_with fail
      refine HCT.out.mono ?_
      rintro e w3 ⟨rfl, hb3, hs3, o0, o1⟩
      have r0 := Below.cell_some hb3 r0
      have r1 := Below.cell_some hb3 r1
      have f2 := (hb3.frozen (p := ⟨w.heap.size, 0, none⟩) hs2).trans f2
      have f3 := (hb3.frozen (p := ⟨w.heap.size, 1, none⟩) hs2).trans f3
      have HB3 := Lib.hid (HB2.out.trans (hb3.mono (Nat.le_of_lt hs2)))
      have HO3 := Lib.hid (HO2.out.below hb3)
      have HTX := Lib.hid htx
      have HG := Lib.hid hg
      clear hb3 he htx hg
      cases ok0 with
      | false =>
        have HN : Hid (qRod l = none) := HOK.out.trans (if_neg (fun h => by cases h.1))
        go_wp2
        refine bodyPost_ret (v := .tuple #[.agg #[.int .i64 0, .slice none 0 0], .bool false]) (by simp [results, Tryd.results11, go_sem, r0, r1]) rfl (HF.out _ ((HB3.out.setCell (by simp) _).setCell (by simp) _) HN.out)
      | true =>
        have HV := Lib.hid (q_some (HOK.out.trans (if_pos ⟨rfl, HG.out, HTX.out⟩)))
        go_wp2
        refine bodyPost_ret (v := .tuple #[.agg #[.int .i64 L0, .slice A2 l0.length c2], .bool true]) (by simp [results, Tryd.results11, go_sem, r0, r1]) rfl ⟨A2, l0.length, c2, ret_rod HV.out.1.symm rfl HV.out.2.2.symm, by rw [HV.out.2.1], ?_, ?_⟩
        · rw [HV.out.2.1]; exact ownsRow_base (ownsRow_setCell_below (ownsRow_setCell_below HO3.out (by simp; omega) _) (by simp; omega) _) (by omega)
        · exact (HB3.out.setCell (by simp) _).setCell (by simp) _
    · have HN : Hid (qRod l = none) := HOK.out.trans (if_neg (fun h => he (by
        have h2 : (cirT L0 l0).data.toList = s.data.toList := by rw [cirT_list hg, h.2.2]; exact HGL.out.symm
        exact ByteArray.ext (Array.toList_inj.mp h2))))
      rw [hg] at HCT
      generalize cirT L0 l0 = rt at *
      have he2 : (rt.toList == s.toList) = false := by
        rw [beq_eq_false_iff_ne]
        intro h2
        rw [Lib.toList_data, Lib.toList_data] at h2
        exact he (ByteArray.ext (Array.toList_inj.mp h2))
      go_wp2_with fail
      refine HCT.out.mono ?_
      rintro e w3 ⟨rfl, hb3, hs3, o0, o1⟩
      have r0 := Below.cell_some hb3 r0
      have r1 := Below.cell_some hb3 r1
      have f2 := (hb3.frozen (p := ⟨w.heap.size, 0, none⟩) hs2).trans f2
      have f3 := (hb3.frozen (p := ⟨w.heap.size, 1, none⟩) hs2).trans f3
      have HB3 := Lib.hid (HB2.out.trans (hb3.mono (Nat.le_of_lt hs2)))
      clear hb3 hg
      cases ok0
      all_goals
        go_wp2
        refine bodyPost_ret (v := .tuple #[.agg #[.int .i64 0, .slice none 0 0], .bool false]) (by simp [results, Tryd.results11, go_sem, r0, r1]) rfl (HF.out _ ((HB3.out.setCell (by simp) _).setCell (by simp) _) HN.out)

set_option maxHeartbeats 2000000 in
set_option maxRecDepth 100000 in
theorem specParseC_any (s : ByteArray) (hs : s.size ≤ 1048576) (w : World) :
    Calls Tryd.prog 10 #[.string s] w fun e w' => ∃ A n c', e = .returned (.tuple #[.agg #[.int .i64 (qL s.data.toList), .slice A n c'], .bool (qOk s.data.toList)]) ∧ n = (qA s.data.toList).length ∧ SlOwn pairS w' w.heap.size 52 (.slice A n c') (qA s.data.toList) ∧ Below w.heap.size w w' := by
  have H := Lib.hid (fun W => ciParse_any s hs W)
  generalize s.data.toList = l at *
  have hno : qOk l = false → qRod l = none := fun h => by unfold qOk at h; simpa using h
  have HN := Lib.hid hno
  clear hno
  go_enter Tryd.func10, Tryd.ntmps10
  go_wp2_with fail
  refine (H.out _).mono ?_
  rintro e w1 ⟨L, A, n, c', rfl, hb, m, rfl, ho, hv⟩
  have r0 : w1.cell? ⟨w.heap.size, 0, none⟩ = some (.int .i64 0) := by rw [hb.cell (p := ⟨w.heap.size, 0, none⟩) (by simp)]; simp [go_sem]
  have r1 : w1.cell? ⟨w.heap.size, 1, none⟩ = some (.slice none 0 0) := by rw [hb.cell (p := ⟨w.heap.size, 1, none⟩) (by simp)]; simp [go_sem]
  have f0 : w1.frozen? ⟨w.heap.size, 0, none⟩ = false := by rw [hb.frozen (p := ⟨w.heap.size, 0, none⟩) (by simp)]; simp [go_sem]
  have f1 : w1.frozen? ⟨w.heap.size, 1, none⟩ = false := by rw [hb.frozen (p := ⟨w.heap.size, 1, none⟩) (by simp)]; simp [go_sem]
  have hs1 : w.heap.size < w1.heap.size := by have := hb.size; simp at this; omega
  have HB := Lib.hid (((Below.refl _ w).alloc (Nat.le_refl _) (Obj.cells #[Value.int IntKind.i64 0, Value.slice none 0 0] 30)).trans (hb.mono (by simp)))
  have HO := Lib.hid ho
  have HV := Lib.hid hv
  clear hb ho hv
  cases hk : qOk l with
  | false =>
    have HQ := Lib.hid (q_none (HN.out hk))
    clear hk
    go_wp2
    refine bodyPost_ret (v := .tuple #[.agg #[.int .i64 0, .slice none 0 0], .bool false]) (by simp [results, Tryd.results10, go_sem, r0, r1, hs1]) rfl ⟨none, 0, 0, ret_rod HQ.out.1.symm rfl HQ.out.2.2.symm, by rw [HQ.out.2.1]; rfl, by rw [HQ.out.2.1]; exact SlOwn.nil pairS _ _ _, ?_⟩
    exact ((HB.out.setCell (by simp) _).setCell (by simp) _).alloc (by simp; omega) _
  | true =>
    obtain ⟨e1, e2, _⟩ := HV.out hk
    subst e1 e2
    have HK := Lib.hid hk
    clear hk
    go_wp2
    refine bodyPost_ret (v := .tuple #[.agg #[.int .i64 (qL l), .slice A (qA l).length c'], .bool true]) (by simp [results, Tryd.results10, go_sem, r0, r1, hs1]) rfl ⟨A, (qA l).length, c', ret_rod rfl rfl HK.out.symm, rfl, ?_, ?_⟩
    · exact ownsRow_base (SlOwn.below (ownsRow_setCell_below (ownsRow_setCell_below HO.out (by simp) _) (by simp) _) ((Below.refl _ _).alloc (Nat.le_refl _) _)) (by simp)
    · exact ((HB.out.setCell (by simp) _).setCell (by simp) _).alloc (by simp; omega) _
end Go.Proofs.YtpchgmcegholoaaDoor
