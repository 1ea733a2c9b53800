/- AddAnt on both sides. -/
import Derived.Test.YtdmpgnkiejcljaaPut
import Derived.Test.YtdmpgnkiejcljaaCompare
import Derived.Test.YtdmpgnkiejcljaaSrtGood
import Derived.Test.YtdmpgnkiejcljaaConcat
import Derived.Deep.CutRange
namespace Go.Proofs.Ytdmpgnkiejcljaa
open Go.RowKit

set_option maxRecDepth 100000 in
set_option maxHeartbeats 2000000 in
theorem specAddAnt_any (L : Int) (A : Option Addr) (c : Nat) (l : List (Int × Int)) (a y : Int) (w : World) (hcap : l.length ≤ c) (hA : AntsAt w A l) :
    Calls Try.prog 37 #[.agg #[.int .i64 L, .slice A l.length c], .agg #[.int .i64 a, .int .i64 y]] w fun e w' => ∃ A' n' c', e = .returned (.tuple #[.agg #[.int .i64 (aaL L l a y), .slice A' n' c'], .bool (aaOk L l a y)]) ∧ n' = (aaA L l a y).length ∧ AntsOwn w' w.heap.size 49 (.slice A' n' c') (aaA L l a y) ∧ Below w.heap.size w w' := by
  have HA := Lib.hid (((hA.alloc (Obj.cells #[Value.int IntKind.i64 L, Value.slice A l.length c] 28)).alloc (Obj.cells #[Value.int IntKind.i64 a, Value.int IntKind.i64 y] 49)).alloc (Obj.cells #[Value.int IntKind.i64 0, Value.slice none 0 0] 28))
  clear hA
  cases hg : goodB L l with
  | false =>
    have HV : Hid (aaL L l a y = 0 ∧ aaA L l a y = [] ∧ aaOk L l a y = false) := by show _ ∧ _ ∧ _; simp [aaL, aaA, aaOk, hg]
    have HG : Hid (∀ w, AntsAt w A l → Calls Try.prog 53 #[.agg #[.int .i64 L, .slice A l.length c]] w fun e w' => e = .returned (.bool false) ∧ Below w.heap.size w w') := fun w h => by
      rw [← hg]; exact roGood_any L A c l w h
    clear hg
    go_enter Try.func37, Try.ntmps37
    go_wp2_with fail
    refine (HG.out _ HA.out).mono ?_
    rintro e w1 ⟨rfl, hb⟩
    have r0 : w1.cell? ⟨w.heap.size + 2, 0, none⟩ = some (.int .i64 0) := by rw [hb.cell (p := ⟨w.heap.size + 2, 0, none⟩) (by simp)]; simp [go_sem]
    have r1 : w1.cell? ⟨w.heap.size + 2, 1, none⟩ = some (.slice none 0 0) := by rw [hb.cell (p := ⟨w.heap.size + 2, 1, none⟩) (by simp)]; simp [go_sem]
    have f0 : w1.frozen? ⟨w.heap.size + 2, 0, none⟩ = false := by rw [hb.frozen (p := ⟨w.heap.size + 2, 0, none⟩) (by simp)]; simp [go_sem]
    have f1 : w1.frozen? ⟨w.heap.size + 2, 1, none⟩ = false := by rw [hb.frozen (p := ⟨w.heap.size + 2, 1, none⟩) (by simp)]; simp [go_sem]
    have hs : w.heap.size + 2 < w1.heap.size := by have := hb.size; simp at this; omega
    have HB := Lib.hid ((((Below.refl _ w).alloc (Nat.le_refl _) (Obj.cells #[Value.int IntKind.i64 L, Value.slice A l.length c] 28)).alloc (by simp) (Obj.cells #[Value.int IntKind.i64 a, Value.int IntKind.i64 y] 49)).alloc (by simp; omega) (Obj.cells #[Value.int IntKind.i64 0, Value.slice none 0 0] 28) |>.trans (hb.mono (by simp; omega)))
    clear hb
    go_wp2
    refine bodyPost_ret (v := .tuple #[.agg #[.int .i64 0, .slice none 0 0], .bool false]) (by simp [results, Try.results37, go_sem, r0, r1, hs]) rfl ⟨none, 0, 0, ret_rod HV.out.1.symm rfl HV.out.2.2.symm, by rw [HV.out.2.1]; rfl, by rw [HV.out.2.1]; exact SlOwn.nil pairS _ _ _, ?_⟩
    exact (HB.out.setCell (by simp; omega) _).setCell (by simp; omega) _
  | true =>
    have HG : Hid (∀ w, AntsAt w A l → Calls Try.prog 53 #[.agg #[.int .i64 L, .slice A l.length c]] w fun e w' => e = .returned (.bool true) ∧ Below w.heap.size w w') := fun w h => by
      rw [← hg]; exact roGood_any L A c l w h
    have hn := good_len hg
    have HS := Lib.hid (good_srt hg)
    have HLN : Hid ((srtA (l ++ [(a, y)])).length = l.length + 1) := by show _ = _; rw [srtA_len, List.length_append]; rfl
    obtain ⟨ok, hok⟩ : ∃ ok, goodB L (srtA (l ++ [(a, y)])) = ok := ⟨_, rfl⟩
    have HG2 : Hid (∀ (w : World) (A' : Option Addr) (c' : Nat), AntsAt w A' (srtA (l ++ [(a, y)])) → Calls Try.prog 53 #[.agg #[.int .i64 L, .slice A' (srtA (l ++ [(a, y)])).length c']] w fun e w' => e = .returned (.bool ok) ∧ Below w.heap.size w w') := fun w A' c' h => by
      rw [← hok]; exact roGood_any L A' c' _ w h
    have HVT : Hid (ok = true → aaL L l a y = L ∧ aaA L l a y = srtA (l ++ [(a, y)]) ∧ aaOk L l a y = true) := fun h => by subst h; simp [aaL, aaA, aaOk, hg, hok]
    have HVF : Hid (ok = false → aaL L l a y = 0 ∧ aaA L l a y = [] ∧ aaOk L l a y = false) := fun h => by subst h; simp [aaL, aaA, aaOk, hok]
    clear hg hok
    have HPUT : Hid (∀ W, AntsAt W A l → Calls Try.prog 70 #[.slice A l.length c, .agg #[.int .i64 a, .int .i64 y]] W fun e w' => ∃ A' n' c', e = .returned (.slice A' n' c') ∧ n' = (srtA (l ++ [(a, y)])).length ∧ AntsOwn w' W.heap.size 49 (.slice A' n' c') (srtA (l ++ [(a, y)])) ∧ Below W.heap.size W w') := fun W h => by
      have := roPut_any A c l a y W (by omega) hcap h
      rwa [putA_sorted _ HS.out] at this
    generalize srtA (l ++ [(a, y)]) = m at *
    go_enter Try.func37, Try.ntmps37
    go_wp2_with fail
    refine (HG.out _ HA.out).mono ?_
    rintro e w1 ⟨rfl, hb⟩
    have r0 : w1.cell? ⟨w.heap.size + 2, 0, none⟩ = some (.int .i64 0) := by rw [hb.cell (p := ⟨w.heap.size + 2, 0, none⟩) (by simp)]; simp [go_sem]
    have r1 : w1.cell? ⟨w.heap.size + 2, 1, none⟩ = some (.slice none 0 0) := by rw [hb.cell (p := ⟨w.heap.size + 2, 1, none⟩) (by simp)]; simp [go_sem]
    have f0 : w1.frozen? ⟨w.heap.size + 2, 0, none⟩ = false := by rw [hb.frozen (p := ⟨w.heap.size + 2, 0, none⟩) (by simp)]; simp [go_sem]
    have f1 : w1.frozen? ⟨w.heap.size + 2, 1, none⟩ = false := by rw [hb.frozen (p := ⟨w.heap.size + 2, 1, none⟩) (by simp)]; simp [go_sem]
    have hs : w.heap.size + 2 < w1.heap.size := by have := hb.size; simp at this; omega
    have HB := Lib.hid ((((Below.refl _ w).alloc (Nat.le_refl _) (Obj.cells #[Value.int IntKind.i64 L, Value.slice A l.length c] 28)).alloc (by simp) (Obj.cells #[Value.int IntKind.i64 a, Value.int IntKind.i64 y] 49)).alloc (by simp; omega) (Obj.cells #[Value.int IntKind.i64 0, Value.slice none 0 0] 28) |>.trans (hb.mono (by simp; omega)))
    have c0 : w1.cell? ⟨w.heap.size, 0, none⟩ = some (.int .i64 L) := by rw [hb.cell (p := ⟨w.heap.size, 0, none⟩) (by simp; omega)]; simp [go_sem]
    have c1 : w1.cell? ⟨w.heap.size, 1, none⟩ = some (.slice A l.length c) := by rw [hb.cell (p := ⟨w.heap.size, 1, none⟩) (by simp; omega)]; simp [go_sem]
    have b0 : w1.cell? ⟨w.heap.size + 1, 0, none⟩ = some (.int .i64 a) := by rw [hb.cell (p := ⟨w.heap.size + 1, 0, none⟩) (by simp)]; simp [go_sem]
    have b1 : w1.cell? ⟨w.heap.size + 1, 1, none⟩ = some (.int .i64 y) := by rw [hb.cell (p := ⟨w.heap.size + 1, 1, none⟩) (by simp)]; simp [go_sem]
    have hs0 : w.heap.size < w1.heap.size := by omega
    have hs1 : w.heap.size + 1 < w1.heap.size := by omega
    have HA1 := Lib.hid (HA.out.below hb)
    clear hb
    have HAd : Hid (AntsAt w1.drew A l) := HA1.out
    have HAz : Hid (AntsAt (w1.alloc (Obj.cells #[.int .i64 0, .slice none 0 0] 28)).drew A l) := HA1.out.alloc _
    have cZ0 : (w1.alloc (Obj.cells #[.int .i64 0, .slice none 0 0] 28)).drew.cell? ⟨w.heap.size, 0, none⟩ = some (.int .i64 L) := alloc_some c0 _
    have cZ1 : (w1.alloc (Obj.cells #[.int .i64 0, .slice none 0 0] 28)).drew.cell? ⟨w.heap.size, 1, none⟩ = some (.slice A l.length c) := alloc_some c1 _
    have bZ0 : (w1.alloc (Obj.cells #[.int .i64 0, .slice none 0 0] 28)).drew.cell? ⟨w.heap.size + 1, 0, none⟩ = some (.int .i64 a) := alloc_some b0 _
    have bZ1 : (w1.alloc (Obj.cells #[.int .i64 0, .slice none 0 0] 28)).drew.cell? ⟨w.heap.size + 1, 1, none⟩ = some (.int .i64 y) := alloc_some b1 _
    have cD0 : w1.drew.cell? ⟨w.heap.size, 0, none⟩ = some (.int .i64 L) := c0
    have cD1 : w1.drew.cell? ⟨w.heap.size, 1, none⟩ = some (.slice A l.length c) := c1
    have bD0 : w1.drew.cell? ⟨w.heap.size + 1, 0, none⟩ = some (.int .i64 a) := b0
    have bD1 : w1.drew.cell? ⟨w.heap.size + 1, 1, none⟩ = some (.int .i64 y) := b1
    have zZ0 : (w1.alloc (Obj.cells #[.int .i64 0, .slice none 0 0] 28)).drew.cell? ⟨w1.heap.size, 0, none⟩ = some (.int .i64 0) := by simp [go_sem]
    have zZ1 : (w1.alloc (Obj.cells #[.int .i64 0, .slice none 0 0] 28)).drew.cell? ⟨w1.heap.size, 1, none⟩ = some (.slice none 0 0) := by simp [go_sem]
    have yZ0 : (w1.alloc (Obj.cells #[.int .i64 0, .slice none 0 0] 28)).drew.frozen? ⟨w1.heap.size, 0, none⟩ = false := by simp [go_sem]
    have yZ1 : (w1.alloc (Obj.cells #[.int .i64 0, .slice none 0 0] 28)).drew.frozen? ⟨w1.heap.size, 1, none⟩ = false := by simp [go_sem]
    have hne0 : ¬ w.heap.size = w1.heap.size := by omega
    have hne1 : ¬ w.heap.size + 1 = w1.heap.size := by omega
    have hne2 : ¬ w1.heap.size = w.heap.size := by omega
    have hne3 : ¬ w1.heap.size = w.heap.size + 1 := by omega
    have BZ : Hid (Below w1.heap.size w1 (w1.alloc (Obj.cells #[.int .i64 0, .slice none 0 0] 28)).drew) := (((Below.refl _ _).alloc (Nat.le_refl _) _).drew)
    have BD : Hid (Below w1.heap.size w1 w1.drew) := ((Below.refl _ _).drew)
    go_upto_region 3 with fail
    go_cut [6] from 11 to 17 (fun p wx => ∃ (g : Nat) (A3 : Option Addr) (k3 : Nat), p = .pointer (some ⟨g, 0, none⟩) ∧ w1.heap.size ≤ g ∧ g < wx.heap.size ∧ Below w1.heap.size w1 wx ∧ wx.cell? ⟨g, 0, none⟩ = some (.int .i64 L) ∧ wx.cell? ⟨g, 1, none⟩ = some (.slice A3 m.length k3) ∧ SlOwn pairS wx w1.heap.size 49 (.slice A3 m.length k3) m)
    case first =>
      go_region_held3 (fun w' => w'.cell? ⟨w.heap.size, 0, none⟩ = some (.int .i64 L) ∧ w'.cell? ⟨w.heap.size, 1, none⟩ = some (.slice A l.length c) ∧ w'.cell? ⟨w.heap.size + 1, 0, none⟩ = some (.int .i64 a) ∧ w'.cell? ⟨w.heap.size + 1, 1, none⟩ = some (.int .i64 y))
        (first | exact ⟨k0', k1', k2', k3'⟩ | exact ⟨cZ0, cZ1, bZ0, bZ1⟩ | go_keep | (refine ⟨?_, ?_, ?_, ?_⟩ <;> (simp [go_sem, *]; done)))
        (first
          | (go_at_call 70; refine (HPUT.out _ HAd.out).mono ?_; rintro e w3 ⟨A3, n3, k3, rfl, hn3, ho3, hb3⟩; have k0' := Below.cell_some hb3 cD0; have k1' := Below.cell_some hb3 cD1; have k2' := Below.cell_some hb3 bD0; have k3' := Below.cell_some hb3 bD1; have HB3 := Lib.hid (below_drew hb3); have HO3 := Lib.hid ho3; have HN3 := Lib.hid hn3; clear hn3 ho3 hb3)
          | (go_at_call 70; refine (HPUT.out _ HAz.out).mono ?_; rintro e w3 ⟨A3, n3, k3, rfl, hn3, ho3, hb3⟩; have k0' := Below.cell_some hb3 cZ0; have k1' := Below.cell_some hb3 cZ1; have k2' := Below.cell_some hb3 bZ0; have k3' := Below.cell_some hb3 bZ1; have z0 := Below.cell_some hb3 zZ0; have z1 := Below.cell_some hb3 zZ1; have y0 := (hb3.frozen (p := ⟨w1.heap.size, 0, none⟩) (by simp)).trans yZ0; have y1 := (hb3.frozen (p := ⟨w1.heap.size, 1, none⟩) (by simp)).trans yZ1; have hsz : w1.heap.size < w3.heap.size := Nat.lt_of_lt_of_le (by simp) hb3.size; have HB3 := Lib.hid (BZ.out.trans (hb3.mono (by simp))); have HO3 := Lib.hid ho3; have HN3 := Lib.hid hn3; clear hn3 ho3 hb3))
      all_goals (
        have hn3 := HN3.out
        subst hn3
        go_wp2_with fail
        go_meet
        case rel =>
          first
            | exact ⟨w3.heap.size, A3, k3, rfl, HB3.out.size, by simp, HB3.out.alloc HB3.out.size _, by simp, by simp, ownsRow_below HO3.out ((Below.refl _ _).alloc (Nat.le_refl _) _)⟩
            | exact ⟨w1.heap.size, A3, k3, rfl, Nat.le_refl _, by simpa using hsz, (HB3.out.setCell (Nat.le_refl _) _).setCell (Nat.le_refl _) _, by simp [go_sem, z0], by simp [go_sem, z1], ownsRow_base (ownsRow_setCell_below (ownsRow_setCell_below HO3.out (by simp) _) (by simp) _) (by simp)⟩)
    case rest =>
      obtain ⟨g, A3, k3, hp, hg1, hg2, hbx, o0, o1, ho⟩ := hcut
      subst hp
      have r0 := Below.cell_some hbx r0
      have r1 := Below.cell_some hbx r1
      have f0 := (hbx.frozen (p := ⟨w.heap.size + 2, 0, none⟩) hs).trans f0
      have f1 := (hbx.frozen (p := ⟨w.heap.size + 2, 1, none⟩) hs).trans f1
      have HB := Lib.hid (HB.out.trans (hbx.mono HB.out.size))
      have hsB : w.heap.size + 2 < w1.heap.size := hs
      have hs : w.heap.size + 2 < wc.heap.size := Nat.lt_of_lt_of_le hs hbx.size
      have HO := Lib.hid ho
      clear hbx ho
      go_wp2_with fail
      refine (HG2.out _ A3 k3 (slAt_ants HO.out.sl)).mono ?_
      rintro e w4 ⟨rfl, hb4⟩
      have r0 := Below.cell_some hb4 r0
      have r1 := Below.cell_some hb4 r1
      have f0 := (hb4.frozen (p := ⟨w.heap.size + 2, 0, none⟩) hs).trans f0
      have f1 := (hb4.frozen (p := ⟨w.heap.size + 2, 1, none⟩) hs).trans f1
      have o0 := Below.cell_some hb4 o0
      have o1 := Below.cell_some hb4 o1
      have HB := Lib.hid (HB.out.trans (hb4.mono HB.out.size))
      have hs : w.heap.size + 2 < w4.heap.size := Nat.lt_of_lt_of_le hs hb4.size
      have HO := Lib.hid (HO.out.below hb4)
      clear hb4
      cases ok with
      | false =>
        have HV := Lib.hid (HVF.out rfl)
        go_wp2
        refine bodyPost_ret (v := .tuple #[.agg #[.int .i64 0, .slice none 0 0], .bool false]) (by simp [results, Try.results37, go_sem, r0, r1, hs]) rfl ⟨none, 0, 0, ret_rod HV.out.1.symm rfl HV.out.2.2.symm, by rw [HV.out.2.1]; rfl, by rw [HV.out.2.1]; exact SlOwn.nil pairS _ _ _, ?_⟩
        exact (HB.out.setCell (by simp; omega) _).setCell (by simp; omega) _
      | true =>
        have HV := Lib.hid (HVT.out rfl)
        go_wp2
        refine bodyPost_ret (v := .tuple #[.agg #[.int .i64 L, .slice A3 m.length k3], .bool true]) (by simp [results, Try.results37, go_sem, r0, r1, hs]) rfl ⟨A3, m.length, k3, ret_rod HV.out.1.symm rfl HV.out.2.2.symm, by rw [HV.out.2.1], ?_, ?_⟩
        · rw [HV.out.2.1]
          exact ownsRow_base (ownsRow_setCell_below (ownsRow_setCell_below HO.out (by simp; omega) _) (by simp; omega) _) (by omega)
        · exact (HB.out.setCell (by simp; omega) _).setCell (by simp; omega) _

set_option maxRecDepth 100000 in
set_option maxHeartbeats 2000000 in
theorem implAddAnt_any (L : Int) (A : Option Addr) (c : Nat) (l : List (Int × Int)) (a y : Int) (w : World) (hcap : l.length ≤ c) (hA : AntsAt w A l) :
    Calls Try.prog 39 #[.agg #[.int .i64 L, .slice A l.length c], .agg #[.int .i64 a, .int .i64 y]] w fun e w' => ∃ A' n' c', e = .returned (.tuple #[.agg #[.int .i64 (aaL L l a y), .slice A' n' c'], .bool (aaOk L l a y)]) ∧ n' = (aaA L l a y).length ∧ AntsOwn w' w.heap.size 49 (.slice A' n' c') (aaA L l a y) ∧ Below w.heap.size w w' := by
  have HA := Lib.hid (((hA.alloc (Obj.cells #[Value.int IntKind.i64 L, Value.slice A l.length c] 28)).alloc (Obj.cells #[Value.int IntKind.i64 a, Value.int IntKind.i64 y] 49)).alloc (Obj.cells #[Value.int IntKind.i64 0, Value.slice none 0 0] 28))
  clear hA
  cases hg : goodB L l with
  | false =>
    have HV : Hid (aaL L l a y = 0 ∧ aaA L l a y = [] ∧ aaOk L l a y = false) := by show _ ∧ _ ∧ _; simp [aaL, aaA, aaOk, hg]
    have HG : Hid (∀ w, AntsAt w A l → Calls Try.prog 57 #[.agg #[.int .i64 L, .slice A l.length c]] w fun e w' => e = .returned (.bool false) ∧ Below w.heap.size w w') := fun w h => by
      rw [← hg]; exact isRod_any L A c l w h
    clear hg
    go_enter Try.func39, Try.ntmps39
    go_wp2_with fail
    refine (HG.out _ HA.out).mono ?_
    rintro e w1 ⟨rfl, hb⟩
    have r0 : w1.cell? ⟨w.heap.size + 2, 0, none⟩ = some (.int .i64 0) := by rw [hb.cell (p := ⟨w.heap.size + 2, 0, none⟩) (by simp)]; simp [go_sem]
    have r1 : w1.cell? ⟨w.heap.size + 2, 1, none⟩ = some (.slice none 0 0) := by rw [hb.cell (p := ⟨w.heap.size + 2, 1, none⟩) (by simp)]; simp [go_sem]
    have f0 : w1.frozen? ⟨w.heap.size + 2, 0, none⟩ = false := by rw [hb.frozen (p := ⟨w.heap.size + 2, 0, none⟩) (by simp)]; simp [go_sem]
    have f1 : w1.frozen? ⟨w.heap.size + 2, 1, none⟩ = false := by rw [hb.frozen (p := ⟨w.heap.size + 2, 1, none⟩) (by simp)]; simp [go_sem]
    have hs : w.heap.size + 2 < w1.heap.size := by have := hb.size; simp at this; omega
    have HB := Lib.hid ((((Below.refl _ w).alloc (Nat.le_refl _) (Obj.cells #[Value.int IntKind.i64 L, Value.slice A l.length c] 28)).alloc (by simp) (Obj.cells #[Value.int IntKind.i64 a, Value.int IntKind.i64 y] 49)).alloc (by simp; omega) (Obj.cells #[Value.int IntKind.i64 0, Value.slice none 0 0] 28) |>.trans (hb.mono (by simp; omega)))
    clear hb
    go_wp2
    refine bodyPost_ret (v := .tuple #[.agg #[.int .i64 0, .slice none 0 0], .bool false]) (by simp [results, Try.results39, go_sem, r0, r1, hs]) rfl ⟨none, 0, 0, ret_rod HV.out.1.symm rfl HV.out.2.2.symm, by rw [HV.out.2.1]; rfl, by rw [HV.out.2.1]; exact SlOwn.nil pairS _ _ _, ?_⟩
    exact (HB.out.setCell (by simp; omega) _).setCell (by simp; omega) _
  | true =>
    have HG : Hid (∀ w, AntsAt w A l → Calls Try.prog 57 #[.agg #[.int .i64 L, .slice A l.length c]] w fun e w' => e = .returned (.bool true) ∧ Below w.heap.size w w') := fun w h => by
      rw [← hg]; exact isRod_any L A c l w h
    have hn := good_len hg
    have HS := Lib.hid (good_srt hg)
    have HLN : Hid ((srtA (l ++ [(a, y)])).length = l.length + 1) := by show _ = _; rw [srtA_len, List.length_append]; rfl
    obtain ⟨ok, hok⟩ : ∃ ok, goodB L (srtA (l ++ [(a, y)])) = ok := ⟨_, rfl⟩
    have HG2 : Hid (∀ (w : World) (A' : Option Addr) (c' : Nat), AntsAt w A' (srtA (l ++ [(a, y)])) → Calls Try.prog 57 #[.agg #[.int .i64 L, .slice A' (srtA (l ++ [(a, y)])).length c']] w fun e w' => e = .returned (.bool ok) ∧ Below w.heap.size w w') := fun w A' c' h => by
      rw [← hok]; exact isRod_any L A' c' _ w h
    have HVT : Hid (ok = true → aaL L l a y = L ∧ aaA L l a y = srtA (l ++ [(a, y)]) ∧ aaOk L l a y = true) := fun h => by subst h; simp [aaL, aaA, aaOk, hg, hok]
    have HVF : Hid (ok = false → aaL L l a y = 0 ∧ aaA L l a y = [] ∧ aaOk L l a y = false) := fun h => by subst h; simp [aaL, aaA, aaOk, hok]
    clear hg hok
    go_enter Try.func39, Try.ntmps39
    go_wp2_with fail
    refine (HG.out _ HA.out).mono ?_
    rintro e w1 ⟨rfl, hb⟩
    have r0 : w1.cell? ⟨w.heap.size + 2, 0, none⟩ = some (.int .i64 0) := by rw [hb.cell (p := ⟨w.heap.size + 2, 0, none⟩) (by simp)]; simp [go_sem]
    have r1 : w1.cell? ⟨w.heap.size + 2, 1, none⟩ = some (.slice none 0 0) := by rw [hb.cell (p := ⟨w.heap.size + 2, 1, none⟩) (by simp)]; simp [go_sem]
    have f0 : w1.frozen? ⟨w.heap.size + 2, 0, none⟩ = false := by rw [hb.frozen (p := ⟨w.heap.size + 2, 0, none⟩) (by simp)]; simp [go_sem]
    have f1 : w1.frozen? ⟨w.heap.size + 2, 1, none⟩ = false := by rw [hb.frozen (p := ⟨w.heap.size + 2, 1, none⟩) (by simp)]; simp [go_sem]
    have hs : w.heap.size + 2 < w1.heap.size := by have := hb.size; simp at this; omega
    have HB := Lib.hid ((((Below.refl _ w).alloc (Nat.le_refl _) (Obj.cells #[Value.int IntKind.i64 L, Value.slice A l.length c] 28)).alloc (by simp) (Obj.cells #[Value.int IntKind.i64 a, Value.int IntKind.i64 y] 49)).alloc (by simp; omega) (Obj.cells #[Value.int IntKind.i64 0, Value.slice none 0 0] 28) |>.trans (hb.mono (by simp; omega)))
    have c0 : w1.cell? ⟨w.heap.size, 0, none⟩ = some (.int .i64 L) := by rw [hb.cell (p := ⟨w.heap.size, 0, none⟩) (by simp; omega)]; simp [go_sem]
    have c1 : w1.cell? ⟨w.heap.size, 1, none⟩ = some (.slice A l.length c) := by rw [hb.cell (p := ⟨w.heap.size, 1, none⟩) (by simp; omega)]; simp [go_sem]
    have b0 : w1.cell? ⟨w.heap.size + 1, 0, none⟩ = some (.int .i64 a) := by rw [hb.cell (p := ⟨w.heap.size + 1, 0, none⟩) (by simp)]; simp [go_sem]
    have b1 : w1.cell? ⟨w.heap.size + 1, 1, none⟩ = some (.int .i64 y) := by rw [hb.cell (p := ⟨w.heap.size + 1, 1, none⟩) (by simp)]; simp [go_sem]
    have hs0 : w.heap.size < w1.heap.size := by omega
    have hs1 : w.heap.size + 1 < w1.heap.size := by omega
    have HA1 := Lib.hid (antsAt_sl (HA.out.below hb))
    clear hb
    obtain ⟨X, hX⟩ : ∃ X, X = ((w1.alloc (Obj.cells #[Value.int IntKind.i64 a, Value.int IntKind.i64 y] 49)).alloc (Obj.cells #[.slice A l.length c, .slice (some ⟨w1.heap.size, 0, none⟩) 1 1] 26)) := ⟨_, rfl⟩
    have hbX : Below w1.heap.size w1 X := by rw [hX]; exact ((Below.refl _ _).alloc (Nat.le_refl _) _).alloc (by simp) _
    have e0 : X.cell? ⟨w1.heap.size + 1, 0, none⟩ = some (.slice A l.length c) := by rw [hX]; simp [go_sem]
    have e1 : X.cell? ⟨w1.heap.size + 1, 1, none⟩ = some (.slice (some ⟨w1.heap.size, 0, none⟩) 1 1) := by rw [hX]; simp [go_sem]
    have HX1 : Hid (SlAt pairS X (some ⟨w1.heap.size, 0, none⟩) [(a, y)]) := by
      rw [hX]; exact (slAt_one (heap_new (w := w1) rfl)).alloc _
    have HK : Hid (Calls Try.prog 74 #[.slice (some ⟨w1.heap.size + 1, 0, none⟩) 2 2] X fun e w' => ∃ A' c', e = .returned (.slice A' (l ++ [(a, y)]).length c') ∧ SlOwn pairS w' X.heap.size 49 (.slice A' (l ++ [(a, y)]).length c') (l ++ [(a, y)]) ∧ Below X.heap.size X w') :=
      concatA_at (w1.heap.size + 1) 2 l.length 1 A (some ⟨w1.heap.size, 0, none⟩) c 1 l [(a, y)] X rfl rfl (by omega) (by simp) (HA1.out.below hbX) HX1.out e0 e1
    have HLE : Hid ((l ++ [(a, y)]).length ≤ 65536) := by show _ ≤ _; rw [List.length_append]; simp only [List.length_cons, List.length_nil]; omega
    have HNL : Hid ((l ++ [(a, y)]).length = (srtA (l ++ [(a, y)])).length) := by show _ = _; rw [srtA_len]
    rw [hX] at HK
    clear e0 e1
    go_wp2_with fail
    refine HK.out.mono ?_
    rw [← hX]
    rintro e w2 ⟨A2, k2, rfl, ho2, hb2⟩
    have hb12 : Below w1.heap.size w1 w2 := hbX.trans (hb2.mono hbX.size)
    have hX2 : w1.heap.size ≤ X.heap.size := hbX.size
    have HO2 := Lib.hid ho2
    clear ho2 hb2 hbX hX HK
    generalize (l ++ [(a, y)]).length = N at *
    have r0 := Below.cell_some hb12 r0
    have r1 := Below.cell_some hb12 r1
    have f0 := (hb12.frozen (p := ⟨w.heap.size + 2, 0, none⟩) hs).trans f0
    have f1 := (hb12.frozen (p := ⟨w.heap.size + 2, 1, none⟩) hs).trans f1
    have c0 := Below.cell_some hb12 c0
    have HB := Lib.hid (HB.out.trans (hb12.mono HB.out.size))
    have hsB : w.heap.size + 2 < w1.heap.size := hs
    have hs : w.heap.size + 2 < w2.heap.size := Nat.lt_of_lt_of_le hs hb12.size
    clear hb12
    go_wp2_with fail
    refine (sort_any (by rw [List.length_append]; simp only [List.length_cons, List.length_nil]; omega) HO2.out).mono ?_
    rintro e w3 ⟨rfl, ho3, hb3⟩
    have HO3 := Lib.hid ho3
    generalize srtA (l ++ [(a, y)]) = m at *
    have hNm := HNL.out
    subst hNm
    have hbl : w.heap.size + 2 < X.heap.size := by omega
    have hbl0 : w.heap.size < X.heap.size := by omega
    have r0 := (hb3.cell (p := ⟨w.heap.size + 2, 0, none⟩) hbl).trans r0
    have r1 := (hb3.cell (p := ⟨w.heap.size + 2, 1, none⟩) hbl).trans r1
    have f0 := (hb3.frozen (p := ⟨w.heap.size + 2, 0, none⟩) hbl).trans f0
    have f1 := (hb3.frozen (p := ⟨w.heap.size + 2, 1, none⟩) hbl).trans f1
    have c0 := (hb3.cell (p := ⟨w.heap.size, 0, none⟩) hbl0).trans c0
    have HB := Lib.hid (HB.out.trans (hb3.mono (by omega)))
    have hs : w.heap.size + 2 < w3.heap.size := Nat.lt_of_lt_of_le hs hb3.size
    clear ho3 hb3
    go_wp2_with fail
    refine (HG2.out _ A2 k2 (slAt_ants (HO3.out.sl.alloc _))).mono ?_
    rintro e w4 ⟨rfl, hb4⟩
    have o0 : w4.cell? ⟨w3.heap.size, 0, none⟩ = some (.int .i64 L) := by rw [hb4.cell (p := ⟨w3.heap.size, 0, none⟩) (by simp)]; simp
    have o1 : w4.cell? ⟨w3.heap.size, 1, none⟩ = some (.slice A2 m.length k2) := by rw [hb4.cell (p := ⟨w3.heap.size, 1, none⟩) (by simp)]; simp
    have hb5 : Below w3.heap.size w3 w4 := ((Below.refl _ _).alloc (Nat.le_refl _) _).trans (hb4.mono (by simp))
    have hg2 : w3.heap.size < w4.heap.size := by have := hb4.size; simp at this; omega
    have r0 := Below.cell_some hb5 r0
    have r1 := Below.cell_some hb5 r1
    have f0 := (hb5.frozen (p := ⟨w.heap.size + 2, 0, none⟩) hs).trans f0
    have f1 := (hb5.frozen (p := ⟨w.heap.size + 2, 1, none⟩) hs).trans f1
    have HB := Lib.hid (HB.out.trans (hb5.mono HB.out.size))
    have hs : w.heap.size + 2 < w4.heap.size := Nat.lt_of_lt_of_le hs hb5.size
    have HO := Lib.hid (HO3.out.below hb5)
    clear hb4 hb5
    cases ok with
    | false =>
      have HV := Lib.hid (HVF.out rfl)
      go_wp2
      refine bodyPost_ret (v := .tuple #[.agg #[.int .i64 0, .slice none 0 0], .bool false]) (by simp [results, Try.results39, go_sem, r0, r1, hs]) rfl ⟨none, 0, 0, ret_rod HV.out.1.symm rfl HV.out.2.2.symm, by rw [HV.out.2.1]; rfl, by rw [HV.out.2.1]; exact SlOwn.nil pairS _ _ _, ?_⟩
      exact (HB.out.setCell (by simp; omega) _).setCell (by simp; omega) _
    | true =>
      have HV := Lib.hid (HVT.out rfl)
      go_wp2
      refine bodyPost_ret (v := .tuple #[.agg #[.int .i64 L, .slice A2 m.length k2], .bool true]) (by simp [results, Try.results39, go_sem, r0, r1, hs]) rfl ⟨A2, m.length, k2, ret_rod HV.out.1.symm rfl HV.out.2.2.symm, by rw [HV.out.2.1], ?_, ?_⟩
      · rw [HV.out.2.1]
        exact ownsRow_base (ownsRow_setCell_below (ownsRow_setCell_below HO.out (by simp; omega) _) (by simp; omega) _) (by omega)
      · exact (HB.out.setCell (by simp; omega) _).setCell (by simp; omega) _

end Go.Proofs.Ytdmpgnkiejcljaa
