/- BoxAfter, HalfwayBox on both sides. -/
import Derived.Test.YthokkdipbckolaaBoxD
import Derived.Test.YthokkdipbckolaaBoxR
import Derived.Deep.RegionHeld3
namespace Go.Proofs.Ythokkdipbckolaa
open Go.RowKit

def bfOk (L : Int) (l : List (Int × Int)) (t : Int) : Bool := boxB L l && timeB t
def bfL (L : Int) (l : List (Int × Int)) (t : Int) : Int := if bfOk L l t then L else 0
def bfA (L : Int) (l : List (Int × Int)) (t : Int) : List (Int × Int) := if bfOk L l t then bxA L t l else []
theorem bfA_len (L : Int) (l : List (Int × Int)) (t : Int) : (bfA L l t).length ≤ l.length := by
  unfold bfA
  split
  · rw [bxA_len]; exact Nat.le_refl _
  · exact Nat.zero_le _
theorem bfA_le (L : Int) (l : List (Int × Int)) (t : Int) : (bfA L l t).length ≤ 16 := by
  unfold bfA
  split
  · rename_i h
    unfold bfOk at h
    rw [Bool.and_eq_true] at h
    have := boxB_len h.1
    rw [bxA_len]
    omega
  · exact Nat.zero_le _
theorem boxAnts_r (L : Int) (A : Option Addr) (c : Nat) (l : List (Int × Int)) (t : Int) (w : World) (hg : goodB L l = true) (ht : 0 ≤ t ∧ t ≤ 100000) (hA : AntsAt w A l) :
    Calls Try.prog 48 #[.agg #[.int .i64 L, .slice A l.length c], .int .i64 t] w fun e w' => ∃ A' n' c', e = .returned (.slice A' n' c') ∧ n' = (bxA L t l).length ∧ AntsOwn w' w.heap.size 53 (.slice A' n' c') (bxA L t l) ∧ Below w.heap.size w w' := by
  refine (boxAnts_any L A c l t w hg ht hA).mono ?_
  rintro e w' ⟨A', c', rfl, ho, hb⟩
  exact ⟨A', _, c', rfl, (bxA_len L t l).symm, antsOwn_iff.2 ho, hb⟩

set_option maxRecDepth 100000 in
set_option maxHeartbeats 1000000 in
theorem implBoxAfter_any (L : Int) (A : Option Addr) (c : Nat) (l : List (Int × Int)) (t : Int) (w : World) (_hcap : l.length ≤ c) (hA : AntsAt w A l) :
    Calls Try.prog 18 #[.agg #[.int .i64 L, .slice A l.length c], .int .i64 t] w fun e w' => ∃ A' n' c', e = .returned (.tuple #[.agg #[.int .i64 (bfL L l t), .slice A' n' c'], .bool (bfOk L l t)]) ∧ n' = (bfA L l t).length ∧ AntsOwn w' w.heap.size 53 (.slice A' n' c') (bfA L l t) ∧ Below w.heap.size w w' := by
  have HA := Lib.hid ((hA.alloc (Obj.cells #[Value.int IntKind.i64 L, Value.slice A l.length c] 29)).alloc (Obj.cells #[Value.int IntKind.i64 0, Value.slice none 0 0] 29))
  clear hA
  cases hg : boxB L l with
  | false =>
    have HV : Hid (bfL L l t = 0 ∧ bfA L l t = [] ∧ bfOk L l t = false) := by show _ ∧ _ ∧ _; simp [bfL, bfA, bfOk, hg]
    have HG : Hid (∀ w, AntsAt w A l → Calls Try.prog 15 #[.agg #[.int .i64 L, .slice A l.length c]] w fun e w' => e = .returned (.bool false) ∧ Below w.heap.size w w') := fun w h => by
      rw [← hg]; exact isBox_any L A c l w h
    clear hg
    go_enter Try.func18, Try.ntmps18
    go_wp2_with fail
    refine (HG.out _ HA.out).mono ?_
    rintro e w1 ⟨rfl, hb⟩
    have r0 : w1.cell? ⟨w.heap.size + 1, 0, none⟩ = some (.int .i64 0) := by rw [hb.cell (p := ⟨w.heap.size + 1, 0, none⟩) (by simp)]; simp [go_sem]
    have r1 : w1.cell? ⟨w.heap.size + 1, 1, none⟩ = some (.slice none 0 0) := by rw [hb.cell (p := ⟨w.heap.size + 1, 1, none⟩) (by simp)]; simp [go_sem]
    have f0 : w1.frozen? ⟨w.heap.size + 1, 0, none⟩ = false := by rw [hb.frozen (p := ⟨w.heap.size + 1, 0, none⟩) (by simp)]; simp [go_sem]
    have f1 : w1.frozen? ⟨w.heap.size + 1, 1, none⟩ = false := by rw [hb.frozen (p := ⟨w.heap.size + 1, 1, none⟩) (by simp)]; simp [go_sem]
    have hs : w.heap.size + 1 < w1.heap.size := by have := hb.size; simp at this; omega
    have HB := Lib.hid (((Below.refl _ w).alloc (Nat.le_refl _) (Obj.cells #[Value.int IntKind.i64 L, Value.slice A l.length c] 29)).alloc (by simp) (Obj.cells #[Value.int IntKind.i64 0, Value.slice none 0 0] 29) |>.trans (hb.mono (by simp; omega)))
    clear hb
    go_wp2
    refine bodyPost_ret (v := .tuple #[.agg #[.int .i64 0, .slice none 0 0], .bool false]) (by simp [results, Try.results18, go_sem, r0, r1]) rfl ⟨none, 0, 0, ret_rod HV.out.1.symm rfl HV.out.2.2.symm, by rw [HV.out.2.1]; rfl, by rw [HV.out.2.1]; exact SlOwn.nil pairS _ _ _, ?_⟩
    exact (HB.out.setCell (by simp) _).setCell (by simp) _
  | true =>
    have HG : Hid (∀ w, AntsAt w A l → Calls Try.prog 15 #[.agg #[.int .i64 L, .slice A l.length c]] w fun e w' => e = .returned (.bool true) ∧ Below w.heap.size w w') := fun w h => by
      rw [← hg]; exact isBox_any L A c l w h
    cases ht : timeB t with
    | false =>
      have HV : Hid (bfL L l t = 0 ∧ bfA L l t = [] ∧ bfOk L l t = false) := by show _ ∧ _ ∧ _; simp [bfL, bfA, bfOk, ht]
      have HT : Hid (∀ w, Calls Try.prog 47 #[.int .i64 t] w fun e w' => e = .returned (.bool false) ∧ Below w.heap.size w w') := fun w => isRodTime_at t false ht w
      clear hg ht
      go_enter Try.func18, Try.ntmps18
      go_wp2_with fail
      refine (HG.out _ HA.out).mono ?_
      rintro e w1 ⟨rfl, hb⟩
      have r0 : w1.cell? ⟨w.heap.size + 1, 0, none⟩ = some (.int .i64 0) := by rw [hb.cell (p := ⟨w.heap.size + 1, 0, none⟩) (by simp)]; simp [go_sem]
      have r1 : w1.cell? ⟨w.heap.size + 1, 1, none⟩ = some (.slice none 0 0) := by rw [hb.cell (p := ⟨w.heap.size + 1, 1, none⟩) (by simp)]; simp [go_sem]
      have f0 : w1.frozen? ⟨w.heap.size + 1, 0, none⟩ = false := by rw [hb.frozen (p := ⟨w.heap.size + 1, 0, none⟩) (by simp)]; simp [go_sem]
      have f1 : w1.frozen? ⟨w.heap.size + 1, 1, none⟩ = false := by rw [hb.frozen (p := ⟨w.heap.size + 1, 1, none⟩) (by simp)]; simp [go_sem]
      have hs : w.heap.size + 1 < w1.heap.size := by have := hb.size; simp at this; omega
      have HB := Lib.hid (((Below.refl _ w).alloc (Nat.le_refl _) (Obj.cells #[Value.int IntKind.i64 L, Value.slice A l.length c] 29)).alloc (by simp) (Obj.cells #[Value.int IntKind.i64 0, Value.slice none 0 0] 29) |>.trans (hb.mono (by simp; omega)))
      have c0 : w1.cell? ⟨w.heap.size, 0, none⟩ = some (.int .i64 L) := by rw [hb.cell (p := ⟨w.heap.size, 0, none⟩) (by simp; omega)]; simp [go_sem]
      have c1 : w1.cell? ⟨w.heap.size, 1, none⟩ = some (.slice A l.length c) := by rw [hb.cell (p := ⟨w.heap.size, 1, none⟩) (by simp; omega)]; simp [go_sem]
      have HA1 := Lib.hid (HA.out.below hb)
      clear hb
      go_wp2_with fail
      refine (HT.out _).mono ?_
      rintro e w2 ⟨rfl, hb2⟩
      have r0 := Below.cell_some hb2 r0
      have r1 := Below.cell_some hb2 r1
      have f0 := (hb2.frozen (p := ⟨w.heap.size + 1, 0, none⟩) hs).trans f0
      have f1 := (hb2.frozen (p := ⟨w.heap.size + 1, 1, none⟩) hs).trans f1
      have c0 := Below.cell_some hb2 c0
      have c1 := Below.cell_some hb2 c1
      have HB := Lib.hid (HB.out.trans (hb2.mono HB.out.size))
      have hs : w.heap.size + 1 < w2.heap.size := by have := hb2.size; omega
      have HA2 := Lib.hid (HA1.out.below hb2)
      clear hb2
      go_wp2
      refine bodyPost_ret (v := .tuple #[.agg #[.int .i64 0, .slice none 0 0], .bool false]) (by simp [results, Try.results18, go_sem, r0, r1]) rfl ⟨none, 0, 0, ret_rod HV.out.1.symm rfl HV.out.2.2.symm, by rw [HV.out.2.1]; rfl, by rw [HV.out.2.1]; exact SlOwn.nil pairS _ _ _, ?_⟩
      exact (HB.out.setCell (by simp) _).setCell (by simp) _
    | true =>
      have HV : Hid (bfL L l t = L ∧ bfA L l t = bxA L t l ∧ bfOk L l t = true) := by show _ ∧ _ ∧ _; simp [bfL, bfA, bfOk, hg, ht]
      have HT : Hid (∀ w, Calls Try.prog 47 #[.int .i64 t] w fun e w' => e = .returned (.bool true) ∧ Below w.heap.size w w') := fun w => isRodTime_at t true ht w
      have htl := timeB_le ht
      have HR : Hid (∀ w, AntsAt w A l → Calls Try.prog 48 #[.agg #[.int .i64 L, .slice A l.length c], .int .i64 t] w fun e w' => ∃ A' n' c', e = .returned (.slice A' n' c') ∧ n' = (bxA L t l).length ∧ AntsOwn w' w.heap.size 53 (.slice A' n' c') (bxA L t l) ∧ Below w.heap.size w w') := fun w h => boxAnts_r L A c l t w (boxB_good hg) ⟨htl.1, by omega⟩ h
      clear hg ht
      go_enter Try.func18, Try.ntmps18
      go_wp2_with fail
      refine (HG.out _ HA.out).mono ?_
      rintro e w1 ⟨rfl, hb⟩
      have r0 : w1.cell? ⟨w.heap.size + 1, 0, none⟩ = some (.int .i64 0) := by rw [hb.cell (p := ⟨w.heap.size + 1, 0, none⟩) (by simp)]; simp [go_sem]
      have r1 : w1.cell? ⟨w.heap.size + 1, 1, none⟩ = some (.slice none 0 0) := by rw [hb.cell (p := ⟨w.heap.size + 1, 1, none⟩) (by simp)]; simp [go_sem]
      have f0 : w1.frozen? ⟨w.heap.size + 1, 0, none⟩ = false := by rw [hb.frozen (p := ⟨w.heap.size + 1, 0, none⟩) (by simp)]; simp [go_sem]
      have f1 : w1.frozen? ⟨w.heap.size + 1, 1, none⟩ = false := by rw [hb.frozen (p := ⟨w.heap.size + 1, 1, none⟩) (by simp)]; simp [go_sem]
      have hs : w.heap.size + 1 < w1.heap.size := by have := hb.size; simp at this; omega
      have HB := Lib.hid (((Below.refl _ w).alloc (Nat.le_refl _) (Obj.cells #[Value.int IntKind.i64 L, Value.slice A l.length c] 29)).alloc (by simp) (Obj.cells #[Value.int IntKind.i64 0, Value.slice none 0 0] 29) |>.trans (hb.mono (by simp; omega)))
      have c0 : w1.cell? ⟨w.heap.size, 0, none⟩ = some (.int .i64 L) := by rw [hb.cell (p := ⟨w.heap.size, 0, none⟩) (by simp; omega)]; simp [go_sem]
      have c1 : w1.cell? ⟨w.heap.size, 1, none⟩ = some (.slice A l.length c) := by rw [hb.cell (p := ⟨w.heap.size, 1, none⟩) (by simp; omega)]; simp [go_sem]
      have HA1 := Lib.hid (HA.out.below hb)
      clear hb
      go_wp2_with fail
      refine (HT.out _).mono ?_
      rintro e w2 ⟨rfl, hb2⟩
      have r0 := Below.cell_some hb2 r0
      have r1 := Below.cell_some hb2 r1
      have f0 := (hb2.frozen (p := ⟨w.heap.size + 1, 0, none⟩) hs).trans f0
      have f1 := (hb2.frozen (p := ⟨w.heap.size + 1, 1, none⟩) hs).trans f1
      have c0 := Below.cell_some hb2 c0
      have c1 := Below.cell_some hb2 c1
      have HB := Lib.hid (HB.out.trans (hb2.mono HB.out.size))
      have hs : w.heap.size + 1 < w2.heap.size := by have := hb2.size; omega
      have HA2 := Lib.hid (HA1.out.below hb2)
      clear hb2
      have HK : Hid (∀ Q : Ending → World → Prop, (∀ A' n' c' w', n' = (bxA L t l).length → AntsOwn w' w2.heap.size 53 (.slice A' n' c') (bxA L t l) → Below w2.heap.size w2 w' → Q (.returned (.slice A' n' c')) w') → Calls Try.prog 48 #[.agg #[.int .i64 L, .slice A l.length c], .int .i64 t] w2.drew Q) := fun Q hQ => by
        refine (HR.out w2.drew (HA2.out.below ((Below.refl _ _).drew))).mono ?_
        rintro e w' ⟨A', n', c', rfl, hn', ho, hb⟩
        exact hQ A' n' c' w' hn' ho (below_drew hb)
      go_wp2
      go_region_held3 (fun w' => w'.cell? ⟨w.heap.size, 0, none⟩ = some (.int .i64 L) ∧ w'.cell? ⟨w.heap.size, 1, none⟩ = some (.slice A l.length c))
        (first | exact ⟨c0', c1'⟩ | go_keep)
        (first | (go_at_call 48; refine HK.out _ ?_; intro A4 n4 k4 w4 hn4 ho4 hb4; have c0' := Below.cell_some hb4 c0; have c1' := Below.cell_some hb4 c1; have r0 := Below.cell_some hb4 r0; have r1 := Below.cell_some hb4 r1; have f0 := (hb4.frozen (p := ⟨w.heap.size + 1, 0, none⟩) hs).trans f0; have f1 := (hb4.frozen (p := ⟨w.heap.size + 1, 1, none⟩) hs).trans f1; have HO4 := Lib.hid ho4; have HN4 := Lib.hid hn4; have HB4 := Lib.hid (HB.out.trans (hb4.mono HB.out.size)); have hs4 : w.heap.size + 1 < w4.heap.size := Nat.lt_of_lt_of_le hs hb4.size; have HS2 := Lib.hid HB.out.size; clear ho4 hb4 hn4))
      go_wp2
      refine bodyPost_ret (v := .tuple #[.agg #[.int .i64 L, .slice A4 n4 k4], .bool true]) (by simp [results, Try.results18, go_sem, r0, r1]) rfl ⟨A4, n4, k4, ret_rod HV.out.1.symm rfl HV.out.2.2.symm, by rw [HN4.out, HV.out.2.1], ?_, ?_⟩
      · rw [HV.out.2.1]
        exact ownsRow_base (ownsRow_setCell_below (ownsRow_setCell_below HO4.out (by simp; omega) _) (by simp; omega) _) HS2.out
      · exact (HB4.out.setCell (by simp) _).setCell (by simp) _

end Go.Proofs.Ythokkdipbckolaa
