/- RodAfter on both sides. -/
import Derived.Test.YthfacfoclekcbaaAntsAfter
import Derived.Test.YthfacfoclekcbaaTime
namespace Go.Proofs.Ythfacfoclekcbaa
open Go.RowKit

def raOk (L : Int) (l : List (Int × Int)) (t : Int) : Bool := goodB L l && timeB t
def raL (L : Int) (l : List (Int × Int)) (t : Int) : Int := if raOk L l t then L else 0
def raA (L : Int) (l : List (Int × Int)) (t : Int) : List (Int × Int) := if raOk L l t then srtA (afL L t l) else []
theorem raA_len (L : Int) (l : List (Int × Int)) (t : Int) : (raA L l t).length ≤ l.length := by
  unfold raA
  split
  · have := afL_len L t l l.length
    rwa [List.take_length] at this
  · exact Nat.zero_le _

set_option maxRecDepth 100000 in
set_option maxHeartbeats 1000000 in
theorem specRodAfter_any (L : Int) (A : Option Addr) (c : Nat) (l : List (Int × Int)) (t : Int) (w : World) (_hcap : l.length ≤ c) (hA : AntsAt w A l) :
    Calls Try.prog 7 #[.agg #[.int .i64 L, .slice A l.length c], .int .i64 t] w fun e w' => ∃ A' n' c', e = .returned (.tuple #[.agg #[.int .i64 (raL L l t), .slice A' n' c'], .bool (raOk L l t)]) ∧ n' = (raA L l t).length ∧ AntsOwn w' w.heap.size 42 (.slice A' n' c') (raA L l t) ∧ Below w.heap.size w w' := by
  have HA := Lib.hid ((hA.alloc (Obj.cells #[Value.int IntKind.i64 L, Value.slice A l.length c] 26)).alloc (Obj.cells #[Value.int IntKind.i64 0, Value.slice none 0 0] 26))
  clear hA
  cases hg : goodB L l with
  | false =>
    have HV : Hid (raL L l t = 0 ∧ raA L l t = [] ∧ raOk L l t = false) := by show _ ∧ _ ∧ _; simp [raL, raA, raOk, hg]
    have HG : Hid (∀ w, AntsAt w A l → Calls Try.prog 27 #[.agg #[.int .i64 L, .slice A l.length c]] w fun e w' => e = .returned (.bool false) ∧ Below w.heap.size w w') := fun w h => by
      rw [← hg]; exact roGood_any L A c l w h
    clear hg
    go_enter Try.func7, Try.ntmps7
    go_wp2_with fail
    refine (HG.out _ HA.out).mono ?_
    rintro e w1 ⟨rfl, hb⟩
    have r0 : w1.cell? ⟨w.heap.size + 1, 0, none⟩ = some (.int .i64 0) := by rw [hb.cell (p := ⟨w.heap.size + 1, 0, none⟩) (by simp)]; simp [go_sem]
    have r1 : w1.cell? ⟨w.heap.size + 1, 1, none⟩ = some (.slice none 0 0) := by rw [hb.cell (p := ⟨w.heap.size + 1, 1, none⟩) (by simp)]; simp [go_sem]
    have f0 : w1.frozen? ⟨w.heap.size + 1, 0, none⟩ = false := by rw [hb.frozen (p := ⟨w.heap.size + 1, 0, none⟩) (by simp)]; simp [go_sem]
    have f1 : w1.frozen? ⟨w.heap.size + 1, 1, none⟩ = false := by rw [hb.frozen (p := ⟨w.heap.size + 1, 1, none⟩) (by simp)]; simp [go_sem]
    have hs : w.heap.size + 1 < w1.heap.size := by have := hb.size; simp at this; omega
    have HB := Lib.hid (((Below.refl _ w).alloc (Nat.le_refl _) (Obj.cells #[Value.int IntKind.i64 L, Value.slice A l.length c] 26)).alloc (by simp) (Obj.cells #[Value.int IntKind.i64 0, Value.slice none 0 0] 26) |>.trans (hb.mono (by simp; omega)))
    clear hb
    go_wp2
    refine bodyPost_ret (v := .tuple #[.agg #[.int .i64 0, .slice none 0 0], .bool false]) (by simp [results, Try.results7, go_sem, r0, r1]) rfl ⟨none, 0, 0, ret_rod HV.out.1.symm rfl HV.out.2.2.symm, by rw [HV.out.2.1]; rfl, by rw [HV.out.2.1]; exact SlOwn.nil pairS _ _ _, ?_⟩
    exact (HB.out.setCell (by simp) _).setCell (by simp) _
  | true =>
    have HG : Hid (∀ w, AntsAt w A l → Calls Try.prog 27 #[.agg #[.int .i64 L, .slice A l.length c]] w fun e w' => e = .returned (.bool true) ∧ Below w.heap.size w w') := fun w h => by
      rw [← hg]; exact roGood_any L A c l w h
    cases ht : timeB t with
    | false =>
      have HV : Hid (raL L l t = 0 ∧ raA L l t = [] ∧ raOk L l t = false) := by show _ ∧ _ ∧ _; simp [raL, raA, raOk, ht]
      have HT : Hid (∀ w, Calls Try.prog 28 #[.int .i64 t] w fun e w' => e = .returned (.bool false) ∧ Below w.heap.size w w') := fun w => roTime_at t false ht w
      clear hg ht
      go_enter Try.func7, Try.ntmps7
      go_wp2_with fail
      refine (HG.out _ HA.out).mono ?_
      rintro e w1 ⟨rfl, hb⟩
      have r0 : w1.cell? ⟨w.heap.size + 1, 0, none⟩ = some (.int .i64 0) := by rw [hb.cell (p := ⟨w.heap.size + 1, 0, none⟩) (by simp)]; simp [go_sem]
      have r1 : w1.cell? ⟨w.heap.size + 1, 1, none⟩ = some (.slice none 0 0) := by rw [hb.cell (p := ⟨w.heap.size + 1, 1, none⟩) (by simp)]; simp [go_sem]
      have f0 : w1.frozen? ⟨w.heap.size + 1, 0, none⟩ = false := by rw [hb.frozen (p := ⟨w.heap.size + 1, 0, none⟩) (by simp)]; simp [go_sem]
      have f1 : w1.frozen? ⟨w.heap.size + 1, 1, none⟩ = false := by rw [hb.frozen (p := ⟨w.heap.size + 1, 1, none⟩) (by simp)]; simp [go_sem]
      have hs : w.heap.size + 1 < w1.heap.size := by have := hb.size; simp at this; omega
      have HB := Lib.hid (((Below.refl _ w).alloc (Nat.le_refl _) (Obj.cells #[Value.int IntKind.i64 L, Value.slice A l.length c] 26)).alloc (by simp) (Obj.cells #[Value.int IntKind.i64 0, Value.slice none 0 0] 26) |>.trans (hb.mono (by simp; omega)))
      have c0 : w1.cell? ⟨w.heap.size, 0, none⟩ = some (.int .i64 L) := by rw [hb.cell (p := ⟨w.heap.size, 0, none⟩) (by simp; omega)]; simp [go_sem]
      have c1 : w1.cell? ⟨w.heap.size, 1, none⟩ = some (.slice A l.length c) := by rw [hb.cell (p := ⟨w.heap.size, 1, none⟩) (by simp; omega)]; simp [go_sem]
      have HA1 := Lib.hid (HA.out.below hb)
      clear hb
      go_wp2_with fail
      refine (HT.out _).mono ?_
      rintro e w2 ⟨rfl, hb2⟩
      have r0 := Below.cell_some hb2 r0
      have r1 := Below.cell_some hb2 r1
      have f0 := (hb2.frozen (p := ⟨w.heap.size + 1, 0, none⟩) hs).trans f0
      have f1 := (hb2.frozen (p := ⟨w.heap.size + 1, 1, none⟩) hs).trans f1
      have c0 := Below.cell_some hb2 c0
      have c1 := Below.cell_some hb2 c1
      have HB := Lib.hid (HB.out.trans (hb2.mono HB.out.size))
      have hs : w.heap.size + 1 < w2.heap.size := by have := hb2.size; omega
      have HA2 := Lib.hid (HA1.out.below hb2)
      clear hb2
      go_wp2
      refine bodyPost_ret (v := .tuple #[.agg #[.int .i64 0, .slice none 0 0], .bool false]) (by simp [results, Try.results7, go_sem, r0, r1]) rfl ⟨none, 0, 0, ret_rod HV.out.1.symm rfl HV.out.2.2.symm, by rw [HV.out.2.1]; rfl, by rw [HV.out.2.1]; exact SlOwn.nil pairS _ _ _, ?_⟩
      exact (HB.out.setCell (by simp) _).setCell (by simp) _
    | true =>
      have HV : Hid (raL L l t = L ∧ raA L l t = srtA (afL L t l) ∧ raOk L l t = true) := by show _ ∧ _ ∧ _; simp [raL, raA, raOk, hg, ht]
      have HT : Hid (∀ w, Calls Try.prog 28 #[.int .i64 t] w fun e w' => e = .returned (.bool true) ∧ Below w.heap.size w w') := fun w => roTime_at t true ht w
      have htl := timeB_le ht
      have HR : Hid (∀ w, AntsAt w A l → Calls Try.prog 29 #[.agg #[.int .i64 L, .slice A l.length c], .int .i64 t] w fun e w' => ∃ A' n' c', e = .returned (.slice A' n' c') ∧ n' = (srtA (afL L t l)).length ∧ AntsOwn w' w.heap.size 42 (.slice A' n' c') (srtA (afL L t l)) ∧ Below w.heap.size w w') := fun w h => roGhosts_any L A c l t w hg htl.1 htl.2 h
      clear hg ht
      go_enter Try.func7, Try.ntmps7
      go_wp2_with fail
      refine (HG.out _ HA.out).mono ?_
      rintro e w1 ⟨rfl, hb⟩
      have r0 : w1.cell? ⟨w.heap.size + 1, 0, none⟩ = some (.int .i64 0) := by rw [hb.cell (p := ⟨w.heap.size + 1, 0, none⟩) (by simp)]; simp [go_sem]
      have r1 : w1.cell? ⟨w.heap.size + 1, 1, none⟩ = some (.slice none 0 0) := by rw [hb.cell (p := ⟨w.heap.size + 1, 1, none⟩) (by simp)]; simp [go_sem]
      have f0 : w1.frozen? ⟨w.heap.size + 1, 0, none⟩ = false := by rw [hb.frozen (p := ⟨w.heap.size + 1, 0, none⟩) (by simp)]; simp [go_sem]
      have f1 : w1.frozen? ⟨w.heap.size + 1, 1, none⟩ = false := by rw [hb.frozen (p := ⟨w.heap.size + 1, 1, none⟩) (by simp)]; simp [go_sem]
      have hs : w.heap.size + 1 < w1.heap.size := by have := hb.size; simp at this; omega
      have HB := Lib.hid (((Below.refl _ w).alloc (Nat.le_refl _) (Obj.cells #[Value.int IntKind.i64 L, Value.slice A l.length c] 26)).alloc (by simp) (Obj.cells #[Value.int IntKind.i64 0, Value.slice none 0 0] 26) |>.trans (hb.mono (by simp; omega)))
      have c0 : w1.cell? ⟨w.heap.size, 0, none⟩ = some (.int .i64 L) := by rw [hb.cell (p := ⟨w.heap.size, 0, none⟩) (by simp; omega)]; simp [go_sem]
      have c1 : w1.cell? ⟨w.heap.size, 1, none⟩ = some (.slice A l.length c) := by rw [hb.cell (p := ⟨w.heap.size, 1, none⟩) (by simp; omega)]; simp [go_sem]
      have HA1 := Lib.hid (HA.out.below hb)
      clear hb
      go_wp2_with fail
      refine (HT.out _).mono ?_
      rintro e w2 ⟨rfl, hb2⟩
      have r0 := Below.cell_some hb2 r0
      have r1 := Below.cell_some hb2 r1
      have f0 := (hb2.frozen (p := ⟨w.heap.size + 1, 0, none⟩) hs).trans f0
      have f1 := (hb2.frozen (p := ⟨w.heap.size + 1, 1, none⟩) hs).trans f1
      have c0 := Below.cell_some hb2 c0
      have c1 := Below.cell_some hb2 c1
      have HB := Lib.hid (HB.out.trans (hb2.mono HB.out.size))
      have hs : w.heap.size + 1 < w2.heap.size := by have := hb2.size; omega
      have HA2 := Lib.hid (HA1.out.below hb2)
      clear hb2
      have HK : Hid (∀ Q : Ending → World → Prop, (∀ A' n' c' w', n' = (srtA (afL L t l)).length → AntsOwn w' w2.heap.size 42 (.slice A' n' c') (srtA (afL L t l)) → Below w2.heap.size w2 w' → Q (.returned (.slice A' n' c')) w') → Calls Try.prog 29 #[.agg #[.int .i64 L, .slice A l.length c], .int .i64 t] w2.drew Q) := fun Q hQ => by
        refine (HR.out w2.drew (HA2.out.below ((Below.refl _ _).drew))).mono ?_
        rintro e w' ⟨A', n', c', rfl, hn', ho, hb⟩
        exact hQ A' n' c' w' hn' ho (below_drew hb)
      go_wp2
      go_region_held3 (fun w' => w'.cell? ⟨w.heap.size, 0, none⟩ = some (.int .i64 L) ∧ w'.cell? ⟨w.heap.size, 1, none⟩ = some (.slice A l.length c))
        (first | exact ⟨c0', c1'⟩ | go_keep)
        (first | (go_at_call 29; refine HK.out _ ?_; intro A4 n4 k4 w4 hn4 ho4 hb4; have c0' := Below.cell_some hb4 c0; have c1' := Below.cell_some hb4 c1; have r0 := Below.cell_some hb4 r0; have r1 := Below.cell_some hb4 r1; have f0 := (hb4.frozen (p := ⟨w.heap.size + 1, 0, none⟩) hs).trans f0; have f1 := (hb4.frozen (p := ⟨w.heap.size + 1, 1, none⟩) hs).trans f1; have HO4 := Lib.hid ho4; have HN4 := Lib.hid hn4; have HB4 := Lib.hid (HB.out.trans (hb4.mono HB.out.size)); have hs4 : w.heap.size + 1 < w4.heap.size := Nat.lt_of_lt_of_le hs hb4.size; have HS2 := Lib.hid HB.out.size; clear ho4 hb4 hn4))
      go_wp2
      refine bodyPost_ret (v := .tuple #[.agg #[.int .i64 L, .slice A4 n4 k4], .bool true]) (by simp [results, Try.results7, go_sem, r0, r1]) rfl ⟨A4, n4, k4, ret_rod HV.out.1.symm rfl HV.out.2.2.symm, by rw [HN4.out, HV.out.2.1], ?_, ?_⟩
      · rw [HV.out.2.1]
        exact ownsRow_base (ownsRow_setCell_below (ownsRow_setCell_below HO4.out (by simp; omega) _) (by simp; omega) _) HS2.out
      · exact (HB4.out.setCell (by simp) _).setCell (by simp) _

set_option maxRecDepth 100000 in
set_option maxHeartbeats 1000000 in
theorem implRodAfter_any (L : Int) (A : Option Addr) (c : Nat) (l : List (Int × Int)) (t : Int) (w : World) (_hcap : l.length ≤ c) (hA : AntsAt w A l) :
    Calls Try.prog 6 #[.agg #[.int .i64 L, .slice A l.length c], .int .i64 t] w fun e w' => ∃ A' n' c', e = .returned (.tuple #[.agg #[.int .i64 (raL L l t), .slice A' n' c'], .bool (raOk L l t)]) ∧ n' = (raA L l t).length ∧ AntsOwn w' w.heap.size 42 (.slice A' n' c') (raA L l t) ∧ Below w.heap.size w w' := by
  have HA := Lib.hid ((hA.alloc (Obj.cells #[Value.int IntKind.i64 L, Value.slice A l.length c] 26)).alloc (Obj.cells #[Value.int IntKind.i64 0, Value.slice none 0 0] 26))
  clear hA
  cases hg : goodB L l with
  | false =>
    have HV : Hid (raL L l t = 0 ∧ raA L l t = [] ∧ raOk L l t = false) := by show _ ∧ _ ∧ _; simp [raL, raA, raOk, hg]
    have HG : Hid (∀ w, AntsAt w A l → Calls Try.prog 14 #[.agg #[.int .i64 L, .slice A l.length c]] w fun e w' => e = .returned (.bool false) ∧ Below w.heap.size w w') := fun w h => by
      rw [← hg]; exact isRod_any L A c l w h
    clear hg
    go_enter Try.func6, Try.ntmps6
    go_wp2_with fail
    refine (HG.out _ HA.out).mono ?_
    rintro e w1 ⟨rfl, hb⟩
    have r0 : w1.cell? ⟨w.heap.size + 1, 0, none⟩ = some (.int .i64 0) := by rw [hb.cell (p := ⟨w.heap.size + 1, 0, none⟩) (by simp)]; simp [go_sem]
    have r1 : w1.cell? ⟨w.heap.size + 1, 1, none⟩ = some (.slice none 0 0) := by rw [hb.cell (p := ⟨w.heap.size + 1, 1, none⟩) (by simp)]; simp [go_sem]
    have f0 : w1.frozen? ⟨w.heap.size + 1, 0, none⟩ = false := by rw [hb.frozen (p := ⟨w.heap.size + 1, 0, none⟩) (by simp)]; simp [go_sem]
    have f1 : w1.frozen? ⟨w.heap.size + 1, 1, none⟩ = false := by rw [hb.frozen (p := ⟨w.heap.size + 1, 1, none⟩) (by simp)]; simp [go_sem]
    have hs : w.heap.size + 1 < w1.heap.size := by have := hb.size; simp at this; omega
    have HB := Lib.hid (((Below.refl _ w).alloc (Nat.le_refl _) (Obj.cells #[Value.int IntKind.i64 L, Value.slice A l.length c] 26)).alloc (by simp) (Obj.cells #[Value.int IntKind.i64 0, Value.slice none 0 0] 26) |>.trans (hb.mono (by simp; omega)))
    clear hb
    go_wp2
    refine bodyPost_ret (v := .tuple #[.agg #[.int .i64 0, .slice none 0 0], .bool false]) (by simp [results, Try.results6, go_sem, r0, r1]) rfl ⟨none, 0, 0, ret_rod HV.out.1.symm rfl HV.out.2.2.symm, by rw [HV.out.2.1]; rfl, by rw [HV.out.2.1]; exact SlOwn.nil pairS _ _ _, ?_⟩
    exact (HB.out.setCell (by simp) _).setCell (by simp) _
  | true =>
    have HG : Hid (∀ w, AntsAt w A l → Calls Try.prog 14 #[.agg #[.int .i64 L, .slice A l.length c]] w fun e w' => e = .returned (.bool true) ∧ Below w.heap.size w w') := fun w h => by
      rw [← hg]; exact isRod_any L A c l w h
    cases ht : timeB t with
    | false =>
      have HV : Hid (raL L l t = 0 ∧ raA L l t = [] ∧ raOk L l t = false) := by show _ ∧ _ ∧ _; simp [raL, raA, raOk, ht]
      have HT : Hid (∀ w, Calls Try.prog 25 #[.int .i64 t] w fun e w' => e = .returned (.bool false) ∧ Below w.heap.size w w') := fun w => isRodTime_at t false ht w
      clear hg ht
      go_enter Try.func6, Try.ntmps6
      go_wp2_with fail
      refine (HG.out _ HA.out).mono ?_
      rintro e w1 ⟨rfl, hb⟩
      have r0 : w1.cell? ⟨w.heap.size + 1, 0, none⟩ = some (.int .i64 0) := by rw [hb.cell (p := ⟨w.heap.size + 1, 0, none⟩) (by simp)]; simp [go_sem]
      have r1 : w1.cell? ⟨w.heap.size + 1, 1, none⟩ = some (.slice none 0 0) := by rw [hb.cell (p := ⟨w.heap.size + 1, 1, none⟩) (by simp)]; simp [go_sem]
      have f0 : w1.frozen? ⟨w.heap.size + 1, 0, none⟩ = false := by rw [hb.frozen (p := ⟨w.heap.size + 1, 0, none⟩) (by simp)]; simp [go_sem]
      have f1 : w1.frozen? ⟨w.heap.size + 1, 1, none⟩ = false := by rw [hb.frozen (p := ⟨w.heap.size + 1, 1, none⟩) (by simp)]; simp [go_sem]
      have hs : w.heap.size + 1 < w1.heap.size := by have := hb.size; simp at this; omega
      have HB := Lib.hid (((Below.refl _ w).alloc (Nat.le_refl _) (Obj.cells #[Value.int IntKind.i64 L, Value.slice A l.length c] 26)).alloc (by simp) (Obj.cells #[Value.int IntKind.i64 0, Value.slice none 0 0] 26) |>.trans (hb.mono (by simp; omega)))
      have c0 : w1.cell? ⟨w.heap.size, 0, none⟩ = some (.int .i64 L) := by rw [hb.cell (p := ⟨w.heap.size, 0, none⟩) (by simp; omega)]; simp [go_sem]
      have c1 : w1.cell? ⟨w.heap.size, 1, none⟩ = some (.slice A l.length c) := by rw [hb.cell (p := ⟨w.heap.size, 1, none⟩) (by simp; omega)]; simp [go_sem]
      have HA1 := Lib.hid (HA.out.below hb)
      clear hb
      go_wp2_with fail
      refine (HT.out _).mono ?_
      rintro e w2 ⟨rfl, hb2⟩
      have r0 := Below.cell_some hb2 r0
      have r1 := Below.cell_some hb2 r1
      have f0 := (hb2.frozen (p := ⟨w.heap.size + 1, 0, none⟩) hs).trans f0
      have f1 := (hb2.frozen (p := ⟨w.heap.size + 1, 1, none⟩) hs).trans f1
      have c0 := Below.cell_some hb2 c0
      have c1 := Below.cell_some hb2 c1
      have HB := Lib.hid (HB.out.trans (hb2.mono HB.out.size))
      have hs : w.heap.size + 1 < w2.heap.size := by have := hb2.size; omega
      have HA2 := Lib.hid (HA1.out.below hb2)
      clear hb2
      go_wp2
      refine bodyPost_ret (v := .tuple #[.agg #[.int .i64 0, .slice none 0 0], .bool false]) (by simp [results, Try.results6, go_sem, r0, r1]) rfl ⟨none, 0, 0, ret_rod HV.out.1.symm rfl HV.out.2.2.symm, by rw [HV.out.2.1]; rfl, by rw [HV.out.2.1]; exact SlOwn.nil pairS _ _ _, ?_⟩
      exact (HB.out.setCell (by simp) _).setCell (by simp) _
    | true =>
      have HV : Hid (raL L l t = L ∧ raA L l t = srtA (afL L t l) ∧ raOk L l t = true) := by show _ ∧ _ ∧ _; simp [raL, raA, raOk, hg, ht]
      have HT : Hid (∀ w, Calls Try.prog 25 #[.int .i64 t] w fun e w' => e = .returned (.bool true) ∧ Below w.heap.size w w') := fun w => isRodTime_at t true ht w
      have htl := timeB_le ht
      have HR : Hid (∀ w, AntsAt w A l → Calls Try.prog 26 #[.agg #[.int .i64 L, .slice A l.length c], .int .i64 t] w fun e w' => ∃ A' n' c', e = .returned (.slice A' n' c') ∧ n' = (srtA (afL L t l)).length ∧ AntsOwn w' w.heap.size 42 (.slice A' n' c') (srtA (afL L t l)) ∧ Below w.heap.size w w') := fun w h => antsAfter_any L A c l t w hg htl.1 htl.2 h
      clear hg ht
      go_enter Try.func6, Try.ntmps6
      go_wp2_with fail
      refine (HG.out _ HA.out).mono ?_
      rintro e w1 ⟨rfl, hb⟩
      have r0 : w1.cell? ⟨w.heap.size + 1, 0, none⟩ = some (.int .i64 0) := by rw [hb.cell (p := ⟨w.heap.size + 1, 0, none⟩) (by simp)]; simp [go_sem]
      have r1 : w1.cell? ⟨w.heap.size + 1, 1, none⟩ = some (.slice none 0 0) := by rw [hb.cell (p := ⟨w.heap.size + 1, 1, none⟩) (by simp)]; simp [go_sem]
      have f0 : w1.frozen? ⟨w.heap.size + 1, 0, none⟩ = false := by rw [hb.frozen (p := ⟨w.heap.size + 1, 0, none⟩) (by simp)]; simp [go_sem]
      have f1 : w1.frozen? ⟨w.heap.size + 1, 1, none⟩ = false := by rw [hb.frozen (p := ⟨w.heap.size + 1, 1, none⟩) (by simp)]; simp [go_sem]
      have hs : w.heap.size + 1 < w1.heap.size := by have := hb.size; simp at this; omega
      have HB := Lib.hid (((Below.refl _ w).alloc (Nat.le_refl _) (Obj.cells #[Value.int IntKind.i64 L, Value.slice A l.length c] 26)).alloc (by simp) (Obj.cells #[Value.int IntKind.i64 0, Value.slice none 0 0] 26) |>.trans (hb.mono (by simp; omega)))
      have c0 : w1.cell? ⟨w.heap.size, 0, none⟩ = some (.int .i64 L) := by rw [hb.cell (p := ⟨w.heap.size, 0, none⟩) (by simp; omega)]; simp [go_sem]
      have c1 : w1.cell? ⟨w.heap.size, 1, none⟩ = some (.slice A l.length c) := by rw [hb.cell (p := ⟨w.heap.size, 1, none⟩) (by simp; omega)]; simp [go_sem]
      have HA1 := Lib.hid (HA.out.below hb)
      clear hb
      go_wp2_with fail
      refine (HT.out _).mono ?_
      rintro e w2 ⟨rfl, hb2⟩
      have r0 := Below.cell_some hb2 r0
      have r1 := Below.cell_some hb2 r1
      have f0 := (hb2.frozen (p := ⟨w.heap.size + 1, 0, none⟩) hs).trans f0
      have f1 := (hb2.frozen (p := ⟨w.heap.size + 1, 1, none⟩) hs).trans f1
      have c0 := Below.cell_some hb2 c0
      have c1 := Below.cell_some hb2 c1
      have HB := Lib.hid (HB.out.trans (hb2.mono HB.out.size))
      have hs : w.heap.size + 1 < w2.heap.size := by have := hb2.size; omega
      have HA2 := Lib.hid (HA1.out.below hb2)
      clear hb2
      have HK : Hid (∀ Q : Ending → World → Prop, (∀ A' n' c' w', n' = (srtA (afL L t l)).length → AntsOwn w' w2.heap.size 42 (.slice A' n' c') (srtA (afL L t l)) → Below w2.heap.size w2 w' → Q (.returned (.slice A' n' c')) w') → Calls Try.prog 26 #[.agg #[.int .i64 L, .slice A l.length c], .int .i64 t] w2.drew Q) := fun Q hQ => by
        refine (HR.out w2.drew (HA2.out.below ((Below.refl _ _).drew))).mono ?_
        rintro e w' ⟨A', n', c', rfl, hn', ho, hb⟩
        exact hQ A' n' c' w' hn' ho (below_drew hb)
      go_wp2
      go_region_held3 (fun w' => w'.cell? ⟨w.heap.size, 0, none⟩ = some (.int .i64 L) ∧ w'.cell? ⟨w.heap.size, 1, none⟩ = some (.slice A l.length c))
        (first | exact ⟨c0', c1'⟩ | go_keep)
        (first | (go_at_call 26; refine HK.out _ ?_; intro A4 n4 k4 w4 hn4 ho4 hb4; have c0' := Below.cell_some hb4 c0; have c1' := Below.cell_some hb4 c1; have r0 := Below.cell_some hb4 r0; have r1 := Below.cell_some hb4 r1; have f0 := (hb4.frozen (p := ⟨w.heap.size + 1, 0, none⟩) hs).trans f0; have f1 := (hb4.frozen (p := ⟨w.heap.size + 1, 1, none⟩) hs).trans f1; have HO4 := Lib.hid ho4; have HN4 := Lib.hid hn4; have HB4 := Lib.hid (HB.out.trans (hb4.mono HB.out.size)); have hs4 : w.heap.size + 1 < w4.heap.size := Nat.lt_of_lt_of_le hs hb4.size; have HS2 := Lib.hid HB.out.size; clear ho4 hb4 hn4))
      go_wp2
      refine bodyPost_ret (v := .tuple #[.agg #[.int .i64 L, .slice A4 n4 k4], .bool true]) (by simp [results, Try.results6, go_sem, r0, r1]) rfl ⟨A4, n4, k4, ret_rod HV.out.1.symm rfl HV.out.2.2.symm, by rw [HN4.out, HV.out.2.1], ?_, ?_⟩
      · rw [HV.out.2.1]
        exact ownsRow_base (ownsRow_setCell_below (ownsRow_setCell_below HO4.out (by simp; omega) _) (by simp; omega) _) HS2.out
      · exact (HB4.out.setCell (by simp) _).setCell (by simp) _

end Go.Proofs.Ythfacfoclekcbaa
