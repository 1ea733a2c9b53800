/- What circleOf returns: a circle of its own, its ants moved and told anew. -/
import Derived.Test.YtdoikeglaolipaaCrewC
namespace Go.Proofs.Ytdoikeglaolipaa
open Go.RowKit

theorem crew_ants {w : World} {g : Nat} {t : TypeId} {m : List (Int × Int)} (h : w.heap[g]? = some (.cells (crewV m).toArray t (0, 0))) : SlAt pairS w (some ⟨g, 0, none⟩) m := by
  refine .inr ⟨g, 0, rfl, (Array.getElem?_eq_some_iff.1 h).1, fun k x hk j hj => ?_⟩
  rw [cell_of_row w g _ _ _ _ h]
  have h1 := pairS.row_at m k x hk j hj
  have hkl : k < m.length := (List.getElem?_eq_some_iff.1 hk).1
  have h2 : k * pairS.size + j < (pairS.row m).length := by
    rw [pairS.row_length]
    have : (k + 1) * pairS.size ≤ m.length * pairS.size := Nat.mul_le_mul_right _ hkl
    rw [Nat.add_mul] at this
    omega
  rw [Nat.zero_add, ← Array.getElem?_toList]
  show (crewV m)[_]? = _
  unfold crewV
  rw [List.getElem?_append_left h2, h1]

set_option maxRecDepth 100000 in
set_option maxHeartbeats 1000000 in
theorem circleOf_any (N : Nat) (cap : Array Value) (f : Int × Int → Int × Int) (L : Int) (A : Option Addr) (c : Nat) (l : List (Int × Int)) (w : World)
    (hen : ∀ args w, (callFunc N args).run Try.prog w = .ok (.enter N args) w) (hl : l.length ≤ 16) (hL : 0 < L) (hL1 : L ≤ 1000000) (hf : ∀ x ∈ l, -1000000 ≤ (f x).1 ∧ (f x).1 ≤ 1000000)
    (hM : ∀ x ∈ l, ∀ W, Below w.heap.size w W → Calls Try.prog N (#[.agg #[.int .i64 x.1, .int .i64 x.2]] ++ cap) W fun e W' => e = .returned (.agg #[.int .i64 (f x).1, .int .i64 (f x).2]) ∧ Below W.heap.size W W')
    (hA : AntsAt w A l) :
    Calls Try.prog 43 #[.agg #[.int .i64 L, .slice A l.length c], .func (.func N) #[] cap] w fun e w' => ∃ A' n' c', e = .returned (.agg #[.int .i64 L, .slice A' n' c']) ∧ n' = l.length ∧ SlOwn pairS w' w.heap.size 59 (.slice A' n' c') (srtA (l.map (mvK L f))) ∧ Below w.heap.size w w' := by
  obtain ⟨W0, hW0⟩ : ∃ W0, W0 = (w.alloc (Obj.cells #[Value.int IntKind.i64 L, Value.slice A l.length c] 28)).alloc (Obj.cells #[Value.int IntKind.i64 0, Value.slice none 0 0] 28) := ⟨_, rfl⟩
  have HB0 : Hid (Below w.heap.size w W0) := by show Below _ _ _; rw [hW0]; exact ((Below.refl _ w).alloc (Nat.le_refl _) _).alloc (by simp) _
  have hs0 : W0.heap.size = w.heap.size + 2 := by rw [hW0]; simp
  have c0 : W0.cell? ⟨w.heap.size, 0, none⟩ = some (.int .i64 L) := by rw [hW0]; simp
  have c1 : W0.cell? ⟨w.heap.size, 1, none⟩ = some (.slice A l.length c) := by rw [hW0]; simp
  have z0 : W0.cell? ⟨w.heap.size + 1, 0, none⟩ = some (.int .i64 0) := by rw [hW0]; simp
  have z1 : W0.cell? ⟨w.heap.size + 1, 1, none⟩ = some (.slice none 0 0) := by rw [hW0]; simp
  have f0 : W0.frozen? ⟨w.heap.size + 1, 0, none⟩ = false := by rw [hW0]; simp
  have f1 : W0.frozen? ⟨w.heap.size + 1, 1, none⟩ = false := by rw [hW0]; simp
  have HC := Lib.hid (crewOf_any N cap f L A c l W0 hen hl hL hL1 hf (fun x hx W hW => hM x hx W (HB0.out.trans (hW.mono (by omega)))) (hA.below HB0.out))
  have HSL : Hid ((srtA (l.map (mvK L f))).length = l.length) := by show _ = _; rw [srtA_len, List.length_map]
  clear hf hM hA
  generalize srtA (l.map (mvK L f)) = m at *
  have hml : m.length ≤ 16 := by rw [HSL.out]; exact hl
  have HSZ : Hid ((Try.prog.info? 61).map (·.size) = some (crewV m).toArray.size) := by show _ = _; rw [List.size_toArray, crew_length m hml]; exact crewSiz
  have HALL : Hid (((crewV m).toArray.all (·.oneCell')) = true) := by show _ = _; rw [List.all_toArray]; exact List.all_eq_true.2 (crew_one _)
  have HZL : Hid ((List.replicate 32 (Value.int .i64 0)).toArray.size = (crewV m).toArray.size) := by show _ = _; rw [List.size_toArray, List.size_toArray, crew_length m hml]; simp
  go_enter Try.func43, Try.ntmps43
  go_wp2_with fail
  generalize hQ : (w.alloc _).alloc _ = W1
  obtain rfl : W1 = W0 := by rw [hW0, ← hQ]
  clear hQ hW0
  refine HC.out.mono ?_
  rintro e w1 ⟨rfl, hb1⟩
  have HB1 := Lib.hid (HB0.out.trans (hb1.mono (by omega)))
  have hs1 := hb1.size
  have c0 := Below.cell_some hb1 c0
  have c1 := Below.cell_some hb1 c1
  have z0 := Below.cell_some hb1 z0
  have z1 := Below.cell_some hb1 z1
  have f0 := (hb1.frozen (p := ⟨w.heap.size + 1, 0, none⟩) (by simp only; omega)).trans f0
  have f1 := (hb1.frozen (p := ⟨w.heap.size + 1, 1, none⟩) (by simp only; omega)).trans f1
  clear hb1 HC
  obtain ⟨X, hX⟩ : ∃ X, X = (w1.alloc (Obj.cells (List.replicate 32 (Value.int .i64 0)).toArray 61)).setRow w1.heap.size (crewV m).toArray := ⟨_, rfl⟩
  have hBX : Below w1.heap.size w1 X := by
    rw [hX]
    refine ((Below.refl _ w1).alloc (Nat.le_refl _) _).grown (row := some w1.heap.size) ⟨rfl, rfl, rfl, by simp [World.setRow], fun k _ hk => setRow_other _ _ k _ (fun e => hk (by rw [e]))⟩ (by simp) (fun g hg => by injection hg with hg; omega)
  have HRX : Hid (X.heap[w1.heap.size]? = some (.cells (crewV m).toArray 61 (0, 0))) := by show _ = _; rw [hX]; exact setRow_heap _ _ _ _ _ _ (heap_new rfl)
  go_wp2_with (first
    | (refine wpList_store_row rfl 61 _ _ rfl w1.heap.size rfl 61 (List.replicate 32 (Value.int .i64 0)).toArray (crewV m).toArray rfl (heap_new rfl) HSZ.out HZL.out HALL.out ?_))
  generalize hQ : World.setRow _ _ _ = X1
  obtain rfl : X1 = X := by rw [hX, ← hQ]; rfl
  clear hQ hX
  have HBX := Lib.hid (HB1.out.trans (hBX.mono (by omega)))
  have hsX := hBX.size
  have c0 := Below.cell_some hBX c0
  have c1 := Below.cell_some hBX c1
  have z0 := Below.cell_some hBX z0
  have z1 := Below.cell_some hBX z1
  have f0 := (hBX.frozen (p := ⟨w.heap.size + 1, 0, none⟩) (by simp only; omega)).trans f0
  have f1 := (hBX.frozen (p := ⟨w.heap.size + 1, 1, none⟩) (by simp only; omega)).trans f1
  have HAX : Hid (AntsAt X1.drew (some ⟨w1.heap.size, 0, none⟩) m) := slAt_ants ((crew_ants HRX.out).below ((Below.refl _ X1).drew))
  have HBD : Hid (Below X1.heap.size X1 X1.drew) := (Below.refl _ _).drew
  have d0 : X1.drew.cell? ⟨w.heap.size, 0, none⟩ = some (.int .i64 L) := c0
  have d1 : X1.drew.cell? ⟨w.heap.size, 1, none⟩ = some (.slice A l.length c) := c1
  have y0 : X1.drew.cell? ⟨w.heap.size + 1, 0, none⟩ = some (.int .i64 0) := z0
  have y1 : X1.drew.cell? ⟨w.heap.size + 1, 1, none⟩ = some (.slice none 0 0) := z1
  have k0 : X1.drew.frozen? ⟨w.heap.size + 1, 0, none⟩ = false := f0
  have k1 : X1.drew.frozen? ⟨w.heap.size + 1, 1, none⟩ = false := f1
  have slk := fun w => sliceK_h w w1.heap.size l.length hl
  have HCL : Hid (∀ W, AntsAt W (some ⟨w1.heap.size, 0, none⟩) m → Calls Try.prog 46 #[.slice (some ⟨w1.heap.size, 0, none⟩) l.length 16] W fun e w' => ∃ A' n' c', e = .returned (.slice A' n' c') ∧ n' = l.length ∧ SlOwn pairS w' W.heap.size 59 (.slice A' n' c') m ∧ Below W.heap.size W w') := fun W hW => by
    rw [← HSL.out]
    exact cloneA_any _ _ m W (by omega) hW
  clear hBX HRX
  go_region_held3 (fun w' => w'.cell? ⟨w.heap.size, 0, none⟩ = some (.int .i64 L) ∧ w'.cell? ⟨w.heap.size, 1, none⟩ = some (.slice A l.length c))
    (first | exact ⟨d0, d1⟩ | exact ⟨e0, e1⟩ | go_keep)
    (first
      | (go_at_call 46; refine (HCL.out _ HAX.out).mono ?_; rintro e w3 ⟨A3, n3, k3, rfl, hn3, ho3, hb3⟩; have e0 := Below.cell_some hb3 d0; have e1 := Below.cell_some hb3 d1; have y0 := Below.cell_some hb3 y0; have y1 := Below.cell_some hb3 y1; have k0 := (hb3.frozen (p := ⟨w.heap.size + 1, 0, none⟩) (Nat.lt_of_lt_of_le (by simp only; omega) HBD.out.size)).trans k0; have k1 := (hb3.frozen (p := ⟨w.heap.size + 1, 1, none⟩) (Nat.lt_of_lt_of_le (by simp only; omega) HBD.out.size)).trans k1; have HN3 := Lib.hid hn3; have HO3 := Lib.hid ho3; have HB3 := Lib.hid hb3; have hs3 := Nat.le_trans HBD.out.size hb3.size; clear hn3 ho3 hb3))
  all_goals (
    go_wp2
    have HS : Hid (SlOwn pairS ((w3.setCell ⟨w.heap.size + 1, 0, none⟩ (.int .i64 L)).setCell ⟨w.heap.size + 1, 1, none⟩ (.slice A3 n3 k3)) w.heap.size 59 (.slice A3 n3 k3) m) := by
      refine SlOwn.base (SlOwn.kept HO3.out (row := some (w.heap.size + 1)) ?_ (.inr ?_)) (Nat.le_trans (by omega) HBD.out.size)
      · exact ⟨rfl, rfl, rfl, by simp, fun k _ hk => by rw [Below.heap_setCell _ _ _ k (fun e => hk (by rw [e])), Below.heap_setCell _ _ _ k (fun e => hk (by rw [e]))]⟩
      · intro e; have := World.ownsRow.lt HO3.out _ e; have := HBD.out.size; omega
    refine bodyPost_ret (v := .agg #[.int .i64 L, .slice A3 n3 k3]) (by simp [results, Try.results43, go_sem, y0, y1]) rfl ⟨A3, n3, k3, rfl, HN3.out, HS.out, ?_⟩
    exact ((HBX.out.trans ((HBD.out.trans (HB3.out.mono HBD.out.size)).mono (by omega))).setCell (by simp) _).setCell (by simp) _)
end Go.Proofs.Ytdoikeglaolipaa
