/- The program's join: parts of bytes put together into an array of twelve. -/
import Derived.Test.YtodcacifpjakdaaByte
import Derived.Test.YtodcacifpjakdaaArr
import Derived.Deep.RegionHeld3
namespace Go.Proofs.Ytodcacifpjakdaa
open Go.RowKit

/-- twelve bytes: those, and zeros behind them -/
def chV (x : List Int) : List Value := (byteS.row x ++ List.replicate 12 (Value.int .u8 0)).take 12
theorem chV_len (x : List Int) : (chV x).length = 12 := by unfold chV; rw [List.length_take, List.length_append, List.length_replicate]; omega
theorem chV_one (x : List Int) : ∀ u ∈ chV x, u.oneCell' = true := by
  intro u hu
  unfold chV at hu
  rcases List.mem_append.1 (List.mem_of_mem_take hu) with hu | hu
  · exact byteS.row_oneCell x u hu
  · obtain rfl := List.eq_of_mem_replicate hu; rfl
theorem chV_nil : chV [] = List.replicate 12 (Value.int .u8 0) := by unfold chV; simp [Shape.row]
theorem rowB_len (x : List Int) : (byteS.row x).length = x.length := by rw [byteS.row_length]; exact Nat.mul_one _
theorem chV_splice (x : List Int) (h : x.length ≤ 12) : splice (List.replicate 12 (Value.int .u8 0)) 0 (byteS.row x) = chV x := by
  unfold splice chV
  rw [List.take_zero, List.nil_append, Nat.zero_add, rowB_len, List.drop_replicate, List.take_append, List.take_of_length_le (by rw [rowB_len]; exact h), rowB_len, List.take_replicate]
  congr 2
  omega
def chS : Shape (List Int) := ⟨12, chV, chV_len, chV_one, by omega⟩
theorem chUnd : Try.prog.underlying 66 = some (.array (Try.prog.arrayLen 66) (Try.prog.elem 66)) := by kernel_rfl
theorem chLen : Try.prog.arrayLen 66 = 12 := by kernel_rfl
theorem chElem : Try.prog.elem 66 = 5 := by kernel_rfl
theorem chSiz : (Try.prog.info? 66).map (·.size) = some 12 := by kernel_rfl
theorem chSizV (x : List Int) : (Try.prog.info? 66).map (·.size) = some (chV x).toArray.size := by rw [List.size_toArray, chV_len]; exact chSiz
theorem chAllV (x : List Int) : (chV x).toArray.all (·.oneCell') = true := by rw [List.all_toArray]; exact List.all_eq_true.2 (chV_one x)
theorem byteSzJ : (Try.prog.info? 5).map (·.size) = some 1 := by kernel_rfl

theorem add_plainJ (g o n : Nat) : (⟨g, o, none⟩ : Addr).add n = ⟨g, o + n, none⟩ := by unfold Addr.add; split <;> simp_all
theorem chSl_all (w : World) (g : Nat) : (Instr.sliceAt 66 (.pointer (some ⟨g, 0, none⟩)) none none none).run Try.prog w = .ok (.slice (some ⟨g, 0, none⟩) 12 12) w := by
  rw [run_sliceAt_array_all w 66 ⟨g, 0, none⟩ chUnd, chElem, chLen]
  simp [Try.sizeOf5, Result.andThen, slicedAt, add_plainJ]
theorem chSl_hm (w : World) (g n : Nat) (hn : n ≤ 12) : (Instr.sliceAt 66 (.pointer (some ⟨g, 0, none⟩)) none (some (.int .i64 n)) (some (.int .i64 n))).run Try.prog w = .ok (.slice (some ⟨g, 0, none⟩) n n) w := by
  rw [run_sliceAt_array_hm w 66 ⟨g, 0, none⟩ chUnd .i64 .i64 n n (by omega) (by omega) (by rw [chLen]; omega), chElem]
  simp [Try.sizeOf5, Result.andThen, slicedAt, add_plainJ]
theorem chSl_h (w : World) (g n : Nat) (hn : n ≤ 12) : (Instr.sliceAt 66 (.pointer (some ⟨g, 0, none⟩)) none (some (.int .i64 n)) none).run Try.prog w = .ok (.slice (some ⟨g, 0, none⟩) n 12) w := by
  rw [run_sliceAt_array_h w 66 ⟨g, 0, none⟩ chUnd .i64 n (by omega) (by rw [chLen]; omega), chElem, chLen]
  simp [Try.sizeOf5, Result.andThen, slicedAt, add_plainJ]

set_option maxRecDepth 100000 in
set_option maxHeartbeats 4000000 in
theorem join_any (g c2 : Nat) (ps : List (Option Addr × Nat × List Int)) (w : World) (hk : ps.length ≤ 3) (hl : ∀ p ∈ ps, p.2.2.length ≤ 12) (hn0 : 1 ≤ (flatP ps).length) (hn : (flatP ps).length ≤ 12) (hP : PartsAt w g ps) :
    Calls Try.prog 55 #[.slice (some ⟨g, 0, none⟩) ps.length c2] w fun e w' => e = .returned (.agg (chV (flatP ps)).toArray) ∧ Below w.heap.size w w' := by
  have HC : Hid (∀ W, Below w.heap.size w W → Calls Try.prog 56 #[.slice (some ⟨g, 0, none⟩) ps.length c2] W fun e w' => ∃ A' n' c', e = .returned (.slice A' n' c') ∧ n' = (flatP ps).length ∧ SlOwn byteS w' W.heap.size 5 (.slice A' n' c') (flatP ps) ∧ Below W.heap.size W w') := fun W hW =>
    concatB_any g c2 ps W hk hl ⟨Nat.lt_of_lt_of_le hP.1 hW.size, fun j p hj => ⟨Below.cell_some hW (hP.2 j p hj).1, (hP.2 j p hj).2.below hW⟩⟩
  have HN := Lib.hid hn
  have HN0 := Lib.hid hn0
  clear hk hl hP hn hn0
  generalize flatP ps = f at *
  generalize ps.length = np at *
  obtain ⟨X, hX⟩ : ∃ X, X = (w.alloc (Obj.cells (List.replicate 12 (Value.int .u8 0)).toArray 66)).alloc (Obj.cells (List.replicate 12 (Value.int .u8 0)).toArray 66) := ⟨_, rfl⟩
  have hBX : Below w.heap.size w X := by rw [hX]; exact ((Below.refl _ _).alloc (Nat.le_refl _) _).alloc (by simp) _
  have hR0 : X.heap[w.heap.size]? = some (.cells (List.replicate 12 (Value.int .u8 0)).toArray 66 (0, 0)) := by
    rw [hX, heap_alloc_old _ _ (by simp)]; exact heap_new rfl
  have hR1 : X.heap[w.heap.size + 1]? = some (.cells (List.replicate 12 (Value.int .u8 0)).toArray 66 (0, 0)) := by
    rw [hX]; exact heap_new (by simp)
  have hXs : X.heap.size = w.heap.size + 2 := by rw [hX]; simp
  have HBX := Lib.hid hBX
  have HR0 := Lib.hid hR0
  have HR1 := Lib.hid hR1
  clear hBX hR0 hR1
  go_enter Try.func55, Try.ntmps55
  go_wp2
  generalize hQ : World.alloc (World.alloc w _) _ = X1
  obtain rfl : X1 = X := by rw [hX, ← hQ]; rfl
  clear hQ hX
  have slk := fun w' => chSl_all w' (w.heap.size + 1)
  have HBD : Hid (Below w.heap.size w X1.drew) := HBX.out.drew
  have HD0 : Hid (X1.drew.heap[w.heap.size]? = some (.cells (List.replicate 12 (Value.int .u8 0)).toArray 66 (0, 0))) := HR0.out
  have HD1 : Hid (X1.drew.heap[w.heap.size + 1]? = some (.cells (List.replicate 12 (Value.int .u8 0)).toArray 66 (0, 0))) := HR1.out
  have HDS : Hid (w.heap.size + 2 ≤ X1.drew.heap.size) := by show _ ≤ X1.heap.size; omega
  go_region_held3 (fun _ => True)
    (trivial)
    (first
      | (go_at_call 56; refine (HC.out _ HBD.out).mono ?_; rintro e w3 ⟨A3, n3, k3, rfl, hn3, ho3, hb3⟩; have HR3 : Hid (w3.heap[w.heap.size]? = some (.cells (List.replicate 12 (Value.int .u8 0)).toArray 66 (0, 0))) := (hb3.block w.heap.size (by have := HDS.out; omega)).trans HD0.out; have HS3 : Hid (w3.heap[w.heap.size + 1]? = some (.cells (List.replicate 12 (Value.int .u8 0)).toArray 66 (0, 0))) := (hb3.block (w.heap.size + 1) (by have := HDS.out; omega)).trans HD1.out; have HB3 := Lib.hid (HBD.out.trans (hb3.mono HBD.out.size)); have hA3 : ∃ a, A3 = some a ∧ ∀ j u, (byteS.row f)[j]? = some u → w3.cell? (a.add j) = some u := (by
            have hsl := SlOwn.sl ho3
            rcases hsl with h0 | ⟨b, off, hA, hlt, h⟩
            · have := HN0.out; rw [h0] at this; simp at this
            · subst hA; exact ⟨_, rfl, (SlOwn.sl ho3).cells_at⟩); obtain ⟨a3, rfl, hcs⟩ := hA3; obtain ⟨w6, hcp, hr6, hg6⟩ := run_copy_rows_ex Try.prog w3 69 69 3 5 (w.heap.size + 1) 0 12 12 1 a3 n3 k3 (List.replicate 12 (Value.int .u8 0)) 66 (byteS.row f) Try.underlying69 byteSzJ HS3.out (by have := HN.out; omega) (by rw [rowB_len, hn3]; omega) hcs (by rw [rowB_len, List.length_replicate]; have := HN.out; omega) (byteS.row_oneCell f); have HR6 := Lib.hid hr6; have HG6 := Lib.hid hg6; clear hn3 ho3 hb3 hr6 hg6 hcs))
  all_goals (
    have HR7 : Hid (w6.heap[w.heap.size + 1]? = some (.cells (chV f).toArray 66 (0, 0))) := by
      show _ = _
      rw [← chV_splice f HN.out]
      exact HR6.out
    have HR8 : Hid (w6.heap[w.heap.size]? = some (.cells (List.replicate 12 (Value.int .u8 0)).toArray 66 (0, 0))) := (HG6.out.block w.heap.size (Array.getElem?_eq_some_iff.1 HR3.out).1 (fun e => by injection e with e; omega)).trans HR3.out
    have HB6 : Hid (Below w.heap.size w w6) := HB3.out.grown HG6.out HB3.out.size (fun g hg => by injection hg with hg; omega)
    clear hcp slk
    go_wp2_with (first
      | (refine wpList_load_row rfl 66 _ rfl (w.heap.size + 1) rfl 66 (chV f).toArray (0, 0) _ HR7.out chUnd rfl (chSizV f) ?_)
      | (refine wpList_store_row rfl 66 _ _ rfl w.heap.size rfl 66 _ (chV f).toArray rfl HR8.out (chSizV f) (by rw [List.size_toArray, List.size_toArray, chV_len, List.length_replicate]) (chAllV f) ?_))
    have HRE : Hid ((w6.setRow w.heap.size (chV f).toArray).heap[w.heap.size]? = some (.cells (chV f).toArray 66 (0, 0))) := setRow_heap w6 _ _ _ _ _ HR8.out
    have HBE : Hid (Below w.heap.size w (w6.setRow w.heap.size (chV f).toArray)) :=
      HB6.out.grown (row := some w.heap.size) ⟨rfl, rfl, rfl, by simp [World.setRow], fun k _ hk => setRow_other w6 _ k _ (fun e => hk (by rw [e]))⟩ HB6.out.size (fun g hg => by injection hg with hg; omega)
    refine bodyPost_ret (v := .agg (chV f).toArray) (results_cell_row (p := 2) (ty := 66) Try.results55 _ _ w.heap.size 66 _ _ _ ?_ HRE.out chUnd rfl (chSizV f)) rfl ⟨?_, HBE.out⟩
    · rfl
    · rfl)
end Go.Proofs.Ytodcacifpjakdaa
