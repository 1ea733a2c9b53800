/- All ways: the program's allWays. -/
import Derived.Test.YtodcacifpjakdaaJoin
import Derived.Test.YtodcacifpjakdaaRep
import Derived.Test.YtodcacifpjakdaaBits
import Derived.Test.YtodcacifpjakdaaCmpA
import Derived.Deep.CutRange
namespace Go.Proofs.Ytodcacifpjakdaa
open Go.RowKit

/-- ways as letters -/
def letL (ys : List Int) : List Int := ys.map fun y => if y = 1 then 114 else 108
theorem letL_len (ys : List Int) : (letL ys).length = ys.length := by simp [letL]
theorem letL_rep (n : Nat) (y : Int) : letL (List.replicate n y) = List.replicate n (if y = 1 then 114 else 108) := by simp [letL]
theorem letL_inj {xs ys : List Int} (hx : ∀ y ∈ xs, y = -1 ∨ y = 1) (hy : ∀ y ∈ ys, y = -1 ∨ y = 1) (h : letL xs = letL ys) : xs = ys := by
  induction xs generalizing ys with
  | nil => cases ys with
    | nil => rfl
    | cons y ys => simp [letL] at h
  | cons x xs ih =>
    cases ys with
    | nil => simp [letL] at h
    | cons y ys =>
      unfold letL at h
      rw [List.map_cons, List.map_cons] at h
      injection h with h1 h2
      rw [ih (fun z hz => hx z (List.mem_cons_of_mem _ hz)) (fun z hz => hy z (List.mem_cons_of_mem _ hz)) h2]
      have e1 := hx x List.mem_cons_self
      have e2 := hy y List.mem_cons_self
      rcases e1 with rfl | rfl <;> rcases e2 with rfl | rfl <;> first | rfl | (simp at h1)

theorem letL_bd (ys : List Int) : ∀ b ∈ padL (letL ys), 0 ≤ b ∧ b ≤ 255 := by
  intro b hb
  unfold padL at hb
  rcases List.mem_append.1 hb with h | h
  · obtain ⟨y, _, rfl⟩ := List.mem_map.1 h
    split <;> omega
  · obtain rfl := List.eq_of_mem_replicate h; omega
theorem fold12 (M : List Value) (h : M.length = 12) (z : Value) : List.foldl (fun cs x => cs.setIfInBounds x.snd x.fst) #[z, z, z, z, z, z, z, z, z, z, z, z] M.zipIdx = M.toArray := by
  match M, h with
  | [a1, a2, a3, a4, a5, a6, a7, a8, a9, a10, a11, a12], _ => simp [List.zipIdx_cons, List.foldl_cons]
theorem below_setRow {n : Nat} {w0 w : World} {g : Nat} (h : Below n w0 w) (hg : n ≤ g) (hs : n ≤ w.heap.size) (M : Array Value) : Below n w0 (w.setRow g M) :=
  Below.grown (row := some g) h ⟨rfl, rfl, rfl, by simp [World.setRow], fun k _ hk => setRow_other _ _ k _ (fun e => hk (by rw [e]))⟩ hs (fun g' hg' => by injection hg' with hg'; omega)
theorem SlOwn.allocA {α : Type} {S : Shape α} {w : World} {B : Nat} {e : TypeId} {v : Value} {l : List α} (h : SlOwn S w B e v l) (o : Obj) : SlOwn S (w.alloc o) B e v l := h.below ((Below.refl _ _).alloc (Nat.le_refl _) _)
theorem own_setRow {α : Type} {S : Shape α} {w : World} {B : Nat} {e : TypeId} {v : Value} {l : List α} (h : SlOwn S w B e v l) {g : Nat} (hg : g < B) (M : Array Value) : SlOwn S (w.setRow g M) B e v l := by
  refine ⟨h.1, ?_⟩
  rcases h.2 with h' | ⟨g', cap, cur, hv, hgb, hrow, rest⟩
  · exact .inl h'
  · exact .inr ⟨g', cap, cur, hv, hgb, by rw [setRow_other _ _ _ _ (by omega)]; exact hrow, rest⟩
theorem own_base {α : Type} {S : Shape α} {w : World} {B B' : Nat} {e : TypeId} {v : Value} {l : List α} (h : SlOwn S w B e v l) (hB : B' ≤ B) : SlOwn S w B' e v l := by
  refine ⟨h.1, ?_⟩
  rcases h.2 with h' | ⟨g', cap, cur, hv, hgb, hrow, rest⟩
  · exact .inl h'
  · exact .inr ⟨g', cap, cur, hv, Nat.le_trans hB hgb, hrow, rest⟩
theorem slAt_ch1 {w : World} {g : Nat} {x : List Int} {cs : Array Value} {e : TypeId} {m : Nat × Nat} (h : w.heap[g]? = some (.cells cs e m)) (hc : cs = (chV x).toArray) : SlAt chS w (some ⟨g, 0, none⟩) [x] := by
  subst hc
  refine .inr ⟨g, 0, rfl, (Array.getElem?_eq_some_iff.1 h).1, fun k y hk j hj => ?_⟩
  cases k with
  | succ k => simp at hk
  | zero =>
    simp only [List.getElem?_cons_zero, Option.some.injEq] at hk
    subst hk
    simp only [Nat.zero_mul, Nat.zero_add]
    rw [cell_of_row w g j _ _ _ h, ← Array.getElem?_toList]
    rfl
theorem slAt_row {w : World} {g : Nat} {x : List Int} {e : TypeId} {m : Nat × Nat} (hx : x.length ≤ 12) (h : w.heap[g]? = some (.cells (chV x).toArray e m)) : SlAt byteS w (some ⟨g, 0, none⟩) (padL x) := by
  refine .inr ⟨g, 0, rfl, (Array.getElem?_eq_some_iff.1 h).1, fun k y hk j hj => ?_⟩
  obtain rfl : j = 0 := by have : j < 1 := hj; omega
  show w.cell? ⟨g, 0 + k * 1 + 0, none⟩ = some (.int .u8 y)
  rw [Nat.zero_add, Nat.mul_one, Nat.add_zero, cell_of_row w g k _ _ _ h, ← Array.getElem?_toList, chV_pad x hx, List.getElem?_map, hk]
  rfl
theorem slAt_part {w : World} {b off : Nat} {l : List Int} (h : SlAt byteS w (some ⟨b, off, none⟩) l) (i k : Nat) : SlAt byteS w (some ⟨b, off + i, none⟩) ((l.drop i).take k) := by
  rcases h with rfl | ⟨b', off', hA, hlt, h⟩
  · exact .inl (by simp)
  · simp only [Option.some.injEq, Addr.mk.injEq, and_true] at hA
    obtain ⟨rfl, rfl⟩ := hA
    refine .inr ⟨b, off + i, rfl, hlt, fun j x hj t ht => ?_⟩
    have h2 : l[i + j]? = some x := by
      rw [List.getElem?_take] at hj
      split at hj
      · rw [List.getElem?_drop] at hj; exact hj
      · cases hj
    have := h (i + j) x h2 t ht
    rw [show off + i + j * byteS.size + t = off + (i + j) * byteS.size + t by rw [Nat.add_mul]; show _ = off + (i * 1 + _) + _; omega]
    exact this
theorem parts3 {W : World} {a1 a2 a3 : Option Addr} {n1 n2 n3 c1 c2 c3 : Nat} {l1 l2 l3 : List Int} {t : TypeId} (h1 : n1 = l1.length) (h2 : n2 = l2.length) (h3 : n3 = l3.length) (s1 : SlAt byteS W a1 l1) (s2 : SlAt byteS W a2 l2) (s3 : SlAt byteS W a3 l3) :
    PartsAt (W.alloc (Obj.cells #[.slice a1 n1 c1, .slice a2 n2 c2, .slice a3 n3 c3] t)) W.heap.size [(a1, c1, l1), (a2, c2, l2), (a3, c3, l3)] := by
  subst h1; subst h2; subst h3
  refine ⟨by simp, fun j p hj => ?_⟩
  match j, hj with
  | 0, hj =>
    simp only [List.getElem?_cons_zero, Option.some.injEq] at hj
    subst hj
    exact ⟨by simp, s1.alloc _⟩
  | 1, hj =>
    simp only [List.getElem?_cons_succ, List.getElem?_cons_zero, Option.some.injEq] at hj
    subst hj
    exact ⟨by simp, s2.alloc _⟩
  | 2, hj =>
    simp only [List.getElem?_cons_succ, List.getElem?_cons_zero, Option.some.injEq] at hj
    subst hj
    exact ⟨by simp, s3.alloc _⟩
  | j + 3, hj => simp at hj
theorem chI : (Try.prog.info? 66).map (fun i => (i.zero, i.size, i.bytes)) = some (some (.agg #[.int .u8 0, .int .u8 0, .int .u8 0, .int .u8 0, .int .u8 0, .int .u8 0, .int .u8 0, .int .u8 0, .int .u8 0, .int .u8 0, .int .u8 0, .int .u8 0]), chS.size, 12) := by kernel_rfl
theorem chGuard : Try.prog.eqGuardType Try.prog.depth 66 = false := by kernel_rfl
theorem slB (w : World) (b off n l h m : Nat) (h1 : l ≤ h) (h2 : h ≤ m) (h3 : m ≤ n) (hl : l < m) : (Instr.sliceAt 69 (.slice (some ⟨b, off, none⟩) n n) (some (.int .i64 l)) (some (.int .i64 h)) (some (.int .i64 m))).run Try.prog w = .ok (.slice (some ⟨b, off + l, none⟩) (h - l) (m - l)) w := by
  have ht' : Try.prog.underlying 69 = some (.slice (Try.prog.elem 69)) := by simp [Program.elem, Try.underlying69]
  have he : Try.prog.elem 69 = 5 := by simp [Program.elem, Try.underlying69]
  rw [run_sliceAt_slice w 69 _ _ _ _ ht', run_slice_lhm w 69 _ _ _ ht' .i64 .i64 .i64 _ _ _ (by omega) (by omega) (by omega) (by omega), he, Try.sizeOf5]
  have : ¬ m = l := by omega
  simp [Result.andThen, sliced, Addr.add, this]
theorem slB0 (b off n l : Nat) (h3 : l ≤ n) : ∃ A, (∀ w : World, (Instr.sliceAt 69 (.slice (some ⟨b, off, none⟩) n n) (some (.int .i64 l)) (some (.int .i64 n)) (some (.int .i64 n))).run Try.prog w = .ok (.slice A (n - l) (n - l)) w) ∧ (l < n → A = some ⟨b, off + l, none⟩) := by
  by_cases h : l < n
  · exact ⟨some ⟨b, off + l, none⟩, fun w => slB w b off n l n n (by omega) (by omega) (by omega) h, fun _ => rfl⟩
  · obtain rfl : l = n := by omega
    have ht' : Try.prog.underlying 69 = some (.slice (Try.prog.elem 69)) := by simp [Program.elem, Try.underlying69]
    have he : Try.prog.elem 69 = 5 := by simp [Program.elem, Try.underlying69]
    refine ⟨some ⟨b, off, none⟩, fun w => ?_, fun h => absurd h (by omega)⟩
    rw [run_sliceAt_slice w 69 _ _ _ _ ht', run_slice_lhm w 69 _ _ _ ht' .i64 .i64 .i64 _ _ _ (by omega) (by omega) (by omega) (by omega), he, Try.sizeOf5]
    simp [Result.andThen, sliced]
def lenOf : Value → Nat
  | .slice _ n _ => n
  | _ => 0

set_option maxRecDepth 100000 in
set_option maxHeartbeats 4000000 in
theorem allWays_any (n : Nat) (w : World) (h1 : 1 ≤ n) (h2 : n ≤ 12) :
    Calls Try.prog 37 #[.int .i64 n] w fun e w' => ∃ A c, e = .returned (.slice A (2 ^ n) c) ∧ SlOwn chS w' w.heap.size 66 (.slice A (2 ^ n) c) ((List.range (2 ^ n)).map fun k => letL (wyN n k)) ∧ Below w.heap.size w w' := by
  have HREP := Lib.hid (fun g b w h => repeat_any g b n w h1 h2 h)
  go_enter Try.func37, Try.ntmps37
  go_wp2_with fail
  refine (HREP.out w.heap.size 108 _ (by simp)).mono ?_
  rintro e w1 ⟨Al, rfl, hsl, hb1⟩
  have HB1 : Hid (Below w.heap.size w w1) := ((Below.refl _ w).alloc (Nat.le_refl _) _).trans (hb1.mono (by simp))
  have HSL := Lib.hid hsl
  have hs1 : w.heap.size + 1 ≤ w1.heap.size := by have := hb1.size; simpa using this
  clear hb1 hsl
  go_wp2_with fail
  refine (HREP.out w1.heap.size 114 _ (by simp)).mono ?_
  rintro e w2 ⟨Ar, rfl, hsr, hb2⟩
  have hba2 : Below w1.heap.size w1 w2 := ((Below.refl _ w1).alloc (Nat.le_refl _) _).trans (hb2.mono (by simp))
  have HB2 : Hid (Below w.heap.size w w2) := HB1.out.trans (hba2.mono HB1.out.size)
  have HSL2 := Lib.hid (HSL.out.below hba2)
  have HSR2 := Lib.hid hsr
  have hs2 := hba2.size
  clear hb2 hsr hba2 HSL
  -- the first and the last ways
  have HP1 : Hid (PartsAt (w2.alloc (Obj.cells #[.slice Al n n] 69)) w2.heap.size [(Al, n, List.replicate n 108)]) := by
    refine ⟨by simp, fun j p hj => ?_⟩
    cases j with
    | succ j => simp at hj
    | zero =>
      simp only [List.getElem?_cons_zero, Option.some.injEq] at hj
      subst hj
      exact ⟨by simp, HSL2.out.alloc _⟩
  have HF1 : Hid (flatP [(Al, n, List.replicate n (108 : Int))] = List.replicate n 108) := by show _ = _; simp [flatP]
  have HJ1 := join_any w2.heap.size 1 _ _ (by simp) (by simp; omega) (by rw [HF1.out]; simp; omega) (by rw [HF1.out]; simp; omega) HP1.out
  rw [HF1.out] at HJ1
  have HJ1' := Lib.hid HJ1
  clear HJ1
  obtain ⟨M0, hM0⟩ : ∃ M, M = chV (List.replicate n 108) := ⟨_, rfl⟩
  rw [← hM0] at HJ1'
  have HM0 := Lib.hid hM0
  clear hM0
  go_wp2_with fail
  refine HJ1'.out.mono ?_
  rintro e w3 ⟨rfl, hb3⟩
  have hba3 : Below w2.heap.size w2 w3 := ((Below.refl _ w2).alloc (Nat.le_refl _) _).trans (hb3.mono (by simp))
  have HB3 : Hid (Below w.heap.size w w3) := HB2.out.trans (hba3.mono HB2.out.size)
  have HSL3 := Lib.hid (HSL2.out.below hba3)
  have HSR3 := Lib.hid (HSR2.out.below hba3)
  have hs3 := hba3.size
  clear hb3 hba3 HP1 HJ1' HSL2 HSR2
  have HP2 : Hid (PartsAt (w3.alloc (Obj.cells #[.slice Ar n n] 69)) w3.heap.size [(Ar, n, List.replicate n 114)]) := by
    refine ⟨by simp, fun j p hj => ?_⟩
    cases j with
    | succ j => simp at hj
    | zero =>
      simp only [List.getElem?_cons_zero, Option.some.injEq] at hj
      subst hj
      exact ⟨by simp, HSR3.out.alloc _⟩
  have HF2 : Hid (flatP [(Ar, n, List.replicate n (114 : Int))] = List.replicate n 114) := by show _ = _; simp [flatP]
  have HJ2 := join_any w3.heap.size 1 _ _ (by simp) (by simp; omega) (by rw [HF2.out]; simp; omega) (by rw [HF2.out]; simp; omega) HP2.out
  rw [HF2.out] at HJ2
  have HJ2' := Lib.hid HJ2
  clear HJ2
  obtain ⟨ML, hML⟩ : ∃ M, M = chV (List.replicate n 114) := ⟨_, rfl⟩
  rw [← hML] at HJ2'
  have HML := Lib.hid hML
  clear hML
  go_wp2_with fail
  refine HJ2'.out.mono ?_
  rintro e w4 ⟨rfl, hb4⟩
  have hba4 : Below w3.heap.size w3 w4 := ((Below.refl _ w3).alloc (Nat.le_refl _) _).trans (hb4.mono (by simp))
  have HB4 : Hid (Below w.heap.size w w4) := HB3.out.trans (hba4.mono HB3.out.size)
  have HSL4 := Lib.hid (HSL3.out.below hba4)
  have HSR4 := Lib.hid (HSR3.out.below hba4)
  have hs4 := hba4.size
  clear hb4 hba4 HP2 HJ2' HSL3 HSR3
  have HMS0 : Hid ((Try.prog.info? 66).map (·.size) = some M0.toArray.size) := by show _ = _; rw [HM0.out]; exact chSizV _
  have HMSL : Hid ((Try.prog.info? 66).map (·.size) = some ML.toArray.size) := by show _ = _; rw [HML.out]; exact chSizV _
  have HMA0 : Hid (M0.toArray.all (·.oneCell') = true) := by show _ = _; rw [HM0.out]; exact chAllV _
  have HMAL : Hid (ML.toArray.all (·.oneCell') = true) := by show _ = _; rw [HML.out]; exact chAllV _
  have HME0 : Hid ((List.replicate 12 (Value.int .u8 0)).toArray.size = M0.toArray.size) := by show _ = _; rw [HM0.out, List.size_toArray, List.size_toArray, chV_len, List.length_replicate]
  have HMEL : Hid ((List.replicate 12 (Value.int .u8 0)).toArray.size = ML.toArray.size) := by show _ = _; rw [HML.out, List.size_toArray, List.size_toArray, chV_len, List.length_replicate]
  have HZ0 : Hid (((w4.alloc (Obj.cells (List.replicate 12 (Value.int .u8 0)).toArray 66)).alloc (Obj.cells (List.replicate 12 (Value.int .u8 0)).toArray 66)).heap[w4.heap.size]? = some (.cells (List.replicate 12 (Value.int .u8 0)).toArray 66 (0, 0))) := by
    show _ = _
    rw [heap_alloc_old _ _ (by simp)]; exact heap_new rfl
  have HZ1 : Hid ((((w4.alloc (Obj.cells (List.replicate 12 (Value.int .u8 0)).toArray 66)).alloc (Obj.cells (List.replicate 12 (Value.int .u8 0)).toArray 66)).setRow w4.heap.size M0.toArray).heap[w4.heap.size + 1]? = some (.cells (List.replicate 12 (Value.int .u8 0)).toArray 66 (0, 0))) := by
    show _ = _
    rw [setRow_other _ _ _ _ (by omega)]; exact heap_new (by simp)
  have HZ2 : Hid (((((w4.alloc (Obj.cells (List.replicate 12 (Value.int .u8 0)).toArray 66)).alloc (Obj.cells (List.replicate 12 (Value.int .u8 0)).toArray 66)).setRow w4.heap.size M0.toArray).setRow (w4.heap.size + 1) ML.toArray).heap[w4.heap.size]? = some (.cells M0.toArray 66 (0, 0))) := by
    show _ = _
    rw [setRow_other _ _ _ _ (by omega)]; exact setRow_heap _ _ _ _ _ _ HZ0.out
  have hM12 : M0.length = 12 := by rw [HM0.out]; exact chV_len _
  go_wp2_with (first
    | (refine wpList_store_row rfl 66 _ _ rfl w4.heap.size rfl 66 (List.replicate 12 (Value.int .u8 0)).toArray M0.toArray rfl HZ0.out HMS0.out HME0.out HMA0.out ?_)
    | (refine wpList_store_row rfl 66 _ _ rfl (w4.heap.size + 1) rfl 66 (List.replicate 12 (Value.int .u8 0)).toArray ML.toArray rfl HZ1.out HMSL.out HMEL.out HMAL.out ?_)
    | (refine wpList_load_row rfl 66 _ rfl w4.heap.size rfl 66 M0.toArray (0, 0) _ HZ2.out chUnd rfl HMS0.out ?_))
  have HM12 := Lib.hid hM12
  have HF12 := Lib.hid (fold12 M0 hM12 (.int .u8 0))
  clear hM12
  obtain ⟨Y, hY⟩ : ∃ Y, Y = ((((w4.alloc (Obj.cells (List.replicate 12 (Value.int .u8 0)).toArray 66)).alloc (Obj.cells (List.replicate 12 (Value.int .u8 0)).toArray 66)).setRow w4.heap.size M0.toArray).setRow (w4.heap.size + 1) ML.toArray).alloc (Obj.cells M0.toArray 66) := ⟨_, rfl⟩
  generalize hQ : World.alloc _ (Obj.cells (List.foldl _ _ _) _) = Y1
  obtain rfl : Y1 = Y := by rw [hY, ← hQ, HF12.out]; rfl
  clear hQ
  have hYz : (((((w4.alloc (Obj.cells (List.replicate 12 (Value.int .u8 0)).toArray 66)).alloc (Obj.cells (List.replicate 12 (Value.int .u8 0)).toArray 66)).setRow w4.heap.size M0.toArray).setRow (w4.heap.size + 1) ML.toArray)).heap.size = w4.heap.size + 2 := by simp [World.setRow]
  have hYr0 : Y1.heap[w4.heap.size]? = some (.cells M0.toArray 66 (0, 0)) := by
    rw [hY, heap_alloc_old _ _ (by rw [hYz]; omega)]; exact HZ2.out
  have hYr1 : Y1.heap[w4.heap.size + 1]? = some (.cells ML.toArray 66 (0, 0)) := by
    rw [hY, heap_alloc_old _ _ (by rw [hYz]; omega)]; exact setRow_heap _ _ _ _ _ _ HZ1.out
  have hYb : Below w4.heap.size w4 Y1 := by
    rw [hY]
    refine Below.alloc ?_ (by rw [hYz]; omega) _
    refine below_setRow ?_ (by omega) (by simp [World.setRow]; omega) _
    refine below_setRow ?_ (by omega) (by simp; omega) _
    exact ((Below.refl _ _).alloc (Nat.le_refl _) _).alloc (by simp) _
  have hYo : SlOwn chS Y1 (w4.heap.size + 2) 66 (.slice (some ⟨w4.heap.size + 1 + 1, 0, none⟩) 1 1) [letL (wyN n 0)] := by
    refine ⟨by rw [chS.row_length], .inr ⟨w4.heap.size + 1 + 1, 1, M0.toArray, rfl, by omega, ?_, by simp, by unfold maxLen; omega, by rw [List.size_toArray, HM12.out]; rfl, ?_⟩⟩
    · rw [hY]; exact heap_new (by rw [hYz])
    · rw [chS.row_one]
      show M0.take 12 = chV _
      rw [List.take_of_length_le (by rw [HM12.out]; exact Nat.le_refl _), HM0.out, wyN_zero, letL_rep]
      rfl
  have HYR0 : Hid (Y1.heap[w4.heap.size]? = some (.cells (chV (letL (wyN n 0))).toArray 66 (0, 0))) := by
    show _ = _
    rw [hYr0, HM0.out, wyN_zero, letL_rep]; rfl
  have HYR1 := Lib.hid hYr1
  have HYB := Lib.hid hYb
  have HYO := Lib.hid hYo
  clear hYz hYr0 hYr1 hYb hYo hY HZ0 HZ1 HZ2 HF12 HMS0 HMA0 HME0 HMEL HM0 HM12 HREP
  obtain ⟨bl, ol, rfl, -, -⟩ := HSL4.out.byte_at (k := 0) (by simp; omega)
  obtain ⟨br, orr, rfl, -, -⟩ := HSR4.out.byte_at (k := 0) (by simp; omega)
  have hpow : 1 ≤ 2 ^ n := Nat.one_le_two_pow
  obtain ⟨i0, hi, hz0, hz1, hz2⟩ : ∃ i0, Try.prog.info? 66 = some i0 ∧ i0.zero = some (.agg #[.int .u8 0, .int .u8 0, .int .u8 0, .int .u8 0, .int .u8 0, .int .u8 0, .int .u8 0, .int .u8 0, .int .u8 0, .int .u8 0, .int .u8 0, .int .u8 0]) ∧ i0.size = chS.size ∧ i0.bytes = 12 := info_parts chI
  have hp12 : 2 ^ n ≤ 4096 := by
    have : 2 ^ n ≤ 2 ^ 12 := Nat.pow_le_pow_right (by omega) h2
    omega
  go_loopw [8] (fun v wr => ∃ (k : Nat) (A5 : Option Addr) (c5 : Nat), k + 1 ≤ 2 ^ n ∧ v = .slice A5 (k + 1) c5 ∧ Below w4.heap.size w4 wr ∧ wr.heap[w4.heap.size]? = some (.cells (chV (letL (wyN n k))).toArray 66 (0, 0)) ∧ wr.heap[w4.heap.size + 1]? = some (.cells ML.toArray 66 (0, 0)) ∧
      SlOwn chS wr (w4.heap.size + 2) 66 (.slice A5 (k + 1) c5) ((List.range (k + 1)).map fun k => letL (wyN n k)))
    (fun v _ => 2 ^ n - lenOf v)
  case atStart => exact ⟨0, _, 1, hpow, rfl, HYB.out, HYR0.out, HYR1.out, HYO.out⟩
  case round =>
    obtain ⟨k, A5, c5, hk, rfl, hbr, hr0, hr1, hown⟩ := hrel
    have hys := wyN_len n k
    have hlen : (letL (wyN n k)).length = n := by rw [letL_len, hys]
    have hcmp : (Op.equalIn 10000 66 (.agg (chV (letL (wyN n k))).toArray) (.agg ML.toArray)).run Try.prog wr = .ok (!decide (k + 1 < 2 ^ n)) wr := by
      have e114 : List.replicate n (114 : Int) = letL (List.replicate n 1) := by rw [letL_rep]; rfl
      rw [HML.out, e114, chV_pad _ (by omega), chV_pad _ (by rw [letL_len, List.length_replicate]; exact h2),
        eq12 _ _ (padL_len _ (by omega)) (padL_len _ (by rw [letL_len, List.length_replicate]; exact h2)) (letL_bd _) (letL_bd _)]
      congr 2
      by_cases hlt : k + 1 < 2 ^ n
      · rw [decide_eq_true hlt, decide_eq_false, Bool.not_true]
        intro e
        have e2 := padL_inj (by rw [letL_len, letL_len, hys, List.length_replicate]) e
        exact wyN_ne n k hlt (letL_inj (wyN_mem n k) (fun y hy => .inr (List.eq_of_mem_replicate hy)) e2)
      · have hke : k = 2 ^ n - 1 := by omega
        rw [decide_eq_false hlt, decide_eq_true, Bool.not_false]
        rw [hke, wyN_full]
    have HBr := Lib.hid hbr
    have HR0 := Lib.hid hr0
    have HR1 := Lib.hid hr1
    obtain ⟨YK, hYK⟩ : ∃ Y, Y = (List.range (k + 1)).map fun k => letL (wyN n k) := ⟨_, rfl⟩
    rw [← hYK] at hown
    have hly : YK.length = k + 1 := by rw [hYK]; simp
    have HLY := Lib.hid hly
    have HYK := Lib.hid hYK
    clear hly hYK
    have HOr := Lib.hid hown
    have hsr := hbr.size
    have HSZK : Hid ((Try.prog.info? 66).map (·.size) = some (chV (letL (wyN n k))).toArray.size) := chSizV _
    clear hbr hr0 hr1 hown
    by_cases hlt : k + 1 < 2 ^ n
    · rw [decide_eq_true hlt] at hcmp
      obtain ⟨i, hin, hi1, hi2, hi3⟩ := wyN_succ n k hlt
      have hpl : (padL (letL (wyN n k))).length = 12 := padL_len _ (by omega)
      have HLI : Hid (Calls Try.prog 57 #[.slice (some ⟨w4.heap.size, 0, none⟩) 12 12, .int .u8 108] wr fun e w' => e = .returned (.int .i64 i) ∧ wr = w') := by
        have h := lastIndexB_any (some ⟨w4.heap.size, 0, none⟩) 12 (padL (letL (wyN n k))) 108 i wr (by rw [hpl]; omega) ?_ ?_ (slAt_row (by omega) HR0.out)
        · rw [hpl] at h; exact h
        · unfold padL letL
          rw [List.getElem?_append_left (by rw [List.length_map, hys]; exact hin), List.getElem?_map, List.getElem?_eq_getElem (by rw [hys]; exact hin)]
          rw [List.getD_eq_getElem?_getD, List.getElem?_eq_getElem (by rw [hys]; exact hin)] at hi1
          simp only [Option.getD_some] at hi1
          rw [Option.map_some, hi1]; rfl
        · intro j hj hj2
          unfold padL letL
          rw [List.getD_eq_getElem?_getD]
          by_cases hjn : j < n
          · have h3 := hi2 j hj hjn
            rw [List.getElem?_append_left (by rw [List.length_map, hys]; exact hjn), List.getElem?_map]
            rw [List.getD_eq_getElem?_getD, List.getElem?_eq_getElem (by rw [hys]; exact hjn)] at h3
            simp only [Option.getD_some] at h3
            rw [List.getElem?_eq_getElem (by rw [hys]; exact hjn), Option.map_some, h3]
            decide
          · rw [List.getElem?_append_right (by rw [List.length_map, hys]; omega), List.getElem?_replicate]
            split <;> simp
      have e1 : ((i : Int) + 1) = ((i + 1 : Nat) : Int) := by omega
      have slr : ∀ w' : World, (Instr.sliceAt 69 (.slice (some ⟨br, orr, none⟩) n n) (some (.int .i64 i)) (some (.int .i64 ((i : Int) + 1))) (some (.int .i64 ((i : Int) + 1)))).run Try.prog w' = .ok (.slice (some ⟨br, orr + i, none⟩) 1 1) w' := fun w' => by
        rw [e1, slB w' br orr n i (i + 1) (i + 1) (by omega) (by omega) (by omega) (by omega), Nat.add_sub_cancel_left]
      obtain ⟨A3, sll, hA3⟩ := slB0 bl ol n (i + 1) (by omega)
      rw [← e1] at sll
      clear e1
      have HFL : Hid (flatP [((some ⟨w4.heap.size, 0, none⟩ : Option Addr), i, (letL (wyN n k)).take i), (some ⟨br, orr + i, none⟩, 1, [114]), (A3, n - (i + 1), List.replicate (n - (i + 1)) 108)] = letL (wyN n (k + 1))) := by
        show _ = _
        rw [hi3]
        unfold flatP letL
        simp [List.map_take, List.map_replicate, Nat.sub_sub, Nat.add_comm]
      have hS1 : SlAt byteS wr (some ⟨w4.heap.size, 0, none⟩) ((letL (wyN n k)).take i) := by
        have h := slAt_part (slAt_row (x := letL (wyN n k)) (by omega) HR0.out) 0 i
        rw [List.drop_zero, Nat.add_zero] at h
        unfold padL at h
        rwa [List.take_append_of_le_length (by rw [hlen]; omega)] at h
      have hS2 : SlAt byteS wr (some ⟨br, orr + i, none⟩) [114] := by
        have h := slAt_part (HSR4.out.below HBr.out) i 1
        rw [List.drop_replicate, List.take_replicate, Nat.min_eq_left (by omega)] at h
        exact h
      have hS3 : SlAt byteS wr A3 (List.replicate (n - (i + 1)) 108) := by
        by_cases h : i + 1 < n
        · rw [hA3 h]
          have h := slAt_part (HSL4.out.below HBr.out) (i + 1) (n - (i + 1))
          rw [List.drop_replicate, List.take_replicate, Nat.min_self] at h
          exact h
        · have : n - (i + 1) = 0 := by omega
          rw [this]; exact .inl rfl
      clear hA3
      obtain ⟨n3, hn3⟩ : ∃ n3, n3 = n - (i + 1) := ⟨_, rfl⟩
      rw [← hn3] at sll hS3 HFL
      have HN3 := Lib.hid hn3
      clear hn3
      have HS1 := Lib.hid hS1
      have HS2 := Lib.hid hS2
      have HS3 := Lib.hid hS3
      have hl1 : ((letL (wyN n k)).take i).length = i := by rw [List.length_take, hlen]; omega
      have HL1 := Lib.hid hl1
      have hnl : (letL (wyN n (k + 1))).length = n := by rw [letL_len, wyN_len]
      have HNL := Lib.hid hnl
      obtain ⟨M, hM⟩ : ∃ M, M = chV (letL (wyN n (k + 1))) := ⟨_, rfl⟩
      have HM := Lib.hid hM
      have hHl : ∀ p ∈ [((some ⟨w4.heap.size, 0, none⟩ : Option Addr), i, (letL (wyN n k)).take i), (some ⟨br, orr + i, none⟩, 1, [(114 : Int)]), (A3, n3, List.replicate n3 (108 : Int))], p.2.2.length ≤ 12 := by
        intro p hp
        simp only [List.mem_cons, List.not_mem_nil, or_false] at hp
        rcases hp with rfl | rfl | rfl
        · show ((letL (wyN n k)).take i).length ≤ 12
          omega
        · show 1 ≤ 12
          omega
        · show (List.replicate n3 (108 : Int)).length ≤ 12
          rw [List.length_replicate, HN3.out]; omega
      have HPT : Hid (PartsAt (wr.alloc (Obj.cells #[Value.slice (some ⟨w4.heap.size, 0, none⟩) i i, Value.slice (some ⟨br, orr + i, none⟩) 1 1, Value.slice A3 n3 n3] 69)).drew wr.heap.size [((some ⟨w4.heap.size, 0, none⟩ : Option Addr), i, (letL (wyN n k)).take i), (some ⟨br, orr + i, none⟩, 1, [(114 : Int)]), (A3, n3, List.replicate n3 (108 : Int))]) :=
        parts3 (W := wr) hl1.symm rfl (List.length_replicate).symm hS1 hS2 hS3
      have HJ := join_any wr.heap.size 3 _ _ (by simp) hHl (by rw [HFL.out, hnl]; omega) (by rw [HFL.out, hnl]; omega) HPT.out
      rw [HFL.out, ← hM] at HJ
      have HJ' := Lib.hid HJ
      have HHD : Hid (Below wr.heap.size wr (wr.alloc (Obj.cells #[Value.slice (some ⟨w4.heap.size, 0, none⟩) i i, Value.slice (some ⟨br, orr + i, none⟩) 1 1, Value.slice A3 n3 n3] 69)).drew) := ((Below.refl _ wr).alloc (Nat.le_refl _) _).drew
      clear hHl HJ
      clear hM hpl hi1 hi2 hi3 hS1 hS2 hS3 hl1 hnl hys hlen
      have HSZM : Hid ((Try.prog.info? 66).map (·.size) = some M.toArray.size) := by show _ = _; rw [HM.out]; exact chSizV _
      have HALLM : Hid (M.toArray.all (·.oneCell') = true) := by show _ = _; rw [HM.out]; exact chAllV _
      have HM12 : Hid (M.length = 12) := by show _ = _; rw [HM.out]; exact chV_len _
      have hszm : (Try.prog.info? 66).map (·.size) = some M.length := by rw [HM12.out]; exact chSiz
      have honem : ∀ v ∈ M, v.oneCell' = true := by rw [HM.out]; exact chV_one _
      obtain ⟨K, hK⟩ : ∃ K, K = chV (letL (wyN n k)) := ⟨_, rfl⟩
      have HFM : Hid (List.foldl (fun cs x => cs.setIfInBounds x.snd x.fst) #[.int .u8 0, .int .u8 0, .int .u8 0, .int .u8 0, .int .u8 0, .int .u8 0, .int .u8 0, .int .u8 0, .int .u8 0, .int .u8 0, .int .u8 0, .int .u8 0] M.zipIdx = (chV (letL (wyN n (k + 1)))).toArray) := (fold12 M HM12.out (.int .u8 0)).trans (by rw [HM.out])
      have HSE : Hid (K.toArray.size = M.toArray.size) := by show _ = _; rw [hK, HM.out, List.size_toArray, List.size_toArray, chV_len, chV_len]
      rw [← hK] at hcmp HR0 HSZK
      have hgd : ∀ a b : Operand, (eqGuard .neq 66 a b (.agg K.toArray) (.agg ML.toArray)).run Try.prog wr = .ok () wr := fun a b => run_eqGuard_agg wr (op := .neq) (t := 66) (x := a) (y := b) (xs := K.toArray) (ys := ML.toArray) (hm := chGuard)
      have HK := Lib.hid hK
      clear hK
      have hw1 : IntKind.i64.wrap ((i : Int) + 1) = (i : Int) + 1 := IntWalk.i64_in _ (by omega)
      have slk := fun w' => chSl_all w' w4.heap.size
      have slm := fun w' => chSl_hm w' w4.heap.size i (by omega)
      go_wp2_with (first
        | (refine wpList_load_row rfl 66 _ rfl w4.heap.size rfl 66 K.toArray (0, 0) _ HR0.out chUnd rfl HSZK.out ?_)
        | (refine wpList_load_row rfl 66 _ rfl (w4.heap.size + 1) rfl 66 ML.toArray (0, 0) _ HR1.out chUnd rfl HMSL.out ?_))
      refine HLI.out.mono ?_
      rintro e w5 ⟨rfl, rfl⟩
      go_upto_region 7 with fail
      have HGL : Hid (w4.heap.size < wr.heap.size) := (Array.getElem?_eq_some_iff.1 HR0.out).1
      have HGL1 : Hid (w4.heap.size + 1 < wr.heap.size) := (Array.getElem?_eq_some_iff.1 HR1.out).1
      go_region_held3 (fun _ => True) (trivial)
        (first
          | (go_at_call 55; refine HJ'.out.mono ?_; rintro e w6 ⟨rfl, hb⟩; have HB6 : Hid (Below wr.heap.size wr w6) := HHD.out.trans (hb.mono HHD.out.size); have HR6 : Hid (w6.heap[w4.heap.size]? = some (.cells K.toArray 66 (0, 0))) := (HB6.out.block w4.heap.size HGL.out).trans HR0.out; have hst := there_row w6 w4.heap.size _ _ M.toArray HR6.out HSE.out; have HSC := Lib.hid (setCells_setRow (P := Try.prog) w6 w4.heap.size 66 66 K.toArray M HR6.out HSZM.out HSE.out HALLM.out); clear hb))
      all_goals (
        have HR7 : Hid ((w6.setCells w4.heap.size 0 M).heap[w4.heap.size]? = some (.cells M.toArray 66 (0, 0))) := by
          show _ = _
          rw [HSC.out]; exact setRow_heap w6 w4.heap.size _ M.toArray _ _ HR6.out
        have HB7 : Hid (Below w4.heap.size w4 (w6.setCells w4.heap.size 0 M)) := by
          show Below _ _ _
          rw [HSC.out]
          exact below_setRow (HBr.out.trans (HB6.out.mono HBr.out.size)) (Nat.le_refl _) (Nat.le_trans HBr.out.size HB6.out.size) _
        have HR71 : Hid ((w6.setCells w4.heap.size 0 M).heap[w4.heap.size + 1]? = some (.cells ML.toArray 66 (0, 0))) := by
          show _ = _
          rw [HSC.out, setRow_other _ _ _ _ (by omega)]
          exact (HB6.out.block (w4.heap.size + 1) HGL1.out).trans HR1.out
        have HO7 : Hid (SlOwn chS (w6.setCells w4.heap.size 0 M) (w4.heap.size + 2) 66 (.slice A5 (k + 1) c5) YK) := by
          show SlOwn _ _ _ _ _ _
          rw [HSC.out]
          exact own_setRow (HOr.out.below HB6.out) (by omega) _
        clear hst HSC hcmp
        generalize w6.setCells w4.heap.size 0 M = W7 at *
        have hm12 : M.length = 12 := HM12.out
        have T1 : Hid (SlAt chS (W7.alloc (Obj.cells (List.foldl (fun cs x => cs.setIfInBounds x.snd x.fst) #[.int .u8 0, .int .u8 0, .int .u8 0, .int .u8 0, .int .u8 0, .int .u8 0, .int .u8 0, .int .u8 0, .int .u8 0, .int .u8 0, .int .u8 0, .int .u8 0] M.zipIdx) 66)) (some ⟨W7.heap.size, 0, none⟩) [letL (wyN n (k + 1))]) := slAt_ch1 (heap_new rfl) HFM.out
        have T2 : Hid (SlOwn chS (W7.alloc (Obj.cells (List.foldl (fun cs x => cs.setIfInBounds x.snd x.fst) #[.int .u8 0, .int .u8 0, .int .u8 0, .int .u8 0, .int .u8 0, .int .u8 0, .int .u8 0, .int .u8 0, .int .u8 0, .int .u8 0, .int .u8 0, .int .u8 0] M.zipIdx) 66)) (w4.heap.size + 2) 66 (.slice A5 (k + 1) c5) YK) := HO7.out.allocA _
        have T3 : Hid (YK.length + [letL (wyN n (k + 1))].length ≤ 1048576) := by show _ ≤ _; rw [HLY.out, List.length_singleton]; omega
        have hs7 : w4.heap.size + 2 ≤ W7.heap.size := (Array.getElem?_eq_some_iff.1 HR71.out).1
        go_wp2_with (first
          | (refine wpList_load_row rfl 66 _ rfl w4.heap.size rfl 66 M.toArray (0, 0) _ HR7.out chUnd rfl HSZM.out ?_)
          | (at_builtin; go_must (refine wpList_append_slsv chS _ rfl _ _ 63 rfl (w4.heap.size + 2) 66 i0 _ 12 Try.underlying63 hi hz0 hz1 hz2 rfl (by decide) (.slice A5 (k + 1) c5) YK rfl T2.out (some ⟨W7.heap.size, 0, none⟩) 1 1 [letL (wyN n (k + 1))] rfl rfl T1.out T3.out (by simp; omega) ?_); intro A8 n8 c8 w8 hn8 ho8 hb8; obtain rfl : n8 = k + 1 + 1 := (by rw [hn8, List.length_append, HLY.out]; rfl); have HO8 := Lib.hid ho8; have HB8 : Hid (Below (w4.heap.size + 2) W7 w8) := ((Below.refl (w4.heap.size + 2) W7).alloc hs7 _).trans hb8; clear hn8 ho8 hb8))
        go_roundw
        case rel => exact ⟨k + 1, A8, c8, by omega, rfl, HB7.out.trans (HB8.out.mono (by omega)), (HB8.out.block w4.heap.size (by omega)).trans (by rw [HR7.out, HM.out]), (HB8.out.block (w4.heap.size + 1) (by omega)).trans HR71.out, by rw [List.range_succ, List.map_append, ← HYK.out]; exact HO8.out⟩
        case measure => simp [lenOf]; omega)
    · rw [decide_eq_false hlt] at hcmp
      have he : 2 ^ n = k + 1 := by omega
      obtain ⟨K, hK⟩ : ∃ K, K = chV (letL (wyN n k)) := ⟨_, rfl⟩
      rw [← hK] at hcmp HR0 HSZK
      have hgd : ∀ a b : Operand, (eqGuard .neq 66 a b (.agg K.toArray) (.agg ML.toArray)).run Try.prog wr = .ok () wr := fun a b => run_eqGuard_agg wr (op := .neq) (t := 66) (x := a) (y := b) (xs := K.toArray) (ys := ML.toArray) (hm := chGuard)
      clear hK
      have HE := Lib.hid he
      clear he
      go_wp2_with (first
        | (refine wpList_load_row rfl 66 _ rfl w4.heap.size rfl 66 K.toArray (0, 0) _ HR0.out chUnd rfl HSZK.out ?_)
        | (refine wpList_load_row rfl 66 _ rfl (w4.heap.size + 1) rfl 66 ML.toArray (0, 0) _ HR1.out chUnd rfl HMSL.out ?_))
      go_ret
      exact ⟨A5, c5, by rw [HE.out]; rfl, by rw [HE.out]; exact HYK.out ▸ own_base HOr.out (by have := HB4.out.size; omega), HB4.out.trans (HBr.out.mono HB4.out.size)⟩
end Go.Proofs.Ytodcacifpjakdaa
