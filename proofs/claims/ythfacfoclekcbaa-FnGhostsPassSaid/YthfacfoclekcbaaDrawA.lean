/- Drawn rods and times: whatever they are, memory of the caller stays. -/
import Derived.Test.YthfacfoclekcbaaDrawS
import Derived.Test.YthfacfoclekcbaaDrawT
namespace Go.Proofs.Ythfacfoclekcbaa
open Go.RowKit

/-- a cursor, newly made -/
theorem cur_newR {w : World} {A : Option Addr} {n c : Nat} {bs : List Int} (hn : n = bs.length) (hA : SlAt u8S w A bs) (hok : ∀ x, x ∈ bs → 0 ≤ x ∧ x ≤ 255) :
    CurAt (w.alloc (.cells #[.slice A n c, .int .i64 0, .int .u64 0] 49)) w.heap.size A n c bs 0 0 := by
  refine ⟨hn.symm, ?_, hok, by simp, by simp, by simp, fun o => by simp [go_sem], by simp, ?_, Int.le_refl _, by omega⟩
  · exact hA.alloc _
  · intro b hb hne
    rcases hA with hA | ⟨b', off, hA, hlt, _⟩
    · exact absurd hA hne
    · rw [hb] at hA
      injection hA with hA
      rw [hA]
      simp only
      omega

set_option maxRecDepth 100000 in
set_option maxHeartbeats 2000000 in
theorem drawRodAfter_any (A : Option Addr) (c : Nat) (bs : List Int) (w : World) (hA : SlAt u8S w A bs) (hok : ∀ x, x ∈ bs → 0 ≤ x ∧ x ≤ 255) :
    Calls Try.prog 5 #[.slice A bs.length c] w fun e w' => ∃ L A' n' c' l t, e = .returned (.tuple #[.agg #[.int .i64 L, .slice A' n' c'], .int .i64 t]) ∧ l.length ≤ 16 ∧ n' = l.length ∧ SlOwn pairS w' w.heap.size 42 (.slice A' n' c') l ∧ Below w.heap.size w w' := by
  have HA := Lib.hid hA
  have HOK := Lib.hid hok
  clear hA hok
  go_enter Try.func5, Try.ntmps5
  have HC := Lib.hid (cur_newR (w := w.alloc (Obj.cells #[Value.int IntKind.i64 0, Value.slice none 0 0] 26)) (c := c) rfl (HA.out.alloc _) HOK.out)
  rw [alloc_sz] at HC
  have HRD := Lib.hid (fun W h => rod_any (w.heap.size + 1) bs.length c A bs 0 0 W h (by omega))
  have HTM := Lib.hid (fun a s W h ha => time_any (w.heap.size + 1) bs.length c A bs a s W h ha)
  go_wp2_with fail
  refine (HRD.out _ HC.out).mono ?_
  rintro e w1 ⟨L, A1, n1, c1, rfl, ⟨⟨a1, s1, hc1, ha1⟩, hg1⟩, l, hl, rfl, ho1⟩
  have hs1 : w.heap.size + 2 ≤ w1.heap.size := by have := hg1.size; simpa using this
  have hb1 : w1.heap[w.heap.size]? = some (Obj.cells #[Value.int IntKind.i64 0, Value.slice none 0 0] 26) := by
    refine (hg1.block w.heap.size (by simp; omega) (fun e => by injection e with e; omega)).trans ?_
    exact (((Below.refl _ _).alloc (Nat.le_refl _) _).block _ (by simp)).trans (heap_new rfl)
  have r0 : w1.cell? ⟨w.heap.size, 0, none⟩ = some (.int .i64 0) := by rw [cell_of_row w1 w.heap.size 0 _ _ _ hb1]; rfl
  have r1 : w1.cell? ⟨w.heap.size, 1, none⟩ = some (.slice none 0 0) := by rw [cell_of_row w1 w.heap.size 1 _ _ _ hb1]; rfl
  have f0 : w1.frozen? ⟨w.heap.size, 0, none⟩ = false := (frozen_of_block (hb1.trans (heap_new (w := w) rfl).symm) 0).trans (new_fz _ _ _ _ _)
  have f1 : w1.frozen? ⟨w.heap.size, 1, none⟩ = false := (frozen_of_block (hb1.trans (heap_new (w := w) rfl).symm) 1).trans (new_fz _ _ _ _ _)
  have hB1 : Below w.heap.size w w1 := by
    have h0 : Below w.heap.size w ((w.alloc (Obj.cells #[Value.int IntKind.i64 0, Value.slice none 0 0] 26)).alloc (Obj.cells #[.slice A bs.length c, .int .i64 0, .int .u64 0] 49)) := ((Below.refl _ _).alloc (Nat.le_refl _) _).alloc (by simp) _
    exact h0.trans ⟨hg1.os, hg1.tape, hg1.output, hg1.size, fun k hk => hg1.block k (by simp; omega) (fun e => by injection e with e; omega)⟩
  have HO1 : Hid (SlOwn pairS w1 (w.heap.size + 2) 42 (.slice A1 l.length c1) l) := by show SlOwn _ _ _ _ _ _; simpa using ho1
  have HB1 := Lib.hid hB1
  have HC1 := Lib.hid hc1
  clear ho1 hB1 hc1 hb1 hg1
  obtain ⟨rb, hrb⟩ : ∃ k, w1.heap.size = k := ⟨_, rfl⟩
  obtain ⟨W, hW⟩ : ∃ W, w1.alloc (Obj.cells #[Value.int IntKind.i64 L, Value.slice A1 l.length c1] 26) = W := ⟨_, rfl⟩
  have hWs : W.heap.size = rb + 1 := by rw [← hW, alloc_sz, hrb]
  have o0 : W.cell? ⟨rb, 0, none⟩ = some (.int .i64 L) := by rw [← hW, ← hrb]; exact new0 _ _ _ _
  have o1 : W.cell? ⟨rb, 1, none⟩ = some (.slice A1 l.length c1) := by rw [← hW, ← hrb]; exact new1 _ _ _ _
  have hbW : Below w1.heap.size w1 W := by rw [← hW]; exact (Below.refl _ _).alloc (Nat.le_refl _) _
  have r0 := Below.cell_some hbW r0
  have r1 := Below.cell_some hbW r1
  have f0 := (hbW.frozen (p := ⟨w.heap.size, 0, none⟩) (by show w.heap.size < _; omega)).trans f0
  have f1 := (hbW.frozen (p := ⟨w.heap.size, 1, none⟩) (by show w.heap.size < _; omega)).trans f1
  have HOW := Lib.hid (HO1.out.below hbW)
  have HBW := Lib.hid (HB1.out.trans (hbW.mono (by omega)))
  have HCW := Lib.hid (HC1.out.kept hbW)
  clear hbW
  have T1 : Hid (∀ Q : Ending → World → Prop, (∀ t w3, w3.cell? ⟨rb, 0, none⟩ = some (.int .i64 L) → w3.cell? ⟨rb, 1, none⟩ = some (.slice A1 l.length c1) → w3.cell? ⟨w.heap.size, 0, none⟩ = some (.int .i64 0) → w3.cell? ⟨w.heap.size, 1, none⟩ = some (.slice none 0 0) → w3.frozen? ⟨w.heap.size, 0, none⟩ = false → w3.frozen? ⟨w.heap.size, 1, none⟩ = false → w.heap.size < w3.heap.size → SlOwn pairS w3 (w.heap.size + 2) 42 (.slice A1 l.length c1) l → Below w.heap.size w w3 → Q (.returned (.int .i64 t)) w3) → Calls Try.prog 24 #[.pointer (some ⟨w.heap.size + 1, 0, none⟩)] W.drew Q) := fun Q hQ => by
    refine (HTM.out _ _ _ (HCW.out.kept (Below.refl _ _).drew) (by omega)).mono ?_
    rintro e w3 ⟨t, rfl, ht⟩
    have hg := ht.grown
    have h1 : w3.heap[rb]? = W.heap[rb]? := hg.block rb (by show rb < W.heap.size; omega) (fun e => by injection e with e; omega)
    have h2 : w3.heap[w.heap.size]? = W.heap[w.heap.size]? := hg.block w.heap.size (by show w.heap.size < W.heap.size; omega) (fun e => by injection e with e; omega)
    have hz := hg.size
    refine hQ t w3 ((cell_of_block h1 0).trans o0) ((cell_of_block h1 1).trans o1) ((cell_of_block h2 0).trans r0) ((cell_of_block h2 1).trans r1) ((frozen_of_block h2 0).trans f0) ((frozen_of_block h2 1).trans f1) (by have : W.heap.size ≤ w3.heap.size := hz; omega) (SlOwn.turned (HOW.out.below (Below.refl _ _).drew) hg (by omega)) ?_
    exact HBW.out.trans ⟨hg.os, hg.tape, hg.output, hg.size, fun k hk => hg.block k (by show k < W.heap.size; omega) (fun e => by injection e with e; omega)⟩
  go_wp2
  go_region_with (go_at_call 24; with_reducible refine T1.out _ ?_; intro t w3 o0 o1 r0 r1 f0 f1 hlt ho3 hb3; have HO3 := Lib.hid ho3; have HB3 := Lib.hid hb3; clear ho3 hb3)
  all_goals (
    go_wp2
    refine bodyPost_ret (v := .tuple #[.agg #[.int .i64 L, .slice A1 l.length c1], .int .i64 t]) (by simp [results, Try.results5, go_sem, r0, r1]) rfl ⟨L, A1, l.length, c1, l, t, rfl, hl, rfl, ?_, ?_⟩
    · exact ownsRow_base (ownsRow_setCell_below (ownsRow_setCell_below HO3.out (by show w.heap.size < _; omega) _) (by show w.heap.size < _; omega) _) (by omega)
    · exact (HB3.out.setCell (Nat.le_refl _) _).setCell (Nat.le_refl _) _)

/-- a drawn rod lies at block rb, the cursor at the block behind the result's -/
structure DrIn (w W : World) (nb cb : Nat) (B : Option Addr) (bs : List Int) (m : Int) (rb : Nat) (L : Int) (A : Option Addr) (c : Nat) (l : List (Int × Int)) : Prop where
  cur : ∃ a s, CurAt W (w.heap.size + 1) B nb cb bs a s ∧ a ≤ m
  o0 : W.cell? ⟨rb, 0, none⟩ = some (.int .i64 L)
  o1 : W.cell? ⟨rb, 1, none⟩ = some (.slice A l.length c)
  r0 : W.cell? ⟨w.heap.size, 0, none⟩ = some (.int .i64 0)
  r1 : W.cell? ⟨w.heap.size, 1, none⟩ = some (.slice none 0 0)
  f0 : W.frozen? ⟨w.heap.size, 0, none⟩ = false
  f1 : W.frozen? ⟨w.heap.size, 1, none⟩ = false
  lt1 : w.heap.size + 1 < rb
  lt2 : rb < W.heap.size
  own : SlOwn pairS W (w.heap.size + 2) 42 (.slice A l.length c) l
  below : Below w.heap.size w W
theorem DrIn.took {w W W' : World} {nb cb rb c : Nat} {B A : Option Addr} {bs : List Int} {m L a k : Int} {l : List (Int × Int)} (h : DrIn w W nb cb B bs m rb L A c l) (ha : a ≤ m) (ht : Took W W' (w.heap.size + 1) nb cb B bs a k) : DrIn w W' nb cb B bs (m + k) rb L A c l := by
  have l1 := h.lt1
  have l2 := h.lt2
  obtain ⟨⟨a', s', hc, ha'⟩, hg⟩ := ht
  have hz := hg.size
  have h1 : W'.heap[rb]? = W.heap[rb]? := hg.block rb (by omega) (fun e => by injection e with e; omega)
  have h2 : W'.heap[w.heap.size]? = W.heap[w.heap.size]? := hg.block w.heap.size (by omega) (fun e => by injection e with e; omega)
  exact ⟨⟨a', s', hc, by omega⟩, (cell_of_block h1 0).trans h.o0, (cell_of_block h1 1).trans h.o1, (cell_of_block h2 0).trans h.r0, (cell_of_block h2 1).trans h.r1, (frozen_of_block h2 0).trans h.f0, (frozen_of_block h2 1).trans h.f1, l1, by omega,
    SlOwn.turned h.own hg (by omega), h.below.trans ⟨hg.os, hg.tape, hg.output, hg.size, fun k hk => hg.block k (by omega) (fun e => by injection e with e; omega)⟩⟩
theorem DrIn.drew {w W : World} {nb cb rb c : Nat} {B A : Option Addr} {bs : List Int} {m L : Int} {l : List (Int × Int)} (h : DrIn w W nb cb B bs m rb L A c l) : DrIn w W.drew nb cb B bs m rb L A c l := by
  obtain ⟨a, s, hc, ha⟩ := h.cur
  exact ⟨⟨a, s, hc.kept (Below.refl _ _).drew, ha⟩, h.o0, h.o1, h.r0, h.r1, h.f0, h.f1, h.lt1, h.lt2, h.own.below (Below.refl _ _).drew, h.below.drew⟩

set_option maxRecDepth 100000 in
set_option maxHeartbeats 2000000 in
theorem drawPlaceAfter_any (A : Option Addr) (c : Nat) (bs : List Int) (w : World) (hA : SlAt u8S w A bs) (hok : ∀ x, x ∈ bs → 0 ≤ x ∧ x ≤ 255) :
    Calls Try.prog 20 #[.slice A bs.length c] w fun e w' => ∃ L A' n' c' l i t, e = .returned (.tuple #[.agg #[.int .i64 L, .slice A' n' c'], .int .i64 i, .int .i64 t]) ∧ l.length ≤ 16 ∧ n' = l.length ∧ -1 ≤ i ∧ i ≤ l.length ∧ SlOwn pairS w' w.heap.size 42 (.slice A' n' c') l ∧ Below w.heap.size w w' := by
  have HA := Lib.hid hA
  have HOK := Lib.hid hok
  clear hA hok
  go_enter Try.func20, Try.ntmps20
  have HC := Lib.hid (cur_newR (w := w.alloc (Obj.cells #[Value.int IntKind.i64 0, Value.slice none 0 0] 26)) (c := c) rfl (HA.out.alloc _) HOK.out)
  rw [alloc_sz] at HC
  have HRD := Lib.hid (fun W h => rod_any (w.heap.size + 1) bs.length c A bs 0 0 W h (by omega))
  have HPK : Hid (∀ (m n : Int) (W : World) (rb : Nat) (L : Int) (A1 : Option Addr) (c1 : Nat) (l : List (Int × Int)), DrIn w W bs.length c A bs m rb L A1 c1 l → m ≤ 1099511626000 → -1000000 ≤ n → n ≤ 1000000 → Calls Try.prog 40 #[.pointer (some ⟨w.heap.size + 1, 0, none⟩), .int .i64 n] W fun e w' => ∃ v, e = .returned (.int .i64 v) ∧ 0 ≤ v ∧ (v = 0 ∨ v < n) ∧ DrIn w w' bs.length c A bs (m + 2) rb L A1 c1 l) := fun m n W rb L A1 c1 l h hm hn0 hn => by
    obtain ⟨a, s, hc, ha⟩ := h.cur
    refine (pick_any _ _ _ A bs a s n W hc (by omega) hn0 hn).mono ?_
    rintro e w' ⟨v, rfl, v0, v1, ht⟩
    exact ⟨v, rfl, v0, v1, h.took ha ht⟩
  have HTM : Hid (∀ (m : Int) (W : World) (rb : Nat) (L : Int) (A1 : Option Addr) (c1 : Nat) (l : List (Int × Int)), DrIn w W bs.length c A bs m rb L A1 c1 l → m ≤ 1099511610000 → Calls Try.prog 24 #[.pointer (some ⟨w.heap.size + 1, 0, none⟩)] W fun e w' => ∃ v, e = .returned (.int .i64 v) ∧ DrIn w w' bs.length c A bs (m + 4) rb L A1 c1 l) := fun m W rb L A1 c1 l h hm => by
    obtain ⟨a, s, hc, ha⟩ := h.cur
    refine (time_any _ _ _ A bs a s W hc (by omega)).mono ?_
    rintro e w' ⟨v, rfl, ht⟩
    exact ⟨v, rfl, h.took ha ht⟩
  go_wp2_with fail
  refine (HRD.out _ HC.out).mono ?_
  rintro e w1 ⟨L, A1, n1, c1, rfl, ⟨⟨a1, s1, hc1, ha1⟩, hg1⟩, l, hl, rfl, ho1⟩
  have hs1 : w.heap.size + 2 ≤ w1.heap.size := by have := hg1.size; simpa using this
  have hb1 : w1.heap[w.heap.size]? = some (Obj.cells #[Value.int IntKind.i64 0, Value.slice none 0 0] 26) := by
    refine (hg1.block w.heap.size (by simp; omega) (fun e => by injection e with e; omega)).trans ?_
    exact (((Below.refl _ _).alloc (Nat.le_refl _) _).block _ (by simp)).trans (heap_new rfl)
  have r0 : w1.cell? ⟨w.heap.size, 0, none⟩ = some (.int .i64 0) := by rw [cell_of_row w1 w.heap.size 0 _ _ _ hb1]; rfl
  have r1 : w1.cell? ⟨w.heap.size, 1, none⟩ = some (.slice none 0 0) := by rw [cell_of_row w1 w.heap.size 1 _ _ _ hb1]; rfl
  have f0 : w1.frozen? ⟨w.heap.size, 0, none⟩ = false := (frozen_of_block (hb1.trans (heap_new (w := w) rfl).symm) 0).trans (new_fz _ _ _ _ _)
  have f1 : w1.frozen? ⟨w.heap.size, 1, none⟩ = false := (frozen_of_block (hb1.trans (heap_new (w := w) rfl).symm) 1).trans (new_fz _ _ _ _ _)
  have hB1 : Below w.heap.size w w1 := by
    have h0 : Below w.heap.size w ((w.alloc (Obj.cells #[Value.int IntKind.i64 0, Value.slice none 0 0] 26)).alloc (Obj.cells #[.slice A bs.length c, .int .i64 0, .int .u64 0] 49)) := ((Below.refl _ _).alloc (Nat.le_refl _) _).alloc (by simp) _
    exact h0.trans ⟨hg1.os, hg1.tape, hg1.output, hg1.size, fun k hk => hg1.block k (by simp; omega) (fun e => by injection e with e; omega)⟩
  have HO1 : Hid (SlOwn pairS w1 (w.heap.size + 2) 42 (.slice A1 l.length c1) l) := by show SlOwn _ _ _ _ _ _; simpa using ho1
  have hbW : Below w1.heap.size w1 (w1.alloc (Obj.cells #[Value.int IntKind.i64 L, Value.slice A1 l.length c1] 26)) := (Below.refl _ _).alloc (Nat.le_refl _) _
  have hD : DrIn w (w1.alloc (Obj.cells #[Value.int IntKind.i64 L, Value.slice A1 l.length c1] 26)) bs.length c A bs 300 w1.heap.size L A1 c1 l :=
    ⟨⟨a1, s1, hc1.kept hbW, by omega⟩, new0 _ _ _ _, new1 _ _ _ _, Below.cell_some hbW r0, Below.cell_some hbW r1, (hbW.frozen (p := ⟨w.heap.size, 0, none⟩) (by show w.heap.size < _; omega)).trans f0, (hbW.frozen (p := ⟨w.heap.size, 1, none⟩) (by show w.heap.size < _; omega)).trans f1, by omega, by rw [alloc_sz]; omega, HO1.out.below hbW, hB1.trans (hbW.mono (by omega))⟩
  have HD := Lib.hid hD
  clear ho1 hB1 hc1 hb1 hg1 hbW hD r0 r1 f0 f1
  obtain ⟨W, hW⟩ : ∃ W, w1.alloc (Obj.cells #[Value.int IntKind.i64 L, Value.slice A1 l.length c1] 26) = W := ⟨_, rfl⟩
  obtain ⟨rb, hrb⟩ : ∃ k, w1.heap.size = k := ⟨_, rfl⟩
  rw [hW, hrb] at HD
  have o1 := HD.out.o1
  go_wp2_with fail
  refine (HPK.out _ ((l.length : Int) + 1) _ _ _ _ _ _ HD.out (by omega) (by omega) (by omega)).mono ?_
  rintro e w2 ⟨x, rfl, x0, x1, hD2⟩
  have HD2 := Lib.hid hD2
  clear hD2
  go_wp2_with fail
  refine (HPK.out _ 14 _ _ _ _ _ _ HD2.out (by omega) (by omega) (by omega)).mono ?_
  rintro e w3 ⟨y, rfl, y0, y1, hD3⟩
  have HD3 := Lib.hid hD3
  clear hD3
  have hd : y.tdiv 13 = y / 13 := Int.tdiv_eq_ediv_of_nonneg (by omega)
  have o0 := HD3.out.o0
  have o1 := HD3.out.o1
  have HD3d := Lib.hid HD3.out.drew
  have T1 : Hid (∀ Q : Ending → World → Prop, (∀ t w4, w4.cell? ⟨rb, 0, none⟩ = some (.int .i64 L) → w4.cell? ⟨rb, 1, none⟩ = some (.slice A1 l.length c1) → w4.cell? ⟨w.heap.size, 0, none⟩ = some (.int .i64 0) → w4.cell? ⟨w.heap.size, 1, none⟩ = some (.slice none 0 0) → w4.frozen? ⟨w.heap.size, 0, none⟩ = false → w4.frozen? ⟨w.heap.size, 1, none⟩ = false → w.heap.size < w4.heap.size → SlOwn pairS w4 (w.heap.size + 2) 42 (.slice A1 l.length c1) l → Below w.heap.size w w4 → Q (.returned (.int .i64 t)) w4) → Calls Try.prog 24 #[.pointer (some ⟨w.heap.size + 1, 0, none⟩)] w3.drew Q) := fun Q hQ => by
    refine (HTM.out _ _ _ _ _ _ _ HD3d.out (by omega)).mono ?_
    rintro e w4 ⟨t, rfl, h⟩
    have h1 := h.lt1
    have h2 := h.lt2
    exact hQ t w4 h.o0 h.o1 h.r0 h.r1 h.f0 h.f1 (by omega) h.own h.below
  go_wp2
  go_region_with (go_at_call 24; with_reducible refine T1.out _ ?_; intro t w4 o0 o1 r0 r1 f0 f1 hlt ho4 hb4; have HO4 := Lib.hid ho4; have HB4 := Lib.hid hb4; clear ho4 hb4)
  all_goals (
    go_wp2
    refine bodyPost_ret (v := .tuple #[.agg #[.int .i64 L, .slice A1 l.length c1], .int .i64 (x - y / 13), .int .i64 t]) (by simp [results, Try.results20, go_sem, r0, r1]) rfl ⟨L, A1, l.length, c1, l, x - y / 13, t, rfl, hl, rfl, by omega, by omega, ?_, ?_⟩
    · exact ownsRow_base (ownsRow_setCell_below (ownsRow_setCell_below HO4.out (by show w.heap.size < _; omega) _) (by show w.heap.size < _; omega) _) (by omega)
    · exact (HB4.out.setCell (Nat.le_refl _) _).setCell (Nat.le_refl _) _)
end Go.Proofs.Ythfacfoclekcbaa
