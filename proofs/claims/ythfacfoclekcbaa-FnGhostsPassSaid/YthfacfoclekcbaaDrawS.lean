/- Drawn rods, at times something else: whatever they are, the cursor alone is turned. -/
import Derived.Test.YthfacfoclekcbaaDrawR
import Derived.Deep.RegionLaw
namespace Go.Proofs.Ythfacfoclekcbaa
open Go.RowKit

theorem step_append_slsw {α : Type} (S : Shape α) {P : Program} (w : World) {ops : Array Oper} {o : Oper} {a : Act} {K : Act → World → Prop} {Q : Exit → Act → World → Prop} {E : Prop} (hgd : o.guard = none) (s x : Operand) (t : TypeId)
    (ho : o.op = .call { callee := .builtin .append, args := #[s, x], argTypes := #[t, t] })
    (B : Nat) (e : TypeId) (i : TypeInfo) (z : Value) (bytes : Nat) (ht : P.underlying t = some (.slice e)) (hi : P.info? e = some i) (hz : i.zero = some z)
    (hsize : i.size = S.size) (hby : i.bytes = bytes) (hzs : z.cells.size = S.size) (hB64 : bytes ≤ 64)
    (v : Value) (l : List α) (hs : a.eval s = v) (hown : SlOwn S w B e v l)
    (ad : Addr) (n c : Nat) (m : List α) (hx : a.eval x = .slice (some ad) n c) (hn : n = m.length) (hm : SlAt S w (some ad) m)
    (hlen : l.length + m.length ≤ 1048576) (hbase : B ≤ w.heap.size)
    (h : ∀ A' n' c' w', SlOwn S w' B e (.slice A' n' c') (l ++ m) → w.grownBy w' v.ownBlock → ((Value.slice A' n' c').ownBlock = v.ownBlock ∨ (Value.slice A' n' c').ownBlock = some w.heap.size) → K (a.put o.dst (.slice A' n' c')) w') :
    if Region.wanted o (yielded ops a.tmps) = true then Oper.wp P o a w K Q else E := by
  subst hn
  have hw : Region.wanted o (yielded ops a.tmps) = true := by simp [Region.wanted, hgd]
  rw [if_pos hw]
  obtain ⟨v', w', hr, h2, h3, _, h5⟩ := run_append_own_at (P := P) w B t o.type e i z S.size bytes ht hi hz hsize hby hzs S.pos v l.length (S.row l) hown ad m.length c (S.row m) (S.row_length m) hm.cells_at (S.row_oneCell m)
    (by unfold maxLen; omega) (by have : (l.length + m.length) * bytes ≤ 1048576 * 64 := Nat.mul_le_mul hlen hB64; omega) hbase
  have h4 : SlOwn S w' B e v' (l ++ m) := by
    show World.ownsRow _ _ _ _ _ _ _
    rw [List.length_append, S.row_append]
    exact h2
  obtain ⟨A', c', rfl, _, _⟩ := h4.form
  unfold Oper.wp execOp
  simp only [ho, resolve, invoke, builtin, Sem.run_bind, Sem.run_pure, Result.andThen_ok, List.map_toArray, List.map_cons, List.map_nil, hs, hx, hr]
  exact h A' _ c' w' h4 h3 h5
theorem antInfoS : (Try.prog.info? 42).map (fun i => (i.zero, i.size, i.bytes)) = some (some (.agg #[.int .i64 0, .int .i64 0]), pairS.size, 16) := by kernel_rfl

/-- the rod that is being drawn lies at block rb; its ants lie in a row of their own, elder or younger -/
structure RodOn (w W : World) (g nb cb : Nat) (B : Option Addr) (bs : List Int) (m : Int) (rb : Nat) (L : Int) (A : Option Addr) (c : Nat) (l : List (Int × Int)) : Prop where
  cur : ∃ a s, CurAt W g B nb cb bs a s ∧ a ≤ m
  turn : Turn w.heap.size g w W
  o0 : W.cell? ⟨rb, 0, none⟩ = some (.int .i64 L)
  o1 : W.cell? ⟨rb, 1, none⟩ = some (.slice A l.length c)
  q0 : W.frozen? ⟨rb, 0, none⟩ = false
  q1 : W.frozen? ⟨rb, 1, none⟩ = false
  r0 : W.cell? ⟨w.heap.size, 0, none⟩ = some (.int .i64 0)
  r1 : W.cell? ⟨w.heap.size, 1, none⟩ = some (.slice none 0 0)
  f0 : W.frozen? ⟨w.heap.size, 0, none⟩ = false
  f1 : W.frozen? ⟨w.heap.size, 1, none⟩ = false
  own : SlOwn pairS W (w.heap.size + 1) 42 (.slice A l.length c) l
  dist : ∀ k, (Value.slice A l.length c).ownBlock = some k → k ≠ rb
  lt0 : g < w.heap.size
  lt1 : w.heap.size < rb
  lt2 : rb < W.heap.size
  lst : bs = [] ∨ ∃ b off, B = some ⟨b, off, none⟩ ∧ b < w.heap.size
section
variable {w W W' : World} {g nb cb rb c : Nat} {B A : Option Addr} {bs : List Int} {m L : Int} {l : List (Int × Int)}

theorem RodOn.below (h : RodOn w W g nb cb B bs m rb L A c l) (hb : Below W.heap.size W W') : RodOn w W' g nb cb B bs m rb L A c l := by
  have l0 := h.lt0
  have l1 := h.lt1
  have l2 := h.lt2
  obtain ⟨a, s, hc, ha⟩ := h.cur
  exact ⟨⟨a, s, hc.kept hb, ha⟩, h.turn.trans (Turn.of_below (hb.mono (by omega))), Below.cell_some hb h.o0, Below.cell_some hb h.o1,
    (hb.frozen (p := ⟨rb, 0, none⟩) l2).trans h.q0, (hb.frozen (p := ⟨rb, 1, none⟩) l2).trans h.q1, Below.cell_some hb h.r0, Below.cell_some hb h.r1,
    (hb.frozen (p := ⟨w.heap.size, 0, none⟩) (by show w.heap.size < _; omega)).trans h.f0, (hb.frozen (p := ⟨w.heap.size, 1, none⟩) (by show w.heap.size < _; omega)).trans h.f1,
    h.own.below hb, h.dist, l0, l1, Nat.lt_of_lt_of_le l2 hb.size, h.lst⟩
theorem RodOn.more {m' : Int} (h : RodOn w W g nb cb B bs m rb L A c l) (hm : m ≤ m') : RodOn w W g nb cb B bs m' rb L A c l := by
  obtain ⟨a, s, hc, ha⟩ := h.cur
  exact ⟨⟨a, s, hc, by omega⟩, h.turn, h.o0, h.o1, h.q0, h.q1, h.r0, h.r1, h.f0, h.f1, h.own, h.dist, h.lt0, h.lt1, h.lt2, h.lst⟩
theorem RodOn.took (h : RodOn w W g nb cb B bs m rb L A c l) {a : Int} (ha : a ≤ m) (ht : Took W W' g nb cb B bs a 2) : RodOn w W' g nb cb B bs (m + 2) rb L A c l := by
  have l0 := h.lt0
  have l1 := h.lt1
  have l2 := h.lt2
  obtain ⟨⟨a', s', hc, ha'⟩, hg⟩ := ht
  have hz := hg.size
  have h1 : W'.heap[rb]? = W.heap[rb]? := hg.block rb (by omega) (fun e => by injection e with e; omega)
  have h2 : W'.heap[w.heap.size]? = W.heap[w.heap.size]? := hg.block _ (by omega) (fun e => by injection e with e; omega)
  exact ⟨⟨a', s', hc, by omega⟩, h.turn.trans (Turn.of_grown hg (by omega)), (cell_of_block h1 0).trans h.o0, (cell_of_block h1 1).trans h.o1, (frozen_of_block h1 0).trans h.q0, (frozen_of_block h1 1).trans h.q1,
    (cell_of_block h2 0).trans h.r0, (cell_of_block h2 1).trans h.r1, (frozen_of_block h2 0).trans h.f0, (frozen_of_block h2 1).trans h.f1, SlOwn.turned h.own hg (by omega), h.dist, l0, l1, by omega, h.lst⟩
theorem own_setRb (_ : RodOn w W g nb cb B bs m rb L A c l) {A' : Option Addr} {c' n' : Nat} {l' : List (Int × Int)} (ho : SlOwn pairS W (w.heap.size + 1) 42 (.slice A' n' c') l') (hd : ∀ k, (Value.slice A' n' c').ownBlock = some k → k ≠ rb) (o : Nat) (v : Value) :
    SlOwn pairS (W.setCell ⟨rb, o, none⟩ v) (w.heap.size + 1) 42 (.slice A' n' c') l' := by
  refine SlOwn.kept ho (grown_set _ _ _ _) ?_
  cases hx : (Value.slice A' n' c').ownBlock with
  | none => exact .inl rfl
  | some k => exact .inr (fun e => hd k hx (by injection e))
/-- the rod's length is stored -/
theorem RodOn.len (h : RodOn w W g nb cb B bs m rb L A c l) (L' : Int) : RodOn w (W.setCell ⟨rb, 0, none⟩ (.int .i64 L')) g nb cb B bs m rb L' A c l := by
  have l0 := h.lt0
  have l1 := h.lt1
  have l2 := h.lt2
  obtain ⟨a, s, hc, ha⟩ := h.cur
  have hb : Below rb W (W.setCell ⟨rb, 0, none⟩ (.int .i64 L')) := (Below.refl rb W).setCell (Nat.le_refl _) _
  refine ⟨⟨a, s, hc.keptB hb (by omega) (h.lst.imp id (fun ⟨b, off, e, hl⟩ => ⟨b, off, e, by omega⟩)), ha⟩, h.turn.trans (Turn.of_below (hb.mono (by omega))), ?_, ?_, ?_, ?_,
    (hb.cell (p := ⟨w.heap.size, 0, none⟩) l1).trans h.r0, (hb.cell (p := ⟨w.heap.size, 1, none⟩) l1).trans h.r1, (hb.frozen (p := ⟨w.heap.size, 0, none⟩) l1).trans h.f0, (hb.frozen (p := ⟨w.heap.size, 1, none⟩) l1).trans h.f1,
    own_setRb h h.own h.dist _ _, h.dist, l0, l1, by simpa using l2, h.lst⟩
  · simp [go_sem, h.o0]
  · simp [go_sem, h.o1]
  · simp [go_sem, h.q0]
  · simp [go_sem, h.q1]
/-- the rod's ants are stored -/
theorem RodOn.put (h : RodOn w W g nb cb B bs m rb L A c l) {A' : Option Addr} {c' : Nat} {l' : List (Int × Int)} (ho : SlOwn pairS W (w.heap.size + 1) 42 (.slice A' l'.length c') l') (hd : ∀ k, (Value.slice A' l'.length c').ownBlock = some k → k ≠ rb) :
    RodOn w (W.setCell ⟨rb, 1, none⟩ (.slice A' l'.length c')) g nb cb B bs m rb L A' c' l' := by
  have l0 := h.lt0
  have l1 := h.lt1
  have l2 := h.lt2
  obtain ⟨a, s, hc, ha⟩ := h.cur
  have hb : Below rb W (W.setCell ⟨rb, 1, none⟩ (.slice A' l'.length c')) := (Below.refl rb W).setCell (Nat.le_refl _) _
  refine ⟨⟨a, s, hc.keptB hb (by omega) (h.lst.imp id (fun ⟨b, off, e, hl⟩ => ⟨b, off, e, by omega⟩)), ha⟩, h.turn.trans (Turn.of_below (hb.mono (by omega))), ?_, ?_, ?_, ?_,
    (hb.cell (p := ⟨w.heap.size, 0, none⟩) l1).trans h.r0, (hb.cell (p := ⟨w.heap.size, 1, none⟩) l1).trans h.r1, (hb.frozen (p := ⟨w.heap.size, 0, none⟩) l1).trans h.f0, (hb.frozen (p := ⟨w.heap.size, 1, none⟩) l1).trans h.f1,
    own_setRb h ho hd _ _, hd, l0, l1, by simpa using l2, h.lst⟩
  · simp [go_sem, h.o0]
  · simp [go_sem, h.o1]
  · simp [go_sem, h.q0]
  · simp [go_sem, h.q1]
theorem RodOn.finish (h : RodOn w W g nb cb B bs m rb L A c l) {a M : Int} (hm : m ≤ a + M) :
    Took w ((W.setCell ⟨w.heap.size, 0, none⟩ (.int .i64 L)).setCell ⟨w.heap.size, 1, none⟩ (.slice A l.length c)) g nb cb B bs a M ∧ SlOwn pairS ((W.setCell ⟨w.heap.size, 0, none⟩ (.int .i64 L)).setCell ⟨w.heap.size, 1, none⟩ (.slice A l.length c)) w.heap.size 42 (.slice A l.length c) l := by
  have hb9 : Below w.heap.size W ((W.setCell ⟨w.heap.size, 0, none⟩ (.int .i64 L)).setCell ⟨w.heap.size, 1, none⟩ (.slice A l.length c)) := ((Below.refl w.heap.size W).setCell (Nat.le_refl _) _).setCell (Nat.le_refl _) _
  obtain ⟨a', s', hc, ha'⟩ := h.cur
  exact ⟨⟨⟨a', s', hc.keptB hb9 h.lt0 h.lst, by omega⟩, (h.turn.trans (Turn.of_below hb9)).grown⟩,
    ownsRow_base (ownsRow_setCell_below (ownsRow_setCell_below h.own (Nat.lt_succ_self _) _) (Nat.lt_succ_self _) _) (by omega)⟩
/-- behind an append, once its result is stored -/
theorem RodOn.grow (h : RodOn w W g nb cb B bs m rb L A c l) {A' : Option Addr} {c' : Nat} {l' : List (Int × Int)} (ho : SlOwn pairS W' (w.heap.size + 1) 42 (.slice A' l'.length c') l')
    (hg : W.grownBy W' (Value.slice A l.length c).ownBlock) (hd : (Value.slice A' l'.length c').ownBlock = (Value.slice A l.length c).ownBlock ∨ (Value.slice A' l'.length c').ownBlock = some W.heap.size) :
    RodOn w (W'.setCell ⟨rb, 1, none⟩ (.slice A' l'.length c')) g nb cb B bs m rb L A' c' l' := by
  have l0 := h.lt0
  have l1 := h.lt1
  have l2 := h.lt2
  have hz := hg.size
  have hk := World.ownsRow.lt h.own
  have hb0 : Below (w.heap.size + 1) W W' := ⟨hg.os, hg.tape, hg.output, hz, fun k hk1 => hg.block k (by omega) (fun e => by have := (hk k e.symm).1; omega)⟩
  have h1 : W'.heap[rb]? = W.heap[rb]? := hg.block rb l2 (fun e => h.dist rb e.symm rfl)
  have h2 : W'.heap[w.heap.size]? = W.heap[w.heap.size]? := hb0.block _ (Nat.lt_succ_self _)
  have hd' : ∀ k, (Value.slice A' l'.length c').ownBlock = some k → k ≠ rb := by
    intro k hk2
    rcases hd with hd | hd
    · exact h.dist k (hd ▸ hk2)
    · rw [hk2] at hd; injection hd with hd; omega
  obtain ⟨a, s, hc, ha⟩ := h.cur
  have hc' := hc.keptB hb0 (by omega) (h.lst.imp id (fun ⟨b, off, e, hl⟩ => ⟨b, off, e, by omega⟩))
  have hb : Below rb W' (W'.setCell ⟨rb, 1, none⟩ (.slice A' l'.length c')) := (Below.refl rb W').setCell (Nat.le_refl _) _
  have o0 := (cell_of_block h1 0).trans h.o0
  have o1 := (cell_of_block h1 1).trans h.o1
  have q0 := (frozen_of_block h1 0).trans h.q0
  have q1 := (frozen_of_block h1 1).trans h.q1
  refine ⟨⟨a, s, hc'.keptB hb (by omega) (h.lst.imp id (fun ⟨b, off, e, hl⟩ => ⟨b, off, e, by omega⟩)), ha⟩, (h.turn.trans (Turn.of_below (hb0.mono (by omega)))).trans (Turn.of_below (hb.mono (by omega))), ?_, ?_, ?_, ?_,
    (hb.cell (p := ⟨w.heap.size, 0, none⟩) l1).trans ((cell_of_block h2 0).trans h.r0), (hb.cell (p := ⟨w.heap.size, 1, none⟩) l1).trans ((cell_of_block h2 1).trans h.r1), (hb.frozen (p := ⟨w.heap.size, 0, none⟩) l1).trans ((frozen_of_block h2 0).trans h.f0), (hb.frozen (p := ⟨w.heap.size, 1, none⟩) l1).trans ((frozen_of_block h2 1).trans h.f1),
    ?_, hd', l0, l1, by simp; omega, h.lst⟩
  · simp [go_sem, o0]
  · simp [go_sem, o1]
  · simp [go_sem, q0]
  · simp [go_sem, q1]
  · refine SlOwn.kept ho (grown_set _ _ _ _) ?_
    cases hx : (Value.slice A' l'.length c').ownBlock with
    | none => exact .inl rfl
    | some k => exact .inr (fun e => hd' k hx (by injection e))
def lenC : Option Value → Nat
  | some (.slice _ n _) => n
  | _ => 0
end

set_option maxRecDepth 100000 in
set_option maxHeartbeats 16000000 in
theorem rod_any (g nb cb : Nat) (B : Option Addr) (bs : List Int) (a s : Int) (w : World) (h : CurAt w g B nb cb bs a s) (ha : a ≤ 1099511610000) :
    Calls Try.prog 23 #[.pointer (some ⟨g, 0, none⟩)] w fun e w' => ∃ L A n c, e = .returned (.agg #[.int .i64 L, .slice A n c]) ∧ Took w w' g nb cb B bs a 300 ∧ ∃ l, l.length ≤ 16 ∧ n = l.length ∧ SlOwn pairS w' w.heap.size 42 (.slice A n c) l := by
  obtain ⟨i0, hi, hz0, hz1, hz2⟩ := info_parts antInfoS
  have HS : Hid (∀ (W : World), CurAt W g B nb cb bs a s → Calls Try.prog 43 #[.pointer (some ⟨g, 0, none⟩), .int .i64 8] W fun e w' => ∃ L A n c, e = .returned (.agg #[.int .i64 L, .slice A n c]) ∧ (4 ≤ L ∧ L ≤ 42) ∧ Took W w' g nb cb B bs a 200 ∧ ∃ l, l.length ≤ 8 ∧ n = l.length ∧ SlOwn pairS w' W.heap.size 42 (.slice A n c) l) := fun W h => sureRod_any g nb cb B bs a s W h (by omega)
  have HPR : Hid (∀ (m n : Int) (W : World) (rb : Nat) (L : Int) (A : Option Addr) (c : Nat) (l : List (Int × Int)), RodOn w W g nb cb B bs m rb L A c l → m ≤ 1099511626000 → -1000000 ≤ n → n ≤ 1000000 → Calls Try.prog 40 #[.pointer (some ⟨g, 0, none⟩), .int .i64 n] W fun e w' => ∃ v, e = .returned (.int .i64 v) ∧ 0 ≤ v ∧ (v = 0 ∨ v < n) ∧ RodOn w w' g nb cb B bs (m + 2) rb L A c l ∧ W.grownBy w' (some g)) := fun m n W rb L A c l h hm hn0 hn => by
    obtain ⟨a, s, hc, ha⟩ := h.cur
    refine (pick_any g nb cb B bs a s n W hc (by omega) hn0 hn).mono ?_
    rintro e w' ⟨v, rfl, v0, v1, ht⟩
    exact ⟨v, rfl, v0, v1, h.took ha ht, ht.grown⟩
  have HAM : Hid (∀ (m : Int) (W : World) (rb : Nat) (L : Int) (A : Option Addr) (c : Nat) (l : List (Int × Int)) (A2 : Option Addr) (c2 : Nat) (xs : List Int), RodOn w W g nb cb B bs m rb L A c l → m ≤ 1099511626000 → SlAt intS W A2 xs → 1 ≤ xs.length → xs.length ≤ 1000 → (∀ x, A2 = some x → g ≠ x.block) → Calls Try.prog 44 #[.pointer (some ⟨g, 0, none⟩), .slice A2 xs.length c2] W fun e w' => ∃ v, e = .returned (.int .i64 v) ∧ RodOn w w' g nb cb B bs (m + 2) rb L A c l ∧ W.grownBy w' (some g)) := fun m W rb L A c l A2 c2 xs h hm hA h1 h2 hg => by
    obtain ⟨a, s, hc, ha⟩ := h.cur
    refine (among_any g nb cb B bs a s A2 c2 xs W hc (by omega) hA h1 h2 hg).mono ?_
    rintro e w' ⟨v, rfl, ht⟩
    exact ⟨v, rfl, h.took ha ht, ht.grown⟩
  have HC := Lib.hid h
  have HL := Lib.hid h.place
  have hg := h.lt
  clear h
  go_enter Try.func23, Try.ntmps23
  go_wp2_with fail
  refine (HS.out _ (HC.out.kept ((Below.refl _ _).alloc (Nat.le_refl _) _))).mono ?_
  rintro e w1 ⟨L, A, n, c, rfl, hL, ⟨⟨a1, s1, hc1, ha1⟩, hg1⟩, l, hl, rfl, ho1⟩
  have hs1 : w.heap.size + 1 ≤ w1.heap.size := by have := hg1.size; simpa using this
  have hR : RodOn w (w1.alloc (Obj.cells #[Value.int IntKind.i64 L, Value.slice A l.length c] 26)) g nb cb B bs (a + 200) w1.heap.size L A c l := by
    have h2 : w1.heap[w.heap.size]? = (w.alloc (Obj.cells #[Value.int IntKind.i64 0, Value.slice none 0 0] 26)).heap[w.heap.size]? := hg1.block _ (by simp) (fun e => by injection e with e; omega)
    have hb : Below w1.heap.size w1 (w1.alloc (Obj.cells #[Value.int IntKind.i64 L, Value.slice A l.length c] 26)) := (Below.refl _ _).alloc (Nat.le_refl _) _
    have r0 : w1.cell? ⟨w.heap.size, 0, none⟩ = some (.int .i64 0) := (cell_of_block h2 0).trans (by simp [go_sem])
    have r1 : w1.cell? ⟨w.heap.size, 1, none⟩ = some (.slice none 0 0) := (cell_of_block h2 1).trans (by simp [go_sem])
    have f0 : w1.frozen? ⟨w.heap.size, 0, none⟩ = false := (frozen_of_block h2 0).trans (by simp [go_sem])
    have f1 : w1.frozen? ⟨w.heap.size, 1, none⟩ = false := (frozen_of_block h2 1).trans (by simp [go_sem])
    have ho : SlOwn pairS w1 (w.heap.size + 1) 42 (.slice A l.length c) l := by simpa using ho1
    exact ⟨⟨a1, s1, hc1.kept hb, by omega⟩, ((Turn.of_below ((Below.refl _ _).alloc (Nat.le_refl _) _)).trans (Turn.of_grown hg1 (by simp))).trans (Turn.of_below (hb.mono (by omega))), by simp, by simp [go_sem], by simp [go_sem], by simp [go_sem],
      Below.cell_some hb r0, Below.cell_some hb r1, (hb.frozen (p := ⟨w.heap.size, 0, none⟩) (by show w.heap.size < _; omega)).trans f0, (hb.frozen (p := ⟨w.heap.size, 1, none⟩) (by show w.heap.size < _; omega)).trans f1,
      ho.below hb, fun k hk => by have := (World.ownsRow.lt ho k hk).2; omega, hg, by omega, by simp, HL.out⟩
  have HR := Lib.hid hR
  clear hc1 hR hg1 ho1
  go_wp2_with fail
  refine (HPR.out _ _ _ _ _ _ _ _ HR.out (by omega) (by omega) (by omega)).mono ?_
  rintro e w2 ⟨v, rfl, v0, v1, hR2, _⟩
  have HR2 := Lib.hid hR2
  obtain ⟨_, _, o0, o1, q0, q1, r0, r1, f0, f1, _, _, _, lt1, lt2, _⟩ := id hR2
  clear hR2 HR
  generalize w1.heap.size = rb at *
  have hgw : g < w2.heap.size := by omega
  by_cases hv0 : v = 0
  · subst hv0
    go_wp2_with fail
    refine (HAM.out _ _ _ _ _ _ _ _ _ [-2, 0, 1, 3, 1000, 1002, 4611686018427387904] (HR2.out.below ((Below.refl _ _).alloc (Nat.le_refl _) _)) (by omega) (slAt_list (heap_new rfl)) (by decide) (by decide) (fun x hx => by injection hx with hx; subst hx; simp only; omega)).mono ?_
    rintro e w3 ⟨x, rfl, hR3, _⟩
    have HR3 := Lib.hid (hR3.len x)
    obtain ⟨_, _, o0, o1, q0, q1, r0, r1, f0, f1, _, _, _, lt1, lt2, _⟩ := id hR3
    clear hR3
    go_wp2
    refine bodyPost_ret (v := .agg #[.int .i64 x, .slice A l.length c]) (by simp [results, Try.results23, go_sem, r0, r1]) rfl ⟨x, A, l.length, c, rfl, (HR3.out.finish (by omega)).1, l, by omega, rfl, (HR3.out.finish (a := a) (M := 300) (by omega)).2⟩
  · by_cases hv1 : v = 1
    · subst hv1
      have hw2 : IntKind.i64.wrap (L + 2) = L + 2 := IntWalk.i64_in _ (by omega)
      have HA1 : Hid (∀ Q : Ending → World → Prop, (∀ x w3, RodOn w w3 g nb cb B bs (a + 204) rb L A c l → Q (.returned (.int .i64 x)) w3) → Calls Try.prog 44 #[.pointer (some ⟨g, 0, none⟩), .slice (some ⟨w2.heap.size, 0, none⟩) 6 6] (w2.alloc (Obj.cells #[.int .i64 0, .int .i64 2, .int .i64 3, .int .i64 L, .int .i64 (L + 2), .int .i64 (-2)] 3)).drew Q) := fun Q hQ => by
        refine (HAM.out _ _ _ _ _ _ _ _ _ [0, 2, 3, L, L + 2, -2] ((HR2.out.below ((Below.refl _ _).alloc (Nat.le_refl _) _)).below (Below.refl _ _).drew) (by omega) ((slAt_list (heap_new rfl)).below (Below.refl _ _).drew) (by simp) (by simp) (fun x hx => by injection hx with hx; subst hx; simp only; omega)).mono ?_
        rintro e w' ⟨x, rfl, hr, _⟩
        exact hQ x w' (hr.more (by omega))
      have HA1b : Hid (∀ Q : Ending → World → Prop, (∀ x w3, RodOn w w3 g nb cb B bs (a + 204) rb L A c l → w3.heap[w2.heap.size + 1]? = some (Obj.cells #[.int .i64 1, .int .i64 (-1), .int .i64 0, .int .i64 2] 3) → Q (.returned (.int .i64 x)) w3) → Calls Try.prog 44 #[.pointer (some ⟨g, 0, none⟩), .slice (some ⟨w2.heap.size, 0, none⟩) 6 6] ((w2.alloc (Obj.cells #[.int .i64 0, .int .i64 2, .int .i64 3, .int .i64 L, .int .i64 (L + 2), .int .i64 (-2)] 3)).alloc (Obj.cells #[.int .i64 1, .int .i64 (-1), .int .i64 0, .int .i64 2] 3)).drew Q) := fun Q hQ => by
        refine (HAM.out _ _ _ _ _ _ _ _ _ [0, 2, 3, L, L + 2, -2] (((HR2.out.below ((Below.refl _ _).alloc (Nat.le_refl _) _)).below ((Below.refl _ _).alloc (Nat.le_refl _) _)).below (Below.refl _ _).drew) (by omega) (((slAt_list (heap_new rfl)).alloc _).below (Below.refl _ _).drew) (by simp) (by simp) (fun x hx => by injection hx with hx; subst hx; simp only; omega)).mono ?_
        rintro e w' ⟨x, rfl, hr, hg⟩
        refine hQ x w' (hr.more (by omega)) ((hg.block (w2.heap.size + 1) (by simp) (fun e => by injection e with e; omega)).trans ?_)
        have : ((w2.alloc (Obj.cells #[.int .i64 0, .int .i64 2, .int .i64 3, .int .i64 L, .int .i64 (L + 2), .int .i64 (-2)] 3)).alloc (Obj.cells #[.int .i64 1, .int .i64 (-1), .int .i64 0, .int .i64 2] 3)).heap[(w2.alloc (Obj.cells #[.int .i64 0, .int .i64 2, .int .i64 3, .int .i64 L, .int .i64 (L + 2), .int .i64 (-2)] 3)).heap.size]? = some (Obj.cells #[.int .i64 1, .int .i64 (-1), .int .i64 0, .int .i64 2] 3) := heap_new rfl
        rw [alloc_sz] at this
        exact this
      have HA1c : Hid (∀ Q : Ending → World → Prop, (∀ x w3, RodOn w w3 g nb cb B bs (a + 204) rb L A c l → w3.heap[w2.heap.size]? = some (Obj.cells #[.int .i64 1, .int .i64 (-1), .int .i64 0, .int .i64 2] 3) → Q (.returned (.int .i64 x)) w3) → Calls Try.prog 44 #[.pointer (some ⟨g, 0, none⟩), .slice (some ⟨w2.heap.size + 1, 0, none⟩) 6 6] ((w2.alloc (Obj.cells #[.int .i64 1, .int .i64 (-1), .int .i64 0, .int .i64 2] 3)).alloc (Obj.cells #[.int .i64 0, .int .i64 2, .int .i64 3, .int .i64 L, .int .i64 (L + 2), .int .i64 (-2)] 3)).drew Q) := fun Q hQ => by
        have hsl : SlAt intS ((w2.alloc (Obj.cells #[.int .i64 1, .int .i64 (-1), .int .i64 0, .int .i64 2] 3)).alloc (Obj.cells #[.int .i64 0, .int .i64 2, .int .i64 3, .int .i64 L, .int .i64 (L + 2), .int .i64 (-2)] 3)).drew (some ⟨w2.heap.size + 1, 0, none⟩) [0, 2, 3, L, L + 2, -2] := by
          have h1 : SlAt intS ((w2.alloc (Obj.cells #[.int .i64 1, .int .i64 (-1), .int .i64 0, .int .i64 2] 3)).alloc (Obj.cells #[.int .i64 0, .int .i64 2, .int .i64 3, .int .i64 L, .int .i64 (L + 2), .int .i64 (-2)] 3)) (some ⟨(w2.alloc (Obj.cells #[.int .i64 1, .int .i64 (-1), .int .i64 0, .int .i64 2] 3)).heap.size, 0, none⟩) [0, 2, 3, L, L + 2, -2] := slAt_list (heap_new rfl)
          have h2 := h1.below (Below.refl _ _).drew
          simpa using h2
        refine (HAM.out _ _ _ _ _ _ _ _ _ [0, 2, 3, L, L + 2, -2] (((HR2.out.below ((Below.refl _ _).alloc (Nat.le_refl _) _)).below ((Below.refl _ _).alloc (Nat.le_refl _) _)).below (Below.refl _ _).drew) (by omega) hsl (by simp) (by simp) (fun x hx => by injection hx with hx; subst hx; simp only; omega)).mono ?_
        rintro e w' ⟨x, rfl, hr, hg⟩
        refine hQ x w' (hr.more (by omega)) ((hg.block w2.heap.size (by simp; omega) (fun e => by injection e with e; omega)).trans ?_)
        have h1 : (w2.alloc (Obj.cells #[.int .i64 1, .int .i64 (-1), .int .i64 0, .int .i64 2] 3)).heap[w2.heap.size]? = some (Obj.cells #[.int .i64 1, .int .i64 (-1), .int .i64 0, .int .i64 2] 3) := heap_new rfl
        exact (((Below.refl _ _).alloc (Nat.le_refl _) (Obj.cells #[.int .i64 0, .int .i64 2, .int .i64 3, .int .i64 L, .int .i64 (L + 2), .int .i64 (-2)] 3)).block _ (by simp)).trans h1
      have HA2b : Hid (∀ W b, RodOn w W g nb cb B bs (a + 204) rb L A c l → W.heap[b]? = some (Obj.cells #[.int .i64 1, .int .i64 (-1), .int .i64 0, .int .i64 2] 3) → g < b → ∀ Q : Ending → World → Prop, (∀ x w3, RodOn w w3 g nb cb B bs (a + 206) rb L A c l → Q (.returned (.int .i64 x)) w3) → Calls Try.prog 44 #[.pointer (some ⟨g, 0, none⟩), .slice (some ⟨b, 0, none⟩) 4 4] W Q) := fun W b hW hb hgb Q hQ => by
        refine (HAM.out _ _ _ _ _ _ _ _ _ [1, -1, 0, 2] hW (by omega) (slAt_list hb) (by simp) (by simp) (fun x hx => by injection hx with hx; subst hx; simp only; omega)).mono ?_
        rintro e w' ⟨x, rfl, hr, _⟩
        exact hQ x w' (hr.more (by omega))
      have HA2 : Hid (∀ W, RodOn w W g nb cb B bs (a + 204) rb L A c l → ∀ Q : Ending → World → Prop, (∀ x w3, RodOn w w3 g nb cb B bs (a + 206) rb L A c l → Q (.returned (.int .i64 x)) w3) → Calls Try.prog 44 #[.pointer (some ⟨g, 0, none⟩), .slice (some ⟨W.heap.size, 0, none⟩) 4 4] (W.alloc (Obj.cells #[.int .i64 1, .int .i64 (-1), .int .i64 0, .int .i64 2] 3)) Q) := fun W hW Q hQ => by
        have hgW : g < W.heap.size := by have h1 := hW.lt0; have h2 := hW.lt1; have h3 := hW.lt2; omega
        refine (HAM.out _ _ _ _ _ _ _ _ _ [1, -1, 0, 2] (hW.below ((Below.refl _ _).alloc (Nat.le_refl _) _)) (by omega) (slAt_list (heap_new rfl)) (by simp) (by simp) (fun x hx => by injection hx with hx; subst hx; simp only; omega)).mono ?_
        rintro e w' ⟨x, rfl, hr, _⟩
        exact hQ x w' (hr.more (by omega))
      go_wp2
      go_region_law (first
        | (refine step_append_slsw pairS _ rfl _ _ 24 rfl (w.heap.size + 1) 42 i0 _ 16 Try.underlying24 hi hz0 hz1 hz2 rfl (by decide) (.slice A l.length c) l rfl (HR4.out.below ((Below.refl _ _).alloc (Nat.le_refl _) _)).own _ 1 1 [(x, y)] rfl rfl (slAt_one (heap_new rfl)) (by simp only [List.length_cons, List.length_nil]; omega) (by have h1 := HR4.out.lt1; have h2 := HR4.out.lt2; simp; omega) ?_; intro A6 n6 c6 w6 ho6 hg6 hd6; have HN6 := Lib.hid (own_len' ho6); have hbk := hg6.block rb (by have h2 := HR4.out.lt2; simp; omega) (fun e => HR4.out.dist rb e.symm rfl); have HR5 := Lib.hid (HR4.out.below ((Below.refl _ _).alloc (Nat.le_refl _) (Obj.cells #[.int .i64 x, .int .i64 y] 42))); have o0 := (cell_of_block hbk 0).trans HR5.out.o0; have o1 := (cell_of_block hbk 1).trans HR5.out.o1; have q0 := (frozen_of_block hbk 0).trans HR5.out.q0; have q1 := (frozen_of_block hbk 1).trans HR5.out.q1; have HO6 := Lib.hid ho6; have HG6 := Lib.hid hg6; have HD6 := Lib.hid hd6; clear ho6 hg6 hd6 hbk)
        | (go_simp; go_at_call 44; with_reducible refine HA2.out _ HR3.out _ ?_; intro y w4 hR4; have HR4 := Lib.hid hR4; have o0 := hR4.o0; have o1 := hR4.o1; have q0 := hR4.q0; have q1 := hR4.q1; have t4 := hR4.lt2; have s2 := alloc_some o1 (Obj.cells #[.int .i64 x, .int .i64 y] 42); clear hR4)
        | (go_simp; go_at_call 44; with_reducible refine HA2b.out _ _ HR3.out HB3.out (by omega) _ ?_; intro y w4 hR4; have HR4 := Lib.hid hR4; have o0 := hR4.o0; have o1 := hR4.o1; have q0 := hR4.q0; have q1 := hR4.q1; have t4 := hR4.lt2; have s2 := alloc_some o1 (Obj.cells #[.int .i64 x, .int .i64 y] 42); clear hR4)
        | (go_simp; go_at_call 44; with_reducible refine HA1b.out _ ?_; intro x w3 hR3 hB3; have HR3 := Lib.hid hR3; have HB3 := Lib.hid hB3; have o0 := hR3.o0; have o1 := hR3.o1; have q0 := hR3.q0; have q1 := hR3.q1; have t3 := hR3.lt2; have s1 := alloc_some o1 (Obj.cells #[.int .i64 1, .int .i64 (-1), .int .i64 0, .int .i64 2] 3); clear hR3 hB3)
        | (go_simp; go_at_call 44; with_reducible refine HA1c.out _ ?_; intro x w3 hR3 hB3; have HR3 := Lib.hid hR3; have HB3 := Lib.hid hB3; have o0 := hR3.o0; have o1 := hR3.o1; have q0 := hR3.q0; have q1 := hR3.q1; have t3 := hR3.lt2; have s1 := alloc_some o1 (Obj.cells #[.int .i64 1, .int .i64 (-1), .int .i64 0, .int .i64 2] 3); clear hR3 hB3)
        | (go_simp; go_at_call 44; with_reducible refine HA1.out _ ?_; intro x w3 hR3; have HR3 := Lib.hid hR3; have o0 := hR3.o0; have o1 := hR3.o1; have q0 := hR3.q0; have q1 := hR3.q1; have t3 := hR3.lt2; have s1 := alloc_some o1 (Obj.cells #[.int .i64 1, .int .i64 (-1), .int .i64 0, .int .i64 2] 3); clear hR3))
      all_goals (
        have HML : Hid ((l ++ [(x, y)]).length = l.length + 1) := Lib.hid (by simp)
        have hn6 := HN6.out
        generalize l ++ [(x, y)] = q at *
        subst hn6
        have HR7 := Lib.hid (HR5.out.grow HO6.out HG6.out HD6.out)
        obtain ⟨_, _, _, _, _, _, r0, r1, f0, f1, _, _, _, lt1, lt2, _⟩ := id HR7.out
        go_wp2
        refine bodyPost_ret (v := .agg #[.int .i64 L, .slice A6 q.length c6]) (by simp [results, Try.results23, go_sem, r0, r1]) rfl ⟨L, A6, q.length, c6, rfl, (HR7.out.finish (by omega)).1, q, by have := HML.out; omega, rfl, (HR7.out.finish (a := a) (M := 300) (by omega)).2⟩)
    · by_cases hv2 : v = 2
      · subst hv2
        have hR3 := (HR2.out.len 1000).put (A' := none) (c' := 0) (l' := []) (SlOwn.nil pairS _ _ _) (fun k hk => by cases hk)
        have HR3 := Lib.hid hR3
        clear hR3
        go_wp2
        go_loopw [4] (fun _ wr => ∃ (A3 : Option Addr) (c3 : Nat) (t : List (Int × Int)), t.length ≤ 16 ∧ RodOn w wr g nb cb B bs (a + 202 + 2 * t.length) rb 1000 A3 c3 t)
          (fun _ W => 16 - lenC (W.cell? ⟨rb, 1, none⟩))
        case atStart => exact ⟨none, 0, [], by simp, HR3.out.more (by simp; omega)⟩
        case round =>
          obtain ⟨A3, c3, t, ht, hR4⟩ := hrel
          have HR4 := Lib.hid hR4
          obtain ⟨_, _, o0, o1, q0, q1, r0, r1, f0, f1, _, _, _, lt1, lt2, _⟩ := id hR4
          clear hR4
          by_cases hlt : t.length < 16
          · have hlt' : (t.length : Int) < 16 := by omega
            go_wp2_with fail
            refine (HPR.out _ _ _ _ _ _ _ _ HR4.out (by omega) (by omega) (by omega)).mono ?_
            rintro e w5 ⟨u, rfl, u0, u1, hR5, _⟩
            have HR5 := Lib.hid hR5
            have hR5a := hR5.below ((Below.refl _ _).alloc (Nat.le_refl _) (Obj.cells #[.int .i64 (60 * t.length), .int .i64 (2 * u - 1)] 42))
            have HR5a := Lib.hid hR5a
            have O1 := Lib.hid o1
            obtain ⟨_, _, o0, o1, q0, q1, r0, r1, f0, f1, _, _, _, lt1, lt2, _⟩ := id hR5
            clear hR5 hR5a
            go_wp2_with (at_builtin; go_must (refine wpList_append_slsw pairS _ rfl _ _ 24 rfl (w.heap.size + 1) 42 i0 _ 16 Try.underlying24 hi hz0 hz1 hz2 rfl (by decide) (.slice A3 t.length c3) t rfl HR5a.out.own _ 1 1 [(60 * (t.length : Int), 2 * u - 1)] rfl rfl (slAt_one (heap_new rfl)) (by simp only [List.length_cons, List.length_nil]; omega) (by simp; omega) ?_); intro A6 n6 c6 w6 ho6 hg6 hd6; have HN6 := Lib.hid (own_len' ho6); have hbk := hg6.block rb (by simp; omega) (fun e => HR5.out.dist rb e.symm rfl); have o0 := (cell_of_block hbk 0).trans HR5a.out.o0; have o1 := (cell_of_block hbk 1).trans HR5a.out.o1; have q0 := (frozen_of_block hbk 0).trans HR5a.out.q0; have q1 := (frozen_of_block hbk 1).trans HR5a.out.q1; have HO6 := Lib.hid ho6; have HG6 := Lib.hid hg6; have HD6 := Lib.hid hd6; clear ho6 hg6 hd6 hbk)
            go_roundw
            case rel =>
              have hn6 := HN6.out
              subst hn6
              exact ⟨A6, c6, t ++ [(60 * (t.length : Int), 2 * u - 1)], by simp; omega, (HR5a.out.grow HO6.out HG6.out HD6.out).more (by simp; omega)⟩
            case measure =>
              rw [O1.out]
              have hn6 := HN6.out
              simp only [List.length_append, List.length_cons, List.length_nil] at hn6
              simp [lenC, go_sem, o1]
              omega
          · have hlt' : ¬ (t.length : Int) < 16 := by omega
            go_wp2
            refine bodyPost_ret (v := .agg #[.int .i64 1000, .slice A3 t.length c3]) (by simp [results, Try.results23, go_sem, r0, r1]) rfl ⟨1000, A3, t.length, c3, rfl, (HR4.out.finish (by omega)).1, t, by omega, rfl, (HR4.out.finish (a := a) (M := 300) (by omega)).2⟩
      · have e0 : (v == 0) = false := beq_eq_false_iff_ne.2 hv0
        have e1 : (v == 1) = false := beq_eq_false_iff_ne.2 hv1
        have e2 : (v == 2) = false := beq_eq_false_iff_ne.2 hv2
        go_wp2
        refine bodyPost_ret (v := .agg #[.int .i64 L, .slice A l.length c]) (by simp [results, Try.results23, go_sem, r0, r1]) rfl ⟨L, A, l.length, c, rfl, (HR2.out.finish (by omega)).1, l, by omega, rfl, (HR2.out.finish (a := a) (M := 300) (by omega)).2⟩
end Go.Proofs.Ythfacfoclekcbaa
