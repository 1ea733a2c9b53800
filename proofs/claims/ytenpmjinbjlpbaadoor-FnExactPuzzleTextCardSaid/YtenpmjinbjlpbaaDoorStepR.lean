/- Appends inside a region that draws its order; parts of slices. -/
import Derived.Test.YtenpmjinbjlpbaaDoorSl
import Derived.Deep.RegionHeld3
namespace Go.Proofs.YtenpmjinbjlpbaaDoor
open Go.RowKit

theorem step_append_sls {α : Type} (S : Shape α) {P : Program} (w : World) {ops : Array Oper} {o : Oper} {a : Act} {K : Act → World → Prop} {Q : Exit → Act → World → Prop} {E : Prop} (hgd : o.guard = none) (s x : Operand) (t : TypeId)
    (ho : o.op = .call { callee := .builtin .append, args := #[s, x], argTypes := #[t, t] })
    (B : Nat) (e : TypeId) (i : TypeInfo) (z : Value) (bytes : Nat) (ht : P.underlying t = some (.slice e)) (hi : P.info? e = some i) (hz : i.zero = some z)
    (hsize : i.size = S.size) (hby : i.bytes = bytes) (hzs : z.cells.size = S.size) (hB64 : bytes ≤ 64)
    (v : Value) (l : List α) (hs : a.eval s = v) (hown : SlOwn S w B e v l)
    (A : Option Addr) (n c : Nat) (m : List α) (hx : a.eval x = .slice A n c) (hn : n = m.length) (hm : SlAt S w A m)
    (hlen : l.length + m.length ≤ 1048576) (hbase : B ≤ w.heap.size)
    (h : ∀ A' c' w', SlOwn S w' B e (.slice A' (l ++ m).length c') (l ++ m) → Below B w w' → K (a.put o.dst (.slice A' (l ++ m).length c')) w') :
    if Region.wanted o (yielded ops a.tmps) = true then Oper.wp P o a w K Q else E := by
  subst hn
  have hw : Region.wanted o (yielded ops a.tmps) = true := by simp [Region.wanted, hgd]
  rw [if_pos hw]
  have hlt := World.ownsRow.lt hown
  cases A with
  | none =>
    have hm0 : m = [] := by
      rcases hm with hm | ⟨_, _, hm, _⟩
      · exact hm
      · cases hm
    subst hm0
    have hrun : (Builtin.append_ #[t, t] o.type #[v, .slice none 0 c]).run P w = .ok v w := by
      rcases hown.2 with ⟨rfl, _⟩ | ⟨g, cap, cur, rfl, _, _, hnc, _⟩
      · simp [Builtin.append_, run_underlying ht, sizeOf, typeInfo, hi, Builtin.lenOf, Builtin.firstCells]
      · simp [Builtin.append_, run_underlying ht, sizeOf, typeInfo, hi, Builtin.lenOf, Builtin.firstCells, hnc, storeCells]
    obtain ⟨A', c', hv, _, _⟩ := hown.form
    subst hv
    unfold Oper.wp
    simp only [List.length_nil] at hx
    simp [execOp, ho, resolve, invoke, builtin, hs, hx, hrun, Result.andThen]
    have := h A' c' w (by rw [List.append_nil]; exact hown) (Below.refl _ _)
    rwa [List.append_nil] at this
  | some ad =>
    refine wp_append_own w s x t ho B e i z S.size bytes ht hi hz hsize hby hzs S.pos v l.length (S.row l) hs hown ad m.length c (S.row m) hx (S.row_length m) hm.cells_at (S.row_oneCell m)
      (by unfold maxLen; omega) (by have : (l.length + m.length) * bytes ≤ 1048576 * 64 := Nat.mul_le_mul hlen hB64; omega) hbase ?_
    intro v' w' h2 h3 _
    have h4 : SlOwn S w' B e v' (l ++ m) := by
      show World.ownsRow _ _ _ _ _ _ _
      rw [List.length_append, S.row_append]
      exact h2
    obtain ⟨A', c', rfl, _, _⟩ := h4.form
    exact h A' c' w' h4 ((Below.refl _ _).grown h3 hbase (fun k hk => (hlt k hk).1))

theorem step_append_slsg {α : Type} (S : Shape α) {P : Program} (w : World) {ops : Array Oper} {o : Oper} {a : Act} {K : Act → World → Prop} {Q : Exit → Act → World → Prop} {E : Prop} (hgd : o.guard = none) (s x : Operand) (t : TypeId)
    (ho : o.op = .call { callee := .builtin .append, args := #[s, x], argTypes := #[t, t] })
    (B : Nat) (e : TypeId) (i : TypeInfo) (z : Value) (bytes : Nat) (ht : P.underlying t = some (.slice e)) (hi : P.info? e = some i) (hz : i.zero = some z)
    (hsize : i.size = S.size) (hby : i.bytes = bytes) (hzs : z.cells.size = S.size) (hB64 : bytes ≤ 64)
    (v : Value) (l : List α) (hs : a.eval s = v) (hown : SlOwn S w B e v l)
    (A : Option Addr) (n c : Nat) (m : List α) (hx : a.eval x = .slice A n c) (hn : n = m.length) (hm : SlAt S w A m)
    (hlen : l.length + m.length ≤ 1048576) (hbase : B ≤ w.heap.size)
    (h : ∀ A' c' w', SlOwn S w' B e (.slice A' (l ++ m).length c') (l ++ m) → Below B w w' → w.grownBy w' v.ownBlock → K (a.put o.dst (.slice A' (l ++ m).length c')) w') :
    if Region.wanted o (yielded ops a.tmps) = true then Oper.wp P o a w K Q else E := by
  subst hn
  have hw : Region.wanted o (yielded ops a.tmps) = true := by simp [Region.wanted, hgd]
  rw [if_pos hw]
  have hlt := World.ownsRow.lt hown
  cases A with
  | none =>
    have hm0 : m = [] := by
      rcases hm with hm | ⟨_, _, hm, _⟩
      · exact hm
      · cases hm
    subst hm0
    have hrun : (Builtin.append_ #[t, t] o.type #[v, .slice none 0 c]).run P w = .ok v w := by
      rcases hown.2 with ⟨rfl, _⟩ | ⟨g, cap, cur, rfl, _, _, hnc, _⟩
      · simp [Builtin.append_, run_underlying ht, sizeOf, typeInfo, hi, Builtin.lenOf, Builtin.firstCells]
      · simp [Builtin.append_, run_underlying ht, sizeOf, typeInfo, hi, Builtin.lenOf, Builtin.firstCells, hnc, storeCells]
    obtain ⟨A', c', hv, _, _⟩ := hown.form
    subst hv
    unfold Oper.wp
    simp only [List.length_nil] at hx
    simp [execOp, ho, resolve, invoke, builtin, hs, hx, hrun, Result.andThen]
    have := h A' c' w (by rw [List.append_nil]; exact hown) (Below.refl _ _) ⟨rfl, rfl, rfl, Nat.le_refl _, fun _ _ _ => rfl⟩
    rwa [List.append_nil] at this
  | some ad =>
    refine wp_append_own w s x t ho B e i z S.size bytes ht hi hz hsize hby hzs S.pos v l.length (S.row l) hs hown ad m.length c (S.row m) hx (S.row_length m) hm.cells_at (S.row_oneCell m)
      (by unfold maxLen; omega) (by have : (l.length + m.length) * bytes ≤ 1048576 * 64 := Nat.mul_le_mul hlen hB64; omega) hbase ?_
    intro v' w' h2 h3 _
    have h4 : SlOwn S w' B e v' (l ++ m) := by
      show World.ownsRow _ _ _ _ _ _ _
      rw [List.length_append, S.row_append]
      exact h2
    obtain ⟨A', c', rfl, _, _⟩ := h4.form
    exact h A' c' w' h4 ((Below.refl _ _).grown h3 hbase (fun k hk => (hlt k hk).1)) h3

/-- the same, the new length under a name of its own -/
theorem step_append_slsv {α : Type} (S : Shape α) {P : Program} (w : World) {ops : Array Oper} {o : Oper} {a : Act} {K : Act → World → Prop} {Q : Exit → Act → World → Prop} {E : Prop} (hgd : o.guard = none) (s x : Operand) (t : TypeId)
    (ho : o.op = .call { callee := .builtin .append, args := #[s, x], argTypes := #[t, t] })
    (B : Nat) (e : TypeId) (i : TypeInfo) (z : Value) (bytes : Nat) (ht : P.underlying t = some (.slice e)) (hi : P.info? e = some i) (hz : i.zero = some z)
    (hsize : i.size = S.size) (hby : i.bytes = bytes) (hzs : z.cells.size = S.size) (hB64 : bytes ≤ 64)
    (v : Value) (l : List α) (hs : a.eval s = v) (hown : SlOwn S w B e v l)
    (A : Option Addr) (n c : Nat) (m : List α) (hx : a.eval x = .slice A n c) (hn : n = m.length) (hm : SlAt S w A m)
    (hlen : l.length + m.length ≤ 1048576) (hbase : B ≤ w.heap.size)
    (h : ∀ A' n' c' w', n' = (l ++ m).length → SlOwn S w' B e (.slice A' n' c') (l ++ m) → Below B w w' → w.grownBy w' v.ownBlock → K (a.put o.dst (.slice A' n' c')) w') :
    if Region.wanted o (yielded ops a.tmps) = true then Oper.wp P o a w K Q else E :=
  step_append_slsg S w hgd s x t ho B e i z bytes ht hi hz hsize hby hzs hB64 v l hs hown A n c m hx hn hm hlen hbase fun A' c' w' h1 h2 h3 => h A' _ c' w' rfl h1 h2 h3

theorem wpList_append_slsv {α : Type} (S : Shape α) {P : Program} (w : World) {ops : Array Oper} {rest : List Oper} {o : Oper} {a : Act} {Q : Exit → Act → World → Prop} (hgd : o.guard = none) (s x : Operand) (t : TypeId)
    (ho : o.op = .call { callee := .builtin .append, args := #[s, x], argTypes := #[t, t] })
    (B : Nat) (e : TypeId) (i : TypeInfo) (z : Value) (bytes : Nat) (ht : P.underlying t = some (.slice e)) (hi : P.info? e = some i) (hz : i.zero = some z)
    (hsize : i.size = S.size) (hby : i.bytes = bytes) (hzs : z.cells.size = S.size) (hB64 : bytes ≤ 64)
    (v : Value) (l : List α) (hs : a.eval s = v) (hown : SlOwn S w B e v l)
    (A : Option Addr) (n c : Nat) (m : List α) (hx : a.eval x = .slice A n c) (hn : n = m.length) (hm : SlAt S w A m)
    (hlen : l.length + m.length ≤ 1048576) (hbase : B ≤ w.heap.size)
    (h : ∀ A' n' c' w', n' = (l ++ m).length → SlOwn S w' B e (.slice A' n' c') (l ++ m) → Below B w w' → wpList P ops Q rest (a.put o.dst (.slice A' n' c')) w') : wpList P ops Q (o :: rest) a w := by
  subst hn
  exact wpList_append_sls S w hgd s x t ho B e i z bytes ht hi hz hsize hby hzs hB64 v l hs hown A c m hx hm hlen hbase fun A' c' w' h1 h2 => h A' _ c' w' rfl h1 h2

theorem own_cap {α : Type} {S : Shape α} {w : World} {B n c : Nat} {e : TypeId} {A : Option Addr} {l : List α} (h : SlOwn S w B e (.slice A n c) l) : n ≤ c := by
  rcases h.2 with ⟨h', _⟩ | ⟨g, cap, cur, hv, _, _, hnc, _⟩
  · simp only [Value.slice.injEq] at h'; omega
  · simp only [Value.slice.injEq] at hv; omega

theorem SlAt.take {α : Type} {S : Shape α} {w : World} {A : Option Addr} {l : List α} (h : SlAt S w A l) (k : Nat) : SlAt S w A (l.take k) := by
  rcases h with rfl | ⟨b, off, hA, hlt, h⟩
  · exact .inl (by simp)
  · refine .inr ⟨b, off, hA, hlt, fun j x hx => h j x ?_⟩
    rw [List.getElem?_take] at hx
    split at hx
    · exact hx
    · cases hx
theorem SlAt.drop {α : Type} {S : Shape α} {w : World} {b off : Nat} {l : List α} (h : SlAt S w (some ⟨b, off, none⟩) l) (k : Nat) : SlAt S w (some ⟨b, off + k * S.size, none⟩) (l.drop k) := by
  rcases h with rfl | ⟨b', off', hA, hlt, h⟩
  · exact .inl (by simp)
  · simp only [Option.some.injEq, Addr.mk.injEq, and_true] at hA
    obtain ⟨rfl, rfl⟩ := hA
    refine .inr ⟨_, _, rfl, hlt, fun j x hx i hi => ?_⟩
    rw [List.getElem?_drop] at hx
    rw [← h (k + j) x hx i hi, Nat.add_mul, Nat.add_assoc, Nat.add_assoc, Nat.add_assoc, Nat.add_assoc]

theorem SlAt.dropIf {w : World} {b off : Nat} {l : List (Int × Int)} (h : SlAt pairS w (some ⟨b, off, none⟩) l) (k c : Nat) (hc : l.length ≤ c) :
    SlAt pairS w (if c = k + 1 then some ⟨b, off, none⟩ else some ⟨b, off + (k + 1) * 2, none⟩) (l.drop (k + 1)) := by
  split
  · exact .inl (List.drop_eq_nil_of_le (by omega))
  · exact h.drop (k + 1)

theorem own_empty {α : Type} (S : Shape α) (w : World) (e : TypeId) : SlOwn S (w.alloc (.cells #[] e)) w.heap.size e (.slice (some ⟨w.heap.size, 0, none⟩) 0 0) [] :=
  ⟨by simp [Shape.row], .inr ⟨w.heap.size, 0, #[], rfl, Nat.le_refl _, heap_new rfl, Nat.le_refl _, by unfold maxLen; omega, by simp, by simp [Shape.row]⟩⟩

theorem own_empty_n {α : Type} (S : Shape α) (w : World) (e : TypeId) {n : Nat} (h : w.heap.size = n) : SlOwn S (w.alloc (.cells #[] e)) n e (.slice (some ⟨n, 0, none⟩) 0 0) [] := by
  subst h; exact own_empty S w e
theorem slAt_one {w : World} {g : Nat} {a y : Int} {e : TypeId} {m : Nat × Nat} (h : w.heap[g]? = some (.cells #[.int .i64 a, .int .i64 y] e m)) : SlAt pairS w (some ⟨g, 0, none⟩) [(a, y)] := by
  refine .inr ⟨g, 0, rfl, (Array.getElem?_eq_some_iff.1 h).1, fun k x hk j hj => ?_⟩
  cases k with
  | succ k => simp at hk
  | zero =>
    simp only [List.getElem?_cons_zero, Option.some.injEq] at hk
    subst hk
    simp only [Nat.zero_mul, Nat.zero_add]
    rw [cell_of_row w g j _ _ _ h, ← Array.getElem?_toList]
    rfl

theorem ret_rod {L L' : Int} {A : Option Addr} {n n' c : Nat} {b b' : Bool} (h1 : L = L') (h2 : n = n') (h3 : b = b') :
    Ending.returned (.tuple #[.agg #[.int .i64 L, .slice A n c], .bool b]) = .returned (.tuple #[.agg #[.int .i64 L', .slice A n' c], .bool b']) := by rw [h1, h2, h3]

theorem wpList_append_slsw {α : Type} (S : Shape α) {P : Program} (w : World) {ops : Array Oper} {rest : List Oper} {o : Oper} {a : Act} {Q : Exit → Act → World → Prop} (hgd : o.guard = none) (s x : Operand) (t : TypeId)
    (ho : o.op = .call { callee := .builtin .append, args := #[s, x], argTypes := #[t, t] })
    (B : Nat) (e : TypeId) (i : TypeInfo) (z : Value) (bytes : Nat) (ht : P.underlying t = some (.slice e)) (hi : P.info? e = some i) (hz : i.zero = some z)
    (hsize : i.size = S.size) (hby : i.bytes = bytes) (hzs : z.cells.size = S.size) (hB64 : bytes ≤ 64)
    (v : Value) (l : List α) (hs : a.eval s = v) (hown : SlOwn S w B e v l)
    (ad : Addr) (n c : Nat) (m : List α) (hx : a.eval x = .slice (some ad) n c) (hn : n = m.length) (hm : SlAt S w (some ad) m)
    (hlen : l.length + m.length ≤ 1048576) (hbase : B ≤ w.heap.size)
    (h : ∀ A' n' c' w', SlOwn S w' B e (.slice A' n' c') (l ++ m) → w.grownBy w' v.ownBlock → ((Value.slice A' n' c').ownBlock = v.ownBlock ∨ (Value.slice A' n' c').ownBlock = some w.heap.size) → wpList P ops Q rest (a.put o.dst (.slice A' n' c')) w') : wpList P ops Q (o :: rest) a w := by
  subst hn
  refine wpList_append_own_at w hgd s x t ho B e i z S.size bytes ht hi hz hsize hby hzs S.pos v l.length (S.row l) hs hown ad m.length c (S.row m) hx (S.row_length m) hm.cells_at (S.row_oneCell m)
    (by unfold maxLen; omega) (by have : (l.length + m.length) * bytes ≤ 1048576 * 64 := Nat.mul_le_mul hlen hB64; omega) hbase ?_
  intro v' w' h2 h3 _ h5
  have h4 : SlOwn S w' B e v' (l ++ m) := by
    show World.ownsRow _ _ _ _ _ _ _
    rw [List.length_append, S.row_append]
    exact h2
  obtain ⟨A', c', rfl, _, _⟩ := h4.form
  exact h A' _ c' w' h4 h3 h5
theorem SlAt.grown {α : Type} {S : Shape α} {w w' : World} {row : Option Nat} {A : Option Addr} {l : List α} (h : SlAt S w A l) (hg : w.grownBy w' row) (hne : ∀ a, A = some a → row ≠ some a.block) : SlAt S w' A l := by
  rcases h with h | ⟨b, off, rfl, hlt, h⟩
  · exact .inl h
  · refine .inr ⟨b, off, rfl, Nat.lt_of_lt_of_le hlt hg.size, fun k x hx j hj => ?_⟩
    have h1 := h k x hx j hj
    have hj' : j < (S.cells x).length := by rw [S.len]; exact hj
    rw [List.getElem?_eq_getElem hj'] at *
    exact hg.cell h1 (fun e => hne ⟨b, off, none⟩ rfl e.symm)

end Go.Proofs.YtenpmjinbjlpbaaDoor
