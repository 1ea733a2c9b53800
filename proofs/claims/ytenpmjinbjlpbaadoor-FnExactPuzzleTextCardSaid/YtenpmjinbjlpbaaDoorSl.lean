/- Slices of elements of one size, whatever the element: what is read, what the call owns; appends. No dump is read here. -/
import Derived.Test.YtenpmjinbjlpbaaDoorBase
import Derived.Maps.AppendAt
namespace Go.Proofs.YtenpmjinbjlpbaaDoor
open Go.RowKit

/-- How an element lies in cells. -/
structure Shape (α : Type) where
  size : Nat
  cells : α → List Value
  len : ∀ x, (cells x).length = size
  one : ∀ x, ∀ u ∈ cells x, u.oneCell' = true
  pos : 0 < size

section
variable {α : Type}
def Shape.row (S : Shape α) (l : List α) : List Value := l.flatMap S.cells
theorem Shape.row_nil (S : Shape α) : S.row [] = [] := rfl
theorem Shape.row_cons (S : Shape α) (x : α) (l : List α) : S.row (x :: l) = S.cells x ++ S.row l := rfl
theorem Shape.row_append (S : Shape α) (l m : List α) : S.row (l ++ m) = S.row l ++ S.row m := by simp [Shape.row]
theorem Shape.row_one (S : Shape α) (x : α) : S.row [x] = S.cells x := by simp [Shape.row]
theorem Shape.row_length (S : Shape α) (l : List α) : (S.row l).length = l.length * S.size := by
  induction l with
  | nil => simp [Shape.row]
  | cons x l ih => rw [Shape.row_cons, List.length_append, S.len, ih, List.length_cons, Nat.add_mul, Nat.one_mul, Nat.add_comm]
theorem Shape.row_at (S : Shape α) (l : List α) : ∀ k x, l[k]? = some x → ∀ j, j < S.size → (S.row l)[k * S.size + j]? = (S.cells x)[j]? := by
  induction l with
  | nil => intro k x h; simp at h
  | cons y l ih =>
    intro k x h j hj
    cases k with
    | zero =>
      simp only [List.getElem?_cons_zero, Option.some.injEq] at h
      subst h
      rw [Shape.row_cons, Nat.zero_mul, Nat.zero_add, List.getElem?_append_left (by rw [S.len]; exact hj)]
    | succ k =>
      simp only [List.getElem?_cons_succ] at h
      rw [Shape.row_cons, List.getElem?_append_right (by rw [S.len, Nat.add_mul]; omega), S.len,
        show (k + 1) * S.size + j - S.size = k * S.size + j by rw [Nat.add_mul]; omega]
      exact ih k x h j hj
theorem Shape.row_oneCell (S : Shape α) (l : List α) : ∀ u ∈ S.row l, u.oneCell' = true := by
  intro u hu
  simp only [Shape.row, List.mem_flatMap] at hu
  obtain ⟨x, _, hx⟩ := hu
  exact S.one x u hx

/-- What is read. -/
def SlAt (S : Shape α) (w : World) (A : Option Addr) (l : List α) : Prop :=
  l = [] ∨ ∃ b off, A = some ⟨b, off, none⟩ ∧ b < w.heap.size ∧ ∀ k x, l[k]? = some x → ∀ j, j < S.size → w.cell? ⟨b, off + k * S.size + j, none⟩ = (S.cells x)[j]?
theorem SlAt.below {S : Shape α} {w w' : World} {A : Option Addr} {l : List α} (h : SlAt S w A l) (hb : Below w.heap.size w w') : SlAt S w' A l := by
  rcases h with h | ⟨b, off, hA, hlt, h⟩
  · exact .inl h
  · exact .inr ⟨b, off, hA, Nat.lt_of_lt_of_le hlt hb.size, fun k x hk j hj => (hb.cell (p := ⟨b, off + k * S.size + j, none⟩) hlt).trans (h k x hk j hj)⟩
theorem SlAt.alloc {S : Shape α} {w : World} {A : Option Addr} {l : List α} (h : SlAt S w A l) (o : Obj) : SlAt S (w.alloc o) A l :=
  h.below ((Below.refl _ _).alloc (Nat.le_refl _) _)
theorem SlAt.at_ {S : Shape α} {w : World} {A : Option Addr} {l : List α} (h : SlAt S w A l) {k : Nat} (hk : k < l.length) :
    ∃ b off, A = some ⟨b, off, none⟩ ∧ b < w.heap.size ∧ ∀ k x, l[k]? = some x → ∀ j, j < S.size → w.cell? ⟨b, off + k * S.size + j, none⟩ = (S.cells x)[j]? := by
  rcases h with rfl | h
  · simp at hk
  · exact h

/-- What the call owns: from block B on, not frozen. -/
def SlOwn (S : Shape α) (w : World) (B : Nat) (e : TypeId) (v : Value) (l : List α) : Prop := w.ownsRow B e S.size v l.length (S.row l)
theorem SlOwn.nil (S : Shape α) (w : World) (B : Nat) (e : TypeId) : SlOwn S w B e (.slice none 0 0) [] := World.ownsRow_nil w B e S.size
theorem SlOwn.below {S : Shape α} {w w' : World} {B : Nat} {e : TypeId} {v : Value} {l : List α} (h : SlOwn S w B e v l) (hb : Below w.heap.size w w') : SlOwn S w' B e v l := ownsRow_below h hb
theorem SlOwn.base {S : Shape α} {w : World} {B B' : Nat} {e : TypeId} {v : Value} {l : List α} (h : SlOwn S w B e v l) (hB : B' ≤ B) : SlOwn S w B' e v l := ownsRow_base h hB
theorem SlOwn.form {S : Shape α} {w : World} {B : Nat} {e : TypeId} {v : Value} {l : List α} (h : SlOwn S w B e v l) :
    ∃ A c, v = .slice A l.length c ∧ SlAt S w A l ∧ (∀ a, A = some a → B ≤ a.block ∧ a.block < w.heap.size) := by
  have hl := World.ownsRow.lt h
  rcases h.2 with ⟨rfl, h0⟩ | ⟨g, cap, cur, rfl, hB, hg, hnc, hm, hs, ht⟩
  · have : l = [] := List.eq_nil_of_length_eq_zero h0
    subst this
    exact ⟨none, 0, rfl, .inl rfl, fun _ h => by cases h⟩
  · refine ⟨some ⟨g, 0, none⟩, cap, rfl, .inr ⟨g, 0, rfl, (hl g rfl).2, fun k x hk j hj => ?_⟩, fun a ha => ?_⟩
    · have hkl : k < l.length := (List.getElem?_eq_some_iff.1 hk).1
      have h1 : k * S.size + j < l.length * S.size := by
        have : (k + 1) * S.size ≤ l.length * S.size := Nat.mul_le_mul_right _ hkl
        rw [Nat.add_mul] at this
        omega
      rw [Nat.zero_add, World.ownsRow.cellAt h _ h1, S.row_at l k x hk j hj]
    · injection ha with ha
      subst ha
      exact hl g rfl
theorem SlOwn.sl {S : Shape α} {w : World} {B : Nat} {e : TypeId} {A : Option Addr} {n c : Nat} {l : List α} (h : SlOwn S w B e (.slice A n c) l) : SlAt S w A l := by
  obtain ⟨_, _, he, ha, _⟩ := h.form
  injection he with e1 _ _
  subst e1
  exact ha
theorem SlOwn.kept {S : Shape α} {w w' : World} {B : Nat} {e : TypeId} {v : Value} {l : List α} {row : Option Nat} (h : SlOwn S w B e v l) (hg : w.grownBy w' row) (hne : v.ownBlock = none ∨ v.ownBlock ≠ row) : SlOwn S w' B e v l :=
  World.ownsRow.kept h hg hne
end

/-- integers -/
def intS : Shape Int := ⟨1, fun x => [.int .i64 x], fun _ => rfl, fun _ u hu => by simp at hu; subst hu; rfl, by omega⟩
def boolS : Shape Bool := ⟨1, fun x => [.bool x], fun _ => rfl, fun _ u hu => by simp at hu; subst hu; rfl, by omega⟩
def pairS : Shape (Int × Int) := ⟨2, fun p => [.int .i64 p.1, .int .i64 p.2], fun _ => rfl, fun _ u hu => by simp at hu; rcases hu with rfl | rfl <;> rfl, by omega⟩
def tripS : Shape (Int × Int × Int) := ⟨3, fun p => [.int .i64 p.1, .int .i64 p.2.1, .int .i64 p.2.2], fun _ => rfl, fun _ u hu => by simp at hu; rcases hu with rfl | rfl | rfl <;> rfl, by omega⟩

theorem antsOwn_iff {w : World} {B : Nat} {e : TypeId} {v : Value} {l : List (Int × Int)} : AntsOwn w B e v l ↔ SlOwn pairS w B e v l := Iff.rfl
theorem antsAt_sl {w : World} {A : Option Addr} {l : List (Int × Int)} (h : AntsAt w A l) : SlAt pairS w A l := by
  rcases h with h | ⟨b, off, hA, h⟩
  · exact .inl h
  · cases l with
    | nil => exact .inl rfl
    | cons p l =>
      refine .inr ⟨b, off, hA, World.block_lt_of_cell? _ _ (h 0 (by simp)).1, fun k x hk j hj => ?_⟩
      have hkl : k < (p :: l).length := (List.getElem?_eq_some_iff.1 hk).1
      have hx : (p :: l).getD k (0, 0) = x := by rw [List.getD_eq_getElem?_getD, hk]; rfl
      obtain ⟨h0, h1⟩ := h k hkl
      rw [hx] at h0 h1
      have hj' : j < 2 := hj
      match j, hj' with
      | 0, _ => exact h0
      | 1, _ => exact h1
theorem slAt_ants {w : World} {A : Option Addr} {l : List (Int × Int)} (h : SlAt pairS w A l) : AntsAt w A l := by
  rcases h with h | ⟨b, off, hA, _, h⟩
  · exact .inl h
  · refine .inr ⟨b, off, hA, fun k hk => ?_⟩
    have hx : l[k]? = some (l.getD k (0, 0)) := by rw [List.getD_eq_getElem?_getD, List.getElem?_eq_getElem hk]; rfl
    exact ⟨h k _ hx 0 (by decide), h k _ hx 1 (by decide)⟩

/-- the cells of one integer, one triple -/
theorem SlAt.int_at {w : World} {A : Option Addr} {l : List Int} (h : SlAt intS w A l) {k : Nat} (hk : k < l.length) :
    ∃ b off, A = some ⟨b, off, none⟩ ∧ b < w.heap.size ∧ ∀ j x, l[j]? = some x → w.cell? ⟨b, off + j, none⟩ = some (.int .i64 x) := by
  obtain ⟨b, off, hA, hlt, hc⟩ := h.at_ hk
  exact ⟨b, off, hA, hlt, fun j x hx => by simpa [intS] using hc j x hx 0 (by decide)⟩
theorem SlAt.trip_at {w : World} {A : Option Addr} {l : List (Int × Int × Int)} (h : SlAt tripS w A l) {k : Nat} (hk : k < l.length) :
    ∃ b off, A = some ⟨b, off, none⟩ ∧ b < w.heap.size ∧ ∀ j x, l[j]? = some x → w.cell? ⟨b, off + j * 3, none⟩ = some (.int .i64 x.1) ∧ w.cell? ⟨b, off + j * 3 + 1, none⟩ = some (.int .i64 x.2.1) ∧ w.cell? ⟨b, off + j * 3 + 2, none⟩ = some (.int .i64 x.2.2) := by
  obtain ⟨b, off, hA, hlt, hc⟩ := h.at_ hk
  refine ⟨b, off, hA, hlt, fun j x hx => ?_⟩
  have h0 := hc j x hx 0 (by decide)
  have h1 := hc j x hx 1 (by decide)
  have h2 := hc j x hx 2 (by decide)
  exact ⟨by simpa [tripS] using h0, by simpa [tripS] using h1, by simpa [tripS] using h2⟩

theorem below_via {B : Nat} {w w3 w4 : World} {o : Obj} (b : Below B w w3) (hB : B ≤ w3.heap.size) (h : Below (w3.alloc o).heap.size (w3.alloc o) w4) : Below B w w4 :=
  b.trans (((Below.refl _ _).alloc hB o).trans (h.mono (by simp; omega)))
theorem heap_new {w : World} {o : Obj} {n : Nat} (h : w.heap.size = n) : (w.alloc o).heap[n]? = some o := by subst h; exact heap_alloc_new _ _

/-- 'out = append(out, y)': one element, laid by the call into a block of its own. -/
theorem wpList_append_sl {α : Type} (S : Shape α) {P : Program} (w : World) {ops : Array Oper} {rest : List Oper} {o : Oper} {a : Act} {Q : Exit → Act → World → Prop} (hgd : o.guard = none) (s x : Operand) (t : TypeId)
    (ho : o.op = .call { callee := .builtin .append, args := #[s, x], argTypes := #[t, t] })
    (B : Nat) (e : TypeId) (i : TypeInfo) (z : Value) (bytes : Nat) (ht : P.underlying t = some (.slice e)) (hi : P.info? e = some i) (hz : i.zero = some z)
    (hsize : i.size = S.size) (hby : i.bytes = bytes) (hzs : z.cells.size = S.size) (hB64 : bytes ≤ 64)
    (v : Value) (l : List α) (hs : a.eval s = v) (hown : SlOwn S w B e v l)
    (g : Nat) (y : α) (cs : Array Value) (e2 : TypeId) (m : Nat × Nat) (hx : a.eval x = .slice (some ⟨g, 0, none⟩) 1 1) (hy : w.heap[g]? = some (.cells cs e2 m)) (hcs : cs.toList = S.cells y)
    (hlen : l.length ≤ 1048576) (hbase : B ≤ w.heap.size)
    (h : ∀ A' c' w', SlOwn S w' B e (.slice A' (l ++ [y]).length c') (l ++ [y]) → Below B w w' → w.grownBy w' v.ownBlock → wpList P ops Q rest (a.put o.dst (.slice A' (l ++ [y]).length c')) w') : wpList P ops Q (o :: rest) a w := by
  have hlt := World.ownsRow.lt hown
  refine wpList_append_own w hgd s x t ho B e i z S.size bytes ht hi hz hsize hby hzs S.pos v l.length (S.row l) hs hown ⟨g, 0, none⟩ 1 1 (S.cells y) hx (by rw [S.len, Nat.one_mul]) ?_ (S.one y)
    (by unfold maxLen; omega) (by have : (l.length + 1) * bytes ≤ 1048577 * 64 := Nat.mul_le_mul (by omega) hB64; omega) hbase ?_
  · intro j u hu
    rw [Addr.add_lit, Nat.zero_add, cell_of_row w g j cs e2 m hy, ← Array.getElem?_toList, hcs]
    exact hu
  · intro v' w' h2 h3 _
    have h4 : SlOwn S w' B e v' (l ++ [y]) := by
      show World.ownsRow _ _ _ _ _ _ _
      rw [List.length_append, List.length_singleton, S.row_append, S.row_one]
      exact h2
    obtain ⟨A', c', rfl, _, _⟩ := h4.form
    exact h A' c' w' h4 ((Below.refl _ _).grown h3 hbase (fun k hk => (hlt k hk).1)) h3

theorem SlAt.cells_at {α : Type} {S : Shape α} {w : World} {a : Addr} {l : List α} (h : SlAt S w (some a) l) : ∀ j u, (S.row l)[j]? = some u → w.cell? (a.add j) = some u := by
  intro j u hu
  rcases h with rfl | ⟨b, off, ha, _, h⟩
  · simp [Shape.row] at hu
  · injection ha with ha
    subst ha
    have hj : j < l.length * S.size := by rw [← S.row_length]; exact (List.getElem?_eq_some_iff.1 hu).1
    have hk : j / S.size < l.length := Nat.div_lt_of_lt_mul (by rw [Nat.mul_comm]; exact hj)
    have hm : j % S.size < S.size := Nat.mod_lt _ S.pos
    have hx : l[j / S.size]? = some (l[j / S.size]'hk) := List.getElem?_eq_getElem hk
    have e : j / S.size * S.size + j % S.size = j := by rw [Nat.mul_comm]; exact Nat.div_add_mod j S.size
    have h1 := h _ _ hx _ hm
    have h2 := S.row_at l _ _ hx _ hm
    rw [e, hu] at h2
    rw [Addr.add_lit, show off + j = off + j / S.size * S.size + j % S.size by omega, h1, ← h2]

/-- 'out = append(out, xs...)', wherever xs lies; it may be nil. -/
theorem wpList_append_sls {α : Type} (S : Shape α) {P : Program} (w : World) {ops : Array Oper} {rest : List Oper} {o : Oper} {a : Act} {Q : Exit → Act → World → Prop} (hgd : o.guard = none) (s x : Operand) (t : TypeId)
    (ho : o.op = .call { callee := .builtin .append, args := #[s, x], argTypes := #[t, t] })
    (B : Nat) (e : TypeId) (i : TypeInfo) (z : Value) (bytes : Nat) (ht : P.underlying t = some (.slice e)) (hi : P.info? e = some i) (hz : i.zero = some z)
    (hsize : i.size = S.size) (hby : i.bytes = bytes) (hzs : z.cells.size = S.size) (hB64 : bytes ≤ 64)
    (v : Value) (l : List α) (hs : a.eval s = v) (hown : SlOwn S w B e v l)
    (A : Option Addr) (c : Nat) (m : List α) (hx : a.eval x = .slice A m.length c) (hm : SlAt S w A m)
    (hlen : l.length + m.length ≤ 1048576) (hbase : B ≤ w.heap.size)
    (h : ∀ A' c' w', SlOwn S w' B e (.slice A' (l ++ m).length c') (l ++ m) → Below B w w' → wpList P ops Q rest (a.put o.dst (.slice A' (l ++ m).length c')) w') : wpList P ops Q (o :: rest) a w := by
  have hlt := World.ownsRow.lt hown
  cases A with
  | none =>
    have hm0 : m = [] := by
      rcases hm with hm | ⟨_, _, hm, _⟩
      · exact hm
      · cases hm
    subst hm0
    have hrun : (Builtin.append_ #[t, t] o.type #[v, .slice none 0 c]).run P w = .ok v w := by
      rcases hown.2 with ⟨rfl, _⟩ | ⟨g, cap, cur, rfl, _, _, hnc, _⟩
      · simp [Builtin.append_, run_underlying ht, sizeOf, typeInfo, hi, Builtin.lenOf, Builtin.firstCells]
      · simp [Builtin.append_, run_underlying ht, sizeOf, typeInfo, hi, Builtin.lenOf, Builtin.firstCells, hnc, storeCells]
    obtain ⟨A', c', hv, _, _⟩ := hown.form
    subst hv
    refine wpList_plain hgd fun K hK => ?_
    unfold Oper.wp
    simp only [List.length_nil] at hx
    simp [execOp, ho, resolve, invoke, builtin, hs, hx, hrun, Result.andThen]
    refine hK _ _ ?_
    have := h A' c' w (by rw [List.append_nil]; exact hown) (Below.refl _ _)
    rwa [List.append_nil] at this
  | some ad =>
    refine wpList_append_own w hgd s x t ho B e i z S.size bytes ht hi hz hsize hby hzs S.pos v l.length (S.row l) hs hown ad m.length c (S.row m) hx (S.row_length m) hm.cells_at (S.row_oneCell m)
      (by unfold maxLen; omega) (by have : (l.length + m.length) * bytes ≤ 1048576 * 64 := Nat.mul_le_mul hlen hB64; omega) hbase ?_
    intro v' w' h2 h3 _
    have h4 : SlOwn S w' B e v' (l ++ m) := by
      show World.ownsRow _ _ _ _ _ _ _
      rw [List.length_append, S.row_append]
      exact h2
    obtain ⟨A', c', rfl, _, _⟩ := h4.form
    exact h A' c' w' h4 ((Below.refl _ _).grown h3 hbase (fun k hk => (hlt k hk).1))

end Go.Proofs.YtenpmjinbjlpbaaDoor
