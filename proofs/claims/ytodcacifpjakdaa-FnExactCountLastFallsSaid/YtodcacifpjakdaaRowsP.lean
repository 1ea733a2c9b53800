/- Rows of rows and their append, in one text (XStepW, XRows2P, XRows3P). -/
import Derived.Test.YtodcacifpjakdaaStep
import Derived.Test.YtodcacifpjakdaaMark
import Derived.Test.YtodcacifpjakdaaLasts
import Derived.Test.YtodcacifpjakdaaStRod
import Derived.Test.YtodcacifpjakdaaPutI
import Derived.Test.YtodcacifpjakdaaFallAs
namespace Go.Proofs.Ytodcacifpjakdaa

open Go.RowKit
theorem wpList_append_slsw {α : Type} (S : Shape α) {P : Program} (w : World) {ops : Array Oper} {rest : List Oper} {o : Oper} {a : Act} {Q : Exit → Act → World → Prop} (hgd : o.guard = none) (s x : Operand) (t : TypeId)
    (ho : o.op = .call { callee := .builtin .append, args := #[s, x], argTypes := #[t, t] })
    (B : Nat) (e : TypeId) (i : TypeInfo) (z : Value) (bytes : Nat) (ht : P.underlying t = some (.slice e)) (hi : P.info? e = some i) (hz : i.zero = some z)
    (hsize : i.size = S.size) (hby : i.bytes = bytes) (hzs : z.cells.size = S.size) (hB64 : bytes ≤ 64)
    (v : Value) (l : List α) (hs : a.eval s = v) (hown : SlOwn S w B e v l)
    (ad : Addr) (n c : Nat) (m : List α) (hx : a.eval x = .slice (some ad) n c) (hn : n = m.length) (hm : SlAt S w (some ad) m)
    (hlen : l.length + m.length ≤ 1048576) (hbase : B ≤ w.heap.size)
    (h : ∀ A' n' c' w', SlOwn S w' B e (.slice A' n' c') (l ++ m) → w.grownBy w' v.ownBlock → ((Value.slice A' n' c').ownBlock = v.ownBlock ∨ (Value.slice A' n' c').ownBlock = some w.heap.size) → wpList P ops Q rest (a.put o.dst (.slice A' n' c')) w') : wpList P ops Q (o :: rest) a w := by
  subst hn
  refine wpList_append_own_at w hgd s x t ho B e i z S.size bytes ht hi hz hsize hby hzs S.pos v l.length (S.row l) hs hown ad m.length c (S.row m) hx (S.row_length m) hm.cells_at (S.row_oneCell m)
    (by unfold maxLen; omega) (by have : (l.length + m.length) * bytes ≤ 1048576 * 64 := Nat.mul_le_mul hlen hB64; omega) hbase ?_
  intro v' w' h2 h3 _ h5
  have h4 : SlOwn S w' B e v' (l ++ m) := by
    show World.ownsRow _ _ _ _ _ _ _
    rw [List.length_append, S.row_append]
    exact h2
  obtain ⟨A', c', rfl, _, _⟩ := h4.form
  exact h A' _ c' w' h4 h3 h5


/-- where a row lies: its block, its length, its room -/
def refS : Shape (Nat × Nat × Nat) := ⟨1, fun x => [.slice (some ⟨x.1, 0, none⟩) x.2.1 x.2.2], fun _ => rfl, fun _ u hu => by simp at hu; subst hu; rfl, by omega⟩
theorem refI : (Try.prog.info? 22).map (fun i => (i.zero, i.size, i.bytes)) = some (some (.slice none 0 0), refS.size, 24) := by kernel_rfl
theorem SlAt.ref_at {w : World} {A : Option Addr} {l : List (Nat × Nat × Nat)} (h : SlAt refS w A l) {k : Nat} (hk : k < l.length) :
    ∃ b off, A = some ⟨b, off, none⟩ ∧ b < w.heap.size ∧ ∀ j x, l[j]? = some x → w.cell? ⟨b, off + j, none⟩ = some (.slice (some ⟨x.1, 0, none⟩) x.2.1 x.2.2) := by
  obtain ⟨b, off, hA, hlt, hc⟩ := h.at_ hk
  exact ⟨b, off, hA, hlt, fun j x hx => by simpa [refS] using hc j x hx 0 (by decide)⟩
theorem slAt_ref1 {w : World} {g : Nat} {x : Nat × Nat × Nat} {e : TypeId} {m : Nat × Nat} (h : w.heap[g]? = some (.cells #[.slice (some ⟨x.1, 0, none⟩) x.2.1 x.2.2] e m)) : SlAt refS w (some ⟨g, 0, none⟩) [x] := by
  refine .inr ⟨g, 0, rfl, (Array.getElem?_eq_some_iff.1 h).1, fun k y hk j hj => ?_⟩
  cases k with
  | succ k => simp at hk
  | zero =>
    simp only [List.getElem?_cons_zero, Option.some.injEq] at hk
    subst hk
    simp only [Nat.zero_mul, Nat.zero_add]
    rw [cell_of_row w g j _ _ _ h, ← Array.getElem?_toList]
    rfl
theorem own_fresh {α : Type} (S : Shape α) (w : World) (e : TypeId) (l : List α) (cs : Array Value) (hcs : cs.toList = S.row l) (hm : l.length ≤ 1000) : SlOwn S (w.alloc (.cells cs e)) w.heap.size e (.slice (some ⟨w.heap.size, 0, none⟩) l.length l.length) l :=
  ⟨by rw [S.row_length], .inr ⟨w.heap.size, l.length, cs, rfl, Nat.le_refl _, heap_new rfl, Nat.le_refl _, by unfold maxLen; omega, by rw [← Array.length_toList, hcs, S.row_length], by rw [hcs, List.take_of_length_le (by rw [S.row_length]; exact Nat.le_refl _)]⟩⟩

structure RowsQ (q : List (Nat × Nat × Nat)) (w : World) (B : Nat) (v : Value) (R : List (List Int)) : Prop where
  len : q.length = R.length
  own : SlOwn refS w B 22 v q
  row : ∀ (i : Nat) (x : Nat × Nat × Nat) (r : List Int), q[i]? = some x → R[i]? = some r → SlOwn intS w B 3 (.slice (some ⟨x.1, 0, none⟩) x.2.1 x.2.2) r
  apart : ∀ (i j : Nat) (x y : Nat × Nat × Nat), i < j → q[i]? = some x → q[j]? = some y → x.1 ≠ y.1
  beside : ∀ x, x ∈ q → v.ownBlock ≠ some x.1
def RowsOwn (w : World) (B : Nat) (v : Value) (R : List (List Int)) : Prop := ∃ q, RowsQ q w B v R
theorem RowsQ.below {q : List (Nat × Nat × Nat)} {w w' : World} {B : Nat} {v : Value} {R : List (List Int)} (h : RowsQ q w B v R) (hb : Below w.heap.size w w') : RowsQ q w' B v R :=
  ⟨h.len, h.own.below hb, fun i x r h1 h2 => (h.row i x r h1 h2).below hb, h.apart, h.beside⟩
theorem RowsQ.base {q : List (Nat × Nat × Nat)} {w : World} {B B' : Nat} {v : Value} {R : List (List Int)} (h : RowsQ q w B v R) (hB : B' ≤ B) : RowsQ q w B' v R :=
  ⟨h.len, h.own.base hB, fun i x r h1 h2 => (h.row i x r h1 h2).base hB, h.apart, h.beside⟩
theorem RowsOwn.below {w w' : World} {B : Nat} {v : Value} {R : List (List Int)} (h : RowsOwn w B v R) (hb : Below w.heap.size w w') : RowsOwn w' B v R := let ⟨q, h⟩ := h; ⟨q, h.below hb⟩
theorem RowsOwn.base {w : World} {B B' : Nat} {v : Value} {R : List (List Int)} (h : RowsOwn w B v R) (hB : B' ≤ B) : RowsOwn w B' v R := let ⟨q, h⟩ := h; ⟨q, h.base hB⟩
theorem RowsQ.rowlt {q : List (Nat × Nat × Nat)} {w : World} {B : Nat} {v : Value} {R : List (List Int)} (h : RowsQ q w B v R) : ∀ x, x ∈ q → B ≤ x.1 ∧ x.1 < w.heap.size := fun x hx => by
  obtain ⟨i, hi, rfl⟩ := List.mem_iff_getElem.1 hx
  have h2 := h.row i _ _ (List.getElem?_eq_getElem hi) (List.getElem?_eq_getElem (by rw [← h.len]; exact hi))
  exact World.ownsRow.lt h2 _ rfl
theorem RowsOwn.nil (w : World) (B : Nat) : RowsOwn w B (.slice none 0 0) [] := ⟨[], rfl, SlOwn.nil refS w B _, fun i x r h => by simp at h, fun i j x y _ h => by simp at h, fun x hx => by cases hx⟩

/-- what is read -/
def RowsAt (w : World) (A : Option Addr) (R : List (List Int)) : Prop := ∃ q : List (Nat × Nat × Nat), q.length = R.length ∧ SlAt refS w A q ∧ ∀ (i : Nat) (x : Nat × Nat × Nat) (r : List Int), q[i]? = some x → R[i]? = some r → SlAt intS w (some ⟨x.1, 0, none⟩) r ∧ x.2.1 = r.length
theorem RowsAt.below {w w' : World} {A : Option Addr} {R : List (List Int)} (h : RowsAt w A R) (hb : Below w.heap.size w w') : RowsAt w' A R :=
  let ⟨q, h1, h2, h3⟩ := h
  ⟨q, h1, h2.below hb, fun i x r a b => ⟨(h3 i x r a b).1.below hb, (h3 i x r a b).2⟩⟩
theorem RowsQ.at_ {q : List (Nat × Nat × Nat)} {w : World} {B n c : Nat} {A : Option Addr} {R : List (List Int)} (h : RowsQ q w B (.slice A n c) R) : RowsAt w A R ∧ n = R.length :=
  ⟨⟨q, h.len, h.own.sl, fun i x r h1 h2 => ⟨(h.row i x r h1 h2).sl, own_lenR (h.row i x r h1 h2)⟩⟩, by rw [← h.len]; exact own_lenR h.own⟩
theorem RowsOwn.at_ {w : World} {B n c : Nat} {A : Option Addr} {R : List (List Int)} (h : RowsOwn w B (.slice A n c) R) : RowsAt w A R ∧ n = R.length := let ⟨_, h⟩ := h; h.at_

/-- only blocks of which P holds have changed, or are new -/
structure Only (P : Nat → Prop) (w w' : World) : Prop where
  os : w'.os = w.os
  tape : w'.tape = w.tape
  output : w'.output = w.output
  size : w.heap.size ≤ w'.heap.size
  block : ∀ i, i < w.heap.size → ¬ P i → w'.heap[i]? = w.heap[i]?
theorem Only.refl (P : Nat → Prop) (w : World) : Only P w w := ⟨rfl, rfl, rfl, Nat.le_refl _, fun _ _ _ => rfl⟩
theorem Only.trans {P : Nat → Prop} {a b c : World} (h : Only P a b) (k : Only P b c) : Only P a c :=
  ⟨k.os.trans h.os, k.tape.trans h.tape, k.output.trans h.output, Nat.le_trans h.size k.size, fun i hi hn => (k.block i (Nat.lt_of_lt_of_le hi h.size) hn).trans (h.block i hi hn)⟩
theorem Only.of_grown {P : Nat → Prop} {w w' : World} {g : Nat} (h : w.grownBy w' (some g)) (hg : P g) : Only P w w' :=
  ⟨h.os, h.tape, h.output, h.size, fun i hi hn => h.block i hi (fun e => by injection e with e; subst e; exact hn hg)⟩
theorem Only.below {P : Nat → Prop} {w w' : World} {B : Nat} (h : Only P w w') (hP : ∀ i, P i → B ≤ i) (hB : B ≤ w.heap.size) : Below B w w' :=
  ⟨h.os, h.tape, h.output, h.size, fun i hi => h.block i (Nat.lt_of_lt_of_le hi hB) (fun hp => by have := hP i hp; omega)⟩

/-- a row changed in its own block -/
theorem RowsQ.upd {q : List (Nat × Nat × Nat)} {w w' : World} {B : Nat} {v : Value} {R : List (List Int)} (h : RowsQ q w B v R) {i : Nat} {x : Nat × Nat × Nat} {r' : List Int} (hx : q[i]? = some x) (hg : w.grownBy w' (some x.1))
    (ho : SlOwn intS w' B 3 (.slice (some ⟨x.1, 0, none⟩) x.2.1 x.2.2) r') : RowsQ q w' B v (R.set i r') where
  len := by rw [List.length_set]; exact h.len
  own := h.own.kept hg (.inr (h.beside x (List.mem_of_getElem? hx)))
  row j y r h1 h2 := by
    by_cases hij : i = j
    · subst hij
      rw [hx] at h1
      injection h1 with h1
      subst h1
      have hi : i < R.length := by rw [← h.len]; exact (List.getElem?_eq_some_iff.1 hx).1
      rw [List.getElem?_set_self hi] at h2
      injection h2 with h2
      subst h2
      exact ho
    · rw [List.getElem?_set_ne hij] at h2
      refine (h.row j y r h1 h2).kept hg (.inr ?_)
      intro e
      have e' : y.1 = x.1 := by injection e
      rcases Nat.lt_or_gt_of_ne hij with hlt | hlt
      · exact h.apart i j x y hlt hx h1 e'.symm
      · exact h.apart j i y x hlt h1 hx e'
  apart := h.apart
  beside := h.beside

/-- a new row of two put behind -/
theorem RowsQ.app {q : List (Nat × Nat × Nat)} {w w' : World} {B n' c' : Nat} {v : Value} {A' : Option Addr} {R : List (List Int)} (h : RowsQ q w B v R) (hB : B ≤ w.heap.size) (a b : Int)
    (ho : SlOwn refS w' B 22 (.slice A' n' c') (q ++ [(w.heap.size, 2, 2)]))
    (hg : ((w.alloc (.cells #[.int .i64 a, .int .i64 b] 3)).alloc (.cells #[.slice (some ⟨w.heap.size, 0, none⟩) 2 2] 22)).grownBy w' v.ownBlock)
    (hn : (Value.slice A' n' c').ownBlock = v.ownBlock ∨ (Value.slice A' n' c').ownBlock = some (w.heap.size + 2)) : RowsQ (q ++ [(w.heap.size, 2, 2)]) w' B (.slice A' n' c') (R ++ [[a, b]]) where
  len := by rw [List.length_append, List.length_append, h.len]; rfl
  own := ho
  row i x r h1 h2 := by
    have hb : Below w.heap.size w ((w.alloc (.cells #[.int .i64 a, .int .i64 b] 3)).alloc (.cells #[.slice (some ⟨w.heap.size, 0, none⟩) 2 2] 22)) := ((Below.refl _ _).alloc (Nat.le_refl _) _).alloc (by simp) _
    by_cases hi : i < q.length
    · rw [List.getElem?_append_left hi] at h1
      rw [List.getElem?_append_left (by rw [← h.len]; exact hi)] at h2
      exact ((h.row i x r h1 h2).below hb).kept hg (.inr (fun e => h.beside x (List.mem_of_getElem? h1) e.symm))
    · rw [List.getElem?_append_right (by omega)] at h1
      rw [List.getElem?_append_right (by rw [← h.len]; omega), ← h.len] at h2
      have hj : i - q.length = 0 := by
        cases hj : i - q.length with
        | zero => rfl
        | succ j => rw [hj] at h1; simp at h1
      rw [hj] at h1 h2
      simp only [List.getElem?_cons_zero, Option.some.injEq] at h1 h2
      subst h1; subst h2
      have hf := own_fresh intS w 3 [a, b] #[.int .i64 a, .int .i64 b] rfl (by simp)
      refine ((hf.base hB).below ((Below.refl _ _).alloc (Nat.le_refl _) _)).kept hg (.inr (fun e => ?_))
      have hlt := World.ownsRow.lt h.own w.heap.size e.symm
      omega
  apart i j x y hij h1 h2 := by
    have hjl : j < q.length ∨ j = q.length := by
      have := (List.getElem?_eq_some_iff.1 h2).1
      simp at this; omega
    rcases hjl with hj | rfl
    · rw [List.getElem?_append_left (by omega)] at h1
      rw [List.getElem?_append_left hj] at h2
      exact h.apart i j x y hij h1 h2
    · rw [List.getElem?_append_left hij] at h1
      rw [List.getElem?_append_right (Nat.le_refl _), Nat.sub_self] at h2
      simp only [List.getElem?_cons_zero, Option.some.injEq] at h2
      subst h2
      have := (h.rowlt x (List.mem_of_getElem? h1)).2
      show x.1 ≠ w.heap.size
      omega
  beside x hx e := by
    rcases List.mem_append.1 hx with hx | hx
    · have h1 := h.beside x hx
      have h2 := (h.rowlt x hx).2
      rcases hn with hn | hn
      · rw [hn] at e; exact h1 e
      · rw [hn] at e; injection e with e; omega
    · rw [List.mem_singleton] at hx
      subst hx
      rcases hn with hn | hn
      · rw [hn] at e
        have := World.ownsRow.lt h.own w.heap.size e
        omega
      · rw [hn] at e; injection e with e; simp only at e; omega
theorem RowsQ.app' {q : List (Nat × Nat × Nat)} {w w' : World} {B n' c' s : Nat} {v : Value} {A' : Option Addr} {R : List (List Int)} (h : RowsQ q w B v R) (hB : B ≤ w.heap.size) (hs : w.heap.size = s) (a b : Int)
    (ho : SlOwn refS w' B 22 (.slice A' n' c') (q ++ [(s, 2, 2)]))
    (hg : ((w.alloc (.cells #[.int .i64 a, .int .i64 b] 3)).alloc (.cells #[.slice (some ⟨s, 0, none⟩) 2 2] 22)).grownBy w' v.ownBlock)
    (hn : (Value.slice A' n' c').ownBlock = v.ownBlock ∨ (Value.slice A' n' c').ownBlock = some ((w.alloc (.cells #[.int .i64 a, .int .i64 b] 3)).alloc (.cells #[.slice (some ⟨s, 0, none⟩) 2 2] 22)).heap.size) : RowsQ (q ++ [(s, 2, 2)]) w' B (.slice A' n' c') (R ++ [[a, b]]) := by
  subst hs
  exact h.app hB a b ho hg (by simpa using hn)
theorem RowsQ.app_below {q : List (Nat × Nat × Nat)} {w w' : World} {B s : Nat} {v : Value} {R : List (List Int)} (h : RowsQ q w B v R) (hB : B ≤ w.heap.size) (a b : Int)
    (hg : ((w.alloc (.cells #[.int .i64 a, .int .i64 b] 3)).alloc (.cells #[.slice (some ⟨s, 0, none⟩) 2 2] 22)).grownBy w' v.ownBlock) : Below B w w' :=
  (((Below.refl _ w).alloc hB _).alloc (by simp; omega) _).grown hg (by simp; omega) (fun g hg' => (World.ownsRow.lt h.own g hg').1)
theorem RowsQ.start (w : World) (a b : Int) :
    RowsQ [(w.heap.size, 2, 2)] ((w.alloc (.cells #[.int .i64 a, .int .i64 b] 3)).alloc (.cells #[.slice (some ⟨w.heap.size, 0, none⟩) 2 2] 22)) w.heap.size (.slice (some ⟨w.heap.size + 1, 0, none⟩) 1 1) [[a, b]] where
  len := rfl
  own := by
    have h := own_fresh refS (w.alloc (.cells #[.int .i64 a, .int .i64 b] 3)) 22 [(w.heap.size, 2, 2)] #[.slice (some ⟨w.heap.size, 0, none⟩) 2 2] rfl (by simp)
    have e : (w.alloc (.cells #[.int .i64 a, .int .i64 b] 3)).heap.size = w.heap.size + 1 := by simp
    rw [e] at h
    exact h.base (Nat.le_succ _)
  row i x r h1 h2 := by
    cases i with
    | succ i => simp at h1
    | zero =>
      simp only [List.getElem?_cons_zero, Option.some.injEq] at h1 h2
      subst h1; subst h2
      exact (own_fresh intS w 3 [a, b] #[.int .i64 a, .int .i64 b] rfl (by simp)).below ((Below.refl _ _).alloc (Nat.le_refl _) _)
  apart i j x y hij h1 h2 := by
    cases j with
    | zero => omega
    | succ j => simp at h2
  beside x hx e := by
    rw [List.mem_singleton] at hx
    subst hx
    have e' : w.heap.size + 1 = w.heap.size := by injection e
    omega

/-! ### the laws' marks -/
def tot (R : List (List Int)) : Nat := (R.map List.length).sum
def rMarks (k : Int) : List (List Int) → List (List Int)
  | [] => []
  | r :: R => intMarks k r.length :: rMarks (k + r.length) R
theorem rMarks_len (k : Int) (R : List (List Int)) : (rMarks k R).length = R.length := by
  induction R generalizing k with
  | nil => rfl
  | cons r R ih => simp [rMarks, ih]
theorem tot_take (R : List (List Int)) (j : Nat) (r : List Int) (h : R[j]? = some r) : tot (R.take (j + 1)) = tot (R.take j) + r.length := by
  obtain ⟨hj, rfl⟩ := List.getElem?_eq_some_iff.1 h
  unfold tot
  rw [List.take_succ_eq_append_getElem hj, List.map_append, List.sum_append]
  simp
theorem tot_take_le (R : List (List Int)) (j : Nat) : tot (R.take j) ≤ tot R := by
  unfold tot
  conv => rhs; rw [← List.take_append_drop j R]
  rw [List.map_append, List.sum_append]
  omega
theorem rMarks_at (k : Int) (R : List (List Int)) (j : Nat) (r : List Int) (h : R[j]? = some r) : (rMarks k R)[j]? = some (intMarks (k + (tot (R.take j) : Nat)) r.length) := by
  induction R generalizing k j with
  | nil => simp at h
  | cons s R ih =>
    cases j with
    | zero =>
      simp only [List.getElem?_cons_zero, Option.some.injEq] at h
      subst h
      simp [rMarks, tot]
    | succ j =>
      simp only [List.getElem?_cons_succ] at h
      unfold rMarks
      rw [List.getElem?_cons_succ, ih _ _ h, List.take_succ_cons]
      congr 2
      unfold tot
      rw [List.map_cons, List.sum_cons]
      omega
/-- the first j marked -/
def rHalf (k : Int) (R : List (List Int)) (j : Nat) : List (List Int) := (rMarks k R).take j ++ R.drop j
theorem rHalf_zero (k : Int) (R : List (List Int)) : rHalf k R 0 = R := by simp [rHalf]
theorem rHalf_all (k : Int) (R : List (List Int)) : rHalf k R R.length = rMarks k R := by
  unfold rHalf
  rw [List.drop_length, List.append_nil, List.take_of_length_le (by rw [rMarks_len]; exact Nat.le_refl _)]
theorem rHalf_at (k : Int) (R : List (List Int)) (j : Nat) (r : List Int) (h : R[j]? = some r) : (rHalf k R j)[j]? = some r := by
  obtain ⟨hj, rfl⟩ := List.getElem?_eq_some_iff.1 h
  unfold rHalf
  rw [List.getElem?_append_right (by rw [List.length_take, rMarks_len]; omega), List.length_take, rMarks_len, Nat.min_eq_left (by omega), Nat.sub_self, List.getElem?_drop]
  exact h
theorem rHalf_set (k : Int) (R : List (List Int)) (j : Nat) (r : List Int) (h : R[j]? = some r) : (rHalf k R j).set j (intMarks (k + (tot (R.take j) : Nat)) r.length) = rHalf k R (j + 1) := by
  have h2 := rMarks_at k R j r h
  obtain ⟨hj, rfl⟩ := List.getElem?_eq_some_iff.1 h
  have hjm : j < (rMarks k R).length := by rw [rMarks_len]; exact hj
  unfold rHalf
  rw [List.set_append_right _ _ (by rw [List.length_take]; omega), List.length_take, Nat.min_eq_left (by omega), Nat.sub_self, List.drop_eq_getElem_cons hj, List.set_cons_zero, List.take_succ_eq_append_getElem hjm, List.append_assoc]
  congr 1
  have e : (rMarks k R)[j] = intMarks (k + (tot (R.take j) : Nat)) R[j].length := by
    rw [List.getElem?_eq_getElem hjm] at h2
    injection h2
  rw [e]
  rfl

set_option maxHeartbeats 1000000 in
theorem markIntSS_any (q : List (Nat × Nat × Nat)) (A : Option Addr) (c B : Nat) (R : List (List Int)) (k0 : Int) (w : World) (hk0 : 0 ≤ k0) (hk1 : k0 ≤ 1000) (hn : (R.length : Int) ≤ 1000) (ht : (tot R : Int) ≤ 100000) (hr : ∀ r ∈ R, (r.length : Int) ≤ 1000) (h : RowsQ q w B (.slice A R.length c) R) :
    Calls Try.prog 12 #[.slice A R.length c, .int .i64 k0] w fun e w' => e = .returned (.int .i64 (k0 + (tot R : Nat))) ∧ RowsQ q w' B (.slice A R.length c) (rMarks k0 R) ∧ Only (fun g => ∃ x, x ∈ q ∧ x.1 = g) w w' := by
  have H := Lib.hid h
  have HR := Lib.hid hr
  clear h hr
  obtain ⟨n, hn'⟩ : ∃ n, n = R.length := ⟨_, rfl⟩
  have HN := Lib.hid hn'
  rw [← hn'] at H hn ⊢
  clear hn'
  go_enter Try.func12, Try.ntmps12
  go_wp2
  go_loopw [1, 5] (fun v i wr => ∃ j : Nat, j ≤ n ∧ i = .int .i64 j ∧ v = .int .i64 (k0 + (tot (R.take j) : Nat)) ∧ RowsQ q wr B (.slice A n c) (rHalf k0 R j) ∧ Only (fun g => ∃ x, x ∈ q ∧ x.1 = g) w wr)
    (fun _ i _ => n - (intOf i).toNat)
  case atStart => exact ⟨0, Nat.zero_le _, rfl, by simp [tot], by rw [rHalf_zero]; exact H.out, Only.refl _ _⟩
  case round =>
    obtain ⟨j, hj, rfl, rfl, hown, hg⟩ := hrel
    have HO := Lib.hid hown
    have HG := Lib.hid hg
    have HTL := Lib.hid (tot_take_le R j)
    clear hown hg
    have htl := HTL.out
    by_cases hlt : j < n
    · have hjR : j < R.length := by have := HN.out; omega
      have hjq : j < q.length := by have := H.out.len; omega
      have hx : R[j]? = some (R[j]'hjR) := List.getElem?_eq_getElem hjR
      have hy : q[j]? = some (q[j]'hjq) := List.getElem?_eq_getElem hjq
      obtain ⟨b, off, rfl, l0, hc⟩ := HO.out.own.sl.ref_at hjq
      have a0 := hc j _ hy
      have hrow := HO.out.row j _ _ hy (rHalf_at k0 R j _ hx)
      have HS := Lib.hid (rHalf_set k0 R j _ hx)
      have HT := Lib.hid (tot_take R j _ hx)
      have hrl := HR.out _ (List.getElem_mem hjR)
      have HY := Lib.hid hy
      clear hc hx hy
      generalize R[j]'hjR = r at *
      generalize q[j]'hjq = x at *
      obtain ⟨x1, x2, x3⟩ := x
      simp only at a0 hrow
      have hx2 := own_lenR hrow
      subst hx2
      generalize tot (R.take j) = tt at *
      have hMK := Lib.hid (markIntS_any (some ⟨x1, 0, none⟩) x3 B r (k0 + (tt : Int)) wr (by omega) (by omega) (by omega) hrow)
      clear hrow
      go_wp2_with fail
      refine hMK.out.mono ?_
      rintro e w5 ⟨rfl, ho5, hg5⟩
      have HU := Lib.hid (HO.out.upd HY.out hg5 ho5)
      have HG5 := Lib.hid (HG.out.trans (Only.of_grown (P := fun g => ∃ x, x ∈ q ∧ x.1 = g) hg5 ⟨_, List.mem_of_getElem? HY.out, rfl⟩))
      clear ho5 hg5
      go_wp2
      go_roundw
      case rel => exact ⟨j + 1, by omega, by go_num, by rw [HT.out]; congr 1; omega, by rw [← HS.out]; exact HU.out, HG5.out⟩
      case measure => simp [intOf]; omega
    · obtain rfl : j = n := by omega
      have HE : Hid (R.take j = R) := by show _ = _; rw [HN.out]; exact List.take_length
      go_wp2
      go_ret
      refine ⟨ret_int (by rw [HE.out]), ?_, HG.out⟩
      have := HO.out
      rw [show rHalf k0 R j = rMarks k0 R by rw [HN.out]; exact rHalf_all k0 R] at this
      exact this

set_option maxHeartbeats 1000000 in
theorem heldIntSS_any (A : Option Addr) (c n : Nat) (R : List (List Int)) (k0 : Int) (w : World) (hk0 : 0 ≤ k0) (hk1 : k0 ≤ 1000) (hn : n = R.length) (hn1 : (R.length : Int) ≤ 1000) (ht : (tot R : Int) ≤ 100000) (hr : ∀ r ∈ R, (r.length : Int) ≤ 1000) (h : RowsAt w A (rMarks k0 R)) :
    Calls Try.prog 13 #[.slice A n c, .int .i64 k0] w fun e w' => e = .returned (.int .i64 (k0 + (tot R : Nat))) ∧ w = w' := by
  obtain ⟨q, hq1, hq2, hq3⟩ := h
  rw [rMarks_len] at hq1
  have HQ2 := Lib.hid hq2
  have HQ3 := Lib.hid hq3
  have HR := Lib.hid hr
  have HQ1 := Lib.hid hq1
  have HN := Lib.hid hn
  have hn2 : (n : Int) ≤ 1000 := by omega
  clear hq1 hq2 hq3 hr hn hn1
  go_enter Try.func13, Try.ntmps13
  go_wp2
  go_loop [1, 5] (fun v i => ∃ j : Nat, j ≤ n ∧ i = .int .i64 j ∧ v = .int .i64 (k0 + (tot (R.take j) : Nat))) (fun _ i => n - (intOf i).toNat)
  case atStart => exact ⟨0, Nat.zero_le _, rfl, by simp [tot]⟩
  case round =>
    obtain ⟨j, hj, rfl, rfl⟩ := hrel
    have htl := tot_take_le R j
    by_cases hlt : j < n
    · have hjR : j < R.length := by have := HN.out; omega
      have hjq : j < q.length := by have := HQ1.out; omega
      have hx : R[j]? = some (R[j]'hjR) := List.getElem?_eq_getElem hjR
      have hy : q[j]? = some (q[j]'hjq) := List.getElem?_eq_getElem hjq
      obtain ⟨b, off, rfl, l0, hc⟩ := HQ2.out.ref_at hjq
      have a0 := hc j _ hy
      obtain ⟨hrow, hx2⟩ := HQ3.out j _ _ hy (rMarks_at k0 R j _ hx)
      rw [intMarks_len] at hx2
      have HT := Lib.hid (tot_take R j _ hx)
      have hrl := HR.out _ (List.getElem_mem hjR)
      have htl2 := tot_take_le R (j + 1)
      rw [HT.out] at htl2
      clear hc hx hy
      generalize R[j]'hjR = r at *
      generalize q[j]'hjq = x at *
      obtain ⟨x1, x2, x3⟩ := x
      simp only at a0 hrow hx2
      subst hx2
      generalize tot (R.take j) = tt at *
      have hMK := Lib.hid (heldIntS_any (some ⟨x1, 0, none⟩) x3 r.length (k0 + (tt : Int)) w (by omega) (by omega) (by omega) hrow)
      have hnn : ¬ (k0 + (tt : Int) + (r.length : Int)) < 0 := by omega
      clear hrow
      go_wp2_with fail
      refine hMK.out.mono ?_
      rintro e w5 ⟨rfl, rfl⟩
      go_wp2
      go_round
      case rel => exact ⟨j + 1, by omega, by go_num, by rw [HT.out]; congr 1; omega⟩
      case measure => simp [intOf]; omega
    · obtain rfl : j = n := by omega
      have HE : Hid (R.take j = R) := by show _ = _; rw [HN.out]; exact List.take_length
      go_wp2
      go_ret
      exact ⟨ret_int (by rw [HE.out]), rfl⟩

set_option maxHeartbeats 1000000 in
theorem eqIntSS_true (A B : Option Addr) (c d n m : Nat) (R : List (List Int)) (w : World) (hn0 : n = R.length) (hm0 : m = R.length) (hn1 : (R.length : Int) ≤ 1000) (hr : ∀ r ∈ R, (r.length : Int) ≤ 1000) (hA : RowsAt w A R) (hB : RowsAt w B R) :
    Calls Try.prog 9 #[.slice A n c, .slice B m d] w fun e w' => e = .returned (.bool true) ∧ Below w.heap.size w w' := by
  subst hm0
  subst hn0
  have HA := Lib.hid hA
  have HB := Lib.hid hB
  have HR := Lib.hid hr
  clear hA hB hr
  go_enter Try.func9, Try.ntmps9
  go_wp2
  go_loopw [5] (fun i wr => ∃ k : Nat, k ≤ R.length ∧ i = .int .i64 k ∧ Below w.heap.size w wr)
    (fun i _ => R.length - (intOf i).toNat)
  case atStart => exact ⟨0, Nat.zero_le _, rfl, Below.refl _ _⟩
  case round =>
    obtain ⟨k, hk, rfl, hb⟩ := hrel
    have HBe := Lib.hid hb
    obtain ⟨q, hq1, hq2, hq3⟩ := HA.out.below hb
    obtain ⟨p, hp1, hp2, hp3⟩ := HB.out.below hb
    clear hb
    by_cases hlt : k < R.length
    · have hkq : k < q.length := by omega
      have hkp : k < p.length := by omega
      have hx : R[k]? = some (R[k]'hlt) := List.getElem?_eq_getElem hlt
      have hy : q[k]? = some (q[k]'hkq) := List.getElem?_eq_getElem hkq
      have hz : p[k]? = some (p[k]'hkp) := List.getElem?_eq_getElem hkp
      obtain ⟨b, off, rfl, l0, hc⟩ := hq2.ref_at hkq
      obtain ⟨b', off', rfl, l0', hc'⟩ := hp2.ref_at hkp
      have a0 := hc k _ hy
      have b0 := hc' k _ hz
      obtain ⟨hrow, hx2⟩ := hq3 k _ _ hy hx
      obtain ⟨hrow', hx2'⟩ := hp3 k _ _ hz hx
      have hrl := HR.out _ (List.getElem_mem hlt)
      clear hc hc' hx hy hz hq1 hq2 hq3 hp1 hp2 hp3
      generalize R[k]'hlt = r at *
      generalize q[k] = x at *
      generalize p[k] = y at *
      obtain ⟨x1, x2, x3⟩ := x
      obtain ⟨y1, y2, y3⟩ := y
      simp only at a0 b0 hrow hx2 hrow' hx2'
      subst hx2
      subst hx2'
      have HEQ : Hid (∀ x : Ext wr, Calls Try.prog 10 #[.slice (some ⟨x1, 0, none⟩) r.length x3, .slice (some ⟨y1, 0, none⟩) r.length y3] x.w fun e w' => e = .returned (.bool true) ∧ Below x.w.heap.size x.w w') := fun x => eqIntS_true _ _ _ _ r _ (by omega) (hrow.below x.h) (hrow'.below x.h)
      have f0 := Ext.cell a0
      have f1 := Ext.cell b0
      clear a0 b0 hrow hrow'
      go_wp2
      refine wp_region_ext (by kernel_rfl) (by kernel_rfl) ?_
      repeat (first | go_big_quiet_skip | (go_big_quiet_want; go_big_quiet_op; first | go_big_quiet_on | (apply Exists.intro; refine ⟨fun x => ?_, ?_⟩; (go_at_call 10; exact Ext.call (HEQ.out x)); go_big_quiet_on)))
      refine wpQuiet_nil ?_
      rintro _ ⟨x, rfl⟩
      go_wp2
      go_roundw
      case rel => exact ⟨k + 1, by omega, by go_num, HBe.out.trans (x.h.mono HBe.out.size)⟩
      case measure => simp [intOf]; omega
    · go_wp2
      go_ret
      exact ⟨ret_bool rfl, HBe.out⟩


theorem SlOwn.only {α : Type} {S : Shape α} {P : Nat → Prop} {w w' : World} {B : Nat} {e : TypeId} {v : Value} {l : List α} (h : SlOwn S w B e v l) (ho : Only P w w') (h1 : ∀ k, v.ownBlock = some k → ¬ P k) : SlOwn S w' B e v l := by
  refine ⟨h.1, ?_⟩
  rcases h.2 with h2 | ⟨g, cap, cur, hv, hB, hg, h3⟩
  · exact .inl h2
  · exact .inr ⟨g, cap, cur, hv, hB, by rw [ho.block g (Array.getElem?_eq_some_iff.1 hg).1 (h1 g (by rw [hv]; rfl))]; exact hg, h3⟩
theorem RowsQ.only {P : Nat → Prop} {q : List (Nat × Nat × Nat)} {w w' : World} {B : Nat} {v : Value} {R : List (List Int)} (h : RowsQ q w B v R) (ho : Only P w w') (h1 : ∀ k, v.ownBlock = some k → ¬ P k) (h2 : ∀ x, x ∈ q → ¬ P x.1) : RowsQ q w' B v R :=
  ⟨h.len, h.own.only ho h1, fun i x r hx hr => (h.row i x r hx hr).only ho (fun k hk => by
    have e : x.1 = k := by injection hk
    rw [← e]; exact h2 x (List.mem_of_getElem? hx)), h.apart, h.beside⟩
theorem Only.of_row {w w' : World} {row : Option Nat} (h : w.grownBy w' row) : Only (fun g => row = some g) w w' :=
  ⟨h.os, h.tape, h.output, h.size, fun i hi hn => h.block i hi (fun e => hn e.symm)⟩
theorem Only.cell {P : Nat → Prop} {w w' : World} {p : Addr} {v : Value} (h : Only P w w') (hc : w.cell? p = some v) (hn : ¬ P p.block) : w'.cell? p = some v := by
  have hb : Below (p.block + 1) (w) (w) := Below.refl _ _
  have h1 := h.block p.block (World.block_lt_of_cell? _ _ hc) hn
  have e : w'.cell? p = w.cell? p := by
    unfold World.cell?
    rw [h1]
  rw [e]; exact hc
end Go.Proofs.Ytodcacifpjakdaa
