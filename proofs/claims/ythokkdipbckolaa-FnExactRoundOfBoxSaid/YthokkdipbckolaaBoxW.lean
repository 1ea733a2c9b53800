/- A run of a box of the model in memory, and one step of it. -/
import Derived.Test.YthokkdipbckolaaBox
import Derived.Test.YthokkdipbckolaaProg
import Derived.Test.YthokkdipbckolaaSl
import Derived.BigRegion
namespace Go.Proofs.Ythokkdipbckolaa
open Go.RowKit

/-- a run lies in memory: its six fields, its ants, and a row of integers -/
structure BxAt (w : World) (b ab ao gb gf n ca cg : Nat) (L : Int) (l : List (Int × Int)) (lf rt m : Nat) (gl : List Int) : Prop where
  len : l.length = n
  c0 : w.cell? ⟨b, 0, none⟩ = some (.int .i64 L)
  c1 : ∃ A, w.cell? ⟨b, 1, none⟩ = some (.slice A n ca) ∧ (n = 0 ∨ A = some ⟨ab, ao, none⟩)
  c2 : w.cell? ⟨b, 2, none⟩ = some (.int .i64 lf)
  c3 : w.cell? ⟨b, 3, none⟩ = some (.int .i64 rt)
  c4 : w.cell? ⟨b, 4, none⟩ = some (.slice (some ⟨gb, gf, none⟩) n cg)
  c5 : w.cell? ⟨b, 5, none⟩ = some (.int .i64 m)
  ants : ∀ (k : Nat) (x : Int × Int), l[k]? = some x → w.cell? ⟨ab, ao + k * 2, none⟩ = some (.int .i64 x.1) ∧ w.cell? ⟨ab, ao + k * 2 + 1, none⟩ = some (.int .i64 x.2)
  ok : ∀ (k : Nat) (x : Int × Int), l[k]? = some x → 0 ≤ x.1 ∧ x.1 ≤ L ∧ (x.2 = -1 ∨ x.2 = 1)
  glen : gl.length = n
  gone : ∀ (k : Nat) (g : Int), gl[k]? = some g → w.cell? ⟨gb, gf + k, none⟩ = some (.int .i64 g)
  fz : ∀ o, w.frozen? ⟨b, o, none⟩ = false ∧ w.frozen? ⟨ab, o, none⟩ = false ∧ w.frozen? ⟨gb, o, none⟩ = false
  ne : b ≠ ab ∧ b ≠ gb ∧ ab ≠ gb
  lt : b < w.heap.size ∧ ab < w.heap.size ∧ gb < w.heap.size
  nc : n ≤ ca ∧ n ≤ cg
  own : ao = 0 ∧ w.cell? ⟨b, 1, none⟩ = some (.slice (some ⟨ab, 0, none⟩) n ca) ∧ AntsOwn w 0 53 (.slice (some ⟨ab, 0, none⟩) n ca) l

theorem cell_other {w : World} {p q r s : Nat} {v : Value} (h : p ≠ r ∨ q ≠ s) : (w.setCell ⟨p, q, none⟩ v).cell? ⟨r, s, none⟩ = w.cell? ⟨r, s, none⟩ :=
  by
  refine World.cell?_setCell_other _ _ _ _ ?_
  intro e
  injection e with e1 e2
  rcases h with h | h
  · exact h e1
  · exact h e2
theorem setCell_same {w : World} {a : Addr} {u v : Value} (h : w.cell? a = some u) : (w.setCell a v).cell? a = some v := World.cell?_setCell_same _ _ _ h
theorem grown_setC (w : World) (p o : Nat) (v : Value) : w.grownBy (w.setCell ⟨p, o, none⟩ v) (some p) :=
  ⟨rfl, rfl, rfl, by simp [World.setCell], fun i _ hne => by
    have h : ¬ p = i := fun e => hne (by rw [e])
    simp [World.setCell, Array.getElem?_modify, h]⟩
theorem own_other {w : World} {B g n c p o : Nat} {e : TypeId} {v : Value} {l : List (Int × Int)} (h : AntsOwn w B e (.slice (some ⟨g, 0, none⟩) n c) l) (hp : ¬ p = g) : AntsOwn (w.setCell ⟨p, o, none⟩ v) B e (.slice (some ⟨g, 0, none⟩) n c) l :=
  World.ownsRow.kept h (grown_setC w p o v) (.inr (fun e => hp (by injection e with e; exact e.symm)))
theorem antCells_way (l : List (Int × Int)) (i : Nat) (x : Int × Int) (hx : l[i]? = some x) (v : Int) : (antCells l).set (i * 2 + 1) (.int .i64 v) = antCells (l.set i (x.1, v)) := by
  rw [← antCells_set l x.1 v i]
  congr 1
  have h := (antCells_at l i (List.getElem?_eq_some_iff.1 hx).1).1
  rw [List.getD_eq_getElem?_getD, hx] at h
  obtain ⟨hk, e⟩ := List.getElem?_eq_some_iff.1 h
  rw [show (Value.int .i64 x.1) = (antCells l)[i * 2] from e.symm, List.set_getElem_self]
theorem own_way {w : World} {B g n c : Nat} {e : TypeId} {l : List (Int × Int)} (h : AntsOwn w B e (.slice (some ⟨g, 0, none⟩) n c) l) {i : Nat} {x : Int × Int} (hx : l[i]? = some x) (v : Int) : AntsOwn (w.setCell ⟨g, i * 2 + 1, none⟩ (.int .i64 v)) B e (.slice (some ⟨g, 0, none⟩) n c) (l.set i (x.1, v)) := by
  have hn : n = l.length := by
    obtain ⟨_, _, he, _, _⟩ := h.form
    injection he
  subst hn
  have s0 := World.ownsRow.stored h (i * 2 + 1) (.int .i64 v)
  have := s0.1
  rw [antCells_way l i x hx v] at this
  show World.ownsRow _ _ _ _ _ _ _
  rw [List.length_set]
  exact this
section
variable {w w' : World} {b ab ao gb gf n ca cg : Nat} {L : Int} {l : List (Int × Int)} {lf rt m : Nat} {gl : List Int}
theorem BxAt.below (h : BxAt w b ab ao gb gf n ca cg L l lf rt m gl) (hb : Below w.heap.size w w') : BxAt w' b ab ao gb gf n ca cg L l lf rt m gl :=
  ⟨h.len, (hb.cell (p := ⟨b, 0, none⟩) h.lt.1).trans h.c0, (by obtain ⟨A, h1, h2⟩ := h.c1; exact ⟨A, (hb.cell (p := ⟨b, 1, none⟩) h.lt.1).trans h1, h2⟩), (hb.cell (p := ⟨b, 2, none⟩) h.lt.1).trans h.c2, (hb.cell (p := ⟨b, 3, none⟩) h.lt.1).trans h.c3, (hb.cell (p := ⟨b, 4, none⟩) h.lt.1).trans h.c4, (hb.cell (p := ⟨b, 5, none⟩) h.lt.1).trans h.c5,
    fun k x hx => ⟨(hb.cell (p := ⟨ab, _, none⟩) h.lt.2.1).trans (h.ants k x hx).1, (hb.cell (p := ⟨ab, _, none⟩) h.lt.2.1).trans (h.ants k x hx).2⟩, h.ok,
    h.glen, fun k g hg => (hb.cell (p := ⟨gb, _, none⟩) h.lt.2.2).trans (h.gone k g hg),
    fun o => ⟨(hb.frozen (p := ⟨b, o, none⟩) h.lt.1).trans (h.fz o).1, (hb.frozen (p := ⟨ab, o, none⟩) h.lt.2.1).trans (h.fz o).2.1, (hb.frozen (p := ⟨gb, o, none⟩) h.lt.2.2).trans (h.fz o).2.2⟩, h.ne,
    ⟨Nat.lt_of_lt_of_le h.lt.1 hb.size, Nat.lt_of_lt_of_le h.lt.2.1 hb.size, Nat.lt_of_lt_of_le h.lt.2.2 hb.size⟩, h.nc, ⟨h.own.1, (hb.cell (p := ⟨b, 1, none⟩) h.lt.1).trans h.own.2.1, h.own.2.2.below hb⟩⟩
/-- an ant is written anew, both its cells -/
theorem BxAt.setAnt (h : BxAt w b ab ao gb gf n ca cg L l lf rt m gl) {i : Nat} (hi : i < n) (y : Int × Int) (hy : 0 ≤ y.1 ∧ y.1 ≤ L ∧ (y.2 = -1 ∨ y.2 = 1)) :
    BxAt ((w.setCell ⟨ab, ao + i * 2, none⟩ (.int .i64 y.1)).setCell ⟨ab, ao + i * 2 + 1, none⟩ (.int .i64 y.2)) b ab ao gb gf n ca cg L (l.set i y) lf rt m gl := by
  have hil : i < l.length := by rw [h.len]; exact hi
  have hne : ab ≠ b := h.ne.1.symm
  have far : ∀ p q, p ≠ ab → ((w.setCell ⟨ab, ao + i * 2, none⟩ (.int .i64 y.1)).setCell ⟨ab, ao + i * 2 + 1, none⟩ (.int .i64 y.2)).cell? ⟨p, q, none⟩ = w.cell? ⟨p, q, none⟩ := fun p q hp => (cell_other (.inl (fun e => hp e.symm))).trans (cell_other (.inl (fun e => hp e.symm)))
  refine ⟨by rw [List.length_set]; exact h.len, (far _ _ h.ne.1).trans h.c0, (by obtain ⟨A, h1, h2⟩ := h.c1; exact ⟨A, (far _ _ h.ne.1).trans h1, h2⟩), (far _ _ h.ne.1).trans h.c2, (far _ _ h.ne.1).trans h.c3, (far _ _ h.ne.1).trans h.c4, (far _ _ h.ne.1).trans h.c5, fun k x hx => ?_, fun k x hx => ?_, h.glen, fun k g hg => (far _ _ h.ne.2.2.symm).trans (h.gone k g hg), fun o => by simpa using h.fz o, h.ne, by simpa [World.setCell] using h.lt, h.nc, ?_⟩
  · by_cases e : k = i
    · subst e
      rw [List.getElem?_set_self hil] at hx
      injection hx with hx
      subst hx
      have h0 := h.ants k _ (List.getElem?_eq_getElem hil)
      exact ⟨(cell_other (.inr (by omega))).trans (setCell_same h0.1), setCell_same ((cell_other (.inr (by omega))).trans h0.2)⟩
    · rw [List.getElem?_set_ne (fun q => e q.symm)] at hx
      exact ⟨(cell_other (.inr (by omega))).trans ((cell_other (.inr (by omega))).trans (h.ants k x hx).1), (cell_other (.inr (by omega))).trans ((cell_other (.inr (by omega))).trans (h.ants k x hx).2)⟩
  · by_cases e : k = i
    · subst e
      rw [List.getElem?_set_self hil] at hx
      injection hx with hx
      subst hx
      exact hy
    · rw [List.getElem?_set_ne (fun q => e q.symm)] at hx
      exact h.ok k x hx
  · obtain ⟨rfl, q1, q2⟩ := h.own
    refine ⟨rfl, (far _ _ h.ne.1).trans q1, ?_⟩
    obtain ⟨_, _, _, _, _, _, s, _⟩ := q2.store hil y.1 y.2
    rw [Nat.zero_add]
    exact s
theorem BxAt.setWay (h : BxAt w b ab ao gb gf n ca cg L l lf rt m gl) {i : Nat} {x : Int × Int} (hx : l[i]? = some x) (v : Int) (hv : v = -1 ∨ v = 1) :
    BxAt (w.setCell ⟨ab, ao + i * 2 + 1, none⟩ (.int .i64 v)) b ab ao gb gf n ca cg L (l.set i (x.1, v)) lf rt m gl := by
  have hil : i < l.length := (List.getElem?_eq_some_iff.1 hx).1
  have far : ∀ p q, p ≠ ab → (w.setCell ⟨ab, ao + i * 2 + 1, none⟩ (.int .i64 v)).cell? ⟨p, q, none⟩ = w.cell? ⟨p, q, none⟩ := fun p q hp => cell_other (.inl (fun e => hp e.symm))
  refine ⟨by rw [List.length_set]; exact h.len, (far _ _ h.ne.1).trans h.c0, (by obtain ⟨A, h1, h2⟩ := h.c1; exact ⟨A, (far _ _ h.ne.1).trans h1, h2⟩), (far _ _ h.ne.1).trans h.c2, (far _ _ h.ne.1).trans h.c3, (far _ _ h.ne.1).trans h.c4, (far _ _ h.ne.1).trans h.c5, fun k y hy => ?_, fun k y hy => ?_, h.glen, fun k g hg => (far _ _ h.ne.2.2.symm).trans (h.gone k g hg), fun o => by simpa using h.fz o, h.ne, by simpa [World.setCell] using h.lt, h.nc, ?_⟩
  · by_cases e : k = i
    · subst e
      rw [List.getElem?_set_self hil] at hy
      injection hy with hy
      subst hy
      exact ⟨(cell_other (.inr (by omega))).trans (h.ants k x hx).1, setCell_same (h.ants k x hx).2⟩
    · rw [List.getElem?_set_ne (fun q => e q.symm)] at hy
      exact ⟨(cell_other (.inr (by omega))).trans (h.ants k y hy).1, (cell_other (.inr (by omega))).trans (h.ants k y hy).2⟩
  · by_cases e : k = i
    · subst e
      rw [List.getElem?_set_self hil] at hy
      injection hy with hy
      subst hy
      have := h.ok k x hx
      exact ⟨this.1, this.2.1, hv⟩
    · rw [List.getElem?_set_ne (fun q => e q.symm)] at hy
      exact h.ok k y hy
  · obtain ⟨rfl, q1, q2⟩ := h.own
    refine ⟨rfl, (far _ _ h.ne.1).trans q1, ?_⟩
    have := own_way q2 hx v
    rw [Nat.zero_add]
    exact this
theorem BxAt.setGone (h : BxAt w b ab ao gb gf n ca cg L l lf rt m gl) {i : Nat} (hi : i < n) (v : Int) :
    BxAt (w.setCell ⟨gb, gf + i, none⟩ (.int .i64 v)) b ab ao gb gf n ca cg L l lf rt m (gl.set i v) := by
  have far : ∀ p q, p ≠ gb → (w.setCell ⟨gb, gf + i, none⟩ (.int .i64 v)).cell? ⟨p, q, none⟩ = w.cell? ⟨p, q, none⟩ := fun p q hp => cell_other (.inl (fun e => hp e.symm))
  refine ⟨h.len, (far _ _ h.ne.2.1).trans h.c0, (by obtain ⟨A, h1, h2⟩ := h.c1; exact ⟨A, (far _ _ h.ne.2.1).trans h1, h2⟩), (far _ _ h.ne.2.1).trans h.c2, (far _ _ h.ne.2.1).trans h.c3, (far _ _ h.ne.2.1).trans h.c4, (far _ _ h.ne.2.1).trans h.c5, fun k y hy => ⟨(far _ _ h.ne.2.2).trans (h.ants k y hy).1, (far _ _ h.ne.2.2).trans (h.ants k y hy).2⟩, h.ok, by rw [List.length_set]; exact h.glen, fun k g hg => ?_, fun o => by simpa using h.fz o, h.ne, by simpa [World.setCell] using h.lt, h.nc, ⟨h.own.1, (far _ _ h.ne.2.1).trans h.own.2.1, own_other h.own.2.2 (fun e => h.ne.2.2 e.symm)⟩⟩
  have hil : i < gl.length := by rw [h.glen]; exact hi
  by_cases e : k = i
  · subst e
    rw [List.getElem?_set_self hil] at hg
    injection hg with hg
    subst hg
    exact setCell_same (h.gone k _ (List.getElem?_eq_getElem hil))
  · rw [List.getElem?_set_ne (fun q => e q.symm)] at hg
    exact (cell_other (.inr (by omega))).trans (h.gone k g hg)
theorem BxAt.setOther (h : BxAt w b ab ao gb gf n ca cg L l lf rt m gl) {e o : Nat} {v : Value} (h1 : ¬ e = b) (h2 : ¬ e = ab) (h3 : ¬ e = gb) : BxAt (w.setCell ⟨e, o, none⟩ v) b ab ao gb gf n ca cg L l lf rt m gl :=
  ⟨h.len, (cell_other (.inl h1)).trans h.c0, (by obtain ⟨A, h4, h5⟩ := h.c1; exact ⟨A, (cell_other (.inl h1)).trans h4, h5⟩), (cell_other (.inl h1)).trans h.c2, (cell_other (.inl h1)).trans h.c3, (cell_other (.inl h1)).trans h.c4, (cell_other (.inl h1)).trans h.c5, fun k y hy => ⟨(cell_other (.inl h2)).trans (h.ants k y hy).1, (cell_other (.inl h2)).trans (h.ants k y hy).2⟩, h.ok,
    h.glen, fun k g hg => (cell_other (.inl h3)).trans (h.gone k g hg), fun o => by simpa using h.fz o, h.ne, by simpa [World.setCell] using h.lt, h.nc, ⟨h.own.1, (cell_other (.inl h1)).trans h.own.2.1, own_other h.own.2.2 h2⟩⟩
theorem BxAt.setLeft (h : BxAt w b ab ao gb gf n ca cg L l lf rt m gl) (v : Nat) : BxAt (w.setCell ⟨b, 2, none⟩ (.int .i64 v)) b ab ao gb gf n ca cg L l v rt m gl :=
  ⟨h.len, (cell_other (.inr (by decide))).trans h.c0, (by obtain ⟨A, h1, h2⟩ := h.c1; exact ⟨A, (cell_other (.inr (by decide))).trans h1, h2⟩), setCell_same h.c2, (cell_other (.inr (by decide))).trans h.c3, (cell_other (.inr (by decide))).trans h.c4, (cell_other (.inr (by decide))).trans h.c5, fun k y hy => ⟨(cell_other (.inl h.ne.1)).trans (h.ants k y hy).1, (cell_other (.inl h.ne.1)).trans (h.ants k y hy).2⟩, h.ok,
    h.glen, fun k g hg => (cell_other (.inl h.ne.2.1)).trans (h.gone k g hg), fun o => by simpa using h.fz o, h.ne, by simpa [World.setCell] using h.lt, h.nc, ⟨h.own.1, (cell_other (.inr (by decide))).trans h.own.2.1, own_other h.own.2.2 h.ne.1⟩⟩
theorem BxAt.setRight (h : BxAt w b ab ao gb gf n ca cg L l lf rt m gl) (v : Nat) : BxAt (w.setCell ⟨b, 3, none⟩ (.int .i64 v)) b ab ao gb gf n ca cg L l lf v m gl :=
  ⟨h.len, (cell_other (.inr (by decide))).trans h.c0, (by obtain ⟨A, h1, h2⟩ := h.c1; exact ⟨A, (cell_other (.inr (by decide))).trans h1, h2⟩), (cell_other (.inr (by decide))).trans h.c2, setCell_same h.c3, (cell_other (.inr (by decide))).trans h.c4, (cell_other (.inr (by decide))).trans h.c5, fun k y hy => ⟨(cell_other (.inl h.ne.1)).trans (h.ants k y hy).1, (cell_other (.inl h.ne.1)).trans (h.ants k y hy).2⟩, h.ok,
    h.glen, fun k g hg => (cell_other (.inl h.ne.2.1)).trans (h.gone k g hg), fun o => by simpa using h.fz o, h.ne, by simpa [World.setCell] using h.lt, h.nc, ⟨h.own.1, (cell_other (.inr (by decide))).trans h.own.2.1, own_other h.own.2.2 h.ne.1⟩⟩
theorem BxAt.setMeets (h : BxAt w b ab ao gb gf n ca cg L l lf rt m gl) (v : Nat) : BxAt (w.setCell ⟨b, 5, none⟩ (.int .i64 v)) b ab ao gb gf n ca cg L l lf rt v gl :=
  ⟨h.len, (cell_other (.inr (by decide))).trans h.c0, (by obtain ⟨A, h1, h2⟩ := h.c1; exact ⟨A, (cell_other (.inr (by decide))).trans h1, h2⟩), (cell_other (.inr (by decide))).trans h.c2, (cell_other (.inr (by decide))).trans h.c3, (cell_other (.inr (by decide))).trans h.c4, setCell_same h.c5, fun k y hy => ⟨(cell_other (.inl h.ne.1)).trans (h.ants k y hy).1, (cell_other (.inl h.ne.1)).trans (h.ants k y hy).2⟩, h.ok,
    h.glen, fun k g hg => (cell_other (.inl h.ne.2.1)).trans (h.gone k g hg), fun o => by simpa using h.fz o, h.ne, by simpa [World.setCell] using h.lt, h.nc, ⟨h.own.1, (cell_other (.inr (by decide))).trans h.own.2.1, own_other h.own.2.2 h.ne.1⟩⟩
end

/-- those ahead of k have gone on -/
def bvTo (L : Int) (l : List (Int × Int)) (k : Nat) : List (Int × Int) := (l.take k).map (bmv L) ++ l.drop k
theorem bvTo_at (L : Int) (l : List (Int × Int)) {k : Nat} (hk : k < l.length) : (bvTo L l k)[k]? = some l[k] := by
  unfold bvTo
  rw [List.getElem?_append_right (by simp; omega), List.getElem?_drop]
  simp [Nat.min_eq_left (Nat.le_of_lt hk)]
theorem bvTo_set (L : Int) (l : List (Int × Int)) {k : Nat} (hk : k < l.length) : (bvTo L l k).set k (bmv L l[k]) = bvTo L l (k + 1) := by
  unfold bvTo
  have e : ((l.take k).map (bmv L)).length = k := by simp; omega
  rw [List.set_append_right _ _ (by omega), List.take_succ_eq_append_getElem hk, List.map_append, List.drop_eq_getElem_cons hk, e, Nat.sub_self, List.set_cons_zero]
  simp
theorem bvTo_all (L : Int) (l : List (Int × Int)) {n : Nat} (hn : l.length = n) : bvTo L l n = l.map (bmv L) := by
  unfold bvTo
  rw [← hn, List.take_length, List.drop_length, List.append_nil]
/-- how often each has knocked -/
def stepK (L : Int) (l : List (Int × Int)) (gl : List Int) : List Int := List.zipWith (fun x g => if wallB L x then g + 1 else g) l gl
def knTo (L : Int) (l : List (Int × Int)) (gl : List Int) (k : Nat) : List Int := stepK L (l.take k) (gl.take k) ++ gl.drop k
theorem knTo_at (L : Int) (l : List (Int × Int)) (gl : List Int) {k : Nat} (hk : k < l.length) (hg : gl.length = l.length) : (knTo L l gl k)[k]? = some (gl[k]'(by omega)) := by
  unfold knTo stepK
  have e : (List.zipWith (fun (x : Int × Int) g => if wallB L x then g + 1 else g) (l.take k) (gl.take k)).length = k := by simp; omega
  rw [List.getElem?_append_right (by omega), List.getElem?_drop, e, Nat.sub_self, Nat.add_zero, List.getElem?_eq_getElem]
theorem knTo_set (L : Int) (l : List (Int × Int)) (gl : List Int) {k : Nat} (hk : k < l.length) (hg : gl.length = l.length) : (knTo L l gl k).set k (if wallB L l[k] then gl[k]'(by omega) + 1 else gl[k]'(by omega)) = knTo L l gl (k + 1) := by
  unfold knTo stepK
  have e : (List.zipWith (fun (x : Int × Int) g => if wallB L x then g + 1 else g) (l.take k) (gl.take k)).length = k := by simp; omega
  rw [List.set_append_right _ _ (by omega), e, Nat.sub_self, List.drop_eq_getElem_cons (show k < gl.length by omega), List.set_cons_zero,
    List.take_succ_eq_append_getElem hk, List.take_succ_eq_append_getElem (show k < gl.length by omega), List.zipWith_append (by simp; omega)]
  simp
theorem knTo_zero (L : Int) (l : List (Int × Int)) (gl : List Int) : knTo L l gl 0 = gl := by simp [knTo, stepK]
theorem knTo_all (L : Int) (l : List (Int × Int)) (gl : List Int) {n : Nat} (hl : l.length = n) (hg : gl.length = n) : knTo L l gl n = stepK L l gl := by
  unfold knTo
  rw [← hl, List.take_length, hl, ← hg, List.take_length, List.drop_length, List.append_nil]
/-- how many come to a place -/
def atB (p : Int) (l : List (Int × Int)) : Nat := l.countP fun x => x.1 + x.2 == p
theorem atB_succ (p : Int) (l : List (Int × Int)) {k : Nat} (hk : k < l.length) : atB p (l.take (k + 1)) = atB p (l.take k) + if l[k].1 + l[k].2 = p then 1 else 0 := by
  unfold atB
  rw [List.take_succ_eq_append_getElem hk, List.countP_append, List.countP_singleton]
  simp
theorem atB_le (p : Int) (l : List (Int × Int)) : atB p l ≤ l.length := List.countP_le_length
end Go.Proofs.Ythokkdipbckolaa
