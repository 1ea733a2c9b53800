/- A run of the model in memory, and one step of it. -/
import Derived.Test.YtdoikeglaolipaaRun
import Derived.Test.YtdoikeglaolipaaShift
import Derived.BigRegion
namespace Go.Proofs.Ytdoikeglaolipaa
open Go.RowKit

/-- a run lies in memory: its four fields, its ants, and a row of integers -/
structure RunAt (w : World) (b ab ao gb gf n ca cg : Nat) (L : Int) (l : List (Int × Int)) (m : Nat) (gl : List Int) : Prop where
  len : l.length = n
  c0 : w.cell? ⟨b, 0, none⟩ = some (.int .i64 L)
  c1 : ∃ A, w.cell? ⟨b, 1, none⟩ = some (.slice A n ca) ∧ (n = 0 ∨ A = some ⟨ab, ao, none⟩)
  c2 : w.cell? ⟨b, 2, none⟩ = some (.slice (some ⟨gb, gf, none⟩) n cg)
  c3 : w.cell? ⟨b, 3, none⟩ = some (.int .i64 m)
  ants : ∀ (k : Nat) (x : Int × Int), l[k]? = some x → w.cell? ⟨ab, ao + k * 2, none⟩ = some (.int .i64 x.1) ∧ w.cell? ⟨ab, ao + k * 2 + 1, none⟩ = some (.int .i64 x.2)
  ok : ∀ (k : Nat) (x : Int × Int), l[k]? = some x → 0 ≤ x.1 ∧ x.1 < L ∧ (x.2 = -1 ∨ x.2 = 1)
  glen : gl.length = n
  gone : ∀ (k : Nat) (g : Int), gl[k]? = some g → w.cell? ⟨gb, gf + k, none⟩ = some (.int .i64 g)
  fz : ∀ o, w.frozen? ⟨b, o, none⟩ = false ∧ w.frozen? ⟨ab, o, none⟩ = false ∧ w.frozen? ⟨gb, o, none⟩ = false
  ne : b ≠ ab ∧ b ≠ gb ∧ ab ≠ gb
  lt : b < w.heap.size ∧ ab < w.heap.size ∧ gb < w.heap.size
  nc : n ≤ ca ∧ n ≤ cg

theorem cell_other {w : World} {p q r s : Nat} {v : Value} (h : p ≠ r ∨ q ≠ s) : (w.setCell ⟨p, q, none⟩ v).cell? ⟨r, s, none⟩ = w.cell? ⟨r, s, none⟩ :=
  by
  refine World.cell?_setCell_other _ _ _ _ ?_
  intro e
  injection e with e1 e2
  rcases h with h | h
  · exact h e1
  · exact h e2
theorem setCell_same {w : World} {a : Addr} {u v : Value} (h : w.cell? a = some u) : (w.setCell a v).cell? a = some v := World.cell?_setCell_same _ _ _ h
theorem RunAt.below {w w' : World} {b ab ao gb gf n ca cg : Nat} {L : Int} {l : List (Int × Int)} {m : Nat} {gl : List Int} (h : RunAt w b ab ao gb gf n ca cg L l m gl) (hb : Below w.heap.size w w') : RunAt w' b ab ao gb gf n ca cg L l m gl :=
  ⟨h.len, (hb.cell (p := ⟨b, 0, none⟩) h.lt.1).trans h.c0, (by obtain ⟨A, h1, h2⟩ := h.c1; exact ⟨A, (hb.cell (p := ⟨b, 1, none⟩) h.lt.1).trans h1, h2⟩), (hb.cell (p := ⟨b, 2, none⟩) h.lt.1).trans h.c2, (hb.cell (p := ⟨b, 3, none⟩) h.lt.1).trans h.c3,
    fun k x hx => ⟨(hb.cell (p := ⟨ab, _, none⟩) h.lt.2.1).trans (h.ants k x hx).1, (hb.cell (p := ⟨ab, _, none⟩) h.lt.2.1).trans (h.ants k x hx).2⟩, h.ok,
    h.glen, fun k g hg => (hb.cell (p := ⟨gb, _, none⟩) h.lt.2.2).trans (h.gone k g hg),
    fun o => ⟨(hb.frozen (p := ⟨b, o, none⟩) h.lt.1).trans (h.fz o).1, (hb.frozen (p := ⟨ab, o, none⟩) h.lt.2.1).trans (h.fz o).2.1, (hb.frozen (p := ⟨gb, o, none⟩) h.lt.2.2).trans (h.fz o).2.2⟩, h.ne,
    ⟨Nat.lt_of_lt_of_le h.lt.1 hb.size, Nat.lt_of_lt_of_le h.lt.2.1 hb.size, Nat.lt_of_lt_of_le h.lt.2.2 hb.size⟩, h.nc⟩
theorem RunAt.setAnt {w : World} {b ab ao gb gf n ca cg : Nat} {L : Int} {l : List (Int × Int)} {m : Nat} {gl : List Int} (h : RunAt w b ab ao gb gf n ca cg L l m gl) {i : Nat} {x : Int × Int} (hx : l[i]? = some x) (v : Int) (hv : 0 ≤ v ∧ v < L) :
    RunAt (w.setCell ⟨ab, ao + i * 2, none⟩ (.int .i64 v)) b ab ao gb gf n ca cg L (l.set i (v, x.2)) m gl := by
  have hi : i < l.length := (List.getElem?_eq_some_iff.1 hx).1
  refine ⟨by rw [List.length_set]; exact h.len, (cell_other (.inl h.ne.1.symm)).trans h.c0, (by obtain ⟨A, h1, h2⟩ := h.c1; exact ⟨A, (cell_other (.inl h.ne.1.symm)).trans h1, h2⟩), (cell_other (.inl h.ne.1.symm)).trans h.c2, (cell_other (.inl h.ne.1.symm)).trans h.c3, fun k y hy => ?_, fun k y hy => ?_, h.glen, fun k g hg => (cell_other (.inl h.ne.2.2)).trans (h.gone k g hg), fun o => by simpa using h.fz o, h.ne, by simpa [World.setCell] using h.lt, h.nc⟩
  · by_cases e : k = i
    · subst e
      rw [List.getElem?_set_self hi] at hy
      injection hy with hy
      subst hy
      exact ⟨setCell_same (h.ants k x hx).1, (cell_other (.inr (by omega))).trans (h.ants k x hx).2⟩
    · rw [List.getElem?_set_ne (fun q => e q.symm)] at hy
      exact ⟨(cell_other (.inr (by omega))).trans (h.ants k y hy).1, (cell_other (.inr (by omega))).trans (h.ants k y hy).2⟩
  · by_cases e : k = i
    · subst e
      rw [List.getElem?_set_self hi] at hy
      injection hy with hy
      subst hy
      exact ⟨hv.1, hv.2, (h.ok k x hx).2.2⟩
    · rw [List.getElem?_set_ne (fun q => e q.symm)] at hy
      exact h.ok k y hy
theorem RunAt.setWay {w : World} {b ab ao gb gf n ca cg : Nat} {L : Int} {l : List (Int × Int)} {m : Nat} {gl : List Int} (h : RunAt w b ab ao gb gf n ca cg L l m gl) {i : Nat} {x : Int × Int} (hx : l[i]? = some x) :
    RunAt (w.setCell ⟨ab, ao + i * 2 + 1, none⟩ (.int .i64 (-x.2))) b ab ao gb gf n ca cg L (l.set i (x.1, -x.2)) m gl := by
  have hi : i < l.length := (List.getElem?_eq_some_iff.1 hx).1
  refine ⟨by rw [List.length_set]; exact h.len, (cell_other (.inl h.ne.1.symm)).trans h.c0, (by obtain ⟨A, h1, h2⟩ := h.c1; exact ⟨A, (cell_other (.inl h.ne.1.symm)).trans h1, h2⟩), (cell_other (.inl h.ne.1.symm)).trans h.c2, (cell_other (.inl h.ne.1.symm)).trans h.c3, fun k y hy => ?_, fun k y hy => ?_, h.glen, fun k g hg => (cell_other (.inl h.ne.2.2)).trans (h.gone k g hg), fun o => by simpa using h.fz o, h.ne, by simpa [World.setCell] using h.lt, h.nc⟩
  · by_cases e : k = i
    · subst e
      rw [List.getElem?_set_self hi] at hy
      injection hy with hy
      subst hy
      exact ⟨(cell_other (.inr (by omega))).trans (h.ants k x hx).1, setCell_same (h.ants k x hx).2⟩
    · rw [List.getElem?_set_ne (fun q => e q.symm)] at hy
      exact ⟨(cell_other (.inr (by omega))).trans (h.ants k y hy).1, (cell_other (.inr (by omega))).trans (h.ants k y hy).2⟩
  · by_cases e : k = i
    · subst e
      rw [List.getElem?_set_self hi] at hy
      injection hy with hy
      subst hy
      have := h.ok k x hx
      exact ⟨this.1, this.2.1, by show -x.2 = -1 ∨ -x.2 = 1; omega⟩
    · rw [List.getElem?_set_ne (fun q => e q.symm)] at hy
      exact h.ok k y hy
theorem RunAt.setGone {w : World} {b ab ao gb gf n ca cg : Nat} {L : Int} {l : List (Int × Int)} {m : Nat} {gl : List Int} (h : RunAt w b ab ao gb gf n ca cg L l m gl) {i : Nat} (hi : i < n) (v : Int) :
    RunAt (w.setCell ⟨gb, gf + i, none⟩ (.int .i64 v)) b ab ao gb gf n ca cg L l m (gl.set i v) := by
  refine ⟨h.len, (cell_other (.inl h.ne.2.1.symm)).trans h.c0, (by obtain ⟨A, h1, h2⟩ := h.c1; exact ⟨A, (cell_other (.inl h.ne.2.1.symm)).trans h1, h2⟩), (cell_other (.inl h.ne.2.1.symm)).trans h.c2, (cell_other (.inl h.ne.2.1.symm)).trans h.c3, fun k y hy => ⟨(cell_other (.inl h.ne.2.2.symm)).trans (h.ants k y hy).1, (cell_other (.inl h.ne.2.2.symm)).trans (h.ants k y hy).2⟩, h.ok, by rw [List.length_set]; exact h.glen, fun k g hg => ?_, fun o => by simpa using h.fz o, h.ne, by simpa [World.setCell] using h.lt, h.nc⟩
  have hil : i < gl.length := by rw [h.glen]; exact hi
  by_cases e : k = i
  · subst e
    rw [List.getElem?_set_self hil] at hg
    injection hg with hg
    subst hg
    exact setCell_same (h.gone k _ (List.getElem?_eq_getElem hil))
  · rw [List.getElem?_set_ne (fun q => e q.symm)] at hg
    exact (cell_other (.inr (by omega))).trans (h.gone k g hg)
theorem RunAt.setMeets {w : World} {b ab ao gb gf n ca cg : Nat} {L : Int} {l : List (Int × Int)} {m : Nat} {gl : List Int} (h : RunAt w b ab ao gb gf n ca cg L l m gl) (m' : Nat) :
    RunAt (w.setCell ⟨b, 3, none⟩ (.int .i64 m')) b ab ao gb gf n ca cg L l m' gl :=
  ⟨h.len, (cell_other (.inr (by decide))).trans h.c0, (by obtain ⟨A, h1, h2⟩ := h.c1; exact ⟨A, (cell_other (.inr (by decide))).trans h1, h2⟩), (cell_other (.inr (by decide))).trans h.c2, setCell_same h.c3, fun k y hy => ⟨(cell_other (.inl h.ne.1)).trans (h.ants k y hy).1, (cell_other (.inl h.ne.1)).trans (h.ants k y hy).2⟩, h.ok,
    h.glen, fun k g hg => (cell_other (.inl h.ne.2.1)).trans (h.gone k g hg), fun o => by simpa using h.fz o, h.ne, by simpa [World.setCell] using h.lt, h.nc⟩

/-- those ahead of k have gone on -/
def mvTo (L : Int) (l : List (Int × Int)) (k : Nat) : List (Int × Int) := (l.take k).map (mvC L) ++ l.drop k
theorem mvTo_at (L : Int) (l : List (Int × Int)) {k : Nat} (hk : k < l.length) : (mvTo L l k)[k]? = some l[k] := by
  unfold mvTo
  rw [List.getElem?_append_right (by simp; omega), List.getElem?_drop]
  simp [Nat.min_eq_left (Nat.le_of_lt hk)]
theorem mvTo_set (L : Int) (l : List (Int × Int)) {k : Nat} (hk : k < l.length) : (mvTo L l k).set k (mvC L l[k]) = mvTo L l (k + 1) := by
  unfold mvTo
  have e : ((l.take k).map (mvC L)).length = k := by simp; omega
  rw [List.set_append_right _ _ (by omega), List.take_succ_eq_append_getElem hk, List.map_append, List.drop_eq_getElem_cons hk, e, Nat.sub_self, List.set_cons_zero]
  simp
/-- how far each has gone -/
def stepG (l : List (Int × Int)) (gl : List Int) : List Int := List.zipWith (fun x g => g + x.2) l gl
def goTo (l : List (Int × Int)) (gl : List Int) (k : Nat) : List Int := stepG (l.take k) (gl.take k) ++ gl.drop k
theorem goTo_at (l : List (Int × Int)) (gl : List Int) {k : Nat} (hk : k < l.length) (hg : gl.length = l.length) : (goTo l gl k)[k]? = some (gl[k]'(by omega)) := by
  unfold goTo stepG
  have e : (List.zipWith (fun (x : Int × Int) g => g + x.2) (l.take k) (gl.take k)).length = k := by simp; omega
  rw [List.getElem?_append_right (by omega), List.getElem?_drop, e, Nat.sub_self, Nat.add_zero, List.getElem?_eq_getElem]
theorem goTo_set (l : List (Int × Int)) (gl : List Int) {k : Nat} (hk : k < l.length) (hg : gl.length = l.length) : (goTo l gl k).set k (gl[k]'(by omega) + l[k].2) = goTo l gl (k + 1) := by
  unfold goTo stepG
  have e : (List.zipWith (fun (x : Int × Int) g => g + x.2) (l.take k) (gl.take k)).length = k := by simp; omega
  rw [List.set_append_right _ _ (by omega), e, Nat.sub_self, List.drop_eq_getElem_cons (show k < gl.length by omega), List.set_cons_zero,
    List.take_succ_eq_append_getElem hk, List.take_succ_eq_append_getElem (show k < gl.length by omega), List.zipWith_append (by simp; omega)]
  simp
theorem goTo_zero (l : List (Int × Int)) (gl : List Int) : goTo l gl 0 = gl := by simp [goTo, stepG]
theorem goTo_all (l : List (Int × Int)) (gl : List Int) {n : Nat} (hl : l.length = n) (hg : gl.length = n) : goTo l gl n = stepG l gl := by
  unfold goTo
  rw [← hl, List.take_length, hl, ← hg, List.take_length, List.drop_length, List.append_nil]
theorem trK_le (i : Nat) (s : List (Int × Int) × Nat) : ∀ k, (trK i k s).2 ≤ s.2 + k
  | 0 => Nat.le_refl _
  | k + 1 => by
    have := trK_le i s k
    unfold trK
    split
    · show (trK i k s).2 + 1 ≤ _; omega
    · omega
theorem trI_le (s : List (Int × Int) × Nat) : ∀ i, i ≤ 16 → (trI i s).2 ≤ s.2 + i * 16
  | 0, _ => Nat.le_refl _
  | i + 1, hi => by
    have h1 := trI_le s i (by omega)
    have h2 := trK_le i (trI i s) i
    show (trK i i (trI i s)).2 ≤ _
    omega

theorem mvTo_all (L : Int) (l : List (Int × Int)) {n : Nat} (hn : l.length = n) : mvTo L l n = l.map (mvC L) := by
  unfold mvTo
  rw [← hn, List.take_length, List.drop_length, List.append_nil]
theorem flp_eq {l : List (Int × Int)} {i : Nat} {x : Int × Int} (hx : l[i]? = some x) : flp l i = l.set i (x.1, -x.2) := by
  unfold flp
  rw [List.getD_eq_getElem?_getD, hx]
  rfl
theorem flp_other {l : List (Int × Int)} {i k : Nat} (h : k ≠ i) : (flp l i)[k]? = l[k]? := by
  unfold flp
  rw [List.getElem?_set_ne (fun q => h q.symm)]
set_option maxRecDepth 100000 in
set_option maxHeartbeats 4000000 in
theorem step_any (B b ab ao gb gf n ca cg : Nat) (L : Int) (l : List (Int × Int)) (m : Nat) (gl : List Int) (w : World) (h : RunAt w b ab ao gb gf n ca cg L l m gl) (hgb : ∀ (k : Nat) (g : Int), gl[k]? = some g → -1000000 ≤ g ∧ g ≤ 1000000) (hL : 2 ≤ L ∧ L ≤ 400) (hn : n ≤ 16) (hm : m ≤ 1000000000) (hB : B ≤ b ∧ B ≤ ab ∧ B ≤ gb) :
    Calls Try.prog 59 #[.pointer (some ⟨b, 0, none⟩)] w fun e w' => ∃ v, e = .returned v ∧ RunAt w' b ab ao gb gf n ca cg L (stepC L (l, m)).1 (stepC L (l, m)).2 (stepG l gl) ∧ Below B w w' := by
  have HR := Lib.hid h
  have HB := Lib.hid hB
  obtain ⟨A, c1, hA⟩ := h.c1
  have HAA := Lib.hid hA
  clear hA
  have hnc := h.nc
  have hL0 : ¬ L = 0 := by omega
  have hlen := h.len
  have hgl := h.glen
  have HGB := Lib.hid hgb
  clear hgb
  have BW : Hid (B ≤ w.heap.size) := by have := h.lt.1; show _ ≤ _; omega
  clear h hB
  go_enter Try.func59, Try.ntmps59
  go_wp2
  clear c1
  go_loopw [11] (fun i wr => ∃ (k : Nat), k ≤ n ∧ i = .int .i64 k ∧ RunAt wr b ab ao gb gf n ca cg L (mvTo L l k) m (goTo l gl k) ∧ Below B w wr)
    (fun i _ => n - (intOf i).toNat)
  case atStart => exact ⟨0, Nat.zero_le _, rfl, by rw [goTo_zero]; simpa [mvTo] using HR.out, Below.refl _ _⟩
  case round =>
    obtain ⟨k, hk, rfl, hra, hbr⟩ := hrel
    obtain ⟨W1, rfl⟩ : ∃ W, W = wr := ⟨_, rfl⟩
    have HRA := Lib.hid hra
    have HBR := Lib.hid hbr
    by_cases hlt : k < n
    · have hx := mvTo_at L l (show k < l.length by omega)
      have HX := Lib.hid hx
      have HS := Lib.hid (mvTo_set L l (show k < l.length by omega))
      have hok := hra.ok k _ hx
      have hgx := goTo_at l gl (show k < l.length by omega) (by omega)
      have HGS := Lib.hid (goTo_set l gl (show k < l.length by omega) (by omega))
      have hgk := HGB.out k _ (List.getElem?_eq_getElem (show k < gl.length by omega))
      have HGX := Lib.hid hgx
      generalize gl[k]'(by omega) = g at *
      clear hgx
      obtain ⟨a0, a1⟩ := hra.ants k _ hx
      generalize l[k]'(by omega) = x at *
      obtain ⟨x1, x2⟩ := x
      simp only at a0 a1 hok
      have hkn : (k : Int) < (n : Int) := by omega
      have hkn2 : (k : Int) < (ca : Int) := by omega
      have hw1 : IntKind.i64.wrap (x1 + x2) = x1 + x2 := IntWalk.i64_in _ (by omega)
      have hw2 : IntKind.i64.wrap (x1 + x2 + L) = x1 + x2 + L := IntWalk.i64_in _ (by omega)
      have htm : (x1 + x2 + L).tmod L = (x1 + x2 + L) % L := Int.tmod_eq_emod_of_nonneg (by omega)
      have hb0 := Int.emod_nonneg (x1 + x2 + L) hL0
      have hb1 := Int.emod_lt_of_pos (x1 + x2 + L) (show 0 < L by omega)
      have hw3 : IntKind.i64.wrap ((x1 + x2 + L).tmod L) = (x1 + x2 + L).tmod L := by rw [htm]; exact IntWalk.i64_in _ (by omega)
      have R2 : RunAt (W1.alloc (Obj.cells #[Value.int IntKind.i64 x1, Value.int IntKind.i64 x2] 59)) b ab ao gb gf n ca cg L (mvTo L l k) m (goTo l gl k) := hra.below ((Below.refl _ _).alloc (Nat.le_refl _) _)
      have B2 := Lib.hid (hbr.alloc (Nat.le_trans BW.out hbr.size) (Obj.cells #[Value.int IntKind.i64 x1, Value.int IntKind.i64 x2] 59))
      have e0 : (W1.alloc (Obj.cells #[Value.int IntKind.i64 x1, Value.int IntKind.i64 x2] 59)).cell? ⟨W1.heap.size, 0, none⟩ = some (.int .i64 x1) := by simp
      have e1 : (W1.alloc (Obj.cells #[Value.int IntKind.i64 x1, Value.int IntKind.i64 x2] 59)).cell? ⟨W1.heap.size, 1, none⟩ = some (.int .i64 x2) := by simp
      have hlt1 := hra.lt
      have hA2 : A = some ⟨ab, ao, none⟩ := HAA.out.resolve_left (by omega)
      subst hA2
      go_wp2
      clear hra hbr
      clear a0 a1
      generalize W1.alloc (Obj.cells #[Value.int IntKind.i64 x1, Value.int IntKind.i64 x2] 59) = W2 at *
      have c0 := R2.c0
      obtain ⟨A, c1, hA⟩ := R2.c1
      have hA2 : A = some ⟨ab, ao, none⟩ := hA.resolve_left (by omega)
      subst hA2
      clear hA
      obtain ⟨a0, a1⟩ := R2.ants k _ hx
      have f0 := (R2.fz (ao + k * 2)).2.1
      have HR2 := Lib.hid R2
      clear hx R2
      go_region
      have hne1 : ab ≠ W1.heap.size := by omega
      have R3 : RunAt (W2.setCell ⟨ab, ao + k * 2, none⟩ (.int .i64 ((x1 + x2) % L))).drew b ab ao gb gf n ca cg L (mvTo L l (k + 1)) m (goTo l gl k) := by
        have := (HR2.out.setAnt HX.out ((x1 + x2) % L) (by rw [← Int.add_emod_right]; exact ⟨hb0, hb1⟩)).below ((Below.refl _ _).drew)
        rw [← HS.out]
        unfold mvC
        rw [Int.add_emod_right]
        exact this
      have B3 := Lib.hid ((B2.out.setCell (p := ⟨ab, ao + k * 2, none⟩) HB.out.2.1 (.int .i64 ((x1 + x2) % L))).drew)
      have e3 : (W2.setCell ⟨ab, ao + k * 2, none⟩ (.int .i64 ((x1 + x2) % L))).drew.cell? ⟨W1.heap.size, 1, none⟩ = some (.int .i64 x2) := (cell_other (.inl hne1)).trans e1
      clear a0 a1 c0 c1 f0 e0 e1 hw1 hw2 hw3 htm HS
      generalize (W2.setCell ⟨ab, ao + k * 2, none⟩ (.int .i64 ((x1 + x2) % L))).drew = W3 at *
      have c2 := R3.c2
      have hg := R3.gone k g HGX.out
      have hwg : IntKind.i64.wrap (g + x2) = g + x2 := IntWalk.i64_in _ (by omega)
      have f3 := (R3.fz (gf + k)).2.2
      have hkn3 : (k : Int) < (cg : Int) := by omega
      have HR3 := Lib.hid R3
      clear R3 hb0 hb1
      go_wp2
      go_region
      go_wp2
      go_roundw
      case rel => 
        refine ⟨k + 1, by omega, by go_num, ?_, ?_⟩
        · rw [← HGS.out]; exact (HR3.out.setGone hlt _).below ((Below.refl _ _).drew)
        · exact (B3.out.setCell HB.out.2.2 _).drew
      case measure => simp [intOf]; omega
    · have hke : k = n := by omega
      subst hke
      have HRA := HRA.out
      rw [mvTo_all L l hlen, goTo_all l gl hlen hgl] at HRA
      have HST : Hid (stepC L (l, m) = trI k (l.map (mvC L), m)) := by show _ = _; unfold stepC; rw [hlen]
      generalize l.map (mvC L) = l0 at *
      obtain ⟨A1, c1, -⟩ := HRA.c1
      have HRA := Lib.hid HRA
      clear hra hbr
      go_wp2
      clear c1
      go_loopw [55] (fun v wr => ∃ (i : Nat), i ≤ k ∧ v = .int .i64 i ∧ RunAt wr b ab ao gb gf k ca cg L (trI i (l0, m)).1 (trI i (l0, m)).2 (stepG l gl) ∧ Below B w wr)
        (fun v _ => k - (intOf v).toNat)
      case atStart => exact ⟨0, Nat.zero_le _, rfl, HRA.out, HBR.out⟩
      case round =>
        obtain ⟨i, hi, rfl, hra, hbr⟩ := hrel
        obtain ⟨W2, rfl⟩ : ∃ W, W = wr := ⟨_, rfl⟩
        have HRA2 := Lib.hid hra
        have HBR2 := Lib.hid hbr
        clear hra hbr
        have HLE := Lib.hid (trI_le (l0, m) i (by omega))
        have HSU : Hid (trK i i (trI i (l0, m)) = trI (i + 1) (l0, m)) := by show _ = _; rfl
        by_cases hlt : i < k
        · generalize trI i (l0, m) = s at *
          go_wp2
          go_loopw [5] (fun v wr => ∃ (j : Nat), j ≤ i ∧ v = .int .i64 j ∧ RunAt wr b ab ao gb gf k ca cg L (trK i j s).1 (trK i j s).2 (stepG l gl) ∧ Below B w wr)
            (fun v _ => i - (intOf v).toNat)
          case atStart => exact ⟨0, Nat.zero_le _, rfl, HRA2.out, HBR2.out⟩
          case round =>
            obtain ⟨j, hj, rfl, hra, hbr⟩ := hrel
            obtain ⟨W3, rfl⟩ : ∃ W, W = wr := ⟨_, rfl⟩
            have HRA3 := Lib.hid hra
            have HBR3 := Lib.hid hbr
            by_cases hjl : j < i
            · obtain ⟨x, hx⟩ : ∃ x, (trK i j s).1[i]? = some x := ⟨_, List.getElem?_eq_getElem (by rw [hra.len]; omega)⟩
              obtain ⟨y, hy⟩ : ∃ y, (trK i j s).1[j]? = some y := ⟨_, List.getElem?_eq_getElem (by rw [hra.len]; omega)⟩
              have hox := (hra.ok i x hx).2.2
              have hoy := (hra.ok j y hy).2.2
              have HYES : Hid (x.1 = y.1 → trK i (j + 1) s = (flp (flp (trK i j s).1 i) j, (trK i j s).2 + 1)) := trK_yes i j s hx hy
              have HNO : Hid (¬ x.1 = y.1 → trK i (j + 1) s = trK i j s) := trK_no i j s hx hy
              have HFX := Lib.hid (flp_eq hx)
              have HFY : Hid (flp (flp (trK i j s).1 i) j = (flp (trK i j s).1 i).set j (y.1, -y.2)) := flp_eq (by rw [flp_other (by omega)]; exact hy)
              have HY2 : Hid ((flp (trK i j s).1 i)[j]? = some y) := by show _ = _; rw [flp_other (by omega)]; exact hy
              have HLK := Lib.hid (trK_le i s j)
              have hm3 : (trK i j s).2 ≤ 1000000512 := by have := HLE.out; have := HLK.out; omega
              generalize trK i j s = s3 at *
              obtain ⟨l3, m3⟩ := s3
              simp only at hra hx hy hm3
              obtain ⟨a0, a1⟩ := hra.ants i x hx
              obtain ⟨b0, b1⟩ := hra.ants j y hy
              obtain ⟨x1, x2⟩ := x
              obtain ⟨y1, y2⟩ := y
              simp only at a0 a1 b0 b1 hox hoy
              obtain ⟨A2, c1, hA⟩ := hra.c1
              have hA2 : A2 = some ⟨ab, ao, none⟩ := hA.resolve_left (by omega)
              subst hA2
              clear hA
              have hik : (i : Int) < (k : Int) := by omega
              have hjk : (j : Int) < (k : Int) := by omega
              have hic : (i : Int) < (ca : Int) := by omega
              have hjc : (j : Int) < (ca : Int) := by omega
              have HX := Lib.hid hx
              have HRR := Lib.hid hra
              clear hx hy hra hbr
              by_cases hxy : x1 = y1
              · have d : (x1 == y1) = true := by simpa using hxy
                have HS4 := Lib.hid (HYES.out hxy)
                go_wp2
                go_region
                have R4 := HRR.out.below ((Below.refl _ _).drew)
                have B4 := Lib.hid HBR3.out.drew
                clear a0 a1 b0 b1 c1 d
                generalize W3.drew = W4 at *
                obtain ⟨A2, c1, hA⟩ := R4.c1
                have hA2 : A2 = some ⟨ab, ao, none⟩ := hA.resolve_left (by omega)
                subst hA2
                clear hA
                have a1 := (R4.ants i _ HX.out).2
                have f1 := (R4.fz (ao + i * 2 + 1)).2.1
                have hwx : IntKind.i64.wrap (-x2) = -x2 := IntWalk.i64_in _ (by omega)
                have HR4 := Lib.hid R4
                clear R4
                simp only at a1
                go_wp2
                go_region
                have R5 : RunAt (W4.setCell ⟨ab, ao + i * 2 + 1, none⟩ (.int .i64 (-x2))).drew b ab ao gb gf k ca cg L (flp l3 i) m3 (stepG l gl) := by
                  rw [HFX.out]
                  exact (HR4.out.setWay HX.out).below ((Below.refl _ _).drew)
                have B5 := Lib.hid (B4.out.setCell (p := ⟨ab, ao + i * 2 + 1, none⟩) HB.out.2.1 (.int .i64 (-x2))).drew
                clear a1 c1 f1 hwx
                generalize (W4.setCell ⟨ab, ao + i * 2 + 1, none⟩ (.int .i64 (-x2))).drew = W5 at *
                obtain ⟨A2, c1, hA⟩ := R5.c1
                have hA2 : A2 = some ⟨ab, ao, none⟩ := hA.resolve_left (by omega)
                subst hA2
                clear hA
                have b1 := (R5.ants j _ HY2.out).2
                have f1 := (R5.fz (ao + j * 2 + 1)).2.1
                have hwy : IntKind.i64.wrap (-y2) = -y2 := IntWalk.i64_in _ (by omega)
                have HR5 := Lib.hid R5
                clear R5
                simp only at b1
                go_wp2
                go_region
                have R6 : RunAt (W5.setCell ⟨ab, ao + j * 2 + 1, none⟩ (.int .i64 (-y2))).drew b ab ao gb gf k ca cg L (flp (flp l3 i) j) m3 (stepG l gl) := by
                  rw [HFY.out]
                  exact (HR5.out.setWay HY2.out).below ((Below.refl _ _).drew)
                have B6 := Lib.hid (B5.out.setCell (p := ⟨ab, ao + j * 2 + 1, none⟩) HB.out.2.1 (.int .i64 (-y2))).drew
                clear b1 c1 f1 hwy
                generalize (W5.setCell ⟨ab, ao + j * 2 + 1, none⟩ (.int .i64 (-y2))).drew = W6 at *
                have c3 := R6.c3
                have f3 := (R6.fz 3).1
                have hwm : IntKind.i64.wrap ((m3 : Int) + 1) = (m3 : Int) + 1 := IntWalk.i64_in _ (by omega)
                have HR6 := Lib.hid R6
                clear R6
                go_wp2
                go_roundw
                case rel =>
                  refine ⟨j + 1, by omega, by go_num, ?_, ?_⟩
                  · rw [HS4.out]
                    exact HR6.out.setMeets (m3 + 1)
                  · exact B6.out.setCell HB.out.1 _
                case measure => simp [intOf]; omega
              · have d : (x1 == y1) = false := by simpa using hxy
                have HS4 := Lib.hid (HNO.out hxy)
                go_wp2
                go_region
                go_wp2
                go_roundw
                case rel => exact ⟨j + 1, by omega, by go_num, by rw [HS4.out]; exact HRR.out.below ((Below.refl _ _).drew), HBR3.out.drew⟩
                case measure => simp [intOf]; omega
            · have hje : j = i := by omega
              subst hje
              clear hra hbr
              go_wp2
              go_roundw
              case rel => exact ⟨j + 1, by omega, by go_num, by rw [← HSU.out]; exact HRA3.out, HBR3.out⟩
              case measure => simp [intOf]; omega
        · have hie : i = k := by omega
          subst hie
          go_wp2
          go_end0
          exact ⟨⟨_, rfl⟩, by rw [HST.out]; exact HRA2.out, HBR2.out⟩
end Go.Proofs.Ytdoikeglaolipaa
