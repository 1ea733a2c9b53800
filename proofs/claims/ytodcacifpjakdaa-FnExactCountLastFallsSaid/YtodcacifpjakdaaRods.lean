/- The rods of all ways: shape, keeping, goodness. -/
import Derived.Test.YtodcacifpjakdaaAll
import Derived.Test.YtodcacifpjakdaaRow
namespace Go.Proofs.Ytodcacifpjakdaa
open Go.RowKit

/-- a rod in a slice: its length, and its ants' slice -/
def rodS : Shape (Int × Option Addr × Nat × Nat) := ⟨2, fun p => [.int .i64 p.1, .slice p.2.1 p.2.2.1 p.2.2.2], fun _ => rfl, fun _ u hu => by simp at hu; rcases hu with rfl | rfl <;> rfl, by omega⟩
theorem rodI : (Try.prog.info? 50).map (fun i => (i.zero, i.size, i.bytes)) = some (some (.agg #[.int .i64 0, .slice none 0 0]), rodS.size, 32) := by kernel_rfl
theorem own_keep {α β : Type} {S : Shape α} {T : Shape β} {w w' : World} {B B' : Nat} {e e' : TypeId} {v v' : Value} {l : List α} {l' : List β} (h : SlOwn S w B e v l) (hr : SlOwn T w B' e' v' l') (hne : e ≠ e') (hg : w.grownBy w' v'.ownBlock) : SlOwn S w' B e v l := by
  refine ⟨h.1, ?_⟩
  rcases h.2 with h2 | ⟨g, cap, cur, hv, hB, hrow, h3⟩
  · exact .inl h2
  · refine .inr ⟨g, cap, cur, hv, hB, ?_, h3⟩
    rw [hg.block g (Array.getElem?_eq_some_iff.1 hrow).1 ?_]
    · exact hrow
    · intro e1
      rcases hr.2 with ⟨h4, _⟩ | ⟨g', cap', cur', hv', _, hrow', _⟩
      · rw [h4] at e1; simp [Value.ownBlock] at e1
      · rw [hv'] at e1
        simp [Value.ownBlock] at e1
        subst e1
        rw [hrow] at hrow'
        simp only [Option.some.injEq, Obj.cells.injEq] at hrow'
        exact hne hrow'.2.1
/-- the ants of rods -/
def RodsAt (w : World) (L : Int) (l : List Int) (R : List (Int × Option Addr × Nat × Nat)) : Prop :=
  ∀ j p, R[j]? = some p → p.1 = L ∧ p.2.2.1 = l.length ∧ SlOwn pairS w 0 62 (.slice p.2.1 p.2.2.1 p.2.2.2) (rdL l (wyN l.length j))
theorem RodsAt.below {w w' : World} {L : Int} {l : List Int} {R : List (Int × Option Addr × Nat × Nat)} (h : RodsAt w L l R) (hb : Below w.heap.size w w') : RodsAt w' L l R :=
  fun j p hp => ⟨(h j p hp).1, (h j p hp).2.1, (h j p hp).2.2.below hb⟩
theorem RodsAt.snoc {w : World} {L : Int} {l : List Int} {R : List (Int × Option Addr × Nat × Nat)} (h : RodsAt w L l R) {A : Option Addr} {c : Nat} (ho : SlOwn pairS w 0 62 (.slice A l.length c) (rdL l (wyN l.length R.length))) : RodsAt w L l (R ++ [(L, A, l.length, c)]) := by
  intro j p hp
  by_cases hj : j < R.length
  · rw [List.getElem?_append_left hj] at hp; exact h j p hp
  · rw [List.getElem?_append_right (by omega)] at hp
    by_cases hj2 : j = R.length
    · subst hj2
      rw [Nat.sub_self] at hp
      simp only [List.getElem?_cons_zero, Option.some.injEq] at hp
      subst hp
      exact ⟨rfl, rfl, ho⟩
    · rw [List.getElem?_eq_none (by simp; omega)] at hp; cases hp
theorem RodsAt.keep {β : Type} {T : Shape β} {w w' : World} {L : Int} {l : List Int} {R : List (Int × Option Addr × Nat × Nat)} {B' : Nat} {v' : Value} {l' : List β} (h : RodsAt w L l R) (hr : SlOwn T w B' 50 v' l') (hg : w.grownBy w' v'.ownBlock) : RodsAt w' L l R :=
  fun j p hp => ⟨(h j p hp).1, (h j p hp).2.1, own_keep (h j p hp).2.2 hr (by decide) hg⟩
theorem wpList_append_slsg {α : Type} (S : Shape α) {P : Program} (w : World) {ops : Array Oper} {rest : List Oper} {o : Oper} {a : Act} {Q : Exit → Act → World → Prop} (hgd : o.guard = none) (s x : Operand) (t : TypeId)
    (ho : o.op = .call { callee := .builtin .append, args := #[s, x], argTypes := #[t, t] })
    (B : Nat) (e : TypeId) (i : TypeInfo) (z : Value) (bytes : Nat) (ht : P.underlying t = some (.slice e)) (hi : P.info? e = some i) (hz : i.zero = some z)
    (hsize : i.size = S.size) (hby : i.bytes = bytes) (hzs : z.cells.size = S.size) (hB64 : bytes ≤ 64)
    (v : Value) (l : List α) (hs : a.eval s = v) (hown : SlOwn S w B e v l)
    (A : Option Addr) (n c : Nat) (m : List α) (hx : a.eval x = .slice A n c) (hn : n = m.length) (hm : SlAt S w A m)
    (hlen : l.length + m.length ≤ 1048576) (hbase : B ≤ w.heap.size)
    (h : ∀ A' n' c' w', n' = (l ++ m).length → SlOwn S w' B e (.slice A' n' c') (l ++ m) → Below B w w' → w.grownBy w' v.ownBlock → wpList P ops Q rest (a.put o.dst (.slice A' n' c')) w') : wpList P ops Q (o :: rest) a w := by
  refine wpList_plain hgd fun K hK => ?_
  have := step_append_slsv S (ops := ops) (K := K) (Q := Q) (E := True) w hgd s x t ho B e i z bytes ht hi hz hsize hby hzs hB64 v l hs hown A n c m hx hn hm hlen hbase (fun A' n' c' w' h1 h2 h3 h4 => hK _ _ (h A' n' c' w' h1 h2 h3 h4))
  have hw : Region.wanted o (yielded ops a.tmps) = true := by simp [Region.wanted, hgd]
  rw [if_pos hw] at this
  exact this
theorem slAt_rod1 {w : World} {g : Nat} {L : Int} {A : Option Addr} {n c : Nat} {e : TypeId} {m : Nat × Nat} (h : w.heap[g]? = some (.cells #[.int .i64 L, .slice A n c] e m)) : SlAt rodS w (some ⟨g, 0, none⟩) [(L, A, n, c)] := by
  refine .inr ⟨g, 0, rfl, (Array.getElem?_eq_some_iff.1 h).1, fun k z hk j hj => ?_⟩
  cases k with
  | succ k => simp at hk
  | zero =>
    simp only [List.getElem?_cons_zero, Option.some.injEq] at hk
    subst hk
    simp only [Nat.zero_mul, Nat.zero_add]
    rw [cell_of_row w g j _ _ _ h, ← Array.getElem?_toList]
    rfl

/-! ### the texts of ways -/
def txU (ys : List Int) : List UInt8 := ys.map fun y => if y = 1 then 114 else 108
theorem txU_len (ys : List Int) : (txU ys).length = ys.length := by simp [txU]
theorem txU_at (ys : List Int) (j : Nat) (hj : j < (txU ys).length) : (((txU ys)[j].toNat : Nat) : Int) = (letL ys)[j]'(by rw [letL_len]; rw [txU_len] at hj; exact hj) := by
  simp only [txU, letL, List.getElem_map]
  split <;> rfl
theorem txU_way (ys : List Int) (h : ∀ y ∈ ys, y = -1 ∨ y = 1) : (txU ys).map wayB = ys := by
  unfold txU
  rw [List.map_map]
  conv => rhs; rw [← List.map_id ys]
  apply List.map_congr_left
  intro y hy
  rcases h y hy with rfl | rfl <;> rfl
theorem txU_ok (ys : List Int) : (txU ys).all okB = true := by
  rw [List.all_eq_true]
  intro b hb
  obtain ⟨y, _, rfl⟩ := List.mem_map.1 hb
  split <;> rfl
def txB (ys : List Int) : ByteArray := ⟨(txU ys).toArray⟩
theorem rwB_tx {L : Int} {l ys : List Int} (hp : plB L l = true) (hl : ys.length = l.length) : rwB L l (txB ys) = true := by
  unfold rwB txB
  have e : (ByteArray.mk (txU ys).toArray).size = l.length := by show (txU ys).toArray.size = _; rw [List.size_toArray, txU_len, hl]
  rw [hp, e]
  simp [txU_ok]
theorem rwV_tx {L : Int} {l ys : List Int} (hp : plB L l = true) (hl : ys.length = l.length) (h : ∀ y ∈ ys, y = -1 ∨ y = 1) : rwV L l (txB ys) = rdL l ys ∧ rwL L l (txB ys) = L := by
  unfold rwV rwL
  rw [rwB_tx hp hl]
  refine ⟨?_, rfl⟩
  show rdL l (((txU ys).toArray.toList).map wayB) = _
  rw [List.toList_toArray, txU_way ys h]
theorem rdL_len (l ys : List Int) (h : ys.length = l.length) : (rdL l ys).length = l.length := by unfold rdL; rw [List.length_zip, h]; omega

theorem ch_range {w : World} {A : Option Addr} {X : List (List Int)} {k : Nat} (h : SlAt chS w A X) (hk : k < X.length) : ∃ b off, A = some ⟨b, off, none⟩ ∧ b < w.heap.size ∧ w.rangeAt b (off + k * 12) (chV X[k]) := by
  rcases h with rfl | ⟨b, off, hA, hlt, h⟩
  · simp at hk
  · refine ⟨b, off, hA, hlt, fun j v hv => ?_⟩
    have hj : j < 12 := by have := (List.getElem?_eq_some_iff.1 hv).1; rwa [chV_len] at this
    have := h k X[k] (List.getElem?_eq_getElem hk) j hj
    rw [show off + k * 12 + j = off + k * chS.size + j from rfl, this]
    exact hv
end Go.Proofs.Ytodcacifpjakdaa
