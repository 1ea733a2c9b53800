/- Rows of a map that stay while another block turns; a lookup in a plain stretch; parts of an array of pairs. -/
import Derived.Test.YtdoikeglaolipaaCrewL
import Derived.Laws.Rows
namespace Go.Proofs.Ytdoikeglaolipaa
open Go.RowKit
open Go.Maps (Keyed)

def mvK (L : Int) (f : Int × Int → Int × Int) (x : Int × Int) : Int × Int := ((f x).1 % L, (f x).2)
def crewV (m : List (Int × Int)) : List Value := pairS.row m ++ List.replicate (32 - m.length * 2) (Value.int .i64 0)

theorem wpList_lookup_run {P : Program} {w : World} {ops : Array Oper} {rest : List Oper} {o : Oper} {a : Act} {Q : Exit → Act → World → Prop} (hgd : o.guard = none) (m x : Operand) (t : TypeId)
    (hop : o.op = Op.lookup t m x false) (mv xv v : Value) (hm : a.eval m = mv) (hx : a.eval x = xv) (hrun : (Instr.lookup t mv xv false).run P w = .ok v w) (h : wpList P ops Q rest (a.put o.dst v) w) :
    wpList P ops Q (o :: rest) a w := by
  refine wpList_plain hgd fun K hK => ?_
  unfold Oper.wp
  simp [execOp, hop, hm, hx, hrun, Result.andThen]
  exact hK _ _ h

theorem MapS.turned {w w' : World} {P : Program} {K e : TypeId} {B b k g : Nat} {D : VD} {m : List (Int × Int)} {S : List Int} (h : MapS w P K e B b k D m S) (hg : w.grownBy w' (some g)) (hb : g ≠ b)
    (hr : ∀ (x : Int) (v : Value), atV D x = .held v → v.ownBlock ≠ some g) : MapS w' P K e B b k D m S where
  own := h.own.kept hg (fun e => hb (by injection e with e; exact e.symm))
  base := h.base
  row x := by
    obtain ⟨v, h1, h2, h3⟩ := h.row x
    exact ⟨v, h1, h2.kept hg (.inr (hr x v h1)), h3⟩
  apart := h.apart

/-- the rows lie below N -/
def RowsLt (D : VD) (N : Nat) : Prop := ∀ (x : Int) (v : Value) (k : Nat), atV D x = .held v → v.ownBlock = some k → k < N
theorem MapS.rowsLt {w : World} {P : Program} {K e : TypeId} {B b k : Nat} {D : VD} {m : List (Int × Int)} {S : List Int} (h : MapS w P K e B b k D m S) : RowsLt D w.heap.size := fun x v k hv hk => by
  obtain ⟨u, h1, h2, _⟩ := h.row x
  obtain rfl : u = v := by rw [hv] at h1; injection h1 with h1; exact h1.symm
  exact (World.ownsRow.lt h2 k hk).2

theorem crew_length (m : List (Int × Int)) (h : m.length ≤ 16) : (crewV m).length = 32 := by
  unfold crewV
  rw [List.length_append, pairS.row_length, List.length_replicate]
  show m.length * 2 + _ = _
  omega
theorem crew_one (m : List (Int × Int)) : ∀ u ∈ crewV m, u.oneCell' = true := by
  intro u hu
  unfold crewV at hu
  rcases List.mem_append.1 hu with hu | hu
  · exact pairS.row_oneCell m u hu
  · obtain rfl := List.eq_of_mem_replicate hu; rfl
theorem crew_splice (F G : List (Int × Int)) (h : F.length + G.length ≤ 16) : splice (crewV F) (F.length * 2) (pairS.row G) = crewV (F ++ G) := by
  have hF : (pairS.row F).length = F.length * 2 := pairS.row_length F
  have hG : (pairS.row G).length = G.length * 2 := pairS.row_length G
  unfold splice crewV
  rw [List.take_append_of_le_length (by omega), List.take_of_length_le (by omega), List.drop_append, List.drop_eq_nil_of_le (as := pairS.row F) (by omega), List.nil_append, List.drop_replicate, pairS.row_append, List.append_assoc, List.length_append, hF, hG]
  congr 3
  omega

theorem flat_len (m : List (Int × Int)) {K : List Int} (hK : K.Pairwise (· < ·)) : (K.flatMap fun k => srtA (atP m k)).length ≤ m.length := by
  have h := (groups_perm m K (hK.imp (fun h => by omega))).length_eq
  rw [h]
  exact List.length_filter_le _ _
theorem flat_snoc (m : List (Int × Int)) (K : List Int) {j : Nat} (hj : j < K.length) : ((K.take (j + 1)).flatMap fun k => srtA (atP m k)) = ((K.take j).flatMap fun k => srtA (atP m k)) ++ srtA (atP m (K[j]'hj)) := by
  rw [List.take_succ_eq_append_getElem hj, List.flatMap_append, List.flatMap_singleton]
theorem key_new {K : List Int} (hK : K.Pairwise (· < ·)) {j : Nat} (hj : j < K.length) : K[j]'hj ∉ K.take j := fun h => by
  obtain ⟨i, hi, he⟩ := List.mem_iff_getElem.1 h
  rw [List.length_take] at hi
  rw [List.getElem_take] at he
  have := List.pairwise_iff_getElem.1 hK i j (by omega) hj (by omega)
  omega
theorem pairwise_take {K : List Int} (hK : K.Pairwise (· < ·)) (j : Nat) : (K.take j).Pairwise (· < ·) := hK.sublist (List.take_sublist _ _)
theorem run_copy_rows_ex (P : Program) (w : World) (dT sT ty elem : TypeId) (g off dLen dCap size : Nat) (ad : Addr) (sLen sCap : Nat) (cur : List Value) (t : TypeId) (cs : List Value)
    (hu : P.underlying dT = some (.slice elem)) (hs : (P.info? elem).map (·.size) = some size) (hg : w.heap[g]? = some (.cells cur.toArray t (0, 0))) (hle : sLen ≤ dLen) (hn : cs.length = sLen * size)
    (hsrc : ∀ j v, cs[j]? = some v → w.cell? (ad.add j) = some v) (hfit : off + cs.length ≤ cur.length) (h1 : ∀ v ∈ cs, v.oneCell' = true) :
    ∃ w', (Builtin.copy_ #[dT, sT] ty #[.slice (some ⟨g, off, none⟩) dLen dCap, .slice (some ad) sLen sCap]).run P w = .ok (.int .i64 sLen) w' ∧ w'.heap[g]? = some (.cells (splice cur off cs).toArray t (0, 0)) ∧ w.grownBy w' (some g) := by
  have hm : Nat.min sLen dLen = sLen := Nat.min_eq_left hle
  have hrun := run_copy_rows P w dT sT ty elem g off dLen dCap size ad sLen sCap cur.toArray t cs hu hs hg (by rw [hm]; exact hn) hsrc (by simpa using hfit) h1
  rw [hm] at hrun
  refine ⟨_, hrun, ?_, ⟨rfl, rfl, rfl, by simp [World.setRow], fun k _ hk => setRow_other w g k _ (fun e => hk (by rw [e]))⟩⟩
  simpa [splice] using setRow_heap w g _ _ t _ hg

def fltC (m : List (Int × Int)) (K : List Int) (j : Nat) : List (Int × Int) := (K.take j).flatMap fun k => srtA (atP m k)
theorem fltC_len (m : List (Int × Int)) {K : List Int} (hK : K.Pairwise (· < ·)) (j : Nat) : (fltC m K j).length ≤ m.length := flat_len m (pairwise_take hK j)
theorem fltC_snoc (m : List (Int × Int)) (K : List Int) {j : Nat} (hj : j < K.length) : fltC m K (j + 1) = fltC m K j ++ srtA (atP m (K[j]'hj)) := flat_snoc m K hj
theorem fltC_all (m : List (Int × Int)) (K : List Int) : fltC m K K.length = K.flatMap fun k => srtA (atP m k) := by unfold fltC; rw [List.take_length]

/-- append inside a region that draws its order; where the new row lies -/
theorem step_append_slsw {α : Type} (S : Shape α) {P : Program} (w : World) {ops : Array Oper} {o : Oper} {a : Act} {K : Act → World → Prop} {Q : Exit → Act → World → Prop} {E : Prop} (hgd : o.guard = none) (s x : Operand) (t : TypeId)
    (ho : o.op = .call { callee := .builtin .append, args := #[s, x], argTypes := #[t, t] })
    (B : Nat) (e : TypeId) (i : TypeInfo) (z : Value) (bytes : Nat) (ht : P.underlying t = some (.slice e)) (hi : P.info? e = some i) (hz : i.zero = some z)
    (hsize : i.size = S.size) (hby : i.bytes = bytes) (hzs : z.cells.size = S.size) (hB64 : bytes ≤ 64)
    (v : Value) (l : List α) (hs : a.eval s = v) (hown : SlOwn S w B e v l)
    (ad : Addr) (n c : Nat) (m : List α) (hx : a.eval x = .slice (some ad) n c) (hn : n = m.length) (hm : SlAt S w (some ad) m)
    (hlen : l.length + m.length ≤ 1048576) (hbase : B ≤ w.heap.size)
    (h : ∀ A' n' c' w', SlOwn S w' B e (.slice A' n' c') (l ++ m) → w.grownBy w' v.ownBlock → ((Value.slice A' n' c').ownBlock = v.ownBlock ∨ (Value.slice A' n' c').ownBlock = some w.heap.size) → K (a.put o.dst (.slice A' n' c')) w') :
    if Region.wanted o (yielded ops a.tmps) = true then Oper.wp P o a w K Q else E := by
  subst hn
  have hw : Region.wanted o (yielded ops a.tmps) = true := by simp [Region.wanted, hgd]
  rw [if_pos hw]
  obtain ⟨v', w', hr, h2, h3, _, h5⟩ := run_append_own_at (P := P) w B t o.type e i z S.size bytes ht hi hz hsize hby hzs S.pos v l.length (S.row l) hown ad m.length c (S.row m) (S.row_length m) hm.cells_at (S.row_oneCell m)
    (by unfold maxLen; omega) (by have : (l.length + m.length) * bytes ≤ 1048576 * 64 := Nat.mul_le_mul hlen hB64; omega) hbase
  have h4 : SlOwn S w' B e v' (l ++ m) := by
    show World.ownsRow _ _ _ _ _ _ _
    rw [List.length_append, S.row_append]
    exact h2
  obtain ⟨A', c', rfl, _, _⟩ := h4.form
  unfold Oper.wp execOp
  simp only [ho, resolve, invoke, builtin, Sem.run_bind, Sem.run_pure, Result.andThen_ok, List.map_toArray, List.map_cons, List.map_nil, hs, hx, hr]
  exact h A' _ c' w' h4 h3 h5
end Go.Proofs.Ytdoikeglaolipaa
