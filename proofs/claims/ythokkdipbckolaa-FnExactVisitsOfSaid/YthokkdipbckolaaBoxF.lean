/- A run of a box of the model at its beginning. -/
import Derived.Test.YthokkdipbckolaaBoxB
import Derived.Test.YthokkdipbckolaaStepR
import Derived.Maps.AppendAt
namespace Go.Proofs.Ythokkdipbckolaa
open Go.RowKit

theorem zeroIntsR (n : Nat) : (madeCells #[.int .i64 0] (n * 1)).toList = intS.row (List.replicate n 0) := by
  rw [Nat.mul_one]
  apply List.ext_getElem?
  intro j
  by_cases hj : j < n
  · have hx : (List.replicate n (0 : Int))[j]? = some 0 := by simp [hj]
    have := intS.row_at _ j _ hx 0 (by decide)
    simp [intS] at this
    simp only [intS]
    rw [this]
    simp [madeCells, hj, Nat.mod_one]
  · rw [List.getElem?_eq_none (by simp [madeCells]; omega), List.getElem?_eq_none (by rw [Shape.row_length]; simp [intS]; omega)]
/-- 'append([]T{}, m...)' inside a region that draws -/
theorem step_append_new {α : Type} (S : Shape α) {P : Program} (w : World) {ops : Array Oper} {o : Oper} {a : Act} {K : Act → World → Prop} {Q : Exit → Act → World → Prop} {E : Prop} (hgd : o.guard = none) (s x : Operand) (t : TypeId)
    (ho : o.op = .call { callee := .builtin .append, args := #[s, x], argTypes := #[t, t] })
    (B : Nat) (e : TypeId) (i : TypeInfo) (z : Value) (bytes : Nat) (ht : P.underlying t = some (.slice e)) (hi : P.info? e = some i) (hz : i.zero = some z)
    (hsize : i.size = S.size) (hby : i.bytes = bytes) (hzs : z.cells.size = S.size) (hB64 : bytes ≤ 64)
    (g0 : Nat) (hs : a.eval s = .slice (some ⟨g0, 0, none⟩) 0 0) (hown : SlOwn S w B e (.slice (some ⟨g0, 0, none⟩) 0 0) [])
    (A : Option Addr) (n c : Nat) (m : List α) (hx : a.eval x = .slice A n c) (hn : n = m.length) (hm : SlAt S w A m)
    (hlen : m.length ≤ 1048576) (hbase : B ≤ w.heap.size)
    (h : ∀ g c' w', SlOwn S w' B e (.slice (some ⟨g, 0, none⟩) n c') m → (g = g0 ∨ g = w.heap.size) → w.grownBy w' (some g0) → K (a.put o.dst (.slice (some ⟨g, 0, none⟩) n c')) w') :
    if Region.wanted o (yielded ops a.tmps) = true then Oper.wp P o a w K Q else E := by
  subst hn
  have hw : Region.wanted o (yielded ops a.tmps) = true := by simp [Region.wanted, hgd]
  rw [if_pos hw]
  cases A with
  | none =>
    have hm0 : m = [] := by
      rcases hm with hm | ⟨_, _, hm, _⟩
      · exact hm
      · cases hm
    subst hm0
    have hrun : (Builtin.append_ #[t, t] o.type #[.slice (some ⟨g0, 0, none⟩) 0 0, .slice none 0 c]).run P w = .ok (.slice (some ⟨g0, 0, none⟩) 0 0) w := by
      rcases hown.2 with ⟨h1, _⟩ | ⟨g, cap, cur, hv, _, _, hnc, _⟩
      · cases h1
      · injection hv with h1 h2 h3
        simp [Builtin.append_, run_underlying ht, sizeOf, typeInfo, hi, Builtin.lenOf, Builtin.firstCells, storeCells]
    unfold Oper.wp
    simp only [List.length_nil] at hx
    simp [execOp, ho, resolve, invoke, builtin, hs, hx, hrun, Result.andThen]
    exact h g0 0 w hown (.inl rfl) (World.grownBy.refl _ _)
  | some ad =>
    obtain ⟨v', w', hr, h2, h3, h4, h5⟩ := run_append_own_at (P := P) w B t o.type e i z S.size bytes ht hi hz hsize hby hzs S.pos _ 0 [] hown ad m.length c (S.row m) (S.row_length m) hm.cells_at (S.row_oneCell m)
      (by unfold maxLen; omega) (by have : (0 + m.length) * bytes ≤ 1048576 * 64 := Nat.mul_le_mul (by omega) hB64; omega) hbase
    have h6 : SlOwn S w' B e v' m := by
      show World.ownsRow _ _ _ _ _ _ _
      rw [Nat.zero_add, List.nil_append] at h2
      exact h2
    have hne : v' ≠ .slice none 0 0 := fun e => by have := (h4.1 e).1; cases this
    rcases h6.2 with ⟨h7, _⟩ | ⟨g, cap, cur, rfl, _⟩
    · exact absurd h7 hne
    · unfold Oper.wp execOp
      simp only [ho, resolve, invoke, builtin, Sem.run_bind, Sem.run_pure, Result.andThen_ok, List.map_toArray, List.map_cons, List.map_nil, hs, hx, hr]
      refine h g cap w' h6 ?_ h3
      simp only [Value.ownBlock, Option.some.injEq] at h5
      exact h5
theorem step_make_full {P : Program} (w : World) {ops : Array Oper} {o : Oper} {a : Act} {K : Act → World → Prop} {Q : Exit → Act → World → Prop} {E : Prop}
    (hgd : o.guard = none) (l c : Operand) (t : TypeId) (hop : o.op = Op.makeSlice t l c)
    (base : Nat) (e : TypeId) (i : TypeInfo) (z : Value) (size : Nat) (h1 : P.underlying t = some (.slice e)) (h2 : P.info? e = some i) (h3 : i.zero = some z) (h4 : i.size = size)
    (kl kc : IntKind) (L C : Int) (n : Nat) (hl : a.eval l = .int kl L) (hc : a.eval c = .int kc C) (hL : L = (n : Int)) (hC : C = (n : Int)) (b2 : i.bytes * n ≤ 281474976710656) (b3 : n ≤ maxLen) (b4 : base ≤ w.heap.size)
    (hK : ∀ w', w'.ownsRow base e size (.slice (some ⟨w.heap.size, 0, none⟩) n n) n (madeCells z.cells (n * size)).toList → w.grownBy w' none → K (a.put o.dst (.slice (some ⟨w.heap.size, 0, none⟩) n n)) w') :
    if Region.wanted o (yielded ops a.tmps) = true then Oper.wp P o a w K Q else E := by
  have hw : Region.wanted o (yielded ops a.tmps) = true := by simp [Region.wanted, hgd]
  rw [if_pos hw]
  obtain ⟨w', hrun, r1, r2⟩ := run_make_full (P := P) w base t e i z size h1 h2 h3 h4 kl kc n b2 b3 b4
  subst hL
  subst hC
  unfold Oper.wp
  simp [execOp, hop, hl, hc, hrun, Result.andThen]
  exact hK _ r1 r2

theorem run_new {W : World} {B ab gb n cA : Nat} {L : Int} {l : List (Int × Int)} {T : TypeId} (hn : l.length = n) (ho : SlOwn pairS W B 53 (.slice (some ⟨ab, 0, none⟩) n cA) l) (hg : SlOwn intS W B 3 (.slice (some ⟨gb, 0, none⟩) n n) (List.replicate n 0)) (hd : ab ≠ gb) (hok : ∀ (k : Nat) (x : Int × Int), l[k]? = some x → 0 ≤ x.1 ∧ x.1 ≤ L ∧ (x.2 = -1 ∨ x.2 = 1)) :
    BxAt (W.alloc (.cells #[.int .i64 L, .slice (some ⟨ab, 0, none⟩) n cA, .int .i64 0, .int .i64 0, .slice (some ⟨gb, 0, none⟩) n n, .int .i64 0] T)) W.heap.size ab 0 gb 0 n cA n L l 0 0 0 (List.replicate n 0) ∧ B ≤ ab ∧ B ≤ gb := by
  subst hn
  have la := World.ownsRow.lt ho ab rfl
  have lg := World.ownsRow.lt hg gb rfl
  have ho' : W.ownsRow B 53 2 (.slice (some ⟨ab, 0, none⟩) l.length cA) l.length (pairS.row l) := ho
  have hg' : W.ownsRow B 3 1 (.slice (some ⟨gb, 0, none⟩) l.length l.length) l.length (intS.row (List.replicate l.length 0)) := by
    have := hg
    unfold SlOwn at this
    rw [List.length_replicate] at this
    exact this
  have hb : Below W.heap.size W (W.alloc (.cells #[.int .i64 L, .slice (some ⟨ab, 0, none⟩) l.length cA, .int .i64 0, .int .i64 0, .slice (some ⟨gb, 0, none⟩) l.length l.length, .int .i64 0] T)) := (Below.refl _ _).alloc (Nat.le_refl _) _
  refine ⟨⟨rfl, by simp, ⟨some ⟨ab, 0, none⟩, by simp, .inr rfl⟩, by simp, by simp, by simp, by simp, fun k x hx => ?_, hok, by simp, fun k g hgk => ?_, fun o => ⟨?_, ?_, ?_⟩, ⟨by omega, by omega, hd⟩, ⟨by simp, by simp; omega, by simp; omega⟩, ⟨?_, Nat.le_refl _⟩, ⟨rfl, by simp, ?_⟩⟩, la.1, lg.1⟩
  · rw [hb.cell (p := ⟨ab, _, none⟩) la.2, hb.cell (p := ⟨ab, _, none⟩) la.2]
    have hkl : k < l.length := (List.getElem?_eq_some_iff.1 hx).1
    have h0 := World.ownsRow.cellAt ho' (k * 2) (by omega)
    have h1 := World.ownsRow.cellAt ho' (k * 2 + 1) (by omega)
    have r0 := pairS.row_at l k x hx 0 (by decide)
    have r1 := pairS.row_at l k x hx 1 (by decide)
    rw [Nat.zero_add]
    exact ⟨h0.trans r0, h1.trans r1⟩
  · have hk : k < l.length := by have := (List.getElem?_eq_some_iff.1 hgk).1; simpa using this
    have hg0 : g = 0 := by simp [hk] at hgk; exact hgk.symm
    subst hg0
    rw [hb.cell (p := ⟨gb, _, none⟩) lg.2, Nat.zero_add]
    have h0 := World.ownsRow.cellAt hg' k (by omega)
    have r0 := intS.row_at (List.replicate l.length 0) k 0 (by simp [hk]) 0 (by decide)
    have r1 : (intS.row (List.replicate l.length 0))[k]? = some (.int .i64 0) := by simpa [intS] using r0
    exact h0.trans r1
  · simp [go_sem]
  · rw [hb.frozen (p := ⟨ab, _, none⟩) la.2]
    exact World.ownsRow.frozenAt ho' o
  · rw [hb.frozen (p := ⟨gb, _, none⟩) lg.2]
    exact World.ownsRow.frozenAt hg' o
  · rcases ho'.2 with ⟨h1, _⟩ | ⟨g, cap, cur, hv, _, _, hnc, _⟩
    · cases h1
    · injection hv with _ _ h3
      omega
  · exact (AntsOwn.base (antsOwn_iff.2 ho) (Nat.zero_le _)).below hb
theorem antI2 : (Try.prog.info? 53).map (fun i => (i.zero, i.size, i.bytes)) = some (some (.agg #[.int .i64 0, .int .i64 0]), pairS.size, 16) := by kernel_rfl
theorem intI2 : (Try.prog.info? 3).map (fun i => (i.zero, i.size, i.bytes)) = some (some (.int .i64 0), intS.size, 8) := by kernel_rfl
theorem ne_som {a b : Nat} (h : a < b) : some a ≠ some b := fun e => by injection e; omega
theorem ge_som {a b : Nat} (h : a ≤ b) : ∀ k, some b = some k → a ≤ k := fun k e => by injection e with e; omega
theorem ne_two {g a b c : Nat} (h : g = a ∨ g = c) (h1 : a < b) (h2 : b < c) : g ≠ b := by omega
theorem ne_three {g a b : Nat} {w : World} {o : Obj} (h : g = a ∨ g = (w.alloc o).heap.size) (h1 : b < a) (h2 : a ≤ w.heap.size := by exact Nat.le_refl _) : g ≠ b := by
  simp at h; omega
theorem goneRow {w : World} {B n : Nat} {v : Value} (h : w.ownsRow B 3 1 v n (madeCells (Value.int .i64 0).cells (n * 1)).toList) : SlOwn intS w B 3 v (List.replicate n 0) := by
  unfold SlOwn
  rw [List.length_replicate, ← zeroIntsR]
  exact h
set_option maxRecDepth 100000 in
set_option maxHeartbeats 4000000 in
theorem waStart_any (L : Int) (A : Option Addr) (c : Nat) (l : List (Int × Int)) (w : World) (hg : boxB L l = true) (hA : AntsAt w A l) :
    Calls Try.prog 55 #[.agg #[.int .i64 L, .slice A l.length c]] w fun e w' => ∃ b ab gb ca cg, e = .returned (.pointer (some ⟨b, 0, none⟩)) ∧ BxAt w' b ab 0 gb 0 l.length ca cg L l 0 0 0 (List.replicate l.length 0) ∧ (w.heap.size ≤ b ∧ w.heap.size ≤ ab ∧ w.heap.size ≤ gb) ∧ Below w.heap.size w w' := by
  obtain ⟨i0, hi, hz0, hz1, hz2⟩ := info_parts antI2
  obtain ⟨i1, hj, hy0, hy1, hy2⟩ := info_parts intI2
  have hl := boxB_len hg
  have hn : l.length ≤ 16 := by omega
  have HOK : Hid (∀ (k : Nat) (x : Int × Int), l[k]? = some x → 0 ≤ x.1 ∧ x.1 ≤ L ∧ (x.2 = -1 ∨ x.2 = 1)) := fun k x hx => by
    have := good_ant (boxB_good hg) hx
    exact ⟨this.1, this.2.1, this.2.2.2⟩
  clear hg hl
  obtain ⟨w0, hw0⟩ : ∃ w0, w0 = w.alloc (Obj.cells #[Value.int IntKind.i64 L, Value.slice A l.length c] 29) := ⟨_, rfl⟩
  have hs0 : w0.heap.size = w.heap.size + 1 := by rw [hw0]; simp
  have z0 : w0.cell? ⟨w.heap.size, 0, none⟩ = some (.int .i64 L) := by rw [hw0]; simp
  have z1 : w0.cell? ⟨w.heap.size, 1, none⟩ = some (.slice A l.length c) := by rw [hw0]; simp
  have HB0 : Hid (Below w.heap.size w w0) := by show Below _ _ _; rw [hw0]; exact (Below.refl _ _).alloc (Nat.le_refl _) _
  have HA0 := Lib.hid (antsAt_sl (hA.below HB0.out))
  clear hA
  go_enter Try.func55, Try.ntmps55
  go_wp2
  rw [← hw0]
  have HS0 := Lib.hid hs0
  have HS1 : Hid (w.heap.size < w0.heap.size) := by show _ < _; omega
  have HSW : Hid (w.heap.size ≤ w0.heap.size) := by show _ ≤ _; omega
  have HBW : Hid (Below w.heap.size w w0.drew) := HB0.out.drew
  have ZD : Hid (w0.drew.cell? ⟨w.heap.size, 0, none⟩ = some (.int .i64 L) ∧ w0.drew.cell? ⟨w.heap.size, 1, none⟩ = some (.slice A l.length c)) := ⟨z0, z1⟩
  have HE := (Below.refl w0.heap.size w0).alloc (Nat.le_refl _) (Obj.cells #[] 53)
  have BD : Hid (Below w0.heap.size w0 (w0.alloc (Obj.cells #[] 53)).drew) := HE.drew
  have BA : Hid (Below w.heap.size w (w0.alloc (Obj.cells #[] 53)).drew) := HB0.out.trans (HE.drew.mono HSW.out)
  have ZA : Hid ((w0.alloc (Obj.cells #[] 53)).drew.cell? ⟨w.heap.size, 0, none⟩ = some (.int .i64 L) ∧ (w0.alloc (Obj.cells #[] 53)).drew.cell? ⟨w.heap.size, 1, none⟩ = some (.slice A l.length c)) := ⟨alloc_some z0 _, alloc_some z1 _⟩
  have HSA : Hid (w.heap.size ≤ (w0.alloc (Obj.cells #[] 53)).drew.heap.size) := BA.out.size
  have HSD : Hid (w0.heap.size ≤ (w0.alloc (Obj.cells #[] 53)).drew.heap.size) := BD.out.size
  have HLA : Hid (w0.heap.size < (w0.alloc (Obj.cells #[] 53)).drew.heap.size) := by show _ < (w0.alloc (Obj.cells #[] 53)).heap.size; simp
  have HAA : Hid (SlAt pairS (w0.alloc (Obj.cells #[] 53)).drew A l) := HA0.out.below BD.out
  have HOA : Hid (SlOwn pairS (w0.alloc (Obj.cells #[] 53)).drew w.heap.size 53 (.slice (some ⟨w0.heap.size, 0, none⟩) 0 0) []) := (own_empty pairS w0 53).base HSW.out
  have HNE : Hid (some w.heap.size ≠ some w0.heap.size) := ne_som HS1.out
  have HGE : Hid (∀ k, some w0.heap.size = some k → w.heap.size ≤ k) := ge_som HSW.out
  have HNG : Hid (some (w0.alloc (Obj.cells #[] 53)).drew.heap.size ≠ some w0.heap.size) := (ne_som HLA.out).symm
  obtain ⟨wM, runM, ho6, hb6⟩ := run_make_full (P := Try.prog) (w0.alloc (Obj.cells #[] 53)).drew w.heap.size 59 3 i1 _ 1 Try.underlying59 hj hy0 hy1 .i64 .i64 l.length (by rw [hy2]; omega) (by unfold maxLen; omega) HSA.out
  have ho6 := goneRow ho6
  have r0 := hb6.cell (a := ⟨w.heap.size, 0, none⟩) ZA.out.1 (by simp)
  have r1 := hb6.cell (a := ⟨w.heap.size, 1, none⟩) ZA.out.2 (by simp)
  have HE6 := Lib.hid (SlOwn.kept HOA.out hb6 (.inr (by simp [Value.ownBlock])))
  have HB6 := Lib.hid (BA.out.grown hb6 HSA.out (by simp))
  have HA6 := Lib.hid (HA0.out.below (BD.out.trans ((Below.refl _ _).grown hb6 HSD.out (by simp))))
  have HO6 := Lib.hid ho6
  clear ho6 hb6
  obtain ⟨wN, runN, ho6, hb6⟩ := run_make_full (P := Try.prog) w0.drew w.heap.size 59 3 i1 _ 1 Try.underlying59 hj hy0 hy1 .i64 .i64 l.length (by rw [hy2]; omega) (by unfold maxLen; omega) HSW.out
  have ho6 := goneRow ho6
  have t0 := hb6.cell (a := ⟨w.heap.size, 0, none⟩) ZD.out.1 (by simp)
  have t1 := hb6.cell (a := ⟨w.heap.size, 1, none⟩) ZD.out.2 (by simp)
  have v0 : (wN.alloc (Obj.cells #[] 53)).cell? ⟨w.heap.size, 0, none⟩ = some (.int .i64 L) := alloc_some t0 _
  have v1 : (wN.alloc (Obj.cells #[] 53)).cell? ⟨w.heap.size, 1, none⟩ = some (.slice A l.length c) := alloc_some t1 _
  have HB7 := Lib.hid (HBW.out.grown hb6 HSW.out (by simp))
  have HA7 := Lib.hid ((HA0.out.below ((Below.refl w0.heap.size w0).drew.grown hb6 (Nat.le_refl _) (by simp))).alloc (Obj.cells #[] 53))
  have HE7 := Lib.hid ((own_empty pairS wN 53).base HB7.out.size)
  have HO7 := Lib.hid (SlOwn.below ho6 ((Below.refl _ _).alloc (Nat.le_refl _) (Obj.cells #[] 53)))
  have HL7 := Lib.hid ((World.ownsRow.lt ho6 _ rfl).2)
  have HSN : Hid (w.heap.size ≤ (wN.alloc (Obj.cells #[] 53)).heap.size) := (Nat.le_trans HB7.out.size (by simp))
  clear ho6 hb6
  clear HE hs0 hw0
  go_region_held3 (fun w' => w'.cell? ⟨w.heap.size, 0, none⟩ = some (.int .i64 L) ∧ w'.cell? ⟨w.heap.size, 1, none⟩ = some (.slice A l.length c))
    (first | exact ⟨q0, q1⟩ | exact ⟨s0, s1⟩ | exact ⟨u0, u1⟩ | exact ⟨v0, v1⟩ | exact ⟨p0, p1⟩ | exact ⟨r0, r1⟩ | exact ⟨t0, t1⟩ | go_keep)
    (first
      | (refine step_append_new pairS _ rfl _ _ 27 rfl w.heap.size 53 i0 _ 16 Try.underlying27 hi hz0 hz1 hz2 rfl (by decide) w0.heap.size rfl HOA.out A l.length c l rfl rfl HAA.out (by omega) HSA.out ?_; intro g5 k5 w5 ho5 hg5 hb5; have p0 := hb5.cell (a := ⟨w.heap.size, 0, none⟩) ZA.out.1 (HNE.out); have p1 := hb5.cell (a := ⟨w.heap.size, 1, none⟩) ZA.out.2 (HNE.out); have HB5 := Lib.hid (BA.out.grown hb5 HSA.out HGE.out); have HO5 := Lib.hid ho5; clear ho5 hg5 hb5; obtain ⟨w6, run6, ho6, hb6⟩ := run_make_full (P := Try.prog) w5 w.heap.size 59 3 i1 _ 1 Try.underlying59 hj hy0 hy1 .i64 .i64 l.length (by rw [hy2]; omega) (by unfold maxLen; omega) HB5.out.size; have ho6 := goneRow ho6; have q0 := hb6.cell (a := ⟨w.heap.size, 0, none⟩) p0 (by simp); have q1 := hb6.cell (a := ⟨w.heap.size, 1, none⟩) p1 (by simp); have HFIN := Lib.hid (And.intro (SlOwn.kept HO5.out hb6 (.inr (by simp [Value.ownBlock]))) (And.intro ho6 (And.intro (Nat.ne_of_lt (World.ownsRow.lt HO5.out g5 rfl).2) (HB5.out.grown hb6 HB5.out.size (by simp))))); clear ho6 hb6)
      | (refine step_append_new pairS _ rfl _ _ 27 rfl w.heap.size 53 i0 _ 16 Try.underlying27 hi hz0 hz1 hz2 rfl (by decide) w0.heap.size rfl HE6.out A l.length c l rfl rfl HA6.out (by omega) HB6.out.size ?_; intro g5 k5 w5 ho5 hg5 hb5; have s0 := hb5.cell (a := ⟨w.heap.size, 0, none⟩) r0 (HNE.out); have s1 := hb5.cell (a := ⟨w.heap.size, 1, none⟩) r1 (HNE.out); have HFIN := Lib.hid (And.intro ho5 (And.intro (SlOwn.kept HO6.out hb5 (.inr HNG.out)) (And.intro (ne_two hg5 HLA.out (World.ownsRow.lt HO6.out _ rfl).2) (HB6.out.grown hb5 HB6.out.size HGE.out)))); clear ho5 hg5 hb5)
      | (refine step_append_new pairS _ rfl _ _ 27 rfl w.heap.size 53 i0 _ 16 Try.underlying27 hi hz0 hz1 hz2 rfl (by decide) wN.heap.size rfl HE7.out A l.length c l rfl rfl HA7.out (by omega) HSN.out ?_; intro g5 k5 w5 ho5 hg5 hb5; have u0 := hb5.cell (a := ⟨w.heap.size, 0, none⟩) v0 (ne_som (Nat.lt_of_lt_of_le HS1.out (Nat.le_of_lt HL7.out))); have u1 := hb5.cell (a := ⟨w.heap.size, 1, none⟩) v1 (ne_som (Nat.lt_of_lt_of_le HS1.out (Nat.le_of_lt HL7.out))); have HFIN := Lib.hid (And.intro ho5 (And.intro (SlOwn.kept HO7.out hb5 (.inr (ne_som HL7.out))) (And.intro (ne_three hg5 HL7.out) ((HB7.out.alloc HB7.out.size (Obj.cells #[] 53)).grown hb5 HSN.out (ge_som HB7.out.size))))); clear ho5 hg5 hb5))
  all_goals (
    have HR := Lib.hid (run_new (T := 61) rfl HFIN.out.1 HFIN.out.2.1 HFIN.out.2.2.1 HOK.out)
    have HBF := Lib.hid HFIN.out.2.2.2
    clear HFIN
    go_wp2
    go_ret
    first
      | exact ⟨_, rfl, _, _, ⟨_, _, HR.out.1⟩, ⟨HBF.out.size, HR.out.2.1, HR.out.2.2⟩, HBF.out.alloc HBF.out.size _⟩
      | (have h := HR.out; simp at h; exact ⟨_, rfl, _, _, ⟨_, _, h.1⟩, ⟨HBF.out.size, h.2.1, h.2.2⟩, HBF.out.alloc HBF.out.size _⟩))
end Go.Proofs.Ythokkdipbckolaa
