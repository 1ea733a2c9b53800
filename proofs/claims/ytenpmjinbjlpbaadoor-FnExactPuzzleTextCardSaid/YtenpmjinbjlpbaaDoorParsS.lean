/- The contract of spec.l1Split: splitL. -/
import Derived.Test.YtenpmjinbjlpbaaDoorParsR
import Derived.Test.YtenpmjinbjlpbaaDoorStepR
import Derived.BigQuiet
namespace Go.Proofs.YtenpmjinbjlpbaaDoor
open Go.RowKit

def strS : Shape ByteArray := ⟨1, fun b => [.string b], fun _ => rfl, fun _ u hu => by simp at hu; subst hu; rfl, by omega⟩
theorem strI : (Tryd.prog.info? 9).map (fun i => (i.zero, i.size, i.bytes)) = some (some (.string ⟨#[]⟩), strS.size, 16) := by kernel_rfl
theorem slAt_oneB {w : World} {g : Nat} {x : ByteArray} {e : TypeId} {m : Nat × Nat} (h : w.heap[g]? = some (.cells #[.string x] e m)) : SlAt strS w (some ⟨g, 0, none⟩) [x] := by
  refine .inr ⟨g, 0, rfl, (Array.getElem?_eq_some_iff.1 h).1, fun k y hk j hj => ?_⟩
  cases k with
  | succ k => simp at hk
  | zero =>
    simp only [List.getElem?_cons_zero, Option.some.injEq] at hk
    subst hk
    simp only [Nat.zero_mul, Nat.zero_add]
    rw [cell_of_row w g j _ _ _ h, ← Array.getElem?_toList]
    rfl

def mkB (l : List UInt8) : ByteArray := ⟨l.toArray⟩
theorem mkB_toList (s : ByteArray) : mkB s.data.toList = s := rfl
theorem mkB_data (l : List UInt8) : (mkB l).data.toList = l := rfl
theorem mkB_size (l : List UInt8) : (mkB l).size = l.length := rfl

/-- a part of a string, as a row -/
theorem extract_mk (s : ByteArray) (a b : Nat) : s.extract a b = mkB ((s.data.toList.take b).drop a) := by
  apply ByteArray.ext
  rw [ByteArray.data_extract]
  apply Array.ext'
  show _ = ((s.data.toList.take b).drop a)
  rw [Array.toList_extract, List.extract_eq_take_drop]
  rw [List.drop_take]

theorem getD_inj {l : List UInt8} {k : Nat} {c : UInt8} : btL l k = (c.toNat : Int) ↔ l.getD k 0 = c := by
  unfold btL
  constructor
  · intro h; exact UInt8.toNat_inj.mp (by omega)
  · intro h; rw [h]

theorem drop_snoc (l : List UInt8) {f k : Nat} (h : f ≤ k) (hk : k < l.length) : (l.take (k + 1)).drop f = (l.take k).drop f ++ [l.getD k 0] := by
  rw [take_snoc l hk, List.drop_append]
  have : (l.take k).length = k := by rw [List.length_take]; omega
  rw [this, Nat.sub_eq_zero_of_le h, List.drop_zero]

/-! appending, one element above the bound of the laws -/
theorem append_sl1s {α : Type} (S : Shape α) {P : Program} (w : World) {ops : Array Oper} {rest : List Oper} {o : Oper} {a : Act} {Q : Exit → Act → World → Prop} (hgd : o.guard = none) (s x : Operand) (t : TypeId)
    (ho : o.op = .call { callee := .builtin .append, args := #[s, x], argTypes := #[t, t] })
    (B : Nat) (e : TypeId) (i : TypeInfo) (z : Value) (bytes : Nat) (ht : P.underlying t = some (.slice e)) (hi : P.info? e = some i) (hz : i.zero = some z)
    (hsize : i.size = S.size) (hby : i.bytes = bytes) (hzs : z.cells.size = S.size) (hB64 : bytes ≤ 64)
    (v : Value) (l : List α) (hs : a.eval s = v) (hown : SlOwn S w B e v l)
    (A : Option Addr) (c : Nat) (m : List α) (hx : a.eval x = .slice A m.length c) (hm : SlAt S w A m)
    (hlen : l.length + m.length ≤ 1048577) (hbase : B ≤ w.heap.size)
    (h : ∀ A' c' w', SlOwn S w' B e (.slice A' (l ++ m).length c') (l ++ m) → Below B w w' → wpList P ops Q rest (a.put o.dst (.slice A' (l ++ m).length c')) w') : wpList P ops Q (o :: rest) a w := by
  have hlt := World.ownsRow.lt hown
  cases A with
  | none =>
    have hm0 : m = [] := by
      rcases hm with hm | ⟨_, _, hm, _⟩
      · exact hm
      · cases hm
    subst hm0
    have hrun : (Builtin.append_ #[t, t] o.type #[v, .slice none 0 c]).run P w = .ok v w := by
      rcases hown.2 with ⟨rfl, _⟩ | ⟨g, cap, cur, rfl, _, _, hnc, _⟩
      · simp [Builtin.append_, run_underlying ht, sizeOf, typeInfo, hi, Builtin.lenOf, Builtin.firstCells]
      · simp [Builtin.append_, run_underlying ht, sizeOf, typeInfo, hi, Builtin.lenOf, Builtin.firstCells, hnc, storeCells]
    obtain ⟨A', c', hv, _, _⟩ := hown.form
    subst hv
    refine wpList_plain hgd fun K hK => ?_
    unfold Oper.wp
    simp only [List.length_nil] at hx
    simp [execOp, ho, resolve, invoke, builtin, hs, hx, hrun, Result.andThen]
    refine hK _ _ ?_
    have := h A' c' w (by rw [List.append_nil]; exact hown) (Below.refl _ _)
    rwa [List.append_nil] at this
  | some ad =>
    refine wpList_append_own w hgd s x t ho B e i z S.size bytes ht hi hz hsize hby hzs S.pos v l.length (S.row l) hs hown ad m.length c (S.row m) hx (S.row_length m) hm.cells_at (S.row_oneCell m)
      (by unfold maxLen; omega) (by have : (l.length + m.length) * bytes ≤ 1048577 * 64 := Nat.mul_le_mul hlen hB64; omega) hbase ?_
    intro v' w' h2 h3 _
    have h4 : SlOwn S w' B e v' (l ++ m) := by
      show World.ownsRow _ _ _ _ _ _ _
      rw [List.length_append, S.row_append]
      exact h2
    obtain ⟨A', c', rfl, _, _⟩ := h4.form
    exact h A' c' w' h4 ((Below.refl _ _).grown h3 hbase (fun k hk => (hlt k hk).1))
theorem append_sl1 {α : Type} (S : Shape α) {P : Program} (w : World) {ops : Array Oper} {rest : List Oper} {o : Oper} {a : Act} {Q : Exit → Act → World → Prop} (hgd : o.guard = none) (s x : Operand) (t : TypeId)
    (ho : o.op = .call { callee := .builtin .append, args := #[s, x], argTypes := #[t, t] })
    (B : Nat) (e : TypeId) (i : TypeInfo) (z : Value) (bytes : Nat) (ht : P.underlying t = some (.slice e)) (hi : P.info? e = some i) (hz : i.zero = some z)
    (hsize : i.size = S.size) (hby : i.bytes = bytes) (hzs : z.cells.size = S.size) (hB64 : bytes ≤ 64)
    (v : Value) (l : List α) (hs : a.eval s = v) (hown : SlOwn S w B e v l)
    (A : Option Addr) (n c : Nat) (m : List α) (hx : a.eval x = .slice A n c) (hn : n = m.length) (hm : SlAt S w A m)
    (hlen : l.length + m.length ≤ 1048577) (hbase : B ≤ w.heap.size)
    (h : ∀ A' n' c' w', n' = (l ++ m).length → SlOwn S w' B e (.slice A' n' c') (l ++ m) → Below B w w' → wpList P ops Q rest (a.put o.dst (.slice A' n' c')) w') : wpList P ops Q (o :: rest) a w := by
  subst hn
  exact append_sl1s S w hgd s x t ho B e i z bytes ht hi hz hsize hby hzs hB64 v l hs hown A c m hx hm hlen hbase fun A' c' w' h1 h2 => h A' _ c' w' rfl h1 h2

set_option maxHeartbeats 4000000 in
set_option maxRecDepth 100000 in
theorem l1Split_any (s : ByteArray) (hs : s.size ≤ 1048576) (c : UInt8) (w : World) :
    Calls Tryd.prog 79 #[.string s, .int .u8 c.toNat] w fun e w' => ∃ A n c', e = .returned (.slice A n c') ∧ n = (splitL c s.data.toList).length ∧ SlAt strS w' A ((splitL c s.data.toList).map mkB) ∧ Below w.heap.size w w' := by
  have hl := len_toList s
  obtain ⟨i0, hi, hz0, hz1, hz2⟩ := info_parts strI
  have hb := get_btL s
  have hex := extract_mk s
  generalize hgl : s.data.toList = l at *
  have HL := Lib.hid hl
  have HEX := Lib.hid hex
  clear hex
  go_enter Tryd.func79, Tryd.ntmps79
  go_wp2
  go_loopw [5, 6, 7] (fun o f i wr => ∃ (k fr : Nat) (q : List (List UInt8)) (A : Option Addr) (n c' : Nat), k ≤ s.size ∧ fr ≤ k ∧ i = .int .i64 k ∧ f = .int .i64 fr ∧ o = .slice A n c' ∧ q.length ≤ k ∧
      splitL c (l.take k) = q ++ [(l.take k).drop fr] ∧ SlOwn strS wr w.heap.size 9 (.slice A n c') (q.map mkB) ∧ Below w.heap.size w wr)
    (fun _ _ i _ => s.size - (intOf i).toNat)
  case atStart => exact ⟨0, 0, [], none, 0, 0, Nat.zero_le _, Nat.le_refl _, rfl, rfl, rfl, Nat.le_refl _, rfl, SlOwn.nil _ _ _ _, Below.refl _ _⟩
  case round =>
    obtain ⟨k, fr, q, A, n, c', hk, hfk, rfl, rfl, rfl, hq, hsp, hown, hbr⟩ := hrel
    have HO := Lib.hid hown
    have HB := Lib.hid hbr
    have HSP := Lib.hid hsp
    have hsr := hbr.size
    clear hown hbr hsp
    by_cases hlt : k < s.size
    · have hsn := split_snoc c (l.getD k 0) (l.take k) q _ HSP.out
      have hts := take_snoc l (k := k) (by omega)
      have hdr := drop_snoc l (f := fr) (k := k) hfk (by omega)
      have hdr2 : (l.take (k + 1)).drop (k + 1) = [] := by rw [List.drop_eq_nil_iff, List.length_take]; omega
      rw [← hts] at hsn
      have HSN := Lib.hid hsn
      have HDR := Lib.hid hdr
      have HDR2 := Lib.hid hdr2
      clear hsn hts hdr hdr2
      by_cases hbc : btL l k = (c.toNat : Int)
      · have he := getD_inj.mp hbc
        rw [if_pos he] at HSN
        have hqw : (q.map mkB).length ≤ k := by rw [List.length_map]; exact hq
        go_wp2_with (at_builtin; go_must (refine append_sl1 strS _ rfl _ _ 72 rfl w.heap.size 9 i0 _ 16 Tryd.underlying72 hi hz0 hz1 hz2 rfl (by decide) _ (q.map mkB) rfl (HO.out.below ((Below.refl _ wr).alloc (Nat.le_refl _) _)) (some ⟨wr.heap.size, 0, none⟩) 1 1 [s.extract fr k] rfl rfl (slAt_oneB (heap_new (by simp))) (by simp only [List.length_cons, List.length_nil]; omega) (by simp; omega) ?_); intro A6 n6 k6 w6 hn6 hown6 hb6; clear hn6)
        go_roundw
        case rel =>
          refine ⟨k + 1, k + 1, q ++ [(l.take k).drop fr], A6, n6, k6, by omega, by omega, by go_num, by go_num, rfl, by simp; omega, ?_, ?_, ?_⟩
          · rw [HSN.out, HDR2.out, List.append_assoc]; rfl
          · rw [List.map_append]; rw [HEX.out] at hown6; exact hown6
          · exact HB.out.trans ((((Below.refl _ wr).alloc (Nat.le_refl _) _).mono hsr).trans hb6)
        case measure => simp [intOf]; omega
      · have he : ¬ l.getD k 0 = c := fun h => hbc (getD_inj.mpr h)
        rw [if_neg he] at HSN
        go_wp2
        go_roundw
        case rel => exact ⟨k + 1, fr, q, A, n, c', by omega, by omega, by go_num, rfl, rfl, by omega, by rw [HSN.out, HDR.out], HO.out, HB.out⟩
        case measure => simp [intOf]; omega
    · obtain rfl : k = s.size := by omega
      have hqw : (q.map mkB).length ≤ s.size := by rw [List.length_map]; exact hq
      have htk : l.take s.size = l := by rw [← HL.out, List.take_length]
      rw [htk] at HSP
      go_wp2_with (at_builtin; go_must (refine append_sl1 strS _ rfl _ _ 72 rfl w.heap.size 9 i0 _ 16 Tryd.underlying72 hi hz0 hz1 hz2 rfl (by decide) _ (q.map mkB) rfl (HO.out.below ((Below.refl _ wr).alloc (Nat.le_refl _) _)) (some ⟨wr.heap.size, 0, none⟩) 1 1 [s.extract fr s.size] rfl rfl (slAt_oneB (heap_new (by simp))) (by simp only [List.length_cons, List.length_nil]; omega) (by simp; omega) ?_); intro A6 n6 k6 w6 hn6 hown6 hb6)
      go_ret
      refine ⟨A6, q.length + 1, k6, rfl, ?_, ?_, HB.out.trans ((((Below.refl _ wr).alloc (Nat.le_refl _) _).mono hsr).trans hb6)⟩
      · rw [HSP.out]; simp
      · rw [HSP.out, List.map_append]
        rw [HEX.out, htk] at hown6
        exact SlOwn.sl hown6
end Go.Proofs.YtenpmjinbjlpbaaDoor
