/- The contracts of DropAnt on both sides. -/
import Derived.Test.YthgggdaopkejpaaFallOf
import Derived.Test.YthgggdaopkejpaaConcat
import Derived.Deep.RegionHeld3
namespace Go.Proofs.Ythgggdaopkejpaa
open Go.RowKit

theorem step_append_sls {α : Type} (S : Shape α) {P : Program} (w : World) {ops : Array Oper} {o : Oper} {a : Act} {K : Act → World → Prop} {Q : Exit → Act → World → Prop} {E : Prop} (hgd : o.guard = none) (s x : Operand) (t : TypeId)
    (ho : o.op = .call { callee := .builtin .append, args := #[s, x], argTypes := #[t, t] })
    (B : Nat) (e : TypeId) (i : TypeInfo) (z : Value) (bytes : Nat) (ht : P.underlying t = some (.slice e)) (hi : P.info? e = some i) (hz : i.zero = some z)
    (hsize : i.size = S.size) (hby : i.bytes = bytes) (hzs : z.cells.size = S.size) (hB64 : bytes ≤ 64)
    (v : Value) (l : List α) (hs : a.eval s = v) (hown : SlOwn S w B e v l)
    (A : Option Addr) (n c : Nat) (m : List α) (hx : a.eval x = .slice A n c) (hn : n = m.length) (hm : SlAt S w A m)
    (hlen : l.length + m.length ≤ 1048576) (hbase : B ≤ w.heap.size)
    (h : ∀ A' c' w', SlOwn S w' B e (.slice A' (l ++ m).length c') (l ++ m) → Below B w w' → K (a.put o.dst (.slice A' (l ++ m).length c')) w') :
    if Region.wanted o (yielded ops a.tmps) = true then Oper.wp P o a w K Q else E := by
  subst hn
  have hw : Region.wanted o (yielded ops a.tmps) = true := by simp [Region.wanted, hgd]
  rw [if_pos hw]
  have hlt := World.ownsRow.lt hown
  cases A with
  | none =>
    have hm0 : m = [] := by
      rcases hm with hm | ⟨_, _, hm, _⟩
      · exact hm
      · cases hm
    subst hm0
    have hrun : (Builtin.append_ #[t, t] o.type #[v, .slice none 0 c]).run P w = .ok v w := by
      rcases hown.2 with ⟨rfl, _⟩ | ⟨g, cap, cur, rfl, _, _, hnc, _⟩
      · simp [Builtin.append_, run_underlying ht, sizeOf, typeInfo, hi, Builtin.lenOf, Builtin.firstCells]
      · simp [Builtin.append_, run_underlying ht, sizeOf, typeInfo, hi, Builtin.lenOf, Builtin.firstCells, hnc, storeCells]
    obtain ⟨A', c', hv, _, _⟩ := hown.form
    subst hv
    unfold Oper.wp
    simp only [List.length_nil] at hx
    simp [execOp, ho, resolve, invoke, builtin, hs, hx, hrun, Result.andThen]
    have := h A' c' w (by rw [List.append_nil]; exact hown) (Below.refl _ _)
    rwa [List.append_nil] at this
  | some ad =>
    refine wp_append_own w s x t ho B e i z S.size bytes ht hi hz hsize hby hzs S.pos v l.length (S.row l) hs hown ad m.length c (S.row m) hx (S.row_length m) hm.cells_at (S.row_oneCell m)
      (by unfold maxLen; omega) (by have : (l.length + m.length) * bytes ≤ 1048576 * 64 := Nat.mul_le_mul hlen hB64; omega) hbase ?_
    intro v' w' h2 h3 _
    have h4 : SlOwn S w' B e v' (l ++ m) := by
      show World.ownsRow _ _ _ _ _ _ _
      rw [List.length_append, S.row_append]
      exact h2
    obtain ⟨A', c', rfl, _, _⟩ := h4.form
    exact h A' c' w' h4 ((Below.refl _ _).grown h3 hbase (fun k hk => (hlt k hk).1))

theorem own_cap {α : Type} {S : Shape α} {w : World} {B n c : Nat} {e : TypeId} {A : Option Addr} {l : List α} (h : SlOwn S w B e (.slice A n c) l) : n ≤ c := by
  rcases h.2 with ⟨h', _⟩ | ⟨g, cap, cur, hv, _, _, hnc, _⟩
  · simp only [Value.slice.injEq] at h'; omega
  · simp only [Value.slice.injEq] at hv; omega

theorem SlAt.take {α : Type} {S : Shape α} {w : World} {A : Option Addr} {l : List α} (h : SlAt S w A l) (k : Nat) : SlAt S w A (l.take k) := by
  rcases h with rfl | ⟨b, off, hA, hlt, h⟩
  · exact .inl (by simp)
  · refine .inr ⟨b, off, hA, hlt, fun j x hx => h j x ?_⟩
    rw [List.getElem?_take] at hx
    split at hx
    · exact hx
    · cases hx
theorem SlAt.drop {α : Type} {S : Shape α} {w : World} {b off : Nat} {l : List α} (h : SlAt S w (some ⟨b, off, none⟩) l) (k : Nat) : SlAt S w (some ⟨b, off + k * S.size, none⟩) (l.drop k) := by
  rcases h with rfl | ⟨b', off', hA, hlt, h⟩
  · exact .inl (by simp)
  · simp only [Option.some.injEq, Addr.mk.injEq, and_true] at hA
    obtain ⟨rfl, rfl⟩ := hA
    refine .inr ⟨_, _, rfl, hlt, fun j x hx i hi => ?_⟩
    rw [List.getElem?_drop] at hx
    rw [← h (k + j) x hx i hi, Nat.add_mul, Nat.add_assoc, Nat.add_assoc, Nat.add_assoc, Nat.add_assoc]

theorem SlAt.dropIf {w : World} {b off : Nat} {l : List (Int × Int)} (h : SlAt pairS w (some ⟨b, off, none⟩) l) (k c : Nat) (hc : l.length ≤ c) :
    SlAt pairS w (if c = k + 1 then some ⟨b, off, none⟩ else some ⟨b, off + (k + 1) * 2, none⟩) (l.drop (k + 1)) := by
  split
  · exact .inl (List.drop_eq_nil_of_le (by omega))
  · exact h.drop (k + 1)

theorem own_empty {α : Type} (S : Shape α) (w : World) (e : TypeId) : SlOwn S (w.alloc (.cells #[] e)) w.heap.size e (.slice (some ⟨w.heap.size, 0, none⟩) 0 0) [] :=
  ⟨by simp [Shape.row], .inr ⟨w.heap.size, 0, #[], rfl, Nat.le_refl _, heap_new rfl, Nat.le_refl _, by unfold maxLen; omega, by simp, by simp [Shape.row]⟩⟩

def daL (L : Int) (l : List (Int × Int)) (ant : Int) : Int := if foOk L l ant then L else 0
def daA (L : Int) (l : List (Int × Int)) (ant : Int) : List (Int × Int) := if foOk L l ant then l.take ant.toNat ++ l.drop (ant.toNat + 1) else []
theorem ret_rod {L L' : Int} {A : Option Addr} {n n' c : Nat} {b b' : Bool} (h1 : L = L') (h2 : n = n') (h3 : b = b') :
    Ending.returned (.tuple #[.agg #[.int .i64 L, .slice A n c], .bool b]) = .returned (.tuple #[.agg #[.int .i64 L', .slice A n' c], .bool b']) := by rw [h1, h2, h3]

set_option maxRecDepth 100000 in
set_option maxHeartbeats 1000000 in
theorem specDropAnt_any (L : Int) (A : Option Addr) (c : Nat) (l : List (Int × Int)) (ant : Int) (w : World) (hcap : l.length ≤ c) (hA : AntsAt w A l) :
    Calls Try.prog 65 #[.agg #[.int .i64 L, .slice A l.length c], .int .i64 ant] w fun e w' => ∃ A' n' c', e = .returned (.tuple #[.agg #[.int .i64 (daL L l ant), .slice A' n' c'], .bool (foOk L l ant)]) ∧ n' = (daA L l ant).length ∧ AntsOwn w' w.heap.size 42 (.slice A' n' c') (daA L l ant) ∧ Below w.heap.size w w' := by
  obtain ⟨i0, hi, hz0, hz1, hz2⟩ := info_parts antI
  have HA := Lib.hid ((hA.alloc (Obj.cells #[Value.int IntKind.i64 L, Value.slice A l.length c] 26)).alloc (Obj.cells #[Value.int IntKind.i64 0, Value.slice none 0 0] 26))
  clear hA
  cases hk : foOk L l ant with
  | false =>
    have HR : Hid (∀ X, AntsAt X A l → Calls Try.prog 85 #[.agg #[.int .i64 L, .slice A l.length c], .int .i64 ant] X fun e w' => e = .returned (.bool false) ∧ Below X.heap.size X w') := fun X h => roAnt_at L A c l ant false hk X h
    have HV : Hid (daL L l ant = 0 ∧ daA L l ant = []) := by show _ ∧ _; simp [daL, daA, hk]
    clear hk hi
    go_enter Try.func65, Try.ntmps65
    go_wp2_with fail
    refine (HR.out _ HA.out).mono ?_
    rintro e w1 ⟨rfl, hb⟩
    have r0 : w1.cell? ⟨w.heap.size + 1, 0, none⟩ = some (.int .i64 0) := by rw [hb.cell (p := ⟨w.heap.size + 1, 0, none⟩) (by simp)]; simp [go_sem]
    have r1 : w1.cell? ⟨w.heap.size + 1, 1, none⟩ = some (.slice none 0 0) := by rw [hb.cell (p := ⟨w.heap.size + 1, 1, none⟩) (by simp)]; simp [go_sem]
    have f0 : w1.frozen? ⟨w.heap.size + 1, 0, none⟩ = false := by rw [hb.frozen (p := ⟨w.heap.size + 1, 0, none⟩) (by simp)]; simp [go_sem]
    have f1 : w1.frozen? ⟨w.heap.size + 1, 1, none⟩ = false := by rw [hb.frozen (p := ⟨w.heap.size + 1, 1, none⟩) (by simp)]; simp [go_sem]
    have hs : w.heap.size + 1 < w1.heap.size := by have := hb.size; simp at this; omega
    have HB := Lib.hid (((Below.refl _ w).alloc (Nat.le_refl _) (Obj.cells #[Value.int IntKind.i64 L, Value.slice A l.length c] 26)).alloc (by simp) (Obj.cells #[Value.int IntKind.i64 0, Value.slice none 0 0] 26) |>.trans (hb.mono (by simp; omega)))
    clear hb
    go_wp2
    refine bodyPost_ret (v := .tuple #[.agg #[.int .i64 0, .slice none 0 0], .bool false]) (by simp [results, Try.results65, go_sem, r0, r1, hs]) rfl ⟨none, 0, 0, ret_rod HV.out.1.symm rfl rfl, by rw [HV.out.2]; rfl, by rw [HV.out.2]; exact SlOwn.nil pairS _ _ _, ?_⟩
    exact (HB.out.setCell (by simp) _).setCell (by simp) _
  | true =>
    have HR : Hid (∀ X, AntsAt X A l → Calls Try.prog 85 #[.agg #[.int .i64 L, .slice A l.length c], .int .i64 ant] X fun e w' => e = .returned (.bool true) ∧ Below X.heap.size X w') := fun X h => roAnt_at L A c l ant true hk X h
    have hh := hk
    simp only [foOk, hasB, Bool.and_eq_true, decide_eq_true_eq] at hh
    obtain ⟨hg, h0, h1⟩ := hh
    obtain ⟨k, rfl⟩ := Int.eq_ofNat_of_zero_le h0
    have hn := good_len hg
    have hkl : k < l.length := by omega
    have HV : Hid (daL L l k = L ∧ daA L l k = l.take k ++ l.drop (k + 1)) := by show _ ∧ _; simp [daL, daA, hk]
    clear hk hg
    have hk0 : (0 : Int) ≤ (k : Int) := h0
    have hk1 : (k : Int) ≤ (c : Int) := by omega
    have hk2 : (k : Int) + 1 ≤ (l.length : Int) := by omega
    have hk3 : (l.length : Int) ≤ (c : Int) := by omega
    have hk4 : (0 : Int) ≤ (k : Int) + 1 := by omega
    have hk5 : (k : Int) + 1 ≤ (c : Int) := by omega
    have hkw : IntKind.i64.wrap ((k : Int) + 1) = (k : Int) + 1 := IntWalk.i64_in _ (by omega)
    go_enter Try.func65, Try.ntmps65
    go_wp2_with fail
    refine (HR.out _ HA.out).mono ?_
    rintro e w1 ⟨rfl, hb⟩
    have c0 : w1.cell? ⟨w.heap.size, 0, none⟩ = some (.int .i64 L) := by rw [hb.cell (p := ⟨w.heap.size, 0, none⟩) (by simp; omega)]; simp [go_sem]
    have c1 : w1.cell? ⟨w.heap.size, 1, none⟩ = some (.slice A l.length c) := by rw [hb.cell (p := ⟨w.heap.size, 1, none⟩) (by simp; omega)]; simp [go_sem]
    have r0 : w1.cell? ⟨w.heap.size + 1, 0, none⟩ = some (.int .i64 0) := by rw [hb.cell (p := ⟨w.heap.size + 1, 0, none⟩) (by simp)]; simp [go_sem]
    have r1 : w1.cell? ⟨w.heap.size + 1, 1, none⟩ = some (.slice none 0 0) := by rw [hb.cell (p := ⟨w.heap.size + 1, 1, none⟩) (by simp)]; simp [go_sem]
    have f0 : w1.frozen? ⟨w.heap.size + 1, 0, none⟩ = false := by rw [hb.frozen (p := ⟨w.heap.size + 1, 0, none⟩) (by simp)]; simp [go_sem]
    have f1 : w1.frozen? ⟨w.heap.size + 1, 1, none⟩ = false := by rw [hb.frozen (p := ⟨w.heap.size + 1, 1, none⟩) (by simp)]; simp [go_sem]
    have hs : w.heap.size + 1 < w1.heap.size := by have := hb.size; simp at this; omega
    have HB := Lib.hid (((Below.refl _ w).alloc (Nat.le_refl _) (Obj.cells #[Value.int IntKind.i64 L, Value.slice A l.length c] 26)).alloc (by simp) (Obj.cells #[Value.int IntKind.i64 0, Value.slice none 0 0] 26) |>.trans (hb.mono (by simp; omega)))
    have HA1 := Lib.hid (antsAt_sl (HA.out.below hb))
    clear hb
    obtain ⟨b, off, rfl, -⟩ := HA1.out.at_ hkl
    go_wp2
    have hs0 : w.heap.size < w1.heap.size := by omega
    have HW1 := Lib.hid (((Below.refl w1.heap.size w1).alloc (Nat.le_refl _) (Obj.cells #[] 42)))
    have HD : Hid (SlOwn pairS (w1.alloc (Obj.cells #[] 42)).drew w1.heap.size 42 (.slice (some ⟨w1.heap.size, 0, none⟩) 0 0) [] ∧ Below w1.heap.size w1 (w1.alloc (Obj.cells #[] 42)).drew ∧ SlAt pairS (w1.alloc (Obj.cells #[] 42)).drew (some ⟨b, off, none⟩) l ∧ w1.heap.size ≤ (w1.alloc (Obj.cells #[] 42)).drew.heap.size) :=
      ⟨own_empty pairS w1 42, ⟨HW1.out.os, HW1.out.tape, HW1.out.output, HW1.out.size, HW1.out.block⟩, (HA1.out.below ⟨HW1.out.os, HW1.out.tape, HW1.out.output, HW1.out.size, HW1.out.block⟩), HW1.out.size⟩
    have D0 : (w1.alloc (Obj.cells #[] 42)).drew.cell? ⟨w.heap.size, 0, none⟩ = some (.int .i64 L) := alloc_some c0 _
    have D1 : (w1.alloc (Obj.cells #[] 42)).drew.cell? ⟨w.heap.size, 1, none⟩ = some (.slice (some ⟨b, off, none⟩) l.length c) := alloc_some c1 _
    go_region_held3 (fun w' => w'.cell? ⟨w.heap.size, 0, none⟩ = some (.int .i64 L) ∧ w'.cell? ⟨w.heap.size, 1, none⟩ = some (.slice (some ⟨b, off, none⟩) l.length c))
      (first | exact ⟨c0'', c1''⟩ | exact ⟨c0', c1'⟩ | go_keep)
      (first
        | (refine step_append_sls pairS _ rfl _ _ 24 rfl w1.heap.size 42 i0 _ 16 Try.underlying24 hi hz0 hz1 hz2 rfl (by decide) _ [] rfl HD.out.1 (some ⟨b, off, none⟩) k c (l.take k) rfl (by rw [List.length_take]; omega) (HD.out.2.2.1.take k) (by simp; omega) HD.out.2.2.2 ?_; intro A5 k5 w5 ho5 hb5; have c0' := (hb5.cell (p := ⟨w.heap.size, 0, none⟩) hs0).trans D0; have c1' := (hb5.cell (p := ⟨w.heap.size, 1, none⟩) hs0).trans D1; have HB5 := Lib.hid (HD.out.2.1.trans hb5); have HO5 := Lib.hid ho5; have HA5 := Lib.hid ((HA1.out.below HB5.out).dropIf k c hcap); have hs5 := HB5.out.size; clear ho5 hb5)
        | (refine step_append_sls pairS _ rfl _ _ 24 rfl w1.heap.size 42 i0 _ 16 Try.underlying24 hi hz0 hz1 hz2 rfl (by decide) _ ([] ++ l.take k) rfl HO5.out _ _ _ (l.drop (k + 1)) rfl (by rw [List.length_drop]) HA5.out (by simp; omega) hs5 ?_; intro A6 k6 w6 ho6 hb6; have c0'' := (hb6.cell (p := ⟨w.heap.size, 0, none⟩) hs0).trans c0'; have c1'' := (hb6.cell (p := ⟨w.heap.size, 1, none⟩) hs0).trans c1'; have HB6 := Lib.hid (HB5.out.trans hb6); have HO6 := Lib.hid ho6; clear ho6 hb6))
    have r0 := (HB6.out.cell (p := ⟨w.heap.size + 1, 0, none⟩) hs).trans r0
    have r1 := (HB6.out.cell (p := ⟨w.heap.size + 1, 1, none⟩) hs).trans r1
    have f0 := (HB6.out.frozen (p := ⟨w.heap.size + 1, 0, none⟩) hs).trans f0
    have f1 := (HB6.out.frozen (p := ⟨w.heap.size + 1, 1, none⟩) hs).trans f1
    have hs6 : w.heap.size + 1 < w6.heap.size := by have := HB6.out.size; omega
    have HN : Hid (SlOwn pairS w6 w1.heap.size 42 (.slice A6 (daA L l k).length k6) (daA L l k) ∧ min k l.length + (l.length - (k + 1)) = (daA L l k).length) := by
      show _ ∧ _
      have := HO6.out
      rw [HV.out.2]
      exact ⟨by simpa using this, by simp⟩
    have HB7 := Lib.hid (HB.out.trans (HB6.out.mono HB.out.size))
    go_wp2
    all_goals (
      refine bodyPost_ret (v := .tuple #[.agg #[.int .i64 L, .slice A6 (min k l.length + (l.length - (k + 1))) k6], .bool true]) (by simp [results, Try.results65, go_sem, r0, r1, hs6]) rfl ⟨A6, _, k6, ret_rod HV.out.1.symm rfl rfl, HN.out.2, ?_, ?_⟩
      · rw [HN.out.2]
        exact ownsRow_base (ownsRow_setCell_below (ownsRow_setCell_below HN.out.1 (by simp; omega) _) (by simp; omega) _) (by omega)
      · exact (HB7.out.setCell (by simp) _).setCell (by simp) _)


theorem concatA_at (g c2 n k : Nat) (A B : Option Addr) (c d : Nat) (l m : List _) (w : World) (hn : n = l.length) (hk : k = m.length) (hl : (l.length : Int) ≤ 65536) (hm : (m.length : Int) ≤ 65536) (hA : SlAt pairS w A l) (hB : SlAt pairS w B m)
    (h0 : w.cell? ⟨g, 0, none⟩ = some (.slice A n c)) (h1 : w.cell? ⟨g, 1, none⟩ = some (.slice B k d)) :
    Calls Try.prog 105 #[.slice (some ⟨g, 0, none⟩) 2 c2] w fun e w' => ∃ A' c', e = .returned (.slice A' (l ++ m).length c') ∧ SlOwn pairS w' w.heap.size 42 (.slice A' (l ++ m).length c') (l ++ m) ∧ Below w.heap.size w w' := by
  subst hn; subst hk
  exact concatA_any g c2 A B c d l m w hl hm hA hB h0 h1

set_option maxRecDepth 100000 in
set_option maxHeartbeats 1000000 in
theorem implDropAnt_any (L : Int) (A : Option Addr) (c : Nat) (l : List (Int × Int)) (ant : Int) (w : World) (hcap : l.length ≤ c) (hA : AntsAt w A l) :
    Calls Try.prog 66 #[.agg #[.int .i64 L, .slice A l.length c], .int .i64 ant] w fun e w' => ∃ A' n' c', e = .returned (.tuple #[.agg #[.int .i64 (daL L l ant), .slice A' n' c'], .bool (foOk L l ant)]) ∧ n' = (daA L l ant).length ∧ AntsOwn w' w.heap.size 42 (.slice A' n' c') (daA L l ant) ∧ Below w.heap.size w w' := by
  have HA := Lib.hid ((hA.alloc (Obj.cells #[Value.int IntKind.i64 L, Value.slice A l.length c] 26)).alloc (Obj.cells #[Value.int IntKind.i64 0, Value.slice none 0 0] 26))
  clear hA
  cases hg : goodB L l with
  | false =>
    have HV : Hid (daL L l ant = 0 ∧ daA L l ant = [] ∧ foOk L l ant = false) := by show _ ∧ _ ∧ _; simp [daL, daA, foOk, hg]
    have HG : Hid (∀ w, AntsAt w A l → Calls Try.prog 30 #[.agg #[.int .i64 L, .slice A l.length c]] w fun e w' => e = .returned (.bool false) ∧ Below w.heap.size w w') := fun w h => by
      rw [← hg]; exact isRod_any L A c l w h
    clear hg
    go_enter Try.func66, Try.ntmps66
    go_wp2_with fail
    refine (HG.out _ HA.out).mono ?_
    rintro e w1 ⟨rfl, hb⟩
    have r0 : w1.cell? ⟨w.heap.size + 1, 0, none⟩ = some (.int .i64 0) := by rw [hb.cell (p := ⟨w.heap.size + 1, 0, none⟩) (by simp)]; simp [go_sem]
    have r1 : w1.cell? ⟨w.heap.size + 1, 1, none⟩ = some (.slice none 0 0) := by rw [hb.cell (p := ⟨w.heap.size + 1, 1, none⟩) (by simp)]; simp [go_sem]
    have f0 : w1.frozen? ⟨w.heap.size + 1, 0, none⟩ = false := by rw [hb.frozen (p := ⟨w.heap.size + 1, 0, none⟩) (by simp)]; simp [go_sem]
    have f1 : w1.frozen? ⟨w.heap.size + 1, 1, none⟩ = false := by rw [hb.frozen (p := ⟨w.heap.size + 1, 1, none⟩) (by simp)]; simp [go_sem]
    have c0 : w1.cell? ⟨w.heap.size, 0, none⟩ = some (.int .i64 L) := by rw [hb.cell (p := ⟨w.heap.size, 0, none⟩) (by simp; omega)]; simp [go_sem]
    have c1 : w1.cell? ⟨w.heap.size, 1, none⟩ = some (.slice A l.length c) := by rw [hb.cell (p := ⟨w.heap.size, 1, none⟩) (by simp; omega)]; simp [go_sem]
    have hs : w.heap.size + 1 < w1.heap.size := by have := hb.size; simp at this; omega
    have HB := Lib.hid (((Below.refl _ w).alloc (Nat.le_refl _) (Obj.cells #[Value.int IntKind.i64 L, Value.slice A l.length c] 26)).alloc (by simp) (Obj.cells #[Value.int IntKind.i64 0, Value.slice none 0 0] 26) |>.trans (hb.mono (by simp; omega)))
    clear hb
    go_wp2
    refine bodyPost_ret (v := .tuple #[.agg #[.int .i64 0, .slice none 0 0], .bool false]) (by simp [results, Try.results66, go_sem, r0, r1, hs]) rfl ⟨none, 0, 0, ret_rod HV.out.1.symm rfl HV.out.2.2.symm, by rw [HV.out.2.1]; rfl, by rw [HV.out.2.1]; exact SlOwn.nil pairS _ _ _, ?_⟩
    exact (HB.out.setCell (by simp) _).setCell (by simp) _
  | true =>
    have HG : Hid (∀ w, AntsAt w A l → Calls Try.prog 30 #[.agg #[.int .i64 L, .slice A l.length c]] w fun e w' => e = .returned (.bool true) ∧ Below w.heap.size w w') := fun w h => by
      rw [← hg]; exact isRod_any L A c l w h
    have hn := good_len hg
    cases hh : hasB l.length ant with
    | false =>
      have HV : Hid (daL L l ant = 0 ∧ daA L l ant = [] ∧ foOk L l ant = false) := by show _ ∧ _ ∧ _; simp [daL, daA, foOk, hh]
      have HH := Lib.hid hh
      clear hg hh
      go_enter Try.func66, Try.ntmps66
      go_wp2_with fail
      refine (HG.out _ HA.out).mono ?_
      rintro e w1 ⟨rfl, hb⟩
      have r0 : w1.cell? ⟨w.heap.size + 1, 0, none⟩ = some (.int .i64 0) := by rw [hb.cell (p := ⟨w.heap.size + 1, 0, none⟩) (by simp)]; simp [go_sem]
      have r1 : w1.cell? ⟨w.heap.size + 1, 1, none⟩ = some (.slice none 0 0) := by rw [hb.cell (p := ⟨w.heap.size + 1, 1, none⟩) (by simp)]; simp [go_sem]
      have f0 : w1.frozen? ⟨w.heap.size + 1, 0, none⟩ = false := by rw [hb.frozen (p := ⟨w.heap.size + 1, 0, none⟩) (by simp)]; simp [go_sem]
      have f1 : w1.frozen? ⟨w.heap.size + 1, 1, none⟩ = false := by rw [hb.frozen (p := ⟨w.heap.size + 1, 1, none⟩) (by simp)]; simp [go_sem]
      have c0 : w1.cell? ⟨w.heap.size, 0, none⟩ = some (.int .i64 L) := by rw [hb.cell (p := ⟨w.heap.size, 0, none⟩) (by simp; omega)]; simp [go_sem]
      have c1 : w1.cell? ⟨w.heap.size, 1, none⟩ = some (.slice A l.length c) := by rw [hb.cell (p := ⟨w.heap.size, 1, none⟩) (by simp; omega)]; simp [go_sem]
      have hs : w.heap.size + 1 < w1.heap.size := by have := hb.size; simp at this; omega
      have HB := Lib.hid (((Below.refl _ w).alloc (Nat.le_refl _) (Obj.cells #[Value.int IntKind.i64 L, Value.slice A l.length c] 26)).alloc (by simp) (Obj.cells #[Value.int IntKind.i64 0, Value.slice none 0 0] 26) |>.trans (hb.mono (by simp; omega)))
      clear hb
      go_wp2_with fail
      refine (hasAnt_at L A l.length c ant false HH.out _).mono ?_
      rintro e w2 ⟨rfl, hb2⟩
      have r0 := Below.cell_some hb2 r0
      have r1 := Below.cell_some hb2 r1
      have f0 := (hb2.frozen (p := ⟨w.heap.size + 1, 0, none⟩) hs).trans f0
      have f1 := (hb2.frozen (p := ⟨w.heap.size + 1, 1, none⟩) hs).trans f1
      have c0 := Below.cell_some hb2 c0
      have c1 := Below.cell_some hb2 c1
      have HB := Lib.hid (HB.out.trans (hb2.mono HB.out.size))
      have hs : w.heap.size + 1 < w2.heap.size := by have := hb2.size; omega
      clear hb2
      go_wp2
      refine bodyPost_ret (v := .tuple #[.agg #[.int .i64 0, .slice none 0 0], .bool false]) (by simp [results, Try.results66, go_sem, r0, r1, hs]) rfl ⟨none, 0, 0, ret_rod HV.out.1.symm rfl HV.out.2.2.symm, by rw [HV.out.2.1]; rfl, by rw [HV.out.2.1]; exact SlOwn.nil pairS _ _ _, ?_⟩
      exact (HB.out.setCell (by simp) _).setCell (by simp) _
    | true =>
      have hok : foOk L l ant = true := by simp [foOk, hg, hh]
      have HH := Lib.hid hh
      simp only [hasB, Bool.and_eq_true, decide_eq_true_eq] at hh
      obtain ⟨h0, h1⟩ := hh
      obtain ⟨k, rfl⟩ := Int.eq_ofNat_of_zero_le h0
      have hkl : k < l.length := by omega
      have HV : Hid (daL L l k = L ∧ daA L l k = l.take k ++ l.drop (k + 1) ∧ foOk L l k = true) := by show _ ∧ _ ∧ _; simp [daL, daA, hok]
      clear hg hok
      have hk0 : (0 : Int) ≤ (k : Int) := h0
      have hk1 : (k : Int) ≤ (c : Int) := by omega
      have hk2 : (k : Int) + 1 ≤ (l.length : Int) := by omega
      have hk3 : (l.length : Int) ≤ (c : Int) := by omega
      have hk4 : (0 : Int) ≤ (k : Int) + 1 := by omega
      have hk5 : (k : Int) + 1 ≤ (c : Int) := by omega
      have hkw : IntKind.i64.wrap ((k : Int) + 1) = (k : Int) + 1 := IntWalk.i64_in _ (by omega)
      go_enter Try.func66, Try.ntmps66
      go_wp2_with fail
      refine (HG.out _ HA.out).mono ?_
      rintro e w1 ⟨rfl, hb⟩
      have r0 : w1.cell? ⟨w.heap.size + 1, 0, none⟩ = some (.int .i64 0) := by rw [hb.cell (p := ⟨w.heap.size + 1, 0, none⟩) (by simp)]; simp [go_sem]
      have r1 : w1.cell? ⟨w.heap.size + 1, 1, none⟩ = some (.slice none 0 0) := by rw [hb.cell (p := ⟨w.heap.size + 1, 1, none⟩) (by simp)]; simp [go_sem]
      have f0 : w1.frozen? ⟨w.heap.size + 1, 0, none⟩ = false := by rw [hb.frozen (p := ⟨w.heap.size + 1, 0, none⟩) (by simp)]; simp [go_sem]
      have f1 : w1.frozen? ⟨w.heap.size + 1, 1, none⟩ = false := by rw [hb.frozen (p := ⟨w.heap.size + 1, 1, none⟩) (by simp)]; simp [go_sem]
      have c0 : w1.cell? ⟨w.heap.size, 0, none⟩ = some (.int .i64 L) := by rw [hb.cell (p := ⟨w.heap.size, 0, none⟩) (by simp; omega)]; simp [go_sem]
      have c1 : w1.cell? ⟨w.heap.size, 1, none⟩ = some (.slice A l.length c) := by rw [hb.cell (p := ⟨w.heap.size, 1, none⟩) (by simp; omega)]; simp [go_sem]
      have hs : w.heap.size + 1 < w1.heap.size := by have := hb.size; simp at this; omega
      have HB := Lib.hid (((Below.refl _ w).alloc (Nat.le_refl _) (Obj.cells #[Value.int IntKind.i64 L, Value.slice A l.length c] 26)).alloc (by simp) (Obj.cells #[Value.int IntKind.i64 0, Value.slice none 0 0] 26) |>.trans (hb.mono (by simp; omega)))
      have HA1 := Lib.hid (antsAt_sl (HA.out.below hb))
      clear hb
      go_wp2_with fail
      refine (hasAnt_at L A l.length c k true HH.out _).mono ?_
      rintro e w2 ⟨rfl, hb2⟩
      have r0 := Below.cell_some hb2 r0
      have r1 := Below.cell_some hb2 r1
      have f0 := (hb2.frozen (p := ⟨w.heap.size + 1, 0, none⟩) hs).trans f0
      have f1 := (hb2.frozen (p := ⟨w.heap.size + 1, 1, none⟩) hs).trans f1
      have c0 := Below.cell_some hb2 c0
      have c1 := Below.cell_some hb2 c1
      have HB := Lib.hid (HB.out.trans (hb2.mono HB.out.size))
      have hs : w.heap.size + 1 < w2.heap.size := by have := hb2.size; omega
      have HA2 := Lib.hid (HA1.out.below hb2)
      clear hb2
      obtain ⟨b, off, rfl, -⟩ := HA2.out.at_ hkl
      have hs0 : w.heap.size < w2.heap.size := by omega
      by_cases hcc : c = k + 1
      · subst hcc
        have hk1 : (k : Int) ≤ (k : Int) + 1 := by omega
        have hk6 : k ≤ k + 1 := by omega
        clear hk5
        go_wp2
        obtain ⟨W3, hW3⟩ : ∃ W3, W3 = (w2.alloc (Obj.cells #[.slice (some ⟨b, off, none⟩) k (k + 1), .slice (some ⟨b, off, none⟩) 0 0] 24)).drew := ⟨_, rfl⟩
        have e0 : W3.cell? ⟨w2.heap.size, 0, none⟩ = some (.slice (some ⟨b, off, none⟩) k (k + 1)) := by rw [hW3]; simp [go_sem]
        have e1 : W3.cell? ⟨w2.heap.size, 1, none⟩ = some (.slice (some ⟨b, off, none⟩) 0 0) := by rw [hW3]; simp [go_sem]
        have hB23 : Below w2.heap.size w2 W3 := by
          rw [hW3]
          have HW1 := ((Below.refl w2.heap.size w2).alloc (Nat.le_refl _) (Obj.cells #[.slice (some ⟨b, off, none⟩) k (k + 1), .slice (some ⟨b, off, none⟩) 0 0] 24))
          exact ⟨HW1.os, HW1.tape, HW1.output, HW1.size, HW1.block⟩
        have r0 := Below.cell_some hB23 r0
        have r1 := Below.cell_some hB23 r1
        have f0 := (hB23.frozen (p := ⟨w.heap.size + 1, 0, none⟩) hs).trans f0
        have f1 := (hB23.frozen (p := ⟨w.heap.size + 1, 1, none⟩) hs).trans f1
        have C0 := Below.cell_some hB23 c0
        have C1 := Below.cell_some hB23 c1
        have HB3 := Lib.hid (HB.out.trans (hB23.mono HB.out.size))
        have hs3 : w.heap.size + 1 < W3.heap.size := by have := hB23.size; omega
        have HA3 := Lib.hid (HA2.out.below hB23)
        have HDR : Hid (SlAt pairS W3 (some ⟨b, off, none⟩) (l.drop (k + 1))) := by
          have := HA3.out.dropIf k (k + 1) hcap
          rw [if_pos rfl] at this
          exact this
        have HK : Hid (∀ Q : Ending → World → Prop, (∀ A' c' w', SlOwn pairS w' W3.heap.size 42 (.slice A' (l.take k ++ l.drop (k + 1)).length c') (l.take k ++ l.drop (k + 1)) ∧ Below W3.heap.size W3 w' → Q (.returned (.slice A' (l.take k ++ l.drop (k + 1)).length c')) w') → Calls Try.prog 105 #[.slice (some ⟨w2.heap.size, 0, none⟩) 2 2] W3 Q) := fun Q hQ => by
          refine (concatA_at w2.heap.size 2 k 0 _ _ _ _ (l.take k) (l.drop (k + 1)) W3 (by rw [List.length_take]; omega) (by rw [List.length_drop]; omega) (by rw [List.length_take]; omega) (by rw [List.length_drop]; omega) (HA3.out.take k) HDR.out e0 e1).mono ?_
          rintro e w' ⟨A', c', rfl, ho, hb⟩
          exact hQ A' c' w' ⟨ho, hb⟩
        rw [hW3] at HK
        clear hB23 e0 e1
        go_region_held3 (fun w' => w'.cell? ⟨w.heap.size, 0, none⟩ = some (.int .i64 L) ∧ w'.cell? ⟨w.heap.size, 1, none⟩ = some (.slice (some ⟨b, off, none⟩) l.length (k + 1)))
          (first | exact ⟨c0', c1'⟩ | go_keep)
          (first | (go_at_call 105; refine HK.out _ ?_; rw [← hW3]; rintro A4 k4 w4 ⟨ho4, hb4⟩; have c0' := Below.cell_some hb4 C0; have c1' := Below.cell_some hb4 C1; have r0 := Below.cell_some hb4 r0; have r1 := Below.cell_some hb4 r1; have f0 := (hb4.frozen (p := ⟨w.heap.size + 1, 0, none⟩) hs3).trans f0; have f1 := (hb4.frozen (p := ⟨w.heap.size + 1, 1, none⟩) hs3).trans f1; have HO4 := Lib.hid ho4; have HB4 := Lib.hid (HB3.out.trans (hb4.mono HB3.out.size)); have hs4 := hb4.size; clear ho4 hb4))
        have HN : Hid (SlOwn pairS w4 W3.heap.size 42 (.slice A4 (daA L l k).length k4) (daA L l k) ∧ min k l.length + (l.length - (k + 1)) = (daA L l k).length) := by
          show _ ∧ _
          have := HO4.out
          rw [HV.out.2.1]
          exact ⟨by simpa using this, by simp⟩
        go_wp2
        refine bodyPost_ret (v := .tuple #[.agg #[.int .i64 L, .slice A4 (min k l.length + (l.length - (k + 1))) k4], .bool true]) (by simp [results, Try.results66, go_sem, r0, r1, hs4]; omega) rfl ⟨A4, _, k4, ret_rod HV.out.1.symm rfl HV.out.2.2.symm, HN.out.2, ?_, ?_⟩
        · rw [HN.out.2]
          exact ownsRow_base (ownsRow_setCell_below (ownsRow_setCell_below HN.out.1 (by simp; omega) _) (by simp; omega) _) (by omega)
        · exact (HB4.out.setCell (by simp) _).setCell (by simp) _
      · go_wp2
        obtain ⟨W3, hW3⟩ : ∃ W3, W3 = (w2.alloc (Obj.cells #[.slice (some ⟨b, off, none⟩) k c, .slice (some ⟨b, off + (k + 1) * 2, none⟩) (l.length - (k + 1)) (c - (k + 1))] 24)).drew := ⟨_, rfl⟩
        have e0 : W3.cell? ⟨w2.heap.size, 0, none⟩ = some (.slice (some ⟨b, off, none⟩) k c) := by rw [hW3]; simp [go_sem]
        have e1 : W3.cell? ⟨w2.heap.size, 1, none⟩ = some (.slice (some ⟨b, off + (k + 1) * 2, none⟩) (l.length - (k + 1)) (c - (k + 1))) := by rw [hW3]; simp [go_sem]
        have hB23 : Below w2.heap.size w2 W3 := by
          rw [hW3]
          have HW1 := ((Below.refl w2.heap.size w2).alloc (Nat.le_refl _) (Obj.cells #[.slice (some ⟨b, off, none⟩) k c, .slice (some ⟨b, off + (k + 1) * 2, none⟩) (l.length - (k + 1)) (c - (k + 1))] 24))
          exact ⟨HW1.os, HW1.tape, HW1.output, HW1.size, HW1.block⟩
        have r0 := Below.cell_some hB23 r0
        have r1 := Below.cell_some hB23 r1
        have f0 := (hB23.frozen (p := ⟨w.heap.size + 1, 0, none⟩) hs).trans f0
        have f1 := (hB23.frozen (p := ⟨w.heap.size + 1, 1, none⟩) hs).trans f1
        have C0 := Below.cell_some hB23 c0
        have C1 := Below.cell_some hB23 c1
        have HB3 := Lib.hid (HB.out.trans (hB23.mono HB.out.size))
        have hs3 : w.heap.size + 1 < W3.heap.size := by have := hB23.size; omega
        have HA3 := Lib.hid (HA2.out.below hB23)
        have HDR : Hid (SlAt pairS W3 (some ⟨b, off + (k + 1) * 2, none⟩) (l.drop (k + 1))) := by
          have := HA3.out.dropIf k c hcap
          rw [if_neg hcc] at this
          exact this
        have HK : Hid (∀ Q : Ending → World → Prop, (∀ A' c' w', SlOwn pairS w' W3.heap.size 42 (.slice A' (l.take k ++ l.drop (k + 1)).length c') (l.take k ++ l.drop (k + 1)) ∧ Below W3.heap.size W3 w' → Q (.returned (.slice A' (l.take k ++ l.drop (k + 1)).length c')) w') → Calls Try.prog 105 #[.slice (some ⟨w2.heap.size, 0, none⟩) 2 2] W3 Q) := fun Q hQ => by
          refine (concatA_at w2.heap.size 2 k (l.length - (k + 1)) _ _ _ _ (l.take k) (l.drop (k + 1)) W3 (by rw [List.length_take]; omega) (by rw [List.length_drop]) (by rw [List.length_take]; omega) (by rw [List.length_drop]; omega) (HA3.out.take k) HDR.out e0 e1).mono ?_
          rintro e w' ⟨A', c', rfl, ho, hb⟩
          exact hQ A' c' w' ⟨ho, hb⟩
        rw [hW3] at HK
        clear hB23 e0 e1
        go_region_held3 (fun w' => w'.cell? ⟨w.heap.size, 0, none⟩ = some (.int .i64 L) ∧ w'.cell? ⟨w.heap.size, 1, none⟩ = some (.slice (some ⟨b, off, none⟩) l.length c))
          (first | exact ⟨c0', c1'⟩ | go_keep)
          (first | (go_at_call 105; refine HK.out _ ?_; rw [← hW3]; rintro A4 k4 w4 ⟨ho4, hb4⟩; have c0' := Below.cell_some hb4 C0; have c1' := Below.cell_some hb4 C1; have r0 := Below.cell_some hb4 r0; have r1 := Below.cell_some hb4 r1; have f0 := (hb4.frozen (p := ⟨w.heap.size + 1, 0, none⟩) hs3).trans f0; have f1 := (hb4.frozen (p := ⟨w.heap.size + 1, 1, none⟩) hs3).trans f1; have HO4 := Lib.hid ho4; have HB4 := Lib.hid (HB3.out.trans (hb4.mono HB3.out.size)); have hs4 := hb4.size; clear ho4 hb4))
        have HN : Hid (SlOwn pairS w4 W3.heap.size 42 (.slice A4 (daA L l k).length k4) (daA L l k) ∧ min k l.length + (l.length - (k + 1)) = (daA L l k).length) := by
          show _ ∧ _
          have := HO4.out
          rw [HV.out.2.1]
          exact ⟨by simpa using this, by simp⟩
        go_wp2
        refine bodyPost_ret (v := .tuple #[.agg #[.int .i64 L, .slice A4 (min k l.length + (l.length - (k + 1))) k4], .bool true]) (by simp [results, Try.results66, go_sem, r0, r1, hs4]) rfl ⟨A4, _, k4, ret_rod HV.out.1.symm rfl HV.out.2.2.symm, HN.out.2, ?_, ?_⟩
        · rw [HN.out.2]
          exact ownsRow_base (ownsRow_setCell_below (ownsRow_setCell_below HN.out.1 (by simp; omega) _) (by simp; omega) _) (by omega)
        · exact (HB4.out.setCell (by simp) _).setCell (by simp) _

theorem daA_len (L : Int) (l : List (Int × Int)) (ant : Int) : (daA L l ant).length ≤ l.length := by
  unfold daA
  split
  · rw [List.length_append, List.length_take, List.length_drop]
    rename_i h
    simp only [foOk, hasB, Bool.and_eq_true, decide_eq_true_eq] at h
    omega
  · simp

end Go.Proofs.Ythgggdaopkejpaa
