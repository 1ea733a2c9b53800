/- The program's RoundOfBox. -/
import Derived.Test.YthokkdipbckolaaBoxD
import Derived.Test.YthokkdipbckolaaIsCirc
import Derived.Deep.RegionHeld3
import Derived.Deep.RegionLaw
namespace Go.Proofs.Ythokkdipbckolaa
open Go.RowKit

def rn1 (L : Int) (x : Int × Int) : Int × Int := (rdB L x 0, 1)
def rnA (L : Int) (l : List (Int × Int)) : List (Int × Int) := srtA (l.map (rn1 L))
def rnOk (L : Int) (l : List (Int × Int)) : Bool := boxB L l && ciB (2 * L) (rnA L l)
def rnL (L : Int) (l : List (Int × Int)) : Int := if rnOk L l then 2 * L else 0
def rnV (L : Int) (l : List (Int × Int)) : List (Int × Int) := if rnOk L l then rnA L l else []
theorem rnA_len (L : Int) (l : List (Int × Int)) : (rnA L l).length = l.length := by unfold rnA; rw [srtA_len]; simp
theorem rnV_le (L : Int) (l : List (Int × Int)) : (rnV L l).length ≤ 16 := by
  unfold rnV
  split
  · rename_i h
    unfold rnOk at h
    rw [Bool.and_eq_true] at h
    have := boxB_len h.1
    rw [rnA_len]
    omega
  · exact Nat.zero_le _
theorem rn_no {L : Int} {l : List (Int × Int)} (h : rnOk L l = false) : rnL L l = 0 ∧ rnV L l = [] := by unfold rnL rnV; rw [h]; exact ⟨rfl, rfl⟩
theorem rn_yes {L : Int} {l : List (Int × Int)} (h : rnOk L l = true) : rnL L l = 2 * L ∧ rnV L l = rnA L l := by unfold rnL rnV; rw [h]; exact ⟨rfl, rfl⟩
theorem rn_snoc (L : Int) (l : List (Int × Int)) (k : Nat) (x : Int × Int) (hx : l[k]? = some x) : (l.take (k + 1)).map (rn1 L) = (l.take k).map (rn1 L) ++ [rn1 L x] := by
  obtain ⟨hk, rfl⟩ := List.getElem?_eq_some_iff.1 hx
  rw [List.take_succ_eq_append_getElem hk, List.map_append]
  rfl
theorem SlAt.setOther {α : Type} {S : Shape α} {w : World} {A : Option Addr} {l : List α} (h : SlAt S w A l) {p q : Nat} {v : Value} (hne : ∀ a, A = some a → a.block ≠ p) : SlAt S (w.setCell ⟨p, q, none⟩ v) A l := by
  rcases h with h | ⟨b, off, hA, hlt, h⟩
  · exact .inl h
  · refine .inr ⟨b, off, hA, by simpa [World.setCell] using hlt, fun k x hk j hj => ?_⟩
    rw [← h k x hk j hj]
    refine World.cell?_setCell_other _ _ _ _ ?_
    intro e
    injection e with e1 e2
    exact hne _ hA e1.symm

/-- what lies in memory while the ants of the round are told: the result's cells, the circle's own, the ghosts, and the row told so far -/
structure RnAt (W : World) (w0 cb B : Nat) (L : Int) (A2 : Option Addr) (gs : List (Int × Int × Int)) (A3 : Option Addr) (n3 c3 : Nat) (m : List (Int × Int)) : Prop where
  c0 : W.cell? ⟨cb, 0, none⟩ = some (.int .i64 (2 * L))
  c1 : W.cell? ⟨cb, 1, none⟩ = some (.slice A3 n3 c3)
  cf : ∀ o, W.frozen? ⟨cb, o, none⟩ = false
  r0 : W.cell? ⟨w0 + 1, 0, none⟩ = some (.int .i64 0)
  r1 : W.cell? ⟨w0 + 1, 1, none⟩ = some (.slice none 0 0)
  rf : ∀ o, W.frozen? ⟨w0 + 1, o, none⟩ = false
  gat : SlAt tripS W A2 gs
  gin : ∀ a, A2 = some a → a.block < B ∧ a.block ≠ cb
  own : SlOwn pairS W B 53 (.slice A3 n3 c3) m
  lo : w0 + 1 < cb
  hi : cb < B
  sz : B ≤ W.heap.size
theorem RnAt.below {W W' : World} {w0 cb B : Nat} {L : Int} {A2 : Option Addr} {gs : List (Int × Int × Int)} {A3 : Option Addr} {n3 c3 : Nat} {m : List (Int × Int)} (h : RnAt W w0 cb B L A2 gs A3 n3 c3 m) (hb : Below W.heap.size W W') : RnAt W' w0 cb B L A2 gs A3 n3 c3 m := by
  have h1 := h.lo
  have h2 := h.hi
  have h3 := h.sz
  exact ⟨Below.cell_some hb h.c0, Below.cell_some hb h.c1, fun o => (hb.frozen (p := ⟨cb, o, none⟩) (by simp only; omega)).trans (h.cf o), Below.cell_some hb h.r0, Below.cell_some hb h.r1, fun o => (hb.frozen (p := ⟨w0 + 1, o, none⟩) (by simp only; omega)).trans (h.rf o), h.gat.below hb, h.gin, h.own.below hb, h1, h2, Nat.le_trans h3 hb.size⟩
theorem SlAt.belowB {α : Type} {S : Shape α} {w w' : World} {A : Option Addr} {l : List α} {B : Nat} (h : SlAt S w A l) (hb : Below B w w') (hA : ∀ a, A = some a → a.block < B) : SlAt S w' A l := by
  rcases h with h | ⟨b, off, hA2, hlt, h⟩
  · exact .inl h
  · have hB : b < B := hA _ hA2
    exact .inr ⟨b, off, hA2, Nat.lt_of_lt_of_le hlt hb.size, fun k x hk j hj => (hb.cell (p := ⟨b, off + k * S.size + j, none⟩) hB).trans (h k x hk j hj)⟩
/-- one more, and the circle's own cell told anew -/
theorem RnAt.put2 {W W' : World} {w0 cb B : Nat} {L : Int} {A2 : Option Addr} {gs : List (Int × Int × Int)} {A3 : Option Addr} {n3 c3 : Nat} {m : List (Int × Int)} (h : RnAt W w0 cb B L A2 gs A3 n3 c3 m) (hb : Below B W W')
    {A7 : Option Addr} {n7 k7 : Nat} {m7 : List (Int × Int)} (ho : SlOwn pairS W' B 53 (.slice A7 n7 k7) m7) : RnAt (W'.setCell ⟨cb, 1, none⟩ (.slice A7 n7 k7)) w0 cb B L A2 gs A7 n7 k7 m7 := by
  have g := h
  have h1 := h.lo
  have h2 := h.hi
  refine ⟨?_, setCell_same ((hb.cell (p := ⟨cb, 1, none⟩) h2).trans g.c1), fun q => ?_, ?_, ?_, fun q => ?_, (g.gat.belowB hb (fun a ha => (h.gin a ha).1)).setOther (fun a ha => (h.gin a ha).2), h.gin, ownsRow_setCell_below ho h2 _, h1, h2, ?_⟩
  · exact (cell_other (.inr (by decide))).trans ((hb.cell (p := ⟨cb, 0, none⟩) h2).trans g.c0)
  · have := (hb.frozen (p := ⟨cb, q, none⟩) h2).trans (g.cf q)
    simpa using this
  · exact (cell_other (.inl (by omega))).trans ((hb.cell (p := ⟨w0 + 1, 0, none⟩) (by simp only; omega)).trans g.r0)
  · exact (cell_other (.inl (by omega))).trans ((hb.cell (p := ⟨w0 + 1, 1, none⟩) (by simp only; omega)).trans g.r1)
  · have := (hb.frozen (p := ⟨w0 + 1, q, none⟩) (by simp only; omega)).trans (g.rf q)
    simpa using this
  · have := hb.size
    have := h.sz
    simp [World.setCell] at *
    omega
theorem RnAt.put {W W' : World} {w0 cb B : Nat} {L : Int} {A2 : Option Addr} {gs : List (Int × Int × Int)} {A3 : Option Addr} {n3 c3 : Nat} {m : List (Int × Int)} (h : RnAt W w0 cb B L A2 gs A3 n3 c3 m) {o : Obj} (hb : Below B (W.alloc o) W')
    {A7 : Option Addr} {n7 k7 : Nat} {m7 : List (Int × Int)} (ho : SlOwn pairS W' B 53 (.slice A7 n7 k7) m7) : RnAt (W'.setCell ⟨cb, 1, none⟩ (.slice A7 n7 k7)) w0 cb B L A2 gs A7 n7 k7 m7 :=
  (h.below ((Below.refl _ _).alloc (Nat.le_refl _) o)).put2 hb ho
theorem pcell {W W' : World} {B : Nat} {p : Addr} {v : Value} (hb : Below B W W') (hc : W.cell? p = some v) (hp : p.block < B) : W'.cell? p = some v := (hb.cell hp).trans hc

set_option maxRecDepth 100000 in
set_option maxHeartbeats 4000000 in
theorem implRound_any (L : Int) (A : Option Addr) (c : Nat) (l : List (Int × Int)) (w : World) (_hcap : l.length ≤ c) (hA : AntsAt w A l) :
    Calls Try.prog 34 #[.agg #[.int .i64 L, .slice A l.length c]] w fun e w' => ∃ A' n' c', e = .returned (.tuple #[.agg #[.int .i64 (rnL L l), .slice A' n' c'], .bool (rnOk L l)]) ∧ n' = (rnV L l).length ∧ AntsOwn w' w.heap.size 53 (.slice A' n' c') (rnV L l) ∧ Below w.heap.size w w' := by
  obtain ⟨i0, hi, hz0, hz1, hz2⟩ := info_parts antI
  have HA := Lib.hid ((hA.alloc (Obj.cells #[Value.int IntKind.i64 L, Value.slice A l.length c] 29)).alloc (Obj.cells #[Value.int IntKind.i64 0, Value.slice none 0 0] 43))
  clear hA
  cases hg : boxB L l with
  | false =>
    have HO : Hid (rnOk L l = false) := by show _ = _; unfold rnOk; rw [hg]; rfl
    have HV := Lib.hid (rn_no HO.out)
    have HG : Hid (∀ w, AntsAt w A l → Calls Try.prog 15 #[.agg #[.int .i64 L, .slice A l.length c]] w fun e w' => e = .returned (.bool false) ∧ Below w.heap.size w w') := fun w h => by rw [← hg]; exact isBox_any L A c l w h
    clear hg
    go_enter Try.func34, Try.ntmps34
    go_wp2_with fail
    refine (HG.out _ HA.out).mono ?_
    rintro e w1 ⟨rfl, hb⟩
    have hs : w.heap.size + 2 ≤ w1.heap.size := by have := hb.size; simp at this; omega
    have c0 : w1.cell? ⟨w.heap.size, 0, none⟩ = some (.int .i64 L) := by rw [hb.cell (p := ⟨w.heap.size, 0, none⟩) (by simp; omega)]; simp [go_sem]
    have c1 : w1.cell? ⟨w.heap.size, 1, none⟩ = some (.slice A l.length c) := by rw [hb.cell (p := ⟨w.heap.size, 1, none⟩) (by simp; omega)]; simp [go_sem]
    have r0 : w1.cell? ⟨w.heap.size + 1, 0, none⟩ = some (.int .i64 0) := by rw [hb.cell (p := ⟨w.heap.size + 1, 0, none⟩) (by simp)]; simp [go_sem]
    have r1 : w1.cell? ⟨w.heap.size + 1, 1, none⟩ = some (.slice none 0 0) := by rw [hb.cell (p := ⟨w.heap.size + 1, 1, none⟩) (by simp)]; simp [go_sem]
    have ff : ∀ o, w1.frozen? ⟨w.heap.size + 1, o, none⟩ = false := fun o => by rw [hb.frozen (p := ⟨w.heap.size + 1, o, none⟩) (by simp)]; simp [go_sem]
    have f0 := ff 0
    have f1 := ff 1
    have HB := Lib.hid (((Below.refl _ w).alloc (Nat.le_refl _) (Obj.cells #[Value.int IntKind.i64 L, Value.slice A l.length c] 29)).alloc (by simp) (Obj.cells #[Value.int IntKind.i64 0, Value.slice none 0 0] 43) |>.trans (hb.mono (by simp; omega)))
    have HA1 := Lib.hid (HA.out.below hb)
    clear hb c0 c1
    go_wp2
    refine bodyPost_ret (v := .tuple #[.agg #[.int .i64 0, .slice none 0 0], .bool false]) (by simp [results, Try.results34, go_sem, r0, r1]) rfl ⟨none, 0, 0, ret_rod HV.out.1.symm rfl HO.out.symm, by rw [HV.out.2]; rfl, by rw [HV.out.2]; exact SlOwn.nil pairS _ _ _, ?_⟩
    exact (HB.out.setCell (by simp) _).setCell (by simp) _
  | true =>
    have HG : Hid (∀ w, AntsAt w A l → Calls Try.prog 15 #[.agg #[.int .i64 L, .slice A l.length c]] w fun e w' => e = .returned (.bool true) ∧ Below w.heap.size w w') := fun w h => by rw [← hg]; exact isBox_any L A c l w h
    have HO : Hid (rnOk L l = ciB (2 * L) (rnA L l)) := by show _ = _; unfold rnOk; rw [hg]; rfl
    have hl := boxB_len hg
    have HGG := Lib.hid (boxB_good hg)
    have HGO : Hid (∀ w, AntsAt w A l → Calls Try.prog 42 #[.agg #[.int .i64 L, .slice A l.length c]] w fun e w' => ∃ A' c', e = .returned (.slice A' l.length c') ∧ SlOwn tripS w' w.heap.size 55 (.slice A' l.length c') (gsOf L l) ∧ Below w.heap.size w w') := fun w h => ghostsOf_any L A c l w (by omega) h
    clear hg
    have hw2L : IntKind.i64.wrap (2 * L) = 2 * L := IntWalk.i64_in _ (by omega)
    go_enter Try.func34, Try.ntmps34
    go_wp2_with fail
    refine (HG.out _ HA.out).mono ?_
    rintro e w1 ⟨rfl, hb⟩
    have hs : w.heap.size + 2 ≤ w1.heap.size := by have := hb.size; simp at this; omega
    have c0 : w1.cell? ⟨w.heap.size, 0, none⟩ = some (.int .i64 L) := by rw [hb.cell (p := ⟨w.heap.size, 0, none⟩) (by simp; omega)]; simp [go_sem]
    have c1 : w1.cell? ⟨w.heap.size, 1, none⟩ = some (.slice A l.length c) := by rw [hb.cell (p := ⟨w.heap.size, 1, none⟩) (by simp; omega)]; simp [go_sem]
    have r0 : w1.cell? ⟨w.heap.size + 1, 0, none⟩ = some (.int .i64 0) := by rw [hb.cell (p := ⟨w.heap.size + 1, 0, none⟩) (by simp)]; simp [go_sem]
    have r1 : w1.cell? ⟨w.heap.size + 1, 1, none⟩ = some (.slice none 0 0) := by rw [hb.cell (p := ⟨w.heap.size + 1, 1, none⟩) (by simp)]; simp [go_sem]
    have ff : ∀ o, w1.frozen? ⟨w.heap.size + 1, o, none⟩ = false := fun o => by rw [hb.frozen (p := ⟨w.heap.size + 1, o, none⟩) (by simp)]; simp [go_sem]
    have f0 := ff 0
    have f1 := ff 1
    have HB := Lib.hid (((Below.refl _ w).alloc (Nat.le_refl _) (Obj.cells #[Value.int IntKind.i64 L, Value.slice A l.length c] 29)).alloc (by simp) (Obj.cells #[Value.int IntKind.i64 0, Value.slice none 0 0] 43) |>.trans (hb.mono (by simp; omega)))
    have HA1 := Lib.hid (HA.out.below hb)
    clear hb
    have d0 := alloc_some c0 (Obj.cells #[Value.int IntKind.i64 (2 * L), Value.slice none 0 0] 43)
    have d1 := alloc_some c1 (Obj.cells #[Value.int IntKind.i64 (2 * L), Value.slice none 0 0] 43)
    have hbA : Below w1.heap.size w1 (w1.alloc (Obj.cells #[Value.int IntKind.i64 (2 * L), Value.slice none 0 0] 43)) := (Below.refl _ _).alloc (Nat.le_refl _) _
    have HX1 := Lib.hid (HGO.out _ (HA1.out.alloc (Obj.cells #[Value.int IntKind.i64 (2 * L), Value.slice none 0 0] 43)))
    go_wp2_with fail
    refine HX1.out.mono ?_
    rintro e w2 ⟨A2, c2, rfl, ho, hb⟩
    have hs2 : w1.heap.size + 1 ≤ w2.heap.size := by have := hb.size; simpa using this
    have HB2 := Lib.hid ((HB.out.alloc (by omega) (Obj.cells #[Value.int IntKind.i64 (2 * L), Value.slice none 0 0] 43)).trans (hb.mono (by simp; omega)))
    have HGI : ∀ a, A2 = some a → a.block < w2.heap.size ∧ a.block ≠ w1.heap.size := fun a ha => by
      obtain ⟨_, _, hv, _, hin⟩ := ho.form
      injection hv with hv _ _
      have := hin a (by rw [← hv]; exact ha)
      simp at this
      omega
    have HRN : Hid (RnAt w2 w.heap.size w1.heap.size w2.heap.size L A2 (gsOf L l) none 0 0 ((l.take 0).map (rn1 L))) := by
      refine ⟨?_, ?_, fun o => ?_, ?_, ?_, fun o => ?_, ho.sl, HGI, SlOwn.nil pairS _ _ _, by omega, by omega, Nat.le_refl _⟩
      · rw [hb.cell (p := ⟨w1.heap.size, 0, none⟩) (by simp)]; simp
      · rw [hb.cell (p := ⟨w1.heap.size, 1, none⟩) (by simp)]; simp
      · rw [hb.frozen (p := ⟨w1.heap.size, o, none⟩) (by simp)]; simp [go_sem]
      · rw [hb.cell (p := ⟨w.heap.size + 1, 0, none⟩) (by simp; omega)]; exact alloc_some r0 _
      · rw [hb.cell (p := ⟨w.heap.size + 1, 1, none⟩) (by simp; omega)]; exact alloc_some r1 _
      · rw [hb.frozen (p := ⟨w.heap.size + 1, o, none⟩) (by simp; omega), hbA.frozen (p := ⟨w.heap.size + 1, o, none⟩) (by simp only; omega)]
        exact ff o
    have hcp2 := own_cap ho
    clear ho hb c0 c1 d0 d1 hbA r0 r1 f0 f1 ff HX1
    go_wp2
    go_loopw [18] (fun v wr => ∃ (k : Nat) (A3 : Option Addr) (c3 : Nat), k ≤ l.length ∧ v = .int .i64 k ∧ RnAt wr w.heap.size w1.heap.size w2.heap.size L A2 (gsOf L l) A3 k c3 ((l.take k).map (rn1 L)) ∧ Below w.heap.size w wr)
      (fun v _ => l.length - (intOf v).toNat)
    case atStart => exact ⟨0, none, 0, Nat.zero_le _, rfl, HRN.out, HB2.out⟩
    case round =>
      obtain ⟨k, A3, c3, hk, rfl, hrn, hbr⟩ := hrel
      obtain ⟨W1, rfl⟩ : ∃ W, W = wr := ⟨_, rfl⟩
      have HR := Lib.hid hrn
      have HBR := Lib.hid hbr
      clear hrn hbr
      by_cases hlt : k < l.length
      · obtain ⟨b, off, rfl, l0, hc⟩ := HR.out.gat.trip_at (show k < (gsOf L l).length by simpa [gsOf] using hlt)
        have hx : l[k]? = some (l.getD k (0, 0)) := by rw [List.getD_eq_getElem?_getD, List.getElem?_eq_getElem hlt]; rfl
        have hgx : (gsOf L l)[k]? = some ((l.getD k (0, 0)).1, (l.getD k (0, 0)).2, L) := by unfold gsOf; rw [List.getElem?_map, hx]; rfl
        obtain ⟨a0, a1, a2⟩ := hc k _ hgx
        have HSN := Lib.hid (rn_snoc L l k _ hx)
        have hq := good_ant HGG.out hx
        have HRO : Hid (∀ w, Calls Try.prog 54 #[.agg #[.int .i64 (l.getD k (0, 0)).1, .int .i64 (l.getD k (0, 0)).2, .int .i64 L], .int .i64 0] w fun e w' => e = .returned (.int .i64 (rdB L (l.getD k (0, 0)) 0)) ∧ Below w.heap.size w w') := fun w => onRound_b L _ 0 w (by omega) hq.2.2.2 ⟨hl.1, hl.2.1⟩ (by omega)
        have HR1 : Hid (rn1 L (l.getD k (0, 0)) = (rdB L (l.getD k (0, 0)) 0, 1)) := rfl
        rw [HR1.out] at HSN
        clear hc hx hgx hq
        generalize rdB L (l.getD k (0, 0)) 0 = rx at *
        generalize l.getD k (0, 0) = x at *
        obtain ⟨x1, x2⟩ := x
        simp only at a0 a1 a2 HRO
        have hml : ((l.take k).map (rn1 L)).length = k := by simp; omega
        have HML := Lib.hid hml
        clear hml HR1
        generalize (l.take k).map (rn1 L) = m at *
        have hkn : (k : Int) < (l.length : Int) := by omega
        have hkc : (k : Int) < (c2 : Int) := by omega
        have HB4 := Lib.hid ((Below.refl W1.heap.size W1).alloc (Nat.le_refl _) (Obj.cells #[Value.int IntKind.i64 x1, Value.int IntKind.i64 x2, Value.int IntKind.i64 L] 55))
        have e0 : (W1.alloc (Obj.cells #[Value.int IntKind.i64 x1, Value.int IntKind.i64 x2, Value.int IntKind.i64 L] 55)).cell? ⟨W1.heap.size, 0, none⟩ = some (.int .i64 x1) := by simp
        have e1 : (W1.alloc (Obj.cells #[Value.int IntKind.i64 x1, Value.int IntKind.i64 x2, Value.int IntKind.i64 L] 55)).cell? ⟨W1.heap.size, 1, none⟩ = some (.int .i64 x2) := by simp
        have e2 : (W1.alloc (Obj.cells #[Value.int IntKind.i64 x1, Value.int IntKind.i64 x2, Value.int IntKind.i64 L] 55)).cell? ⟨W1.heap.size, 2, none⟩ = some (.int .i64 L) := by simp
        have HNE : Hid (some W1.heap.size ≠ (Value.slice A3 k c3).ownBlock) := fun e => by
          have := (World.ownsRow.lt HR.out.own _ e.symm).2
          omega
        have HR4 := Lib.hid (HR.out.below HB4.out)
        have HBB4 := Lib.hid (HBR.out.trans (HB4.out.mono (by have := HR.out.sz; omega)))
        go_wp2
        generalize hW4 : W1.alloc (Obj.cells #[Value.int IntKind.i64 x1, Value.int IntKind.i64 x2, Value.int IntKind.i64 L] 55) = W4 at *
        have hW1s : W1.heap.size < W4.heap.size := World.block_lt_of_cell? _ _ e0
        have hszr := HR.out.sz
        clear hW4 a0 a1 a2
        have c1 := HR4.out.c1
        have hlo := HR4.out.lo
        have hhi := HR4.out.hi
        have fc := HR4.out.cf 1
        have HK : Hid (∀ Q : Ending → World → Prop, (∀ w', Below W4.heap.size W4 w' → Q (.returned (.int .i64 rx)) w') → Calls Try.prog 54 #[.agg #[.int .i64 x1, .int .i64 x2, .int .i64 L], .int .i64 0] W4.drew Q) := fun Q hQ => by
          refine (HRO.out W4.drew).mono ?_
          rintro e w' ⟨rfl, hb⟩
          exact hQ w' (below_drew hb)
        go_region_law (first
            | (refine step_append_slsv pairS _ rfl _ _ 27 rfl w2.heap.size 53 i0 _ 16 Try.underlying27 hi hz0 hz1 hz2 rfl (by decide) (.slice A3 k c3) m rfl ((HR5.out.own).below ((Below.refl _ _).alloc (Nat.le_refl _) _)) (some ⟨w5.heap.size, 0, none⟩) 1 1 [(rx, 1)] rfl rfl (slAt_one (heap_new rfl)) (by have := HML.out; simp only [List.length_cons, List.length_nil]; omega) (by have := HR5.out.sz; simp; omega) ?_; intro A7 n7 k7 w7 hn7 ho7 hb7 hg7; have t1 := pcell hb7 s1 (by simp only; omega); have t2 := hg7.cell (a := ⟨W1.heap.size, 0, none⟩) s2 HNE.out; have t3 := hg7.cell (a := ⟨W1.heap.size, 1, none⟩) s3 HNE.out; have t4 := hg7.cell (a := ⟨W1.heap.size, 2, none⟩) s4 HNE.out; have uf := (hb7.frozen (p := ⟨w1.heap.size, 1, none⟩) (by simp only; omega)).trans sf; have HO7 := Lib.hid ho7; have HN7 : Hid (n7 = k + 1) := (by show _ = _; rw [hn7, List.length_append, HML.out]; rfl); have HB7 := Lib.hid hb7; have HG7 := Lib.hid hg7; clear hn7 ho7 hb7 hg7)
            | (go_simp; go_at_call 54; with_reducible refine HK.out _ ?_; intro w5 hb5; have g1 := Below.cell_some hb5 c1; have g2 := Below.cell_some hb5 e0; have g3 := Below.cell_some hb5 e1; have g4 := Below.cell_some hb5 e2; have HR5 := Lib.hid (HR4.out.below hb5); have HBB5 := Lib.hid (HBB4.out.trans (hb5.mono (Nat.le_trans (by omega) HR4.out.sz))); have s1 := alloc_some g1 (Obj.cells #[Value.int IntKind.i64 rx, Value.int IntKind.i64 1] 53); have s2 := alloc_some g2 (Obj.cells #[Value.int IntKind.i64 rx, Value.int IntKind.i64 1] 53); have s3 := alloc_some g3 (Obj.cells #[Value.int IntKind.i64 rx, Value.int IntKind.i64 1] 53); have s4 := alloc_some g4 (Obj.cells #[Value.int IntKind.i64 rx, Value.int IntKind.i64 1] 53); have sf := (HR5.out.below ((Below.refl _ _).alloc (Nat.le_refl _) (Obj.cells #[Value.int IntKind.i64 rx, Value.int IntKind.i64 1] 53))).cf 1; clear hb5))
        all_goals (
          go_wp2
          go_roundw
          case rel =>
            refine ⟨k + 1, A7, k7, by omega, by go_num, ?_, ?_⟩
            · rw [HSN.out, ← HN7.out]
              exact HR5.out.put HB7.out HO7.out
            · exact ((HBB5.out.alloc HBB5.out.size _).trans (HB7.out.mono (by omega))).setCell (p := ⟨w1.heap.size, 1, none⟩) (by simp only; omega) _
          case measure => (simp [intOf]; omega))
      · obtain rfl : k = l.length := by omega
        have HTE : Hid ((l.take l.length).map (rn1 L) = l.map (rn1 L)) := by show _ = _; rw [List.take_length]
        rw [HTE.out] at HR
        have HLL : Hid ((l.map (rn1 L)).length ≤ 65536) := by show _ ≤ _; rw [List.length_map]; omega
        have hlo := HR.out.lo
        have hhi := HR.out.hi
        have hsz := HR.out.sz
        have c1 := HR.out.c1
        go_wp2_with fail
        refine (sort_any HLL.out HR.out.own).mono ?_
        rintro e w3 ⟨rfl, ho3, hb3⟩
        have q0 := pcell hb3 HR.out.c0 hhi
        have q1 := pcell hb3 HR.out.c1 hhi
        have r0 := pcell hb3 HR.out.r0 (by simp only; omega)
        have r1 := pcell hb3 HR.out.r1 (by simp only; omega)
        have rf0 := (hb3.frozen (p := ⟨w.heap.size + 1, 0, none⟩) (by simp only; omega)).trans (HR.out.rf 0)
        have rf1 := (hb3.frozen (p := ⟨w.heap.size + 1, 1, none⟩) (by simp only; omega)).trans (HR.out.rf 1)
        have HB3 := Lib.hid (HBR.out.trans (hb3.mono (by omega)))
        have HO3 := Lib.hid ho3
        have hs3 : w2.heap.size ≤ w3.heap.size := Nat.le_trans hsz hb3.size
        obtain ⟨r, hr⟩ : ∃ r, r = ciB (2 * L) (rnA L l) := ⟨_, rfl⟩
        have HRR : Hid (rnOk L l = r) := by show _ = _; rw [HO.out, hr]
        have HIC : Hid (Calls Try.prog 64 #[.agg #[.int .i64 (2 * L), .slice A3 l.length c3]] w3 fun e w' => e = .returned (.bool r) ∧ Below w3.heap.size w3 w') := by
          rw [hr]
          exact isCircle_at (2 * L) A3 c3 l.length (rnA L l) (rnA_len L l) w3 (antsOwn_iff.2 ho3).ants
        clear ho3 hb3 c1 hr
        go_wp2_with fail
        refine HIC.out.mono ?_
        rintro e w4 ⟨rfl, hb4⟩
        have q0 := Below.cell_some hb4 q0
        have q1 := Below.cell_some hb4 q1
        have r0 := Below.cell_some hb4 r0
        have r1 := Below.cell_some hb4 r1
        have rf0 := (hb4.frozen (p := ⟨w.heap.size + 1, 0, none⟩) (by simp only; omega)).trans rf0
        have rf1 := (hb4.frozen (p := ⟨w.heap.size + 1, 1, none⟩) (by simp only; omega)).trans rf1
        have HB4 := Lib.hid (HB3.out.trans (hb4.mono HB3.out.size))
        have HO4 := Lib.hid (HO3.out.below hb4)
        clear hb4
        cases r with
        | false =>
          have HV := Lib.hid (rn_no HRR.out)
          go_wp2
          refine bodyPost_ret (v := .tuple #[.agg #[.int .i64 0, .slice none 0 0], .bool false]) (by simp [results, Try.results34, go_sem, r0, r1]) rfl ⟨none, 0, 0, ret_rod HV.out.1.symm rfl HRR.out.symm, by rw [HV.out.2]; rfl, by rw [HV.out.2]; exact SlOwn.nil pairS _ _ _, ?_⟩
          exact (HB4.out.setCell (by simp) _).setCell (by simp) _
        | true =>
          have HV := Lib.hid (rn_yes HRR.out)
          go_wp2
          refine bodyPost_ret (v := .tuple #[.agg #[.int .i64 (2 * L), .slice A3 l.length c3], .bool true]) (by simp [results, Try.results34, go_sem, r0, r1]) rfl ⟨A3, l.length, c3, ret_rod HV.out.1.symm rfl HRR.out.symm, by rw [HV.out.2, rnA_len], ?_, ?_⟩
          · rw [HV.out.2]
            exact ownsRow_base (ownsRow_setCell_below (ownsRow_setCell_below HO4.out (by simp; omega) _) (by simp; omega) _) (by omega)
          · exact (HB4.out.setCell (by simp) _).setCell (by simp) _
end Go.Proofs.Ythokkdipbckolaa
