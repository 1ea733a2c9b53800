/- One step of a run of a box of the model. -/
import Derived.Test.YthokkdipbckolaaBoxW
import Derived.BigQuiet
namespace Go.Proofs.Ythokkdipbckolaa
open Go.RowKit

theorem below_drewN (w : World) (n : Nat) : Below w.heap.size w (w.drewN n) := ⟨rfl, rfl, rfl, Nat.le_refl _, fun _ _ => rfl⟩
theorem Below.drewN' {B : Nat} {a w : World} (h : Below B a w) (n : Nat) : Below B a (w.drewN n) := ⟨h.os, h.tape, h.output, h.size, h.block⟩
theorem bmv_wall {L : Int} {x1 x2 : Int} (h : wallB L (x1, x2) = true) : bmv L (x1, x2) = (x1 + x2, -x2) := by unfold bmv; rw [if_pos h]
theorem bmv_free {L : Int} {x1 x2 : Int} (h : wallB L (x1, x2) = false) : bmv L (x1, x2) = (x1 + x2, x2) := by unfold bmv; rw [if_neg (by rw [h]; decide)]
theorem set_same {α : Type} {l : List α} {k : Nat} {x : α} (h : l[k]? = some x) : l.set k x = l := by
  obtain ⟨hk, rfl⟩ := List.getElem?_eq_some_iff.1 h
  exact List.set_getElem_self hk
set_option maxRecDepth 100000 in
set_option maxHeartbeats 8000000 in
theorem stepBox_any (B b ab ao gb gf n ca cg : Nat) (L : Int) (l : List (Int × Int)) (lf rt m : Nat) (gl : List Int) (w : World) (h : BxAt w b ab ao gb gf n ca cg L l lf rt m gl) (hw : ∀ (k : Nat) (x : Int × Int), l[k]? = some x → ¬ (x.1 = 0 ∧ x.2 = -1) ∧ ¬ (x.1 = L ∧ x.2 = 1)) (hgb : ∀ (k : Nat) (g : Int), gl[k]? = some g → 0 ≤ g ∧ g ≤ 1000000) (hL : 2 ≤ L ∧ L ≤ 1000) (hn : n ≤ 16) (hm : lf ≤ 1000000 ∧ rt ≤ 1000000 ∧ m ≤ 1000000) (hB : B ≤ b ∧ B ≤ ab ∧ B ≤ gb) :
    Calls Try.prog 56 #[.pointer (some ⟨b, 0, none⟩)] w fun e w' => ∃ v, e = .returned v ∧ BxAt w' b ab ao gb gf n ca cg L (stepB L (l, m)).1 (lf + atB 0 l) (rt + atB L l) (stepB L (l, m)).2 (stepK L l gl) ∧ Below B w w' := by
  have HR := Lib.hid h
  have HB := Lib.hid hB
  obtain ⟨A, c1, hA⟩ := h.c1
  have HAA := Lib.hid hA
  clear hA
  have hnc := h.nc
  have hlen := h.len
  have hgl := h.glen
  have HOK := Lib.hid h.ok
  have HGB := Lib.hid hgb
  have HW := Lib.hid hw
  clear hgb hw
  have BW : Hid (B ≤ w.heap.size) := by have := h.lt.1; show _ ≤ _; omega
  clear h hB
  go_enter Try.func56, Try.ntmps56
  go_wp2
  clear c1
  go_loopw [10] (fun i wr => ∃ (k : Nat), k ≤ n ∧ i = .int .i64 k ∧ BxAt wr b ab ao gb gf n ca cg L (bvTo L l k) (lf + atB 0 (l.take k)) (rt + atB L (l.take k)) m (knTo L l gl k) ∧ Below B w wr)
    (fun i _ => n - (intOf i).toNat)
  case atStart => exact ⟨0, Nat.zero_le _, rfl, by rw [knTo_zero]; simpa [bvTo, atB] using HR.out, Below.refl _ _⟩
  case round =>
    obtain ⟨k, hk, rfl, hra, hbr⟩ := hrel
    obtain ⟨W1, rfl⟩ : ∃ W, W = wr := ⟨_, rfl⟩
    have HBR := Lib.hid hbr
    have HNN : Hid (atB 0 (l.take k) ≤ 16 ∧ atB L (l.take k) ≤ 16) := by
      have h1 := atB_le 0 (l.take k)
      have h2 := atB_le L (l.take k)
      have h3 : (l.take k).length ≤ k := List.length_take_le _ _
      show _ ∧ _
      omega
    by_cases hlt : k < n
    · have hx := bvTo_at L l (show k < l.length by omega)
      have HX := Lib.hid hx
      have HS := Lib.hid (bvTo_set L l (show k < l.length by omega))
      have hok := HOK.out k _ (List.getElem?_eq_getElem (show k < l.length by omega))
      have hwk := HW.out k _ (List.getElem?_eq_getElem (show k < l.length by omega))
      have HGX := Lib.hid (knTo_at L l gl (show k < l.length by omega) (by omega))
      have HGS := Lib.hid (knTo_set L l gl (show k < l.length by omega) (by omega))
      have hgk := HGB.out k _ (List.getElem?_eq_getElem (show k < gl.length by omega))
      have HCL := Lib.hid (atB_succ 0 l (show k < l.length by omega))
      have HCR := Lib.hid (atB_succ L l (show k < l.length by omega))
      generalize gl[k]'(by omega) = g at *
      obtain ⟨a0, a1⟩ := hra.ants k _ hx
      generalize l[k]'(by omega) = x at *
      obtain ⟨x1, x2⟩ := x
      simp only at a0 a1 hok hwk
      generalize atB 0 (l.take k) = nl at *
      generalize atB L (l.take k) = nr at *
      have hnn := HNN.out
      clear HNN
      have hkn : (k : Int) < (n : Int) := by omega
      have hkn2 : (k : Int) < (ca : Int) := by omega
      have hkn3 : (k : Int) < (cg : Int) := by omega
      obtain ⟨s, hs⟩ : ∃ s, s = x1 + x2 := ⟨_, rfl⟩
      have hw1 : IntKind.i64.wrap (x1 + x2) = s := by rw [hs]; exact IntWalk.i64_in _ (by omega)
      have hsr : 0 ≤ s ∧ s ≤ L := by omega
      have HSS := Lib.hid hs
      have hlt1 := hra.lt
      have hne1 : ¬ b = W1.heap.size := by omega
      have hne2 : ¬ W1.heap.size = b := by omega
      have hne3 : ¬ ab = W1.heap.size := by omega
      have hne4 : ¬ gb = W1.heap.size := by omega
      have hA2 : A = some ⟨ab, ao, none⟩ := HAA.out.resolve_left (by omega)
      subst hA2
      have HRA := Lib.hid hra
      clear hs hx hra hbr

      obtain ⟨LF, hLF⟩ : ∃ q, q = lf + nl := ⟨_, rfl⟩
      obtain ⟨RT, hRT⟩ : ∃ q, q = rt + nr := ⟨_, rfl⟩
      rw [← hLF, ← hRT] at HRA
      have hwl : IntKind.i64.wrap ((LF : Int) + 1) = (LF : Int) + 1 := IntWalk.i64_in _ (by omega)
      have hwr : IntKind.i64.wrap ((RT : Int) + 1) = (RT : Int) + 1 := IntWalk.i64_in _ (by omega)
      have hwg : IntKind.i64.wrap (g + 1) = g + 1 := IntWalk.i64_in _ (by omega)
      have hwx : IntKind.i64.wrap (-x2) = -x2 := IntWalk.i64_in _ (by omega)
      have HLF := Lib.hid hLF
      have HRT := Lib.hid hRT
      clear hLF hRT
      by_cases hs0 : s = 0
      · have d0 : (s == 0) = true := by simpa using hs0
        have dL : (s == L) = false := by simp; omega
        clear hs0
        have HWL : Hid (wallB L (x1, x2) = true) := by show _ = _; unfold wallB; rw [← HSS.out, d0]; rfl
        have HBM := Lib.hid (bmv_wall HWL.out)
        have HGS2 : Hid ((knTo L l gl k).set k (g + 1) = knTo L l gl (k + 1)) := by show _ = _; rw [← HGS.out, if_pos HWL.out]
        have qa := HRA.out.c2
        have qf := (HRA.out.fz 2).1
        go_wp2
        have R4 : BxAt ((W1.setCell ⟨b, 2, none⟩ (.int .i64 ((LF : Int) + 1))).alloc (Obj.cells #[Value.int IntKind.i64 s, Value.int IntKind.i64 x2] 53)) b ab ao gb gf n ca cg L (bvTo L l k) (LF + 1) RT m (knTo L l gl k) := (HRA.out.setLeft (LF + 1)).below ((Below.refl _ _).alloc (Nat.le_refl _) _)
        have B4 := Lib.hid ((HBR.out.setCell (p := ⟨b, 2, none⟩) HB.out.1 (.int .i64 ((LF : Int) + 1))).alloc (by simp [World.setCell]; have := HBR.out.size; have := BW.out; omega) (Obj.cells #[Value.int IntKind.i64 s, Value.int IntKind.i64 x2] 53))
        have f0 : ((W1.setCell ⟨b, 2, none⟩ (.int .i64 ((LF : Int) + 1))).alloc (Obj.cells #[Value.int IntKind.i64 s, Value.int IntKind.i64 x2] 53)).cell? ⟨W1.heap.size, 0, none⟩ = some (.int .i64 s) := by simp [go_sem]
        have f1 : ((W1.setCell ⟨b, 2, none⟩ (.int .i64 ((LF : Int) + 1))).alloc (Obj.cells #[Value.int IntKind.i64 s, Value.int IntKind.i64 x2] 53)).cell? ⟨W1.heap.size, 1, none⟩ = some (.int .i64 x2) := by simp [go_sem]
        have ff : ∀ o, ((W1.setCell ⟨b, 2, none⟩ (.int .i64 ((LF : Int) + 1))).alloc (Obj.cells #[Value.int IntKind.i64 s, Value.int IntKind.i64 x2] 53)).frozen? ⟨W1.heap.size, o, none⟩ = false := fun o => by simp [go_sem]
        clear qa qf
        generalize ((W1.setCell ⟨b, 2, none⟩ (.int .i64 ((LF : Int) + 1))).alloc (Obj.cells #[Value.int IntKind.i64 s, Value.int IntKind.i64 x2] 53)) = W4 at *
        have hes : W1.heap.size < W4.heap.size := World.block_lt_of_cell? _ _ f0
        have q0 := R4.c0
        go_quiet (fail)
        generalize hW5 : W4.drewN _ = W5
        have hb5 : Below W4.heap.size W4 W5 := by rw [← hW5]; exact below_drewN _ _
        have g0 : W5.cell? ⟨W1.heap.size, 0, none⟩ = some (.int .i64 s) := Below.cell_some hb5 f0
        have g1 : W5.cell? ⟨W1.heap.size, 1, none⟩ = some (.int .i64 x2) := Below.cell_some hb5 f1
        have gff : ∀ o, W5.frozen? ⟨W1.heap.size, o, none⟩ = false := fun o => (hb5.frozen (p := ⟨W1.heap.size, o, none⟩) hes).trans (ff o)
        have R5 := R4.below hb5
        have B5 := Lib.hid (B4.out.trans (hb5.mono (Nat.le_trans BW.out B4.out.size)))
        clear q0 R4 B4 f0 f1 ff hW5 hb5 hes
        go_wp2
        have hes : W1.heap.size < W5.heap.size := World.block_lt_of_cell? _ _ g0
        go_quiet (fail)
        generalize hW6 : W5.drewN _ = W6
        have hb6 : Below W5.heap.size W5 W6 := by rw [← hW6]; exact below_drewN _ _
        have g0 : W6.cell? ⟨W1.heap.size, 0, none⟩ = some (.int .i64 s) := Below.cell_some hb6 g0
        have g1 : W6.cell? ⟨W1.heap.size, 1, none⟩ = some (.int .i64 x2) := Below.cell_some hb6 g1
        have gfz : W6.frozen? ⟨W1.heap.size, 1, none⟩ = false := (hb6.frozen (p := ⟨W1.heap.size, 1, none⟩) hes).trans (gff 1)
        have R6 := R5.below hb6
        have B6 := Lib.hid (B5.out.trans (hb6.mono (Nat.le_trans BW.out B5.out.size)))
        clear R5 B5 gff hW6 hb6 hes
        have c4 := R6.c4
        have gk := R6.gone k g HGX.out
        have fzg := (R6.fz (gf + k)).2.2
        have HR6 := Lib.hid R6
        clear R6
        go_wp2
        have R7 := Lib.hid ((HR6.out.setOther (e := W1.heap.size) (o := 1) (v := .int .i64 (-x2)) hne2 (fun e => hne3 e.symm) (fun e => hne4 e.symm)).setGone hlt (g + 1))
        have B7 := Lib.hid ((B6.out.setCell (p := ⟨W1.heap.size, 1, none⟩) (Nat.le_trans BW.out HBR.out.size) (.int .i64 (-x2))).setCell (p := ⟨gb, gf + k, none⟩) HB.out.2.2 (.int .i64 (g + 1)))
        have k0 : ((W6.setCell ⟨W1.heap.size, 1, none⟩ (.int .i64 (-x2))).setCell ⟨gb, gf + k, none⟩ (.int .i64 (g + 1))).cell? ⟨W1.heap.size, 0, none⟩ = some (.int .i64 s) := (cell_other (.inl hne4)).trans ((cell_other (.inr (by decide))).trans g0)
        have k1 : ((W6.setCell ⟨W1.heap.size, 1, none⟩ (.int .i64 (-x2))).setCell ⟨gb, gf + k, none⟩ (.int .i64 (g + 1))).cell? ⟨W1.heap.size, 1, none⟩ = some (.int .i64 (-x2)) := (cell_other (.inl hne4)).trans (setCell_same g1)
        generalize (W6.setCell ⟨W1.heap.size, 1, none⟩ (.int .i64 (-x2))).setCell ⟨gb, gf + k, none⟩ (.int .i64 (g + 1)) = W7 at *
        rw [HGS2.out] at R7
        clear g0 g1 c4 gk fzg gfz
        obtain ⟨A7, c1, hA7⟩ := R7.out.c1
        have hA8 : A7 = some ⟨ab, ao, none⟩ := hA7.resolve_left (by omega)
        subst hA8
        clear hA7
        obtain ⟨a0, a1⟩ := R7.out.ants k _ HX.out
        have fa := (R7.out.fz (ao + k * 2)).2.1
        have fa1 := (R7.out.fz (ao + k * 2 + 1)).2.1
        simp only at a0 a1
        go_region
        have R8 := (R7.out.setAnt hlt (s, -x2) ⟨hsr.1, hsr.2, by show -x2 = -1 ∨ -x2 = 1; omega⟩).below ((Below.refl _ _).drew)
        have B8 := ((B7.out.setCell (p := ⟨ab, ao + k * 2, none⟩) HB.out.2.1 (.int .i64 s)).setCell (p := ⟨ab, ao + k * 2 + 1, none⟩) HB.out.2.1 (.int .i64 (-x2))).drew
        have e8 : (bvTo L l k).set k (s, -x2) = bvTo L l (k + 1) := by rw [← HS.out, HBM.out, ← HSS.out]
        have e9 : LF + 1 = lf + atB 0 (l.take (k + 1)) := by rw [HCL.out, HLF.out, ← HSS.out, if_pos (by simpa using d0)]; omega
        have e10 : RT = rt + atB L (l.take (k + 1)) := by rw [HCR.out, HRT.out, ← HSS.out, if_neg (by simpa using dL)]; omega
        rw [e8, e9, e10] at R8
        have HR8 := Lib.hid R8
        have HB8 := Lib.hid B8
        clear R8 B8 e8 e9 e10 k0 k1 c1 a0 a1 fa fa1
        go_wp2
        go_roundw
        case rel => exact ⟨k + 1, by omega, by go_num, HR8.out, HB8.out⟩
        case measure => simp [intOf]; omega
      by_cases hsL : s = L
      · have d0 : (s == 0) = false := by simpa using hs0
        have dL : (s == L) = true := by simpa using hsL
        clear hs0 hsL
        have HWL : Hid (wallB L (x1, x2) = true) := by show _ = _; unfold wallB; rw [← HSS.out, d0, dL]; rfl
        have HBM := Lib.hid (bmv_wall HWL.out)
        have HGS2 : Hid ((knTo L l gl k).set k (g + 1) = knTo L l gl (k + 1)) := by show _ = _; rw [← HGS.out, if_pos HWL.out]
        go_wp2
        have R4 : BxAt (W1.alloc (Obj.cells #[Value.int IntKind.i64 s, Value.int IntKind.i64 x2] 53)) b ab ao gb gf n ca cg L (bvTo L l k) LF RT m (knTo L l gl k) := HRA.out.below ((Below.refl _ _).alloc (Nat.le_refl _) _)
        have B4 := Lib.hid (HBR.out.alloc (by have := HBR.out.size; have := BW.out; omega) (Obj.cells #[Value.int IntKind.i64 s, Value.int IntKind.i64 x2] 53))
        have f0 : (W1.alloc (Obj.cells #[Value.int IntKind.i64 s, Value.int IntKind.i64 x2] 53)).cell? ⟨W1.heap.size, 0, none⟩ = some (.int .i64 s) := by simp [go_sem]
        have f1 : (W1.alloc (Obj.cells #[Value.int IntKind.i64 s, Value.int IntKind.i64 x2] 53)).cell? ⟨W1.heap.size, 1, none⟩ = some (.int .i64 x2) := by simp [go_sem]
        have ff : ∀ o, (W1.alloc (Obj.cells #[Value.int IntKind.i64 s, Value.int IntKind.i64 x2] 53)).frozen? ⟨W1.heap.size, o, none⟩ = false := fun o => by simp [go_sem]
        generalize (W1.alloc (Obj.cells #[Value.int IntKind.i64 s, Value.int IntKind.i64 x2] 53)) = W4 at *
        have hes : W1.heap.size < W4.heap.size := World.block_lt_of_cell? _ _ f0
        have q0 := R4.c0
        go_quiet (fail)
        generalize hW5 : W4.drewN _ = W5
        have hb5 : Below W4.heap.size W4 W5 := by rw [← hW5]; exact below_drewN _ _
        have g0 : W5.cell? ⟨W1.heap.size, 0, none⟩ = some (.int .i64 s) := Below.cell_some hb5 f0
        have g1 : W5.cell? ⟨W1.heap.size, 1, none⟩ = some (.int .i64 x2) := Below.cell_some hb5 f1
        have gff : ∀ o, W5.frozen? ⟨W1.heap.size, o, none⟩ = false := fun o => (hb5.frozen (p := ⟨W1.heap.size, o, none⟩) hes).trans (ff o)
        have R5 := R4.below hb5
        have B5 := Lib.hid (B4.out.trans (hb5.mono (Nat.le_trans BW.out B4.out.size)))
        clear q0 R4 B4 f0 f1 ff hW5 hb5 hes
        have q3 := R5.c3
        have q3f := (R5.fz 3).1
        have q3l : W1.heap.size < W5.heap.size := World.block_lt_of_cell? _ _ g0
        have R5 := Lib.hid R5
        go_wp2
        have R5 := R5.out.setRight (RT + 1)
        have B5 := Lib.hid (B5.out.setCell (p := ⟨b, 3, none⟩) HB.out.1 (.int .i64 ((RT : Int) + 1)))
        have g0 := (cell_other (v := .int .i64 ((RT : Int) + 1)) (p := b) (q := 3) (r := W1.heap.size) (s := 0) (.inl hne1)).trans g0
        have g1 := (cell_other (v := .int .i64 ((RT : Int) + 1)) (p := b) (q := 3) (r := W1.heap.size) (s := 1) (.inl hne1)).trans g1
        have gff : ∀ o, (W5.setCell ⟨b, 3, none⟩ (.int .i64 ((RT : Int) + 1))).frozen? ⟨W1.heap.size, o, none⟩ = false := fun o => by simpa using gff o
        replace R5 : BxAt (W5.setCell ⟨b, 3, none⟩ (.int .i64 ((RT : Int) + 1))) b ab ao gb gf n ca cg L (bvTo L l k) LF (RT + 1) m (knTo L l gl k) := R5
        clear q3 q3f q3l
        generalize W5.setCell ⟨b, 3, none⟩ (.int .i64 ((RT : Int) + 1)) = W5 at *
        have q0 := R5.c0
        have hes : W1.heap.size < W5.heap.size := World.block_lt_of_cell? _ _ g0
        go_quiet (fail)
        generalize hW6 : W5.drewN _ = W6
        have hb6 : Below W5.heap.size W5 W6 := by rw [← hW6]; exact below_drewN _ _
        have g0 : W6.cell? ⟨W1.heap.size, 0, none⟩ = some (.int .i64 s) := Below.cell_some hb6 g0
        have g1 : W6.cell? ⟨W1.heap.size, 1, none⟩ = some (.int .i64 x2) := Below.cell_some hb6 g1
        have gfz : W6.frozen? ⟨W1.heap.size, 1, none⟩ = false := (hb6.frozen (p := ⟨W1.heap.size, 1, none⟩) hes).trans (gff 1)
        have R6 := R5.below hb6
        have B6 := Lib.hid (B5.out.trans (hb6.mono (Nat.le_trans BW.out B5.out.size)))
        clear R5 B5 gff hW6 hb6 hes
        have c4 := R6.c4
        have gk := R6.gone k g HGX.out
        have fzg := (R6.fz (gf + k)).2.2
        have HR6 := Lib.hid R6
        clear R6
        go_wp2
        have R7 := Lib.hid ((HR6.out.setOther (e := W1.heap.size) (o := 1) (v := .int .i64 (-x2)) hne2 (fun e => hne3 e.symm) (fun e => hne4 e.symm)).setGone hlt (g + 1))
        have B7 := Lib.hid ((B6.out.setCell (p := ⟨W1.heap.size, 1, none⟩) (Nat.le_trans BW.out HBR.out.size) (.int .i64 (-x2))).setCell (p := ⟨gb, gf + k, none⟩) HB.out.2.2 (.int .i64 (g + 1)))
        have k0 : ((W6.setCell ⟨W1.heap.size, 1, none⟩ (.int .i64 (-x2))).setCell ⟨gb, gf + k, none⟩ (.int .i64 (g + 1))).cell? ⟨W1.heap.size, 0, none⟩ = some (.int .i64 s) := (cell_other (.inl hne4)).trans ((cell_other (.inr (by decide))).trans g0)
        have k1 : ((W6.setCell ⟨W1.heap.size, 1, none⟩ (.int .i64 (-x2))).setCell ⟨gb, gf + k, none⟩ (.int .i64 (g + 1))).cell? ⟨W1.heap.size, 1, none⟩ = some (.int .i64 (-x2)) := (cell_other (.inl hne4)).trans (setCell_same g1)
        generalize (W6.setCell ⟨W1.heap.size, 1, none⟩ (.int .i64 (-x2))).setCell ⟨gb, gf + k, none⟩ (.int .i64 (g + 1)) = W7 at *
        rw [HGS2.out] at R7
        clear g0 g1 c4 gk fzg gfz
        obtain ⟨A7, c1, hA7⟩ := R7.out.c1
        have hA8 : A7 = some ⟨ab, ao, none⟩ := hA7.resolve_left (by omega)
        subst hA8
        clear hA7
        obtain ⟨a0, a1⟩ := R7.out.ants k _ HX.out
        have fa := (R7.out.fz (ao + k * 2)).2.1
        have fa1 := (R7.out.fz (ao + k * 2 + 1)).2.1
        simp only at a0 a1
        go_region
        have R8 := (R7.out.setAnt hlt (s, -x2) ⟨hsr.1, hsr.2, by show -x2 = -1 ∨ -x2 = 1; omega⟩).below ((Below.refl _ _).drew)
        have B8 := ((B7.out.setCell (p := ⟨ab, ao + k * 2, none⟩) HB.out.2.1 (.int .i64 s)).setCell (p := ⟨ab, ao + k * 2 + 1, none⟩) HB.out.2.1 (.int .i64 (-x2))).drew
        have e8 : (bvTo L l k).set k (s, -x2) = bvTo L l (k + 1) := by rw [← HS.out, HBM.out, ← HSS.out]
        have e9 : LF = lf + atB 0 (l.take (k + 1)) := by rw [HCL.out, HLF.out, ← HSS.out, if_neg (by simpa using d0)]; omega
        have e10 : RT + 1 = rt + atB L (l.take (k + 1)) := by rw [HCR.out, HRT.out, ← HSS.out, if_pos (by simpa using dL)]; omega
        rw [e8, e9, e10] at R8
        have HR8 := Lib.hid R8
        have HB8 := Lib.hid B8
        clear R8 B8 e8 e9 e10 k0 k1 c1 a0 a1 fa fa1
        go_wp2
        go_roundw
        case rel => exact ⟨k + 1, by omega, by go_num, HR8.out, HB8.out⟩
        case measure => simp [intOf]; omega
      · have d0 : (s == 0) = false := by simpa using hs0
        have dL : (s == L) = false := by simpa using hsL
        clear hs0 hsL
        have HWL : Hid (wallB L (x1, x2) = false) := by show _ = _; unfold wallB; rw [← HSS.out, d0, dL]; rfl
        have HBM := Lib.hid (bmv_free HWL.out)
        have HGS2 : Hid (knTo L l gl k = knTo L l gl (k + 1)) := by
          show _ = _
          have e := HGS.out
          rw [if_neg (by rw [HWL.out]; decide)] at e
          rw [← e]
          exact (set_same HGX.out).symm
        go_wp2
        have R4 : BxAt (W1.alloc (Obj.cells #[Value.int IntKind.i64 s, Value.int IntKind.i64 x2] 53)) b ab ao gb gf n ca cg L (bvTo L l k) LF RT m (knTo L l gl k) := HRA.out.below ((Below.refl _ _).alloc (Nat.le_refl _) _)
        have B4 := Lib.hid (HBR.out.alloc (by have := HBR.out.size; have := BW.out; omega) (Obj.cells #[Value.int IntKind.i64 s, Value.int IntKind.i64 x2] 53))
        have f0 : (W1.alloc (Obj.cells #[Value.int IntKind.i64 s, Value.int IntKind.i64 x2] 53)).cell? ⟨W1.heap.size, 0, none⟩ = some (.int .i64 s) := by simp [go_sem]
        have f1 : (W1.alloc (Obj.cells #[Value.int IntKind.i64 s, Value.int IntKind.i64 x2] 53)).cell? ⟨W1.heap.size, 1, none⟩ = some (.int .i64 x2) := by simp [go_sem]
        have ff : ∀ o, (W1.alloc (Obj.cells #[Value.int IntKind.i64 s, Value.int IntKind.i64 x2] 53)).frozen? ⟨W1.heap.size, o, none⟩ = false := fun o => by simp [go_sem]
        generalize (W1.alloc (Obj.cells #[Value.int IntKind.i64 s, Value.int IntKind.i64 x2] 53)) = W4 at *
        have hes : W1.heap.size < W4.heap.size := World.block_lt_of_cell? _ _ f0
        have q0 := R4.c0
        go_quiet (fail)
        generalize hW5 : W4.drewN _ = W5
        have hb5 : Below W4.heap.size W4 W5 := by rw [← hW5]; exact below_drewN _ _
        have g0 : W5.cell? ⟨W1.heap.size, 0, none⟩ = some (.int .i64 s) := Below.cell_some hb5 f0
        have g1 : W5.cell? ⟨W1.heap.size, 1, none⟩ = some (.int .i64 x2) := Below.cell_some hb5 f1
        have gff : ∀ o, W5.frozen? ⟨W1.heap.size, o, none⟩ = false := fun o => (hb5.frozen (p := ⟨W1.heap.size, o, none⟩) hes).trans (ff o)
        have R5 := R4.below hb5
        have B5 := Lib.hid (B4.out.trans (hb5.mono (Nat.le_trans BW.out B4.out.size)))
        clear q0 R4 B4 f0 f1 ff hW5 hb5 hes
        have q0 := R5.c0
        go_wp2
        have hes : W1.heap.size < W5.heap.size := World.block_lt_of_cell? _ _ g0
        go_quiet (fail)
        generalize hW6 : W5.drewN _ = W6
        have hb6 : Below W5.heap.size W5 W6 := by rw [← hW6]; exact below_drewN _ _
        have g0 : W6.cell? ⟨W1.heap.size, 0, none⟩ = some (.int .i64 s) := Below.cell_some hb6 g0
        have g1 : W6.cell? ⟨W1.heap.size, 1, none⟩ = some (.int .i64 x2) := Below.cell_some hb6 g1
        have gfz : W6.frozen? ⟨W1.heap.size, 1, none⟩ = false := (hb6.frozen (p := ⟨W1.heap.size, 1, none⟩) hes).trans (gff 1)
        have R6 := R5.below hb6
        have B6 := Lib.hid (B5.out.trans (hb6.mono (Nat.le_trans BW.out B5.out.size)))
        clear R5 B5 gff hW6 hb6 hes
        have R7 := Lib.hid R6
        have B7 := B6
        have k0 := g0
        have k1 := g1
        clear g0 g1 gfz R6 B6
        rw [HGS2.out] at R7
        go_wp2
        obtain ⟨A7, c1, hA7⟩ := R7.out.c1
        have hA8 : A7 = some ⟨ab, ao, none⟩ := hA7.resolve_left (by omega)
        subst hA8
        clear hA7
        obtain ⟨a0, a1⟩ := R7.out.ants k _ HX.out
        have fa := (R7.out.fz (ao + k * 2)).2.1
        have fa1 := (R7.out.fz (ao + k * 2 + 1)).2.1
        simp only at a0 a1
        go_region
        have R8 := (R7.out.setAnt hlt (s, x2) ⟨hsr.1, hsr.2, by show x2 = -1 ∨ x2 = 1; omega⟩).below ((Below.refl _ _).drew)
        have B8 := ((B7.out.setCell (p := ⟨ab, ao + k * 2, none⟩) HB.out.2.1 (.int .i64 s)).setCell (p := ⟨ab, ao + k * 2 + 1, none⟩) HB.out.2.1 (.int .i64 x2)).drew
        have e8 : (bvTo L l k).set k (s, x2) = bvTo L l (k + 1) := by rw [← HS.out, HBM.out, ← HSS.out]
        have e9 : LF = lf + atB 0 (l.take (k + 1)) := by rw [HCL.out, HLF.out, ← HSS.out, if_neg (by simpa using d0)]; omega
        have e10 : RT = rt + atB L (l.take (k + 1)) := by rw [HCR.out, HRT.out, ← HSS.out, if_neg (by simpa using dL)]; omega
        rw [e8, e9, e10] at R8
        have HR8 := Lib.hid R8
        have HB8 := Lib.hid B8
        clear R8 B8 e8 e9 e10 k0 k1 c1 a0 a1 fa fa1
        go_wp2
        go_roundw
        case rel => exact ⟨k + 1, by omega, by go_num, HR8.out, HB8.out⟩
        case measure => simp [intOf]; omega
    · have hke : k = n := by omega
      subst hke
      rw [bvTo_all L l hlen, knTo_all L l gl hlen hgl] at hra
      rw [show l.take k = l by rw [← hlen, List.take_length]] at hra HNN
      have hnn := HNN.out
      have HST : Hid (stepB L (l, m) = tuB (k - 1) (l.map (bmv L), m)) := by show _ = _; unfold stepB; rw [hlen]
      have HRA := Lib.hid hra
      clear hra hbr HNN
      generalize l.map (bmv L) = l0 at *
      obtain ⟨LF, hLF⟩ : ∃ q, q = lf + atB 0 l := ⟨_, rfl⟩
      obtain ⟨RT, hRT⟩ : ∃ q, q = rt + atB L l := ⟨_, rfl⟩
      rw [← hLF, ← hRT] at HRA
      have HLF := Lib.hid hLF
      have HRT := Lib.hid hRT
      clear hLF hRT
      go_wp2
      go_loopw [4] (fun v wr => ∃ (i : Nat), i ≤ k - 1 ∧ v = .int .i64 ((i + 1 : Nat) : Int) ∧ BxAt wr b ab ao gb gf k ca cg L (tuB i (l0, m)).1 LF RT (tuB i (l0, m)).2 (stepK L l gl) ∧ Below B w wr)
        (fun v _ => k - (intOf v).toNat)
      case atStart => exact ⟨0, Nat.zero_le _, rfl, HRA.out, HBR.out⟩
      case round =>
        obtain ⟨i, hi, rfl, hra, hbr⟩ := hrel
        obtain ⟨W2, rfl⟩ : ∃ W, W = wr := ⟨_, rfl⟩
        have HRA2 := Lib.hid hra
        have HBR2 := Lib.hid hbr
        clear hra hbr
        have HLE := Lib.hid (tuB_le (l0, m) i)
        by_cases hlt : i + 1 < k
        · obtain ⟨x, hx⟩ : ∃ x, (tuB i (l0, m)).1[i + 1]? = some x := ⟨_, List.getElem?_eq_getElem (by rw [HRA2.out.len]; omega)⟩
          obtain ⟨y, hy⟩ : ∃ y, (tuB i (l0, m)).1[i]? = some y := ⟨_, List.getElem?_eq_getElem (by rw [HRA2.out.len]; omega)⟩
          have HYES : Hid (x.1 = y.1 → tuB (i + 1) (l0, m) = (((tuB i (l0, m)).1.set i (y.1, -1)).set (i + 1) (x.1, 1), (tuB i (l0, m)).2 + 1)) := tuB_yes i (l0, m) hx hy
          have HNO : Hid (¬ x.1 = y.1 → tuB (i + 1) (l0, m) = tuB i (l0, m)) := tuB_no i (l0, m) hx hy
          have hm3 : (tuB i (l0, m)).2 ≤ 1000016 := by have := HLE.out; simp only at this; omega
          clear HLE
          generalize tuB i (l0, m) = s3 at *
          obtain ⟨l3, m3⟩ := s3
          simp only at hx hy hm3
          have hra := HRA2.out
          simp only at hra
          obtain ⟨a0, a1⟩ := hra.ants (i + 1) x hx
          obtain ⟨b0, b1⟩ := hra.ants i y hy
          obtain ⟨x1, x2⟩ := x
          obtain ⟨y1, y2⟩ := y
          simp only at a0 a1 b0 b1
          obtain ⟨A2, c1, hA⟩ := hra.c1
          have hA2 : A2 = some ⟨ab, ao, none⟩ := hA.resolve_left (by omega)
          subst hA2
          clear hA
          have hik : ((i + 1 : Nat) : Int) < (k : Int) := by omega
          have hjk : (i : Int) < (k : Int) := by omega
          have hic : ((i + 1 : Nat) : Int) < (ca : Int) := by omega
          have hjc : (i : Int) < (ca : Int) := by omega
          have hii : (0 : Int) ≤ (i : Int) := by omega
          have hwi : IntKind.i64.wrap (((i + 1 : Nat) : Int) - 1) = (i : Int) := by rw [show ((i + 1 : Nat) : Int) - 1 = (i : Int) by omega]; exact IntWalk.i64_in _ (by omega)
          have hwj : IntKind.i64.wrap (((i + 1 : Nat) : Int) + 1) = ((i + 1 + 1 : Nat) : Int) := by rw [show ((i + 1 : Nat) : Int) + 1 = ((i + 1 + 1 : Nat) : Int) by omega]; exact IntWalk.i64_in _ (by omega)
          have HX := Lib.hid hx
          have HY := Lib.hid hy
          have HRR := Lib.hid hra
          clear hx hy hra HRA2
          generalize hj : i + 1 = j at *
          have HNE : Hid (¬ ab = b) := fun e => HRR.out.ne.1 e.symm
          by_cases hxy : x1 = y1
          · have d : (x1 == y1) = true := by simpa using hxy
            have HS4 := Lib.hid (HYES.out hxy)
            clear hxy
            go_wp2
            go_quiet (fail)
            generalize hW3 : W2.drewN _ = W3
            have hb3 : Below W2.heap.size W2 W3 := by rw [← hW3]; exact below_drewN _ _
            have R3 := HRR.out.below hb3
            have B3 := Lib.hid (HBR2.out.trans (hb3.mono (Nat.le_trans BW.out HBR2.out.size)))
            clear a0 b0 a1 b1 c1 d hW3 hb3
            obtain ⟨A2, c1, hA⟩ := R3.c1
            have hA2 : A2 = some ⟨ab, ao, none⟩ := hA.resolve_left (by omega)
            subst hA2
            clear hA
            have a1 := (R3.ants j _ HX.out).2
            have b1 := (R3.ants i _ HY.out).2
            have f1 := (R3.fz (ao + i * 2 + 1)).2.1
            have f2 := (R3.fz (ao + j * 2 + 1)).2.1
            have c5 := R3.c5
            have f5 := (R3.fz 5).1
            have hne := HNE.out
            have hne2 : ¬ b = ab := fun e => HNE.out e.symm
            have hwm : IntKind.i64.wrap ((m3 : Int) + 1) = (m3 : Int) + 1 := IntWalk.i64_in _ (by omega)
            have HR3 := Lib.hid R3
            clear R3
            simp only at a1 b1
            go_wp2
            go_roundw
            case rel =>
              refine ⟨i + 1, by omega, by rw [hj]; rfl, ?_, ?_⟩
              · rw [hj, HS4.out]
                have q1 := HR3.out.setWay HY.out (-1) (.inl rfl)
                have q2 := q1.setWay (i := j) (x := (x1, x2)) (by rw [List.getElem?_set_ne (by omega)]; exact HX.out) 1 (.inr rfl)
                exact q2.setMeets (m3 + 1)
              · exact ((B3.out.setCell (p := ⟨ab, ao + i * 2 + 1, none⟩) HB.out.2.1 (.int .i64 (-1))).setCell (p := ⟨ab, ao + j * 2 + 1, none⟩) HB.out.2.1 (.int .i64 1)).setCell (p := ⟨b, 5, none⟩) HB.out.1 _
            case measure => simp [intOf]; omega
          · have d : (x1 == y1) = false := by simpa using hxy
            have HS4 := Lib.hid (HNO.out hxy)
            clear hxy
            go_wp2
            go_quiet (fail)
            go_wp2
            go_roundw
            case rel => exact ⟨i + 1, by omega, by rw [hj]; rfl, by rw [hj, HS4.out]; exact HRR.out.below (below_drewN _ _), Below.drewN' HBR2.out _⟩
            case measure => simp [intOf]; omega
        · have hie : i = k - 1 := by omega
          have hlt2 : ¬ ((i + 1 : Nat) : Int) < (k : Int) := by omega
          subst hie
          obtain ⟨A2, c1, hA⟩ := HRA2.out.c1
          clear hA
          go_wp2
          go_end0
          exact ⟨⟨_, rfl⟩, by rw [HST.out, ← HLF.out, ← HRT.out]; exact HRA2.out, HBR2.out⟩

end Go.Proofs.Ythokkdipbckolaa
