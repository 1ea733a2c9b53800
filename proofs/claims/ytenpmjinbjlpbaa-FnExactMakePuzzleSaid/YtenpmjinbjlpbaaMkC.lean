/- MakePuzzle, the model, where it makes one. -/
import Derived.Test.YtenpmjinbjlpbaaMkB
namespace Go.Proofs.Ytenpmjinbjlpbaa
open Go.RowKit

/-- the walk's cut: the clue stands in its own block -/
theorem way_half {W : World} {A : Option Addr} {l : List (Int × Int)} {L : Int} (hg : goodB L l = true) (h : AntsAt W A l) {a : Int} (ha : 0 ≤ a ∧ a < l.length) :
    ∃ b off y, A = some ⟨b, off, none⟩ ∧ b < W.heap.size ∧ W.cell? ⟨b, off + a.toNat * 2 + 1, none⟩ = some (.int .i64 y) ∧ (y = -1 ∨ y = 1) ∧ y = (l.getD a.toNat (0, 0)).2 := by
  obtain ⟨b, off, hA, hb, hc⟩ := at_antsD h ha
  refine ⟨b, off, _, hA, hb, hc, ?_, rfl⟩
  have hx : l[a.toNat]? = some (l.getD a.toNat (0, 0)) := by rw [List.getD_eq_getElem?_getD, List.getElem?_eq_getElem (by omega)]; rfl
  have := good_ant hg hx
  exact this.2.2.2
theorem wp_name {P : Program} {c : Code} {Q : Exit → Act → World → Prop} {a : Act} {w : World} (h : ∀ X, X = w → Code.wp P c Q a X) : Code.wp P c Q a w := h w rfl
/-- a clue that is being made, in a block of its own -/
structure CuAt (V X : World) (g : Nat) (i a b : Int) : Prop where
  k0 : X.cell? ⟨g, 0, none⟩ = some (.int .i64 i)
  k1 : X.cell? ⟨g, 1, none⟩ = some (.int .i64 a)
  k2 : X.cell? ⟨g, 2, none⟩ = some (.int .i64 b)
  lt : g < X.heap.size
  bel : Below V.heap.size V X
theorem CuAt.below {V X Y : World} {g : Nat} {i a b : Int} (h : CuAt V X g i a b) (hb : Below X.heap.size X Y) : CuAt V Y g i a b :=
  ⟨Below.cell_some hb h.k0, Below.cell_some hb h.k1, Below.cell_some hb h.k2, Nat.lt_of_lt_of_le h.lt hb.size, h.bel.trans (hb.mono h.bel.size)⟩
theorem CuAt.set1 {V X : World} {i a b : Int} (h : CuAt V X V.heap.size i a b) (v : Int) : CuAt V (X.setCell ⟨V.heap.size, 1, none⟩ (.int .i64 v)) V.heap.size i v b :=
  ⟨(World.cell?_setCell_other _ _ _ _ (by intro e; injection e; omega)).trans h.k0, World.cell?_setCell_same _ _ _ h.k1, (World.cell?_setCell_other _ _ _ _ (by intro e; injection e; omega)).trans h.k2, by simpa [World.setCell] using h.lt, h.bel.setCell (Nat.le_refl _) _⟩
theorem CuAt.set2 {V X : World} {i a b : Int} (h : CuAt V X V.heap.size i a b) (v : Int) : CuAt V (X.setCell ⟨V.heap.size, 2, none⟩ (.int .i64 v)) V.heap.size i a v :=
  ⟨(World.cell?_setCell_other _ _ _ _ (by intro e; injection e; omega)).trans h.k0, (World.cell?_setCell_other _ _ _ _ (by intro e; injection e; omega)).trans h.k1, World.cell?_setCell_same _ _ _ h.k2, by simpa [World.setCell] using h.lt, h.bel.setCell (Nat.le_refl _) _⟩
section
variable {V X Y : World} {w0 ob B0 B : Nat} {L : Int} {A : Option Addr} {n c : Nat} {pl : List Int} {A2 : Option Addr} {n2 k2 : Nat} {A3 : Option Addr} {n3 c3 : Nat} {cs : List (Int × Int × Int)} {i a b v : Int}
theorem cu_set (hX : X = Y.setCell ⟨V.heap.size, 1, none⟩ (.int .i64 v)) (hM : MkAt Y w0 ob B0 B L A n c pl A2 n2 k2 A3 n3 c3 cs) (hC : CuAt V Y V.heap.size i a b) (_ : Y.frozen? ⟨V.heap.size, 1, none⟩ = false)
    (h1 : w0 + 1 < V.heap.size) (h2 : V.heap.size ≠ ob) (h3 : ∀ b, (Value.slice A2 n2 k2).ownBlock = some b → b ≠ V.heap.size) (h4 : ∀ b, (Value.slice A3 n3 c3).ownBlock = some b → b ≠ V.heap.size) :
    MkAt X w0 ob B0 B L A n c pl A2 n2 k2 A3 n3 c3 cs ∧ CuAt V X V.heap.size i v b := by subst hX; exact ⟨hM.kp (Kp.set _ _ _ _) h1 h2 h3 h4, hC.set1 v⟩
theorem cu_set2 (hX : X = Y.setCell ⟨V.heap.size, 2, none⟩ (.int .i64 v)) (hM : MkAt Y w0 ob B0 B L A n c pl A2 n2 k2 A3 n3 c3 cs) (hC : CuAt V Y V.heap.size i a b) (_ : Y.frozen? ⟨V.heap.size, 2, none⟩ = false)
    (h1 : w0 + 1 < V.heap.size) (h2 : V.heap.size ≠ ob) (h3 : ∀ b, (Value.slice A2 n2 k2).ownBlock = some b → b ≠ V.heap.size) (h4 : ∀ b, (Value.slice A3 n3 c3).ownBlock = some b → b ≠ V.heap.size) :
    MkAt X w0 ob B0 B L A n c pl A2 n2 k2 A3 n3 c3 cs ∧ CuAt V X V.heap.size i a v := by subst hX; exact ⟨hM.kp (Kp.set _ _ _ _) h1 h2 h3 h4, hC.set2 v⟩
theorem cu_new (hX : X = V.alloc (Obj.cells #[Value.int IntKind.i64 i, Value.int IntKind.i64 a, Value.int IntKind.i64 b] 35)) (hM : MkAt V w0 ob B0 B L A n c pl A2 n2 k2 A3 n3 c3 cs) :
    MkAt X w0 ob B0 B L A n c pl A2 n2 k2 A3 n3 c3 cs ∧ CuAt V X V.heap.size i a b := by
  subst hX
  exact ⟨hM.below ((Below.refl _ _).alloc (Nat.le_refl _) _), by simp, by simp, by simp, by simp, (Below.refl _ _).alloc (Nat.le_refl _) _⟩
end
set_option maxRecDepth 100000 in
set_option maxHeartbeats 8000000 in
theorem specMake_yes (L z : Int) (M : Nat) (A : Option Addr) (c : Nat) (l : List (Int × Int)) (w : World) (hh : hidB L l = true) (hm : M ≤ 6) (hz : 0 ≤ z ∧ z ≤ 9999) (hA : AntsAt w A l) :
    Calls Try.prog 14 #[.agg #[.int .i64 L, .slice A l.length c], .int .i64 M, .int .i64 z] w fun e w' => ∃ A2 k2 A3 n3 c3, e = .returned (.tuple #[.agg #[.int .i64 L, .slice A2 l.length k2, .slice A3 n3 c3], .bool true]) ∧ n3 = M ∧ SlOwn intS w' w.heap.size 3 (.slice A2 l.length k2) (l.map Prod.fst) ∧ SlOwn tripS w' w.heap.size 35 (.slice A3 n3 c3) (mkCs L l z M) ∧ Below w.heap.size w w' := by
  obtain ⟨i0, hi, hz0, hz1, hz2⟩ := info_parts intInfo
  obtain ⟨j0, hj, hy0, hy1, hy2⟩ := info_parts clueInfo
  have HAT := Lib.hid hA
  have HA := Lib.hid ((hA.alloc (Obj.cells #[Value.int IntKind.i64 L, Value.slice A l.length c] 47)).alloc (Obj.cells #[Value.int IntKind.i64 0, Value.slice none 0 0, Value.slice none 0 0] 31))
  clear hA
  have HLN := Lib.hid (hidB_len hh)
  have HGD := Lib.hid (hidB_good hh)
  have HLL : Hid (2 ≤ L ∧ L ≤ 1000) := ⟨(good_hdr HGD.out).1, (good_hdr HGD.out).2.1⟩
  have HZZ : Hid (0 ≤ z ∧ z ≤ 9999) := hz
  have HG := Lib.hid (fun w h => pzHidden_at L A c l true hh w h)
  have HI := Lib.hid (in9_at M 0 6 true (by simp; omega))
  have HJ := Lib.hid (in9_at z 0 9999 true (by simp; omega))
  have hl8 : (l.length : Int) ≤ 8 := by have := HLN.out; omega
  clear hh hz
  go_enter Try.func14, Try.ntmps14
  go_wp2_with fail
  refine (HG.out _ HA.out).mono ?_
  rintro e w1 ⟨rfl, hb⟩
  have hs : w.heap.size + 2 ≤ w1.heap.size := by have := hb.size; simp at this; omega
  have a0 : w1.cell? ⟨w.heap.size, 0, none⟩ = some (.int .i64 L) := by rw [hb.cell (p := ⟨w.heap.size, 0, none⟩) (by simp; omega)]; simp [go_sem]
  have a1 : w1.cell? ⟨w.heap.size, 1, none⟩ = some (.slice A l.length c) := by rw [hb.cell (p := ⟨w.heap.size, 1, none⟩) (by simp; omega)]; simp [go_sem]
  have r0 : w1.cell? ⟨w.heap.size + 1, 0, none⟩ = some (.int .i64 0) := by rw [hb.cell (p := ⟨w.heap.size + 1, 0, none⟩) (by simp)]; simp [go_sem]
  have r1 : w1.cell? ⟨w.heap.size + 1, 1, none⟩ = some (.slice none 0 0) := by rw [hb.cell (p := ⟨w.heap.size + 1, 1, none⟩) (by simp)]; simp [go_sem]
  have r2 : w1.cell? ⟨w.heap.size + 1, 2, none⟩ = some (.slice none 0 0) := by rw [hb.cell (p := ⟨w.heap.size + 1, 2, none⟩) (by simp)]; simp [go_sem]
  have ff : ∀ o, w1.frozen? ⟨w.heap.size + 1, o, none⟩ = false := fun o => by rw [hb.frozen (p := ⟨w.heap.size + 1, o, none⟩) (by simp)]; simp [go_sem]
  have HB := Lib.hid (((Below.refl _ w).alloc (Nat.le_refl _) (Obj.cells #[Value.int IntKind.i64 L, Value.slice A l.length c] 47)).alloc (by simp) (Obj.cells #[Value.int IntKind.i64 0, Value.slice none 0 0, Value.slice none 0 0] 31) |>.trans (hb.mono (by simp; omega)))
  clear hb
  have d0 := alloc_some a0 (Obj.cells #[Value.int IntKind.i64 L, Value.slice none 0 0, Value.slice none 0 0] 31)
  have d1 := alloc_some a1 (Obj.cells #[Value.int IntKind.i64 L, Value.slice none 0 0, Value.slice none 0 0] 31)
  go_wp2_with (go_at_call 37; first | (with_reducible refine (HI.out _).mono ?_; rintro e w' ⟨rfl, rfl⟩) | (with_reducible refine (HJ.out _).mono ?_; rintro e w' ⟨rfl, rfl⟩))
  obtain ⟨W0, hW0⟩ : ∃ W, W = w1.alloc (Obj.cells #[Value.int IntKind.i64 L, Value.slice none 0 0, Value.slice none 0 0] 31) := ⟨_, rfl⟩
  have HM0 : Hid (MkAt W0 w.heap.size w1.heap.size (w1.heap.size + 1) (w1.heap.size + 1) L A l.length c ((l.map Prod.fst).take 0) none 0 0 none 0 0 []) := by
    have hbA : Below w1.heap.size w1 W0 := by rw [hW0]; exact (Below.refl _ _).alloc (Nat.le_refl _) _
    refine ⟨Below.cell_some hbA a0, Below.cell_some hbA a1, Below.cell_some hbA r0, Below.cell_some hbA r1, Below.cell_some hbA r2, fun o => (hbA.frozen (p := ⟨w.heap.size + 1, o, none⟩) (by simp only; omega)).trans (ff o), ?_, ?_, ?_, fun o => ?_, SlOwn.nil _ _ _ _, SlOwn.nil _ _ _ _, by omega, by omega, by rw [hW0]; simp⟩
    · rw [hW0]; simp
    · rw [hW0]; simp
    · rw [hW0]; simp
    · rw [hW0]; simp [go_sem]
  have HB0 : Hid (Below w.heap.size w W0) := by show Below _ _ _; rw [hW0]; exact HB.out.alloc (by omega) _
  have hs0 : W0.heap.size = w1.heap.size + 1 := by rw [hW0]; simp
  have HS0 := Lib.hid hs0
  try rw [← hW0]
  clear a0 a1 d0 d1 r0 r1 r2 ff hW0 hs0
  go_loopw [33] (fun v wr => ∃ (k : Nat) (A2 : Option Addr) (k2 : Nat), k ≤ l.length ∧ v = .int .i64 k ∧ MkAt wr w.heap.size w1.heap.size (w1.heap.size + 1) (w1.heap.size + 1) L A l.length c ((l.map Prod.fst).take k) A2 k k2 none 0 0 [] ∧ Below w.heap.size w wr)
    (fun v _ => l.length - (intOf v).toNat)
  case atStart => exact ⟨0, none, 0, Nat.zero_le _, rfl, HM0.out, HB0.out⟩
  case round =>
    obtain ⟨k, A2, k2, hk, rfl, hmk, hbr⟩ := hrel
    obtain ⟨W1, rfl⟩ : ∃ W, W = wr := ⟨_, rfl⟩
    have HM := Lib.hid hmk
    have HBR := Lib.hid hbr
    clear hmk hbr
    have HAr := Lib.hid (HAT.out.below HBR.out)
    by_cases hlt : k < l.length
    · obtain ⟨b, off, rfl, l0, hc⟩ := HAr.out.at_ hlt
      obtain ⟨a0, a1⟩ := hc k hlt
      have HSN : Hid ((l.map Prod.fst).take (k + 1) = (l.map Prod.fst).take k ++ [(l.getD k (0, 0)).1]) := by
        show _ = _
        rw [List.take_succ_eq_append_getElem (by simpa using hlt), List.getElem_map, List.getD_eq_getElem?_getD, List.getElem?_eq_getElem hlt]; rfl
      have HLK : Hid (((l.map Prod.fst).take k).length = k) := by show _ = _; rw [List.length_take, List.length_map]; omega
      clear hc
      generalize l.getD k (0, 0) = x at *
      generalize (l.map Prod.fst).take k = pk at *
      obtain ⟨x1, x2⟩ := x
      simp only at a0 a1 HSN
      have hkl : (k : Int) < (l.length : Int) := by omega
      have o1 := HM.out.o1
      have of1 := HM.out.of 1
      have hq1 := HM.out.lo
      have hsz := HM.out.sz
      have d1 := alloc_some o1 (Obj.cells #[Value.int IntKind.i64 x1, Value.int IntKind.i64 x2] 67)
      have HBA : Hid (Below W1.heap.size W1 ((W1.alloc (Obj.cells #[Value.int IntKind.i64 x1, Value.int IntKind.i64 x2] 67)).alloc (Obj.cells #[Value.int IntKind.i64 x1] 3))) := ((Below.refl _ _).alloc (Nat.le_refl _) _).alloc (by simp) _
      go_wp2_with (at_builtin; go_must (refine wpList_append_slsv intS _ rfl _ _ 22 rfl (w1.heap.size + 1) 3 i0 _ 8 Try.underlying22 hi hz0 hz1 hz2 rfl (by decide) _ pk rfl (SlOwn.below HM.out.pl HBA.out) _ 1 1 [x1] rfl rfl (slAt_oneI (heap_new (by simp))) (by have := HLK.out; simp only [List.length_cons, List.length_nil]; omega) (by simp; omega) ?_); intro A5 n5 k5 w5 hn5 hown5 hb5; have HB5 : Hid (Below (w1.heap.size + 1) W1 w5) := (HBA.out.mono hsz).trans hb5; have HO5 := Lib.hid hown5; have HN5 : Hid (n5 = k + 1) := (by show _ = _; rw [hn5, List.length_append, HLK.out]; rfl); have t1 := (HB5.out.cell (p := ⟨w1.heap.size, 1, none⟩) (by simp)).trans o1; have t2 := (HB5.out.frozen (p := ⟨w1.heap.size, 1, none⟩) (by simp)).trans of1; clear hn5 hown5 hb5)
      have HM5 := Lib.hid (HM.out.putP HB5.out HO5.out)
      rw [HN5.out] at HM5
      go_roundw
      case rel =>
        refine ⟨k + 1, A5, k5, by omega, by go_num, ?_, ?_⟩
        · rw [HSN.out]
          have := HN5.out
          subst this
          exact HM5.out
        · exact (HBR.out.trans (HB5.out.mono (by omega))).setCell (p := ⟨w1.heap.size, 1, none⟩) (by simp only; omega) _
      case measure => simp [intOf]; omega
    · obtain rfl : k = l.length := by omega
      have HTE : Hid ((l.map Prod.fst).take l.length = l.map Prod.fst) := by show _ = _; rw [List.take_of_length_le (by simp)]
      rw [HTE.out] at HM
      have HPL : Hid (∀ b, (Value.slice A2 l.length k2).ownBlock = some b → b < W1.heap.size ∧ b ≠ w1.heap.size) := fun b e => by
        have := World.ownsRow.lt HM.out.pl b e
        omega
      have HMM := Lib.hid (HM.out.rebase HM.out.sz (Nat.le_refl _))
      have hsz := HM.out.sz
      clear HM HTE
      obtain ⟨pk, hpk⟩ : ∃ pk, pk = l.map Prod.fst := ⟨_, rfl⟩
      have HPK := Lib.hid hpk
      rw [← hpk] at HMM
      clear hpk
      go_wp2
      go_loopw [1, 11] (fun v y wr => ∃ (k : Nat) (A3 : Option Addr) (c3 : Nat), k ≤ M ∧ v = .int .i64 ((M : Int) - k) ∧ y = .int .i64 (zAt z k) ∧ MkAt wr w.heap.size w1.heap.size (w1.heap.size + 1) W1.heap.size L A l.length c pk A2 l.length k2 A3 k c3 (mkCs L l z k) ∧ Below w.heap.size w wr)
        (fun v _ _ => (intOf v).toNat)
      case atStart => exact ⟨0, none, 0, Nat.zero_le _, by simp, rfl, HMM.out, HBR.out⟩
      case round =>
        obtain ⟨k, A3, c3, hk, rfl, rfl, hmk, hbr⟩ := hrel
        obtain ⟨V1, rfl⟩ : ∃ W, W = wr := ⟨_, rfl⟩
        have HM := Lib.hid hmk
        have HBV := Lib.hid hbr
        clear hmk hbr
        have HAV := Lib.hid (HAT.out.below HBV.out)
        have hy := zAt_in HZZ.out k
        by_cases hlt : k < M
        · have HSN := Lib.hid (mkCs_succ L l z k)
          have HZS : Hid (zAt z (k + 1) = mkZ (zAt z k)) := rfl
          have HLK := Lib.hid (mkCs_len L l z k)
          generalize mkCs L l z k = ck at *
          generalize zAt z k = y at *
          have hx1 := nxZ_in y
          have HK6 : Hid (mkK y = nxZ y % 6) := rfl
          have hk05 := mkK_in y
          have hVs := HM.out.sz
          have hg1 : w.heap.size + 1 < V1.heap.size := by omega
          have hg2 : V1.heap.size ≠ w1.heap.size := by omega
          have HG3 : Hid (∀ b, (Value.slice A2 l.length k2).ownBlock = some b → b ≠ V1.heap.size) := fun b e => by have := HPL.out b e; omega
          have HG4 : Hid (∀ b, (Value.slice A3 k c3).ownBlock = some b → b ≠ V1.heap.size) := fun b e => by have := World.ownsRow.lt HM.out.own b e; omega
          have HCL : Hid (mkCl L l y = (mkK y, hasA L l (mkK y) (mkA l.length L y), hasB' L l (mkK y) (mkA l.length L y) 0)) := rfl
          have hp1 : (0 : Int) < (M : Int) - k := by omega
          have hp2 : IntKind.i64.wrap ((M : Int) - k - 1) = (M : Int) - k - 1 := IntWalk.i64_in _ (by omega)
          have hp3 : wrap64 ((M : Int) - k - 1) = (M : Int) - k - 1 := IntWalk.wrap64_in _ (by omega)
          generalize hmv : (M : Int) - k = mv at *
          rcases (show mkK y = 0 ∨ mkK y = 1 ∨ mkK y = 2 ∨ mkK y = 3 ∨ mkK y = 4 ∨ mkK y = 5 by omega) with hi6 | hi6 | hi6 | hi6 | hi6 | hi6
          · have hk6 : Int.tmod (nxZ y) 6 = 0 := by rw [Int.tmod_eq_emod_of_nonneg hx1.1]; exact HK6.out.symm.trans hi6
            have HN1 := Lib.hid (pzNext_any y _ rfl (by omega))
            have HZ2 : Hid (zAt z (k + 1) = nxZ (nxZ y)) := by show _ = _; rw [HZS.out, mkZ_2 (by omega)]
            have hx2 := nxZ_in (nxZ y)
            have HN2 := Lib.hid (pzNext_any (nxZ y) _ rfl (by omega))
            have hn0 := HLN.out
            have hr1 := Int.emod_nonneg (nxZ (nxZ y)) (show (l.length : Int) ≠ 0 by omega)
            have hr2 := Int.emod_lt_of_pos (nxZ (nxZ y)) (show 0 < (l.length : Int) by omega)
            have hm2 : Int.tmod (nxZ (nxZ y)) l.length = nxZ (nxZ y) % l.length := Int.tmod_eq_emod_of_nonneg hx2.1
            obtain ⟨b, off, u, rfl, hbl, hcw, hu, hue⟩ := way_half HGD.out HAV.out (a := nxZ (nxZ y) % l.length) ⟨hr1, hr2⟩
            have HV : Hid (mkCl L l y = (0, nxZ (nxZ y) % l.length, (u + 1) / 2)) := by
              show _ = _
              rw [HCL.out, hi6, mkA_04 (.inl hi6)]
              unfold hasA hasB'
              rw [← hue]
              rcases hu with rfl | rfl <;> rfl
            have hq2 : IntKind.i64.wrap (u + 1) = u + 1 := IntWalk.i64_in _ (by omega)
            have hq3 : wrap64 (u + 1) = u + 1 := IntWalk.wrap64_in _ (by omega)
            have hn1 : ¬ (l.length : Int) = 0 := by omega
            clear HCL HK6 hi6 hk05 HZS hue
            generalize mkCl L l y = cl at *
            generalize nxZ (nxZ y) % (l.length : Int) = r at *
            generalize nxZ (nxZ y) = x2 at *
            generalize nxZ y = x1 at *
            go_wp2_with fail
            refine (HN1.out _).mono ?_
            rintro e w' ⟨rfl, rfl⟩
            have a0 := HM.out.a0
            have a1 := HM.out.a1
            have d0 := alloc_some a0 (Obj.cells #[Value.int IntKind.i64 0, Value.int IntKind.i64 0, Value.int IntKind.i64 0] 35)
            have d1 := alloc_some a1 (Obj.cells #[Value.int IntKind.i64 0, Value.int IntKind.i64 0, Value.int IntKind.i64 0] 35)
            have MB := HM.out.below ((Below.refl _ _).alloc (Nat.le_refl _) (Obj.cells #[Value.int IntKind.i64 0, Value.int IntKind.i64 0, Value.int IntKind.i64 0] 35))
            have CB : CuAt V1 (V1.alloc (Obj.cells #[Value.int IntKind.i64 0, Value.int IntKind.i64 0, Value.int IntKind.i64 0] 35)) V1.heap.size 0 0 0 := ⟨by simp, by simp, by simp, by simp, (Below.refl _ _).alloc (Nat.le_refl _) _⟩
            have bf1 : (V1.alloc (Obj.cells #[Value.int IntKind.i64 0, Value.int IntKind.i64 0, Value.int IntKind.i64 0] 35)).frozen? ⟨V1.heap.size, 1, none⟩ = false := by simp [go_sem]
            have bf2 : (V1.alloc (Obj.cells #[Value.int IntKind.i64 0, Value.int IntKind.i64 0, Value.int IntKind.i64 0] 35)).frozen? ⟨V1.heap.size, 2, none⟩ = false := by simp [go_sem]
            go_wp2_with fail
            refine (HN2.out _).mono ?_
            rintro e w' ⟨rfl, rfl⟩
            have hcw1 := alloc_some hcw (Obj.cells #[Value.int IntKind.i64 0, Value.int IntKind.i64 r, Value.int IntKind.i64 0] 35)
            have hd1 := alloc_some a1 (Obj.cells #[Value.int IntKind.i64 0, Value.int IntKind.i64 r, Value.int IntKind.i64 0] 35)
            have hnb : ¬ b = V1.heap.size := by omega
            have hnw : ¬ w.heap.size = V1.heap.size := by omega
            have hno : ¬ w1.heap.size = V1.heap.size := by omega
            go_upto_region 32 with fail
            refine wp_name ?_
            intro X hX
            have HX : Hid (MkAt X w.heap.size w1.heap.size (w1.heap.size + 1) W1.heap.size L (some ⟨b, off, none⟩) l.length c pk A2 l.length k2 A3 k c3 ck ∧ CuAt V1 X V1.heap.size 0 r ((u + 1) / 2)) := by
              show _ ∧ _
              first
                | exact cu_set hX HM5.out HC5.out hf1 hg1 hg2 HG3.out HG4.out
                | exact cu_set2 hX HM5.out HC5.out hf2 hg1 hg2 HG3.out HG4.out
                | exact cu_new hX HM.out
            clear hX
            have x0 := HX.out.2.k0
            have x1' := HX.out.2.k1
            have x2' := HX.out.2.k2
            have o2 := HX.out.1.o2
            have of2 := HX.out.1.of 2
            have hXs := HX.out.1.sz
            have hXl := HX.out.2.lt
            rw [HV.out] at HSN
            have HBX : Hid (Below X.heap.size X (X.alloc (Obj.cells #[Value.int IntKind.i64 0, Value.int IntKind.i64 r, Value.int IntKind.i64 ((u + 1) / 2)] 35))) := (Below.refl _ _).alloc (Nat.le_refl _) _
            go_wp2_with (at_builtin; go_must (refine wpList_append_slsv tripS _ rfl _ _ 29 rfl W1.heap.size 35 j0 _ 24 Try.underlying29 hj hy0 hy1 hy2 rfl (by decide) _ ck rfl (SlOwn.below HX.out.1.own HBX.out) _ 1 1 [(0, r, ((u + 1) / 2))] rfl rfl (slAt_trip1 (heap_new (by simp))) (by have := HLK.out; simp only [List.length_cons, List.length_nil]; omega) (by simp; omega) ?_); intro A5 n5 k5 w6 hn5 hown5 hb5; have HB6 : Hid (Below W1.heap.size X w6) := (HBX.out.mono hXs).trans hb5; have HO6 := Lib.hid hown5; have HN6 : Hid (n5 = k + 1) := (by show _ = _; rw [hn5, List.length_append, HLK.out]; rfl); have t1 := (HB6.out.cell (p := ⟨w1.heap.size, 2, none⟩) (by simp only; omega)).trans o2; have t2 := (HB6.out.frozen (p := ⟨w1.heap.size, 2, none⟩) (by simp only; omega)).trans of2; clear hn5 hown5 hb5)
            have HM6 := Lib.hid (HX.out.1.put HB6.out HPL.out HO6.out)
            go_roundw
            case rel =>
              refine ⟨k + 1, A5, k5, by omega, by go_num, by rw [HZ2.out], ?_, ?_⟩
              · rw [HSN.out]
                have := HN6.out
                subst this
                exact HM6.out
              · exact ((HBV.out.trans (HX.out.2.bel.mono HBV.out.size)).trans (HB6.out.mono (by omega))).setCell (p := ⟨w1.heap.size, 2, none⟩) (by simp only; omega) _
            case measure => simp [intOf]; omega
          · have hk6 : Int.tmod (nxZ y) 6 = 1 := by rw [Int.tmod_eq_emod_of_nonneg hx1.1]; exact HK6.out.symm.trans hi6
            have HN1 := Lib.hid (pzNext_any y _ rfl (by omega))
            have HZ2 : Hid (zAt z (k + 1) = nxZ y) := by show _ = _; rw [HZS.out, mkZ_1 (by omega)]
            have HV : Hid (mkCl L l y = (1, (nL L l : Int), 0)) := by show _ = _; rw [HCL.out, hi6]; rfl
            have HC := Lib.hid (fun W h => roLeft_good L A c l W HGD.out h)
            clear HCL HK6 hi6 hk05 HZS
            generalize mkCl L l y = cl at *
            generalize (nL L l : Int) = v at *
            generalize nxZ y = x1 at *
            go_wp2_with fail
            refine (HN1.out _).mono ?_
            rintro e w' ⟨rfl, rfl⟩
            have a0 := HM.out.a0
            have a1 := HM.out.a1
            have d0 := alloc_some a0 (Obj.cells #[Value.int IntKind.i64 1, Value.int IntKind.i64 0, Value.int IntKind.i64 0] 35)
            have d1 := alloc_some a1 (Obj.cells #[Value.int IntKind.i64 1, Value.int IntKind.i64 0, Value.int IntKind.i64 0] 35)
            have MB := HM.out.below ((Below.refl _ _).alloc (Nat.le_refl _) (Obj.cells #[Value.int IntKind.i64 1, Value.int IntKind.i64 0, Value.int IntKind.i64 0] 35))
            have CB : CuAt V1 (V1.alloc (Obj.cells #[Value.int IntKind.i64 1, Value.int IntKind.i64 0, Value.int IntKind.i64 0] 35)) V1.heap.size 1 0 0 := ⟨by simp, by simp, by simp, by simp, (Below.refl _ _).alloc (Nat.le_refl _) _⟩
            have bf1 : (V1.alloc (Obj.cells #[Value.int IntKind.i64 1, Value.int IntKind.i64 0, Value.int IntKind.i64 0] 35)).frozen? ⟨V1.heap.size, 1, none⟩ = false := by simp [go_sem]
            have bf2 : (V1.alloc (Obj.cells #[Value.int IntKind.i64 1, Value.int IntKind.i64 0, Value.int IntKind.i64 0] 35)).frozen? ⟨V1.heap.size, 2, none⟩ = false := by simp [go_sem]
            go_wp2_with fail
            refine (HC.out _ (HAV.out.alloc _)).mono ?_
            rintro e w5 ⟨rfl, hb5⟩
            have HM5 := Lib.hid (MB.below hb5)
            have HC5 := Lib.hid (CB.below hb5)
            have hf1 := (hb5.frozen (p := ⟨V1.heap.size, 1, none⟩) (by simp)).trans bf1
            have hf2 := (hb5.frozen (p := ⟨V1.heap.size, 2, none⟩) (by simp)).trans bf2
            have k0 := HC5.out.k0
            have k1 := HC5.out.k1
            have k2' := HC5.out.k2
            have a0 := HM5.out.a0
            have a1 := HM5.out.a1
            clear hb5
            go_upto_region 32 with fail
            refine wp_name ?_
            intro X hX
            have HX : Hid (MkAt X w.heap.size w1.heap.size (w1.heap.size + 1) W1.heap.size L A l.length c pk A2 l.length k2 A3 k c3 ck ∧ CuAt V1 X V1.heap.size 1 v 0) := by
              show _ ∧ _
              first
                | exact cu_set hX HM5.out HC5.out hf1 hg1 hg2 HG3.out HG4.out
                | exact cu_set2 hX HM5.out HC5.out hf2 hg1 hg2 HG3.out HG4.out
                | exact cu_new hX HM.out
            clear hX
            have x0 := HX.out.2.k0
            have x1' := HX.out.2.k1
            have x2' := HX.out.2.k2
            have o2 := HX.out.1.o2
            have of2 := HX.out.1.of 2
            have hXs := HX.out.1.sz
            have hXl := HX.out.2.lt
            rw [HV.out] at HSN
            have HBX : Hid (Below X.heap.size X (X.alloc (Obj.cells #[Value.int IntKind.i64 1, Value.int IntKind.i64 v, Value.int IntKind.i64 0] 35))) := (Below.refl _ _).alloc (Nat.le_refl _) _
            go_wp2_with (at_builtin; go_must (refine wpList_append_slsv tripS _ rfl _ _ 29 rfl W1.heap.size 35 j0 _ 24 Try.underlying29 hj hy0 hy1 hy2 rfl (by decide) _ ck rfl (SlOwn.below HX.out.1.own HBX.out) _ 1 1 [(1, v, 0)] rfl rfl (slAt_trip1 (heap_new (by simp))) (by have := HLK.out; simp only [List.length_cons, List.length_nil]; omega) (by simp; omega) ?_); intro A5 n5 k5 w6 hn5 hown5 hb5; have HB6 : Hid (Below W1.heap.size X w6) := (HBX.out.mono hXs).trans hb5; have HO6 := Lib.hid hown5; have HN6 : Hid (n5 = k + 1) := (by show _ = _; rw [hn5, List.length_append, HLK.out]; rfl); have t1 := (HB6.out.cell (p := ⟨w1.heap.size, 2, none⟩) (by simp only; omega)).trans o2; have t2 := (HB6.out.frozen (p := ⟨w1.heap.size, 2, none⟩) (by simp only; omega)).trans of2; clear hn5 hown5 hb5)
            have HM6 := Lib.hid (HX.out.1.put HB6.out HPL.out HO6.out)
            go_roundw
            case rel =>
              refine ⟨k + 1, A5, k5, by omega, by go_num, by rw [HZ2.out], ?_, ?_⟩
              · rw [HSN.out]
                have := HN6.out
                subst this
                exact HM6.out
              · exact ((HBV.out.trans (HX.out.2.bel.mono HBV.out.size)).trans (HB6.out.mono (by omega))).setCell (p := ⟨w1.heap.size, 2, none⟩) (by simp only; omega) _
            case measure => simp [intOf]; omega
          · have hk6 : Int.tmod (nxZ y) 6 = 2 := by rw [Int.tmod_eq_emod_of_nonneg hx1.1]; exact HK6.out.symm.trans hi6
            have HN1 := Lib.hid (pzNext_any y _ rfl (by omega))
            have HZ2 : Hid (zAt z (k + 1) = nxZ y) := by show _ = _; rw [HZS.out, mkZ_1 (by omega)]
            have HV : Hid (mkCl L l y = (2, (mAll l).1, 0)) := by show _ = _; rw [HCL.out, hi6]; rfl
            have HC := Lib.hid (fun W h => roMeetings_good L A c l W HGD.out h)
            clear HCL HK6 hi6 hk05 HZS
            generalize mkCl L l y = cl at *
            generalize (mAll l).1 = v at *
            generalize nxZ y = x1 at *
            go_wp2_with fail
            refine (HN1.out _).mono ?_
            rintro e w' ⟨rfl, rfl⟩
            have a0 := HM.out.a0
            have a1 := HM.out.a1
            have d0 := alloc_some a0 (Obj.cells #[Value.int IntKind.i64 2, Value.int IntKind.i64 0, Value.int IntKind.i64 0] 35)
            have d1 := alloc_some a1 (Obj.cells #[Value.int IntKind.i64 2, Value.int IntKind.i64 0, Value.int IntKind.i64 0] 35)
            have MB := HM.out.below ((Below.refl _ _).alloc (Nat.le_refl _) (Obj.cells #[Value.int IntKind.i64 2, Value.int IntKind.i64 0, Value.int IntKind.i64 0] 35))
            have CB : CuAt V1 (V1.alloc (Obj.cells #[Value.int IntKind.i64 2, Value.int IntKind.i64 0, Value.int IntKind.i64 0] 35)) V1.heap.size 2 0 0 := ⟨by simp, by simp, by simp, by simp, (Below.refl _ _).alloc (Nat.le_refl _) _⟩
            have bf1 : (V1.alloc (Obj.cells #[Value.int IntKind.i64 2, Value.int IntKind.i64 0, Value.int IntKind.i64 0] 35)).frozen? ⟨V1.heap.size, 1, none⟩ = false := by simp [go_sem]
            have bf2 : (V1.alloc (Obj.cells #[Value.int IntKind.i64 2, Value.int IntKind.i64 0, Value.int IntKind.i64 0] 35)).frozen? ⟨V1.heap.size, 2, none⟩ = false := by simp [go_sem]
            go_wp2_with fail
            refine (HC.out _ (HAV.out.alloc _)).mono ?_
            rintro e w5 ⟨rfl, hb5⟩
            have HM5 := Lib.hid (MB.below hb5)
            have HC5 := Lib.hid (CB.below hb5)
            have hf1 := (hb5.frozen (p := ⟨V1.heap.size, 1, none⟩) (by simp)).trans bf1
            have hf2 := (hb5.frozen (p := ⟨V1.heap.size, 2, none⟩) (by simp)).trans bf2
            have k0 := HC5.out.k0
            have k1 := HC5.out.k1
            have k2' := HC5.out.k2
            have a0 := HM5.out.a0
            have a1 := HM5.out.a1
            clear hb5
            go_upto_region 32 with fail
            refine wp_name ?_
            intro X hX
            have HX : Hid (MkAt X w.heap.size w1.heap.size (w1.heap.size + 1) W1.heap.size L A l.length c pk A2 l.length k2 A3 k c3 ck ∧ CuAt V1 X V1.heap.size 2 v 0) := by
              show _ ∧ _
              first
                | exact cu_set hX HM5.out HC5.out hf1 hg1 hg2 HG3.out HG4.out
                | exact cu_set2 hX HM5.out HC5.out hf2 hg1 hg2 HG3.out HG4.out
                | exact cu_new hX HM.out
            clear hX
            have x0 := HX.out.2.k0
            have x1' := HX.out.2.k1
            have x2' := HX.out.2.k2
            have o2 := HX.out.1.o2
            have of2 := HX.out.1.of 2
            have hXs := HX.out.1.sz
            have hXl := HX.out.2.lt
            rw [HV.out] at HSN
            have HBX : Hid (Below X.heap.size X (X.alloc (Obj.cells #[Value.int IntKind.i64 2, Value.int IntKind.i64 v, Value.int IntKind.i64 0] 35))) := (Below.refl _ _).alloc (Nat.le_refl _) _
            go_wp2_with (at_builtin; go_must (refine wpList_append_slsv tripS _ rfl _ _ 29 rfl W1.heap.size 35 j0 _ 24 Try.underlying29 hj hy0 hy1 hy2 rfl (by decide) _ ck rfl (SlOwn.below HX.out.1.own HBX.out) _ 1 1 [(2, v, 0)] rfl rfl (slAt_trip1 (heap_new (by simp))) (by have := HLK.out; simp only [List.length_cons, List.length_nil]; omega) (by simp; omega) ?_); intro A5 n5 k5 w6 hn5 hown5 hb5; have HB6 : Hid (Below W1.heap.size X w6) := (HBX.out.mono hXs).trans hb5; have HO6 := Lib.hid hown5; have HN6 : Hid (n5 = k + 1) := (by show _ = _; rw [hn5, List.length_append, HLK.out]; rfl); have t1 := (HB6.out.cell (p := ⟨w1.heap.size, 2, none⟩) (by simp only; omega)).trans o2; have t2 := (HB6.out.frozen (p := ⟨w1.heap.size, 2, none⟩) (by simp only; omega)).trans of2; clear hn5 hown5 hb5)
            have HM6 := Lib.hid (HX.out.1.put HB6.out HPL.out HO6.out)
            go_roundw
            case rel =>
              refine ⟨k + 1, A5, k5, by omega, by go_num, by rw [HZ2.out], ?_, ?_⟩
              · rw [HSN.out]
                have := HN6.out
                subst this
                exact HM6.out
              · exact ((HBV.out.trans (HX.out.2.bel.mono HBV.out.size)).trans (HB6.out.mono (by omega))).setCell (p := ⟨w1.heap.size, 2, none⟩) (by simp only; omega) _
            case measure => simp [intOf]; omega
          · have hk6 : Int.tmod (nxZ y) 6 = 3 := by rw [Int.tmod_eq_emod_of_nonneg hx1.1]; exact HK6.out.symm.trans hi6
            have HN1 := Lib.hid (pzNext_any y _ rfl (by omega))
            have HZ2 : Hid (zAt z (k + 1) = nxZ y) := by show _ = _; rw [HZS.out, mkZ_1 (by omega)]
            have HV : Hid (mkCl L l y = (3, maxOf (fallsOf L l), 0)) := by show _ = _; rw [HCL.out, hi6]; rfl
            have HC := Lib.hid (fun W h => roLast_good L A c l W HGD.out h)
            clear HCL HK6 hi6 hk05 HZS
            generalize mkCl L l y = cl at *
            generalize maxOf (fallsOf L l) = v at *
            generalize nxZ y = x1 at *
            go_wp2_with fail
            refine (HN1.out _).mono ?_
            rintro e w' ⟨rfl, rfl⟩
            have a0 := HM.out.a0
            have a1 := HM.out.a1
            have d0 := alloc_some a0 (Obj.cells #[Value.int IntKind.i64 3, Value.int IntKind.i64 0, Value.int IntKind.i64 0] 35)
            have d1 := alloc_some a1 (Obj.cells #[Value.int IntKind.i64 3, Value.int IntKind.i64 0, Value.int IntKind.i64 0] 35)
            have MB := HM.out.below ((Below.refl _ _).alloc (Nat.le_refl _) (Obj.cells #[Value.int IntKind.i64 3, Value.int IntKind.i64 0, Value.int IntKind.i64 0] 35))
            have CB : CuAt V1 (V1.alloc (Obj.cells #[Value.int IntKind.i64 3, Value.int IntKind.i64 0, Value.int IntKind.i64 0] 35)) V1.heap.size 3 0 0 := ⟨by simp, by simp, by simp, by simp, (Below.refl _ _).alloc (Nat.le_refl _) _⟩
            have bf1 : (V1.alloc (Obj.cells #[Value.int IntKind.i64 3, Value.int IntKind.i64 0, Value.int IntKind.i64 0] 35)).frozen? ⟨V1.heap.size, 1, none⟩ = false := by simp [go_sem]
            have bf2 : (V1.alloc (Obj.cells #[Value.int IntKind.i64 3, Value.int IntKind.i64 0, Value.int IntKind.i64 0] 35)).frozen? ⟨V1.heap.size, 2, none⟩ = false := by simp [go_sem]
            go_wp2_with fail
            refine (HC.out _ (HAV.out.alloc _)).mono ?_
            rintro e w5 ⟨rfl, hb5⟩
            have HM5 := Lib.hid (MB.below hb5)
            have HC5 := Lib.hid (CB.below hb5)
            have hf1 := (hb5.frozen (p := ⟨V1.heap.size, 1, none⟩) (by simp)).trans bf1
            have hf2 := (hb5.frozen (p := ⟨V1.heap.size, 2, none⟩) (by simp)).trans bf2
            have k0 := HC5.out.k0
            have k1 := HC5.out.k1
            have k2' := HC5.out.k2
            have a0 := HM5.out.a0
            have a1 := HM5.out.a1
            clear hb5
            go_upto_region 32 with fail
            refine wp_name ?_
            intro X hX
            have HX : Hid (MkAt X w.heap.size w1.heap.size (w1.heap.size + 1) W1.heap.size L A l.length c pk A2 l.length k2 A3 k c3 ck ∧ CuAt V1 X V1.heap.size 3 v 0) := by
              show _ ∧ _
              first
                | exact cu_set hX HM5.out HC5.out hf1 hg1 hg2 HG3.out HG4.out
                | exact cu_set2 hX HM5.out HC5.out hf2 hg1 hg2 HG3.out HG4.out
                | exact cu_new hX HM.out
            clear hX
            have x0 := HX.out.2.k0
            have x1' := HX.out.2.k1
            have x2' := HX.out.2.k2
            have o2 := HX.out.1.o2
            have of2 := HX.out.1.of 2
            have hXs := HX.out.1.sz
            have hXl := HX.out.2.lt
            rw [HV.out] at HSN
            have HBX : Hid (Below X.heap.size X (X.alloc (Obj.cells #[Value.int IntKind.i64 3, Value.int IntKind.i64 v, Value.int IntKind.i64 0] 35))) := (Below.refl _ _).alloc (Nat.le_refl _) _
            go_wp2_with (at_builtin; go_must (refine wpList_append_slsv tripS _ rfl _ _ 29 rfl W1.heap.size 35 j0 _ 24 Try.underlying29 hj hy0 hy1 hy2 rfl (by decide) _ ck rfl (SlOwn.below HX.out.1.own HBX.out) _ 1 1 [(3, v, 0)] rfl rfl (slAt_trip1 (heap_new (by simp))) (by have := HLK.out; simp only [List.length_cons, List.length_nil]; omega) (by simp; omega) ?_); intro A5 n5 k5 w6 hn5 hown5 hb5; have HB6 : Hid (Below W1.heap.size X w6) := (HBX.out.mono hXs).trans hb5; have HO6 := Lib.hid hown5; have HN6 : Hid (n5 = k + 1) := (by show _ = _; rw [hn5, List.length_append, HLK.out]; rfl); have t1 := (HB6.out.cell (p := ⟨w1.heap.size, 2, none⟩) (by simp only; omega)).trans o2; have t2 := (HB6.out.frozen (p := ⟨w1.heap.size, 2, none⟩) (by simp only; omega)).trans of2; clear hn5 hown5 hb5)
            have HM6 := Lib.hid (HX.out.1.put HB6.out HPL.out HO6.out)
            go_roundw
            case rel =>
              refine ⟨k + 1, A5, k5, by omega, by go_num, by rw [HZ2.out], ?_, ?_⟩
              · rw [HSN.out]
                have := HN6.out
                subst this
                exact HM6.out
              · exact ((HBV.out.trans (HX.out.2.bel.mono HBV.out.size)).trans (HB6.out.mono (by omega))).setCell (p := ⟨w1.heap.size, 2, none⟩) (by simp only; omega) _
            case measure => simp [intOf]; omega
          · have hk6 : Int.tmod (nxZ y) 6 = 4 := by rw [Int.tmod_eq_emod_of_nonneg hx1.1]; exact HK6.out.symm.trans hi6
            have HN1 := Lib.hid (pzNext_any y _ rfl (by omega))
            have HZ2 : Hid (zAt z (k + 1) = nxZ (nxZ y)) := by show _ = _; rw [HZS.out, mkZ_2 (by omega)]
            have hx2 := nxZ_in (nxZ y)
            have HN2 := Lib.hid (pzNext_any (nxZ y) _ rfl (by omega))
            have hn0 := HLN.out
            have hr1 := Int.emod_nonneg (nxZ (nxZ y)) (show (l.length : Int) ≠ 0 by omega)
            have hr2 := Int.emod_lt_of_pos (nxZ (nxZ y)) (show 0 < (l.length : Int) by omega)
            have hm2 : Int.tmod (nxZ (nxZ y)) l.length = nxZ (nxZ y) % l.length := Int.tmod_eq_emod_of_nonneg hx2.1
            have hfl := fallsOf_len HGD.out
            have HV : Hid (mkCl L l y = (4, nxZ (nxZ y) % l.length, (fallsOf L l).getD (nxZ (nxZ y) % l.length).toNat 0)) := by
              show _ = _
              rw [HCL.out, hi6, mkA_04 (.inr hi6)]
              rfl
            have HC := Lib.hid (fun W h => roFalls_good L A c l W HGD.out h)
            have hn1 : ¬ (l.length : Int) = 0 := by omega
            have HFA : Hid (∀ w A, SlAt intS w A (fallsOf L l) → ∃ b off, A = some ⟨b, off, none⟩ ∧ b < w.heap.size ∧ w.cell? ⟨b, off + (nxZ (nxZ y) % l.length).toNat, none⟩ = some (.int .i64 ((fallsOf L l).getD (nxZ (nxZ y) % l.length).toNat 0))) := fun w A h => by
              obtain ⟨b, off, hA, hlt, hc⟩ := h.int_at (k := (nxZ (nxZ y) % l.length).toNat) (by omega)
              exact ⟨b, off, hA, hlt, hc _ _ (by rw [List.getD_eq_getElem?_getD, List.getElem?_eq_getElem (by omega)]; rfl)⟩
            have HFL := Lib.hid hfl
            clear HCL HK6 hi6 hk05 HZS hfl
            generalize mkCl L l y = cl at *
            generalize (fallsOf L l).getD (nxZ (nxZ y) % l.length).toNat 0 = v at *
            generalize fallsOf L l = fs at *
            generalize nxZ (nxZ y) % (l.length : Int) = r at *
            generalize nxZ (nxZ y) = x2 at *
            generalize nxZ y = x1 at *
            go_wp2_with fail
            refine (HN1.out _).mono ?_
            rintro e w' ⟨rfl, rfl⟩
            have a0 := HM.out.a0
            have a1 := HM.out.a1
            have d0 := alloc_some a0 (Obj.cells #[Value.int IntKind.i64 4, Value.int IntKind.i64 0, Value.int IntKind.i64 0] 35)
            have d1 := alloc_some a1 (Obj.cells #[Value.int IntKind.i64 4, Value.int IntKind.i64 0, Value.int IntKind.i64 0] 35)
            have MB := HM.out.below ((Below.refl _ _).alloc (Nat.le_refl _) (Obj.cells #[Value.int IntKind.i64 4, Value.int IntKind.i64 0, Value.int IntKind.i64 0] 35))
            have CB : CuAt V1 (V1.alloc (Obj.cells #[Value.int IntKind.i64 4, Value.int IntKind.i64 0, Value.int IntKind.i64 0] 35)) V1.heap.size 4 0 0 := ⟨by simp, by simp, by simp, by simp, (Below.refl _ _).alloc (Nat.le_refl _) _⟩
            have bf1 : (V1.alloc (Obj.cells #[Value.int IntKind.i64 4, Value.int IntKind.i64 0, Value.int IntKind.i64 0] 35)).frozen? ⟨V1.heap.size, 1, none⟩ = false := by simp [go_sem]
            have bf2 : (V1.alloc (Obj.cells #[Value.int IntKind.i64 4, Value.int IntKind.i64 0, Value.int IntKind.i64 0] 35)).frozen? ⟨V1.heap.size, 2, none⟩ = false := by simp [go_sem]
            go_wp2_with fail
            refine (HN2.out _).mono ?_
            rintro e w' ⟨rfl, rfl⟩
            have hnw : ¬ w.heap.size = V1.heap.size := by omega
            have hno : ¬ w1.heap.size = V1.heap.size := by omega
            go_upto_region 31 with fail
            refine wp_name ?_
            intro X hX
            have HX := Lib.hid (cu_new hX HM.out)
            have HAX : Hid (AntsAt X A l) := by show AntsAt _ _ _; rw [hX]; exact HAV.out.alloc _
            have e0 := HX.out.1.a0
            have e1 := HX.out.1.a1
            have e2 := HX.out.2.k1
            have bf1 : X.frozen? ⟨V1.heap.size, 1, none⟩ = false := by rw [hX]; simp [go_sem]
            have bf2 : X.frozen? ⟨V1.heap.size, 2, none⟩ = false := by rw [hX]; simp [go_sem]
            have hlX := HX.out.2.lt
            clear hX
            have HK : Hid (∀ Q : Ending → World → Prop, (∀ A5 n5 c5 w', n5 = l.length → SlAt intS w' A5 fs → Below X.heap.size X w' → Q (.returned (.slice A5 n5 c5)) w') → Calls Try.prog 42 #[.agg #[.int .i64 L, .slice A l.length c]] X.drew Q) := fun Q hQ => by
              refine (HC.out X.drew (HAX.out.below (Below.refl _ _).drew)).mono ?_
              rintro e w' ⟨A5, n5, c5, rfl, hn5, ho5, hb⟩
              exact hQ A5 n5 c5 w' (hn5.trans HFL.out) ho5.sl (below_drew hb)
            go_region_with (go_at_call 42; with_reducible refine HK.out _ ?_; intro A5 n5 c5 w5 hn5 hs5 hb5; obtain ⟨fb, fo, rfl, hfb, hcf⟩ := HFA.out _ _ hs5; subst hn5; have HM5 := Lib.hid (HX.out.1.below hb5); have HC5 := Lib.hid (HX.out.2.below hb5); have hf1 := (hb5.frozen (p := ⟨V1.heap.size, 1, none⟩) (by simp only; omega)).trans bf1; have hf2 := (hb5.frozen (p := ⟨V1.heap.size, 2, none⟩) (by simp only; omega)).trans bf2; have k0 := HC5.out.k0; have k1 := HC5.out.k1; have k2' := HC5.out.k2; clear hb5 hs5)
            all_goals (
              go_upto_region 32 with fail
              refine wp_name ?_
              intro X hX
              have HX : Hid (MkAt X w.heap.size w1.heap.size (w1.heap.size + 1) W1.heap.size L A l.length c pk A2 l.length k2 A3 k c3 ck ∧ CuAt V1 X V1.heap.size 4 r v) := by
                show _ ∧ _
                first
                  | exact cu_set hX HM5.out HC5.out hf1 hg1 hg2 HG3.out HG4.out
                  | exact cu_set2 hX HM5.out HC5.out hf2 hg1 hg2 HG3.out HG4.out
                  | exact cu_new hX HM.out
              clear hX
              have x0 := HX.out.2.k0
              have x1' := HX.out.2.k1
              have x2' := HX.out.2.k2
              have o2 := HX.out.1.o2
              have of2 := HX.out.1.of 2
              have hXs := HX.out.1.sz
              have hXl := HX.out.2.lt
              rw [HV.out] at HSN
              have HBX : Hid (Below X.heap.size X (X.alloc (Obj.cells #[Value.int IntKind.i64 4, Value.int IntKind.i64 r, Value.int IntKind.i64 v] 35))) := (Below.refl _ _).alloc (Nat.le_refl _) _
              go_wp2_with (at_builtin; go_must (refine wpList_append_slsv tripS _ rfl _ _ 29 rfl W1.heap.size 35 j0 _ 24 Try.underlying29 hj hy0 hy1 hy2 rfl (by decide) _ ck rfl (SlOwn.below HX.out.1.own HBX.out) _ 1 1 [(4, r, v)] rfl rfl (slAt_trip1 (heap_new (by simp))) (by have := HLK.out; simp only [List.length_cons, List.length_nil]; omega) (by simp; omega) ?_); intro A5 n5 k5 w6 hn5 hown5 hb5; have HB6 : Hid (Below W1.heap.size X w6) := (HBX.out.mono hXs).trans hb5; have HO6 := Lib.hid hown5; have HN6 : Hid (n5 = k + 1) := (by show _ = _; rw [hn5, List.length_append, HLK.out]; rfl); have t1 := (HB6.out.cell (p := ⟨w1.heap.size, 2, none⟩) (by simp only; omega)).trans o2; have t2 := (HB6.out.frozen (p := ⟨w1.heap.size, 2, none⟩) (by simp only; omega)).trans of2; clear hn5 hown5 hb5)
              have HM6 := Lib.hid (HX.out.1.put HB6.out HPL.out HO6.out)
              go_roundw
              case rel =>
                refine ⟨k + 1, A5, k5, by omega, by go_num, by rw [HZ2.out], ?_, ?_⟩
                · rw [HSN.out]
                  have := HN6.out
                  subst this
                  exact HM6.out
                · exact ((HBV.out.trans (HX.out.2.bel.mono HBV.out.size)).trans (HB6.out.mono (by omega))).setCell (p := ⟨w1.heap.size, 2, none⟩) (by simp only; omega) _
              case measure => simp [intOf]; omega)
          · have hk6 : Int.tmod (nxZ y) 6 = 5 := by rw [Int.tmod_eq_emod_of_nonneg hx1.1]; exact HK6.out.symm.trans hi6
            have HN1 := Lib.hid (pzNext_any y _ rfl (by omega))
            have HZ2 : Hid (zAt z (k + 1) = nxZ (nxZ y)) := by show _ = _; rw [HZS.out, mkZ_2 (by omega)]
            have hx2 := nxZ_in (nxZ y)
            have HN2 := Lib.hid (pzNext_any (nxZ y) _ rfl (by omega))
            have hL0 := HLL.out
            have hr1 := Int.emod_nonneg (nxZ (nxZ y)) (show L / 2 ≠ 0 by omega)
            have hr2 := Int.emod_lt_of_pos (nxZ (nxZ y)) (show 0 < L / 2 by omega)
            have ht2 : timeB (2 * (nxZ (nxZ y) % (L / 2))) = true := by unfold timeB; simp; omega
            have hm1 : Int.tdiv L 2 = L / 2 := Int.tdiv_eq_ediv_of_nonneg (by omega)
            have hm2 : Int.tmod (nxZ (nxZ y)) (L / 2) = nxZ (nxZ y) % (L / 2) := Int.tmod_eq_emod_of_nonneg hx2.1
            have hm3 : IntKind.i64.wrap (2 * (nxZ (nxZ y) % (L / 2))) = 2 * (nxZ (nxZ y) % (L / 2)) := IntWalk.i64_in _ (by omega)
            have hm4 : wrap64 (2 * (nxZ (nxZ y) % (L / 2))) = 2 * (nxZ (nxZ y) % (L / 2)) := IntWalk.wrap64_in _ (by omega)
            have HV : Hid (mkCl L l y = (5, 2 * (nxZ (nxZ y) % (L / 2)), (onN (fallsOf L l) (2 * (nxZ (nxZ y) % (L / 2))) : Int))) := by
              show _ = _
              rw [HCL.out, hi6, mkA_5 hi6]
              rfl
            have HC := Lib.hid (fun W h => pzOn_any L (2 * (nxZ (nxZ y) % (L / 2))) A c l W HGD.out h)
            have hn1 : ¬ L / 2 = 0 := by omega
            clear HCL HK6 hi6 hk05 HZS ht2
            generalize mkCl L l y = cl at *
            generalize (onN (fallsOf L l) (2 * (nxZ (nxZ y) % (L / 2))) : Int) = v at *
            generalize hr : 2 * (nxZ (nxZ y) % (L / 2)) = r at *
            generalize nxZ (nxZ y) % (L / 2) = r0 at *
            generalize hl2 : L / 2 = L2 at *
            generalize nxZ (nxZ y) = x2 at *
            generalize nxZ y = x1 at *
            have HHR := Lib.hid hr


            go_wp2_with fail
            refine (HN1.out _).mono ?_
            rintro e w' ⟨rfl, rfl⟩
            have a0 := HM.out.a0
            have a1 := HM.out.a1
            have d0 := alloc_some a0 (Obj.cells #[Value.int IntKind.i64 5, Value.int IntKind.i64 0, Value.int IntKind.i64 0] 35)
            have d1 := alloc_some a1 (Obj.cells #[Value.int IntKind.i64 5, Value.int IntKind.i64 0, Value.int IntKind.i64 0] 35)
            have MB := HM.out.below ((Below.refl _ _).alloc (Nat.le_refl _) (Obj.cells #[Value.int IntKind.i64 5, Value.int IntKind.i64 0, Value.int IntKind.i64 0] 35))
            have CB : CuAt V1 (V1.alloc (Obj.cells #[Value.int IntKind.i64 5, Value.int IntKind.i64 0, Value.int IntKind.i64 0] 35)) V1.heap.size 5 0 0 := ⟨by simp, by simp, by simp, by simp, (Below.refl _ _).alloc (Nat.le_refl _) _⟩
            have bf1 : (V1.alloc (Obj.cells #[Value.int IntKind.i64 5, Value.int IntKind.i64 0, Value.int IntKind.i64 0] 35)).frozen? ⟨V1.heap.size, 1, none⟩ = false := by simp [go_sem]
            have bf2 : (V1.alloc (Obj.cells #[Value.int IntKind.i64 5, Value.int IntKind.i64 0, Value.int IntKind.i64 0] 35)).frozen? ⟨V1.heap.size, 2, none⟩ = false := by simp [go_sem]
            go_wp2_with fail
            refine (HN2.out _).mono ?_
            rintro e w' ⟨rfl, rfl⟩
            have a0 := HM.out.a0
            have a1 := HM.out.a1
            have d0 := alloc_some a0 (Obj.cells #[Value.int IntKind.i64 5, Value.int IntKind.i64 r, Value.int IntKind.i64 0] 35)
            have d1 := alloc_some a1 (Obj.cells #[Value.int IntKind.i64 5, Value.int IntKind.i64 r, Value.int IntKind.i64 0] 35)
            have MB := HM.out.below ((Below.refl _ _).alloc (Nat.le_refl _) (Obj.cells #[Value.int IntKind.i64 5, Value.int IntKind.i64 r, Value.int IntKind.i64 0] 35))
            have CB : CuAt V1 (V1.alloc (Obj.cells #[Value.int IntKind.i64 5, Value.int IntKind.i64 r, Value.int IntKind.i64 0] 35)) V1.heap.size 5 r 0 := ⟨by simp, by simp, by simp, by simp, (Below.refl _ _).alloc (Nat.le_refl _) _⟩
            have bf1 : (V1.alloc (Obj.cells #[Value.int IntKind.i64 5, Value.int IntKind.i64 r, Value.int IntKind.i64 0] 35)).frozen? ⟨V1.heap.size, 1, none⟩ = false := by simp [go_sem]
            have bf2 : (V1.alloc (Obj.cells #[Value.int IntKind.i64 5, Value.int IntKind.i64 r, Value.int IntKind.i64 0] 35)).frozen? ⟨V1.heap.size, 2, none⟩ = false := by simp [go_sem]
            have hnw : ¬ w.heap.size = V1.heap.size := by omega
            have hno : ¬ w1.heap.size = V1.heap.size := by omega
            go_wp2_with fail
            refine (HC.out _ (HAV.out.alloc _)).mono ?_
            rintro e w5 ⟨rfl, hb5⟩
            have HM5 := Lib.hid (MB.below hb5)
            have HC5 := Lib.hid (CB.below hb5)
            have hf1 := (hb5.frozen (p := ⟨V1.heap.size, 1, none⟩) (by simp)).trans bf1
            have hf2 := (hb5.frozen (p := ⟨V1.heap.size, 2, none⟩) (by simp)).trans bf2
            have k0 := HC5.out.k0
            have k1 := HC5.out.k1
            have k2' := HC5.out.k2
            have a0 := HM5.out.a0
            have a1 := HM5.out.a1
            clear hb5
            go_upto_region 32 with fail
            refine wp_name ?_
            intro X hX
            have HX : Hid (MkAt X w.heap.size w1.heap.size (w1.heap.size + 1) W1.heap.size L A l.length c pk A2 l.length k2 A3 k c3 ck ∧ CuAt V1 X V1.heap.size 5 r v) := by
              show _ ∧ _
              first
                | exact cu_set hX HM5.out HC5.out hf1 hg1 hg2 HG3.out HG4.out
                | exact cu_set2 hX HM5.out HC5.out hf2 hg1 hg2 HG3.out HG4.out
                | exact cu_new hX HM.out
            clear hX
            have x0 := HX.out.2.k0
            have x1' := HX.out.2.k1
            have x2' := HX.out.2.k2
            have o2 := HX.out.1.o2
            have of2 := HX.out.1.of 2
            have hXs := HX.out.1.sz
            have hXl := HX.out.2.lt
            rw [HV.out] at HSN
            have HBX : Hid (Below X.heap.size X (X.alloc (Obj.cells #[Value.int IntKind.i64 5, Value.int IntKind.i64 r, Value.int IntKind.i64 v] 35))) := (Below.refl _ _).alloc (Nat.le_refl _) _
            go_wp2_with (at_builtin; go_must (refine wpList_append_slsv tripS _ rfl _ _ 29 rfl W1.heap.size 35 j0 _ 24 Try.underlying29 hj hy0 hy1 hy2 rfl (by decide) _ ck rfl (SlOwn.below HX.out.1.own HBX.out) _ 1 1 [(5, r, v)] rfl rfl (slAt_trip1 (heap_new (by simp))) (by have := HLK.out; simp only [List.length_cons, List.length_nil]; omega) (by simp; omega) ?_); intro A5 n5 k5 w6 hn5 hown5 hb5; have HB6 : Hid (Below W1.heap.size X w6) := (HBX.out.mono hXs).trans hb5; have HO6 := Lib.hid hown5; have HN6 : Hid (n5 = k + 1) := (by show _ = _; rw [hn5, List.length_append, HLK.out]; rfl); have t1 := (HB6.out.cell (p := ⟨w1.heap.size, 2, none⟩) (by simp only; omega)).trans o2; have t2 := (HB6.out.frozen (p := ⟨w1.heap.size, 2, none⟩) (by simp only; omega)).trans of2; clear hn5 hown5 hb5)
            have HM6 := Lib.hid (HX.out.1.put HB6.out HPL.out HO6.out)
            go_roundw
            case rel =>
              refine ⟨k + 1, A5, k5, by omega, by go_num, by rw [HZ2.out], ?_, ?_⟩
              · rw [HSN.out]
                have := HN6.out
                subst this
                exact HM6.out
              · exact ((HBV.out.trans (HX.out.2.bel.mono HBV.out.size)).trans (HB6.out.mono (by omega))).setCell (p := ⟨w1.heap.size, 2, none⟩) (by simp only; omega) _
            case measure => simp [intOf]; omega
        · obtain rfl : k = M := by omega
          have hp1 : ¬ (0 : Int) < (k : Int) - k := by omega
          have hp2 : (k : Int) - k = 0 := by omega
          have o0 := HM.out.o0
          have o1 := HM.out.o1
          have o2 := HM.out.o2
          have r0 := HM.out.r0
          have r1 := HM.out.r1
          have r2 := HM.out.r2
          have f0 := HM.out.rf 0
          have f1 := HM.out.rf 1
          have f2 := HM.out.rf 2
          have hlo := HM.out.lo
          go_wp2
          refine bodyPost_ret (v := .tuple #[.agg #[.int .i64 L, .slice A2 l.length k2, .slice A3 k c3], .bool true]) (by simp [results, Try.results14, go_sem, r0, r1, r2]) rfl ⟨A2, k2, A3, k, c3, rfl, rfl, ?_, ?_, ?_⟩
          · rw [← HPK.out]
            exact ownsRow_base (ownsRow_setCell_below (ownsRow_setCell_below (ownsRow_setCell_below HM.out.pl (by simp only; omega) _) (by simp only; omega) _) (by simp only; omega) _) (by omega)
          · exact ownsRow_base (ownsRow_setCell_below (ownsRow_setCell_below (ownsRow_setCell_below HM.out.own (by simp only; omega) _) (by simp only; omega) _) (by simp only; omega) _) (by omega)
          · exact ((HBV.out.setCell (by simp) _).setCell (by simp) _).setCell (by simp) _
end Go.Proofs.Ytenpmjinbjlpbaa
