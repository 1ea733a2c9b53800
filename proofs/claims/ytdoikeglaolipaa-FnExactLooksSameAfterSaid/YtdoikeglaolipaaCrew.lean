/- What the program's crewOf returns: the ants of a circle, each one moved, told anew. -/
import Derived.Test.YtdoikeglaolipaaCrewA
import Derived.Test.YtdoikeglaolipaaShift
import Derived.Test.YtdoikeglaolipaaStep
import Derived.Deep.RegionHeld3
namespace Go.Proofs.Ytdoikeglaolipaa
open Go.RowKit
open Go.Maps (Keyed)

theorem lawK : Keyed Try.prog 3 := Maps.int_keyed Try.underlying3
theorem zeroK (w : World) : (zeroValue 26).run Try.prog w = .ok (.slice none 0 0) w := by kernel_rfl
theorem antIK : (Try.prog.info? 59).map (fun i => (i.zero, i.size, i.bytes)) = some (some (.agg #[.int .i64 0, .int .i64 0]), pairS.size, 16) := by kernel_rfl

theorem sizK : (Try.prog.info? 59).map (·.size) = some 2 := by kernel_rfl

set_option maxRecDepth 100000 in
set_option maxHeartbeats 1000000 in
theorem crewOf_with
    (HK0 : ∀ (mb : Option Nat) (W : World), Calls Try.prog 68 #[.map mb] W fun e w' => e = .returned (.func (.func 75) #[] #[.pointer (some ⟨W.heap.size, 0, none⟩)]) ∧ w' = W.alloc (.cells #[.map mb] 80))
    (HSO0 : ∀ (b k Bm : Nat) (D : VD) (W : World), W.ownsMap Try.prog 3 heldR b k D → k ≤ 1000 → Bm < W.heap.size → W.cell? ⟨Bm, 0, none⟩ = some (.map (some b)) → Calls Try.prog 67 #[.func (.func 75) #[] #[.pointer (some ⟨Bm, 0, none⟩)]] W fun e w' => ∃ A c ss n, e = .returned (.slice A n c) ∧ n = (keysL ss).length ∧ ss.Perm (intKeys D) ∧ SlOwn intS w' W.heap.size 3 (.slice A n c) (keysL ss) ∧ Below W.heap.size W w')
    (HSF0 : ∀ (B n c : Nat) (A : Option Addr) (l : List (Int × Int)) (W : World), l.length ≤ 65536 → SlOwn pairS W B 59 (.slice A n c) l → Calls Try.prog 69 #[.slice A n c, .func (.func 70) #[] #[]] W fun e w' => e = .returned (.tuple #[]) ∧ SlOwn pairS w' B 59 (.slice A n c) (srtA l) ∧ W.grownBy w' (Value.slice A n c).ownBlock)
    (N : Nat) (cap : Array Value) (f : Int × Int → Int × Int) (L : Int) (A : Option Addr) (c : Nat) (l : List (Int × Int)) (w : World)
    (hen : ∀ args w, (callFunc N args).run Try.prog w = .ok (.enter N args) w) (hl : l.length ≤ 16) (hL : 0 < L) (hL1 : L ≤ 1000000) (hf : ∀ x ∈ l, -1000000 ≤ (f x).1 ∧ (f x).1 ≤ 1000000)
    (hM : ∀ x ∈ l, ∀ W, Below w.heap.size w W → Calls Try.prog N (#[.agg #[.int .i64 x.1, .int .i64 x.2]] ++ cap) W fun e W' => e = .returned (.agg #[.int .i64 (f x).1, .int .i64 (f x).2]) ∧ Below W.heap.size W W')
    (hA : AntsAt w A l) :
    Calls Try.prog 53 #[.agg #[.int .i64 L, .slice A l.length c], .func (.func N) #[] cap] w fun e w' => e = .returned (.agg (crewV (srtA (l.map (mvK L f)))).toArray) ∧ Below w.heap.size w w' := by
  have hmm := @run_makeMap Try.prog
  have HA := Lib.hid hA
  have HM := Lib.hid hM
  have HF := Lib.hid hf
  have HK := Lib.hid HK0
  have HSO := Lib.hid HSO0
  have HSF := Lib.hid HSF0
  clear hA hM hf HK0 HSO0 HSF0
  go_enter Try.func53, Try.ntmps53
  go_wp2
  obtain ⟨W0, hW0⟩ : ∃ W0, W0 = (w.alloc (Obj.cells #[Value.int IntKind.i64 L, Value.slice A l.length c] 28)).alloc (Obj.cells (List.replicate 32 (Value.int .i64 0)).toArray 61) := ⟨_, rfl⟩
  have hs0 : W0.heap.size = w.heap.size + 1 + 1 := by rw [hW0]; simp
  have HB0 : Hid (Below w.heap.size w W0) := by show Below _ _ _; rw [hW0]; exact ((Below.refl _ w).alloc (Nat.le_refl _) _).alloc (by simp) _
  have HC0 : Hid (W0.cell? ⟨w.heap.size, 0, none⟩ = some (.int .i64 L)) := by show _ = _; rw [hW0]; simp
  have HR0 : Hid (W0.heap[w.heap.size + 1]? = some (.cells (List.replicate 32 (Value.int .i64 0)).toArray 61 (0, 0))) := by show _ = _; rw [hW0]; exact heap_new (by simp)
  have HA0 := Lib.hid (antsAt_sl (HA.out.below HB0.out))
  have HMM : Hid (MapAt (W0.alloc (.map #[] 0)) Try.prog 3 59 (w.heap.size + 1 + 1) (w.heap.size + 1 + 1) 0 (.map []) []) := by
    show MapAt _ _ _ _ _ _ _ _ _
    rw [← hs0]
    exact MapAt.made _ _ _ _
  generalize hQ : (w.alloc _).alloc _ = W1
  obtain rfl : W1 = W0 := by rw [hW0, ← hQ]; rfl
  clear hQ hW0 HA
  go_loopw [17] (fun i wr => ∃ (k : Nat) (D : VD), k ≤ l.length ∧ i = .int .i64 k ∧ MapAt wr Try.prog 3 59 (w.heap.size + 1 + 1) (w.heap.size + 1 + 1) k D ((l.take k).map (mvK L f)) ∧ Below (w.heap.size + 1 + 1) W1 wr)
    (fun i _ => l.length - (Go.RowKit.intOf i).toNat)
  case atStart => exact ⟨0, _, Nat.zero_le _, rfl, HMM.out, (Below.refl _ _).alloc (by omega) _⟩
  case round =>
    obtain ⟨k, D, hk, rfl, hmap, hbr⟩ := hrel
    have HBr := Lib.hid hbr
    have HMP := Lib.hid hmap
    clear hbr hmap HMM
    by_cases hlt : k < l.length
    · obtain ⟨b, off, rfl, l0, hc⟩ := (HA0.out.below (HBr.out.mono (by omega))).at_ hlt
      have hx := List.getElem?_eq_getElem hlt
      have a0 := hc k _ hx 0 (by decide)
      have a1 := hc k _ hx 1 (by decide)
      have HX := Lib.hid (List.getElem_mem hlt)
      have HF1 := HF.out _ HX.out
      have HMx := Lib.hid (HM.out _ HX.out)
      have HTK : Hid ((l.take (k + 1)).map (mvK L f) = (l.take k).map (mvK L f) ++ [mvK L f (l[k]'hlt)]) := by show _ = _; rw [List.take_succ_eq_append_getElem hlt, List.map_append]; rfl
      have c0 : wr.cell? ⟨w.heap.size, 0, none⟩ = some (.int .i64 L) := (HBr.out.cell (p := ⟨w.heap.size, 0, none⟩) (by simp; omega)).trans HC0.out
      have hsr : W1.heap.size ≤ wr.heap.size := HBr.out.size
      clear hc hx
      generalize l[k]'hlt = x at *
      obtain ⟨x1, x2⟩ := x
      simp only [pairS, Nat.add_zero, List.getElem?_cons_zero, List.getElem?_cons_succ] at a0 a1
      obtain ⟨y1, hy1⟩ : ∃ y, y = (f (x1, x2)).1 := ⟨_, rfl⟩
      obtain ⟨y2, hy2⟩ : ∃ y, y = (f (x1, x2)).2 := ⟨_, rfl⟩
      have HY : Hid (mvK L f (x1, x2) = (y1 % L, y2)) := by show _ = _; rw [hy1, hy2]; rfl
      rw [← hy1, ← hy2] at HMx
      rw [← hy1] at HF1
      clear hy1 hy2
      go_wp2_with fail
      refine (HMx.out _ ((HB0.out.trans (HBr.out.mono (by omega))).alloc (by omega) _)).mono ?_
      rintro e w1 ⟨rfl, hb1⟩
      have HB1 := Lib.hid (((Below.refl _ wr).alloc (Nat.le_refl _) _).trans (hb1.mono (by simp)))
      have c0 : w1.cell? ⟨w.heap.size, 0, none⟩ = some (.int .i64 L) := (HB1.out.cell (p := ⟨w.heap.size, 0, none⟩) (by simp; omega)).trans c0
      have hs1 : wr.heap.size ≤ w1.heap.size := HB1.out.size
      have hs2 : w.heap.size < w1.heap.size := by omega
      clear hb1 a0 a1
      have HAR : Hid (∀ W, Calls Try.prog 64 #[.int .i64 y1, .int .i64 L] W fun e w' => e = .returned (.int .i64 (y1 % L)) ∧ W = w') := fun W => around_any y1 L W HF1.1 HF1.2 hL hL1
      obtain ⟨z1, hz1⟩ : ∃ z, z = y1 % L := ⟨_, rfl⟩
      rw [← hz1] at HAR HY
      have hzb : 0 ≤ z1 ∧ z1 ≤ 1000000 := by
        have h1 := Int.emod_nonneg y1 (show L ≠ 0 by omega)
        have h2 := Int.emod_lt_of_pos y1 hL
        omega
      clear hz1
      go_wp2_with fail
      refine (HAR.out _).mono ?_
      rintro e w2 ⟨rfl, rfl⟩
      go_wp2
      have HBX : Hid (Below wr.heap.size wr (w1.alloc (Obj.cells #[Value.int IntKind.i64 z1, Value.int IntKind.i64 y2] 59))) := HB1.out.alloc hs1 _
      have HX0 : Hid ((w1.alloc (Obj.cells #[Value.int IntKind.i64 z1, Value.int IntKind.i64 y2] 59)).cell? ⟨w1.heap.size, 0, none⟩ = some (.int .i64 z1) ∧ (w1.alloc (Obj.cells #[Value.int IntKind.i64 z1, Value.int IntKind.i64 y2] 59)).cell? ⟨w1.heap.size, 1, none⟩ = some (.int .i64 y2)) := by
        show _ ∧ _
        constructor <;> simp
      have hsX : w1.heap.size < (w1.alloc (Obj.cells #[Value.int IntKind.i64 z1, Value.int IntKind.i64 y2] 59)).heap.size := by simp
      generalize w1.alloc (Obj.cells #[Value.int IntKind.i64 z1, Value.int IntKind.i64 y2] 59) = X at *
      obtain ⟨x0, x1'⟩ := HX0.out
      have HMX := Lib.hid (HMP.out.kept HBX.out)
      obtain ⟨v, hv, hown0, hnb⟩ := HMP.out.row z1
      have NB8 : Hid (some w1.heap.size ≠ v.ownBlock) := fun e => by
        have := (World.ownsRow.lt hown0 _ e.symm).2
        omega
      have hown := hown0.below HBX.out
      have hb1 := HMP.out.own.lt
      clear c0 HX0 HMP HMx HAR hown0
      have HV := Lib.hid hv
      have HNB := Lib.hid hnb
      have hwf : (Lit.int .i64 z1).wf = true := WalkArith.wf_i64 (by omega)
      have HKEY : Hid (keyOf Try.prog 3 (.int .i64 z1) = some (.int .i64 z1)) := Maps.keyOf_int_mk Try.underlying3 hwf
      have BD : Hid (Below X.heap.size X X.drew) := (Below.refl _ X).drew
      have BX : Hid (Below X.heap.size X (X.alloc (Obj.cells #[Value.int IntKind.i64 z1, Value.int IntKind.i64 y2] 59)).drew) := ((Below.refl _ X).alloc (Nat.le_refl _) _).drew
      have LK1 : Hid ((Instr.lookup 80 (.map (some (w.heap.size + 1 + 1))) (.int .i64 z1) false).run Try.prog X.drew = .ok v X.drew) :=
        lookup_held (HMX.out.kept BD.out).own lawK Try.underlying80 (zeroK _) Try.underlying3 hwf hv
      have LK2 : Hid ((Instr.lookup 80 (.map (some (w.heap.size + 1 + 1))) (.int .i64 z1) false).run Try.prog (X.alloc (Obj.cells #[Value.int IntKind.i64 z1, Value.int IntKind.i64 y2] 59)).drew = .ok v (X.alloc (Obj.cells #[Value.int IntKind.i64 z1, Value.int IntKind.i64 y2] 59)).drew) :=
        lookup_held (HMX.out.kept BX.out).own lawK Try.underlying80 (zeroK _) Try.underlying3 hwf hv
      have O2 : Hid (SlOwn pairS (X.alloc (Obj.cells #[Value.int IntKind.i64 z1, Value.int IntKind.i64 y2] 59)).drew (w.heap.size + 1 + 1) 59 v (atP ((l.take k).map (mvK L f)) z1)) := hown.below BX.out
      have S2 : Hid (SlAt pairS (X.alloc (Obj.cells #[Value.int IntKind.i64 z1, Value.int IntKind.i64 y2] 59)).drew (some ⟨X.heap.size, 0, none⟩) [(z1, y2)]) := slAt_one (heap_new (w := X) rfl)
      have W2 : Hid ((X.alloc (Obj.cells #[Value.int IntKind.i64 z1, Value.int IntKind.i64 y2] 59)).drew.ownsMap Try.prog 3 heldR (w.heap.size + 1 + 1) k D) := (HMX.out.kept BX.out).own
      have hlb := HMX.out.own.lt
      have LE : Hid ((atP ((l.take k).map (mvK L f)) z1).length + [(z1, y2)].length ≤ 1048576) := by
        show _ ≤ _
        have h1 : (atP ((l.take k).map (mvK L f)) z1).length ≤ ((l.take k).map (mvK L f)).length := List.length_filter_le _ _
        simp only [List.length_map, List.length_take, List.length_singleton] at *
        omega
      have c20 : (X.alloc (Obj.cells #[Value.int IntKind.i64 z1, Value.int IntKind.i64 y2] 59)).drew.cell? ⟨w1.heap.size, 0, none⟩ = some (.int .i64 z1) := alloc_some x0 _
      have c21 : (X.alloc (Obj.cells #[Value.int IntKind.i64 z1, Value.int IntKind.i64 y2] 59)).drew.cell? ⟨w1.heap.size, 1, none⟩ = some (.int .i64 y2) := alloc_some x1' _
      have HSB : Hid (w.heap.size + 1 + 1 ≤ (X.alloc (Obj.cells #[Value.int IntKind.i64 z1, Value.int IntKind.i64 y2] 59)).drew.heap.size) := Nat.le_of_lt (Nat.lt_of_lt_of_le hlb BX.out.size)
      have lk1 := LK1.out
      have lk2 := LK2.out
      clear hv hown hnb hwf
      obtain ⟨ai, hi, hz0, hz1, hz2⟩ := info_parts antIK
      go_region_held3 (fun w' => w'.cell? ⟨w1.heap.size, 0, none⟩ = some (.int .i64 z1) ∧ w'.cell? ⟨w1.heap.size, 1, none⟩ = some (.int .i64 y2))
        (first | exact ⟨x0, x1'⟩ | exact ⟨c20, c21⟩ | exact ⟨c60, c61⟩ | exact ⟨c70, c71⟩ | go_keep)
        (first
          | (refine step_append_slsw pairS _ rfl _ _ 26 rfl (w.heap.size + 1 + 1) 59 ai _ 16 Try.underlying26 hi hz0 hz1 hz2 rfl (by decide) v (atP ((l.take k).map (mvK L f)) z1) rfl O2.out ⟨X.heap.size, 0, none⟩ 1 1 [(z1, y2)] rfl rfl S2.out LE.out HSB.out ?_; intro A6 n6 k6 w6 ho6 hg6 hn6; have c60 := hg6.cell c20 (NB8.out); have c61 := hg6.cell c21 (NB8.out); have HO6 := Lib.hid ho6; have HG6 := Lib.hid hg6; have HN6 := Lib.hid hn6; clear ho6 hg6 hn6; obtain ⟨w7, hrun7, ho7, hg7⟩ := (W2.out.kept HG6.out (fun e => HNB.out e.symm)).update (d := .held (.slice A6 n6 k6)) (ps := []) (val := .slice A6 n6 k6) lawK Try.underlying80 (by unfold maxLen; omega) HKEY.out rfl; have HO7 := Lib.hid ho7; have c70 := hg7.cell c60 (fun e => by injection e with e; simp only at e; omega); have c71 := hg7.cell c61 (fun e => by injection e with e; simp only at e; omega); have HG7 := Lib.hid hg7; clear ho7 hg7))
      all_goals (
        have HB7 : Hid (Below (w.heap.size + 1 + 1) wr w7) := (((HBX.out.mono (Nat.le_of_lt hb1)).trans (BX.out.mono (Nat.le_of_lt hlb))).grown HG6.out HSB.out (fun g hg => (World.ownsRow.lt O2.out g hg).1)).grown HG7.out (Nat.le_trans HSB.out HG6.out.size) (fun g hg => by injection hg with hg; omega)
        have HM7 := Lib.hid (HMX.out.put (y := (z1, y2)) HV.out BX.out HG6.out HO6.out HN6.out HO7.out HG7.out)
        clear lk1 lk2 hrun7
        go_wp2
        go_roundw
        case rel => exact ⟨k + 1, _, by omega, by go_num, by rw [HTK.out, HY.out]; exact HM7.out, HBr.out.trans HB7.out⟩
        case measure => (simp [Go.RowKit.intOf]; omega))
    · obtain rfl : k = l.length := by omega
      obtain ⟨V1, rfl⟩ : ∃ W, W = wr := ⟨_, rfl⟩
      have HTL : Hid ((l.take l.length).map (mvK L f) = l.map (mvK L f)) := by show _ = _; rw [List.take_length]
      have HMA : Hid (MapAt V1 Try.prog 3 59 (w.heap.size + 1 + 1) (w.heap.size + 1 + 1) l.length D (l.map (mvK L f))) := by
        have := HMP.out
        rwa [HTL.out] at this
      have hml : (l.map (mvK L f)).length ≤ 16 := by simpa using hl
      have HMBD : Hid (∀ a ∈ l.map (mvK L f), 0 ≤ a.1 ∧ a.1 ≤ 1000000) := fun a ha => by
        obtain ⟨z, _, rfl⟩ := List.mem_map.1 ha
        have h1 := Int.emod_nonneg (f z).1 (show L ≠ 0 by omega)
        have h2 := Int.emod_lt_of_pos (f z).1 hL
        show 0 ≤ (f z).1 % L ∧ (f z).1 % L ≤ 1000000
        omega
      clear HMP HTL HM HF
      have HMQ : Hid (l.map (mvK L f) = l.map (mvK L f)) := rfl
      generalize hmq : l.map (mvK L f) = m at HMA hml HMBD HMQ
      have hmq' := Lib.hid hmq
      clear hmq HMQ
      have hbw := HMA.out.own.lt
      obtain ⟨X, hX⟩ : ∃ X, X = V1.alloc (Obj.cells (List.replicate 32 (Value.int .i64 0)).toArray 61) := ⟨_, rfl⟩
      have HZ : Hid (X.heap[V1.heap.size]? = some (.cells (crewV []).toArray 61 (0, 0))) := by show _ = _; rw [hX]; exact heap_new rfl
      have HBZ : Hid (Below V1.heap.size V1 X) := by show Below _ _ _; rw [hX]; exact (Below.refl _ _).alloc (Nat.le_refl _) _
      have hsZ : X.heap.size = V1.heap.size + 1 := by rw [hX]; simp
      go_wp2_with fail
      generalize hQ : V1.alloc _ = X1
      obtain rfl : X1 = X := by rw [hX, ← hQ]; rfl
      clear hQ hX
      refine (HK.out _ _).mono ?_
      rintro e wk ⟨rfl, rfl⟩
      have HBK : Hid (Below V1.heap.size V1 (X1.alloc (Obj.cells #[Value.map (some (w.heap.size + 1 + 1))] 80))) := HBZ.out.alloc (by omega) _
      have HCK : Hid ((X1.alloc (Obj.cells #[Value.map (some (w.heap.size + 1 + 1))] 80)).cell? ⟨V1.heap.size + 1, 0, none⟩ = some (.map (some (w.heap.size + 1 + 1)))) := by show _ = _; rw [← hsZ]; simp
      have HRK : Hid ((X1.alloc (Obj.cells #[Value.map (some (w.heap.size + 1 + 1))] 80)).heap[V1.heap.size]? = some (.cells (crewV []).toArray 61 (0, 0))) := (((Below.refl X1.heap.size X1).alloc (Nat.le_refl _) _).block V1.heap.size (by omega)).trans HZ.out
      have hsK : (X1.alloc (Obj.cells #[Value.map (some (w.heap.size + 1 + 1))] 80)).heap.size = X1.heap.size + 1 := by simp
      generalize X1.alloc (Obj.cells #[Value.map (some (w.heap.size + 1 + 1))] 80) = Y at *
      have HMY := Lib.hid (HMA.out.kept HBK.out)
      go_wp2_with fail
      refine (HSO.out _ l.length (V1.heap.size + 1) D _ HMY.out.own (by omega) (by omega) HCK.out).mono ?_
      rintro e w2 ⟨A2, c2, ss, n2, rfl, hn2, hss, hok, hb2⟩
      have HOK : Hid (SlOwn intS w2 Y.heap.size 3 (.slice A2 n2 c2) (keysL ss)) := hok
      obtain ⟨hkp, hkm⟩ := keysL_facts lawK HMY.out Try.underlying3 hss
      have HKP := Lib.hid hkp
      have HKB : Hid (∀ x ∈ keysL ss, 0 ≤ x ∧ x ≤ 1000000) := fun x hx => by
        obtain ⟨a, ha, rfl⟩ := (hkm x).1 hx
        exact HMBD.out a ha
      have HKN : Hid (∀ x ∈ keysL ss, 0 < (atP m x).length) := fun x hx => by
        obtain ⟨a, ha, rfl⟩ := (hkm x).1 hx
        exact List.length_pos_of_mem (List.mem_filter.2 ⟨ha, by simp⟩)
      have HGS : Hid (((keysL ss).flatMap fun k => srtA (atP m k)) = srtA m) := groups_srt m _ hkp (fun x hx => (hkm x.1).2 ⟨x, hx, rfl⟩)
      have HMS : Hid (MapS w2 Try.prog 3 59 (w.heap.size + 1 + 1) (w.heap.size + 1 + 1) l.length D m []) := (HMY.out.kept hb2).toS
      have HRL : Hid (RowsLt D V1.heap.size) := HMA.out.toS.rowsLt
      have HR2 : Hid (w2.heap[V1.heap.size]? = some (.cells (crewV []).toArray 61 (0, 0))) := (hb2.block V1.heap.size (by omega)).trans HRK.out
      have HB2 : Hid (Below (w.heap.size + 1 + 1) W1 w2) := HBr.out.trans ((HBK.out.trans (hb2.mono (by omega))).mono (Nat.le_of_lt hbw))
      clear hok hb2 hkp hkm hss HBK HCK HRK HZ HBZ HMA HMY
      generalize keysL ss = Ks at *
      subst hn2
      go_wp2
      have hKL : Ks.length ≤ 9223372036854775807 := by
        rcases HOK.out.2 with ⟨_, h0⟩ | ⟨g, cap, cur, _, _, _, hnc, hm, _⟩
        · omega
        · unfold maxLen at hm; omega
      go_loopw [10, 45] (fun n i wl => ∃ j : Nat, j ≤ Ks.length ∧ i = .int .i64 j ∧ n = .int .i64 ((fltC m Ks j).length : Nat) ∧ MapS wl Try.prog 3 59 (w.heap.size + 1 + 1) (w.heap.size + 1 + 1) l.length D m (Ks.take j) ∧ wl.heap[V1.heap.size]? = some (.cells (crewV (fltC m Ks j)).toArray 61 (0, 0)) ∧ SlOwn intS wl Y.heap.size 3 (.slice A2 Ks.length c2) Ks ∧ Below (w.heap.size + 1 + 1) W1 wl)
        (fun _ i _ => Ks.length - (Go.RowKit.intOf i).toNat)
      case atStart => exact ⟨0, Nat.zero_le _, rfl, rfl, HMS.out, HR2.out, HOK.out, HB2.out⟩
      case round =>
        obtain ⟨j, hj, rfl, rfl, hms, hrow, hok, hbl⟩ := hrel
        obtain ⟨W4, rfl⟩ : ∃ W, W = wr := ⟨_, rfl⟩
        have HMS4 := Lib.hid hms
        have HRW4 := Lib.hid hrow
        have HOK4 := Lib.hid hok
        have HBL4 := Lib.hid hbl
        have hfl := fltC_len m HKP.out j
        clear hms hrow hok hbl HMS HR2 HOK HB2
        by_cases hlt : j < Ks.length
        · obtain ⟨b, off, rfl, l0, hc⟩ := HOK4.out.sl.int_at hlt
          have a0 := hc j _ (List.getElem?_eq_getElem hlt)
          have HNW := Lib.hid (key_new HKP.out hlt)
          have HXM := Lib.hid (List.getElem_mem hlt)
          have HLT : Hid (j < Ks.length) := hlt
          have HFS := Lib.hid (fltC_snoc m Ks hlt)
          have HTS : Hid (Ks.take (j + 1) = Ks.take j ++ [Ks[j]'hlt]) := List.take_succ_eq_append_getElem hlt
          have hfl2 := fltC_len m HKP.out (j + 1)
          rw [HFS.out, List.length_append] at hfl2
          clear hc
          generalize Ks[j]'hlt = x at *
          have HXB := HKB.out x HXM.out
          obtain ⟨v, hv, hown, hnb⟩ := HMS4.out.row x
          rw [if_neg HNW.out] at hown
          obtain ⟨A5, c5, rfl, hat, _⟩ := hown.form
          have HV := Lib.hid hv
          have HO5 : Hid (SlOwn pairS W4 (w.heap.size + 1 + 1) 59 (.slice A5 (atP m x).length c5) (atP m x)) := hown
          have hal : (atP m x).length ≤ 16 := Nat.le_trans (List.length_filter_le _ _) hml
          have hsl : (srtA (atP m x)).length = (atP m x).length := srtA_len _
          have HNE5 : Hid ((Value.slice A5 (atP m x).length c5).ownBlock ≠ some V1.heap.size) := fun e => Nat.lt_irrefl _ (HRL.out x _ _ hv e)
          have hwf : (Lit.int .i64 x).wf = true := WalkArith.wf_i64 (by omega)
          have hpos := HKN.out x HXM.out
          obtain ⟨g5, rfl⟩ : ∃ g5, A5 = some ⟨g5, 0, none⟩ := by
            rcases HO5.out.2 with ⟨_, h0⟩ | ⟨g5, cap5, cur5, hv5, _⟩
            · omega
            · injection hv5 with h1 _ _
              exact ⟨g5, h1⟩
          have LK4 : (Instr.lookup 80 (.map (some (w.heap.size + 1 + 1))) (.int .i64 x) false).run Try.prog W4 = .ok (.slice (some ⟨g5, 0, none⟩) (atP m x).length c5) W4 :=
            lookup_held HMS4.out.own lawK Try.underlying80 (zeroK _) Try.underlying3 hwf hv
          have HWF := Lib.hid hwf
          have hbV := HMS4.out.own.lt
          clear hv hown hnb hat hwf
          go_wp2_with fail
          refine (HSF.out _ _ _ _ _ _ (by omega) HO5.out).mono ?_
          rintro e w5 ⟨rfl, ho5, hg5⟩
          have HO6 := Lib.hid ho5
          have HG5 := Lib.hid hg5
          have HMS5 := Lib.hid (HMS4.out.sorted HNW.out HV.out hg5 ho5)
          have HRW5 : Hid (w5.heap[V1.heap.size]? = some (.cells (crewV (fltC m Ks j)).toArray 61 (0, 0))) := (hg5.block V1.heap.size (Array.getElem?_eq_some_iff.1 HRW4.out).1 (fun e => HNE5.out e.symm)).trans HRW4.out
          clear ho5 hg5
          have lk5 : (Instr.lookup 80 (.map (some (w.heap.size + 1 + 1))) (.int .i64 x) false).run Try.prog w5.drew = .ok (.slice (some ⟨g5, 0, none⟩) (atP m x).length c5) w5.drew :=
            lookup_held (HMS5.out.kept ((Below.refl _ w5).drew)).own lawK Try.underlying80 (zeroK _) Try.underlying3 HWF.out HV.out
          have HG15 : Hid (atP m x = atP m x) := rfl
          have HRD : Hid (w5.drew.heap[V1.heap.size]? = some (.cells (crewV (fltC m Ks j)).toArray 61 (0, 0))) := HRW5.out
          have HSD : Hid (SlAt pairS w5.drew (some ⟨g5, 0, none⟩) (srtA (atP m x))) := HO6.out.sl.below ((Below.refl _ w5).drew)
          have hne : ¬ (16 : Int) = ((fltC m Ks j).length : Int) := by omega
          have hne2 : ¬ (16 : Nat) = (fltC m Ks j).length := by omega
          have HLE : Hid ((fltC m Ks j).length + (atP m x).length ≤ 16) := by show _ ≤ _; omega
          have HSL := Lib.hid hsl
          have hF16 : (fltC m Ks j).length < 16 := by omega
          clear LK4 hsl
          generalize fltC m Ks j = F at *
          have slk := fun w => sliceK_l w V1.heap.size F.length hF16
          have hle := HLE.out
          obtain ⟨w6, hcp, hr6, hg6⟩ := run_copy_rows_ex Try.prog w5.drew 26 26 3 59 V1.heap.size (F.length * 2) (16 - F.length) (16 - F.length) 2 ⟨g5, 0, none⟩ (atP m x).length c5 (crewV F) 61 (pairS.row (srtA (atP m x)))
            Try.underlying26 sizK HRD.out (by omega) (by rw [pairS.row_length, HSL.out]; rfl) HSD.out.cells_at (by rw [crew_length F (by omega), pairS.row_length, HSL.out]; show _ + _ * 2 ≤ _; omega) (pairS.row_oneCell _)
          have HR6 : Hid (w6.heap[V1.heap.size]? = some (.cells (crewV (F ++ srtA (atP m x))).toArray 61 (0, 0))) := by
            show _ = _
            rw [← crew_splice F (srtA (atP m x)) (by rw [HSL.out]; omega)]
            exact hr6
          have HG6 := Lib.hid hg6
          have hwr : IntKind.i64.wrap ((F.length : Int) + ((atP m x).length : Int)) = (F.length : Int) + ((atP m x).length : Int) := IntWalk.i64_in _ (by omega)
          clear hr6 hg6
          go_wp2
          go_region_held3 (fun _ => True)
            (trivial)
            (first
              | fail)
          all_goals (
            have HMS6 : Hid (MapS w6 Try.prog 3 59 (w.heap.size + 1 + 1) (w.heap.size + 1 + 1) l.length D m (Ks.take j ++ [x])) := (HMS5.out.kept ((Below.refl _ w5).drew)).turned HG6.out (by omega) (fun y v hv e => Nat.lt_irrefl _ (HRL.out y v _ hv e))
            have HOK6 : Hid (SlOwn intS w6 Y.heap.size 3 (.slice (some ⟨b, off, none⟩) Ks.length c2) Ks) := by
              have hb0 := World.ownsRow.lt HOK4.out b rfl
              have hg := World.ownsRow.lt HO5.out g5 rfl
              have h5 : g5 < V1.heap.size := HRL.out x _ _ HV.out rfl
              refine SlOwn.kept (SlOwn.below (SlOwn.kept HOK4.out HG5.out (.inr ?_)) ((Below.refl _ w5).drew)) HG6.out (.inr ?_)
              · intro e; have e1 : some b = some g5 := e; injection e1 with e1; omega
              · intro e; have e1 : some b = some V1.heap.size := e; injection e1 with e1; omega
            have HBL6 : Hid (Below (w.heap.size + 1 + 1) W1 w6) := by
              have h5 := HG5.out.size
              refine ((HBL4.out.grown HG5.out (Nat.le_of_lt hbV) (fun g hg => (World.ownsRow.lt HO5.out g hg).1)).drew).grown HG6.out ?_ (fun g hg => by injection hg with hg; omega)
              show _ ≤ w5.heap.size
              omega
            clear lk5 slk hcp
            go_wp2
            go_roundw
            case rel => exact ⟨j + 1, by have := HLT.out; omega, by go_num, by rw [HFS.out, List.length_append, HSL.out]; go_num, by rw [HTS.out]; exact HMS6.out, by rw [HFS.out]; exact HR6.out, HOK6.out, HBL6.out⟩
            case measure => (have := HLT.out; simp [Go.RowKit.intOf]; omega))
        · obtain rfl : j = Ks.length := by omega
          have HAL : Hid (fltC m Ks Ks.length = srtA m) := by show _ = _; rw [fltC_all, HGS.out]
          have HRF : Hid (W4.heap[V1.heap.size]? = some (.cells (crewV (srtA m)).toArray 61 (0, 0))) := by
            have := HRW4.out
            rwa [HAL.out] at this
          have HR4 : Hid (W4.heap[w.heap.size + 1]? = some (.cells (List.replicate 32 (Value.int .i64 0)).toArray 61 (0, 0))) := (HBL4.out.block (w.heap.size + 1) (by omega)).trans HR0.out
          have hsz : (crewV (srtA m)).toArray.size = 32 := by
            rw [List.size_toArray]
            exact crew_length _ (by rw [srtA_len]; omega)
          have HALL : Hid (((crewV (srtA m)).toArray.all (·.oneCell')) = true) := by show _ = _; rw [List.all_toArray]; exact List.all_eq_true.2 (crew_one _)
          have HSZ : Hid ((Try.prog.info? 61).map (·.size) = some (crewV (srtA m)).toArray.size) := by show _ = _; rw [hsz]; exact crewSiz
          have HZL : Hid ((List.replicate 32 (Value.int .i64 0)).toArray.size = (crewV (srtA m)).toArray.size) := by show _ = _; rw [hsz]; simp
          go_wp2_with (first
            | (refine wpList_load_row rfl 61 _ rfl V1.heap.size rfl 61 (crewV (srtA m)).toArray (0, 0) _ HRF.out crewUnd rfl HSZ.out ?_)
            | (refine wpList_store_row rfl 61 _ _ rfl (w.heap.size + 1) rfl 61 _ (crewV (srtA m)).toArray rfl HR4.out HSZ.out HZL.out HALL.out ?_))
          have HRE : Hid ((W4.setRow (w.heap.size + 1) (crewV (srtA m)).toArray).heap[w.heap.size + 1]? = some (.cells (crewV (srtA m)).toArray 61 (0, 0))) := setRow_heap W4 _ _ _ _ _ HR4.out
          have HBE : Hid (Below w.heap.size w (W4.setRow (w.heap.size + 1) (crewV (srtA m)).toArray)) := by
            refine (HB0.out.trans (HBL4.out.mono (by omega))).grown (row := some (w.heap.size + 1)) ⟨rfl, rfl, rfl, by simp [World.setRow], fun k _ hk => setRow_other W4 _ k _ (fun e => hk (by rw [e]))⟩ (by have := HMS4.out.own.lt; omega) (fun g hg => by injection hg with hg; omega)
          refine bodyPost_ret (v := .agg (crewV (srtA m)).toArray) (results_cell_row (p := 4) (ty := 61) Try.results53 _ _ (w.heap.size + 1) 61 _ _ _ ?_ HRE.out crewUnd rfl HSZ.out) rfl ⟨?_, HBE.out⟩
          · rfl
          · rw [hmq'.out]
end Go.Proofs.Ytdoikeglaolipaa
