/- The rods of all ways: the program's rodsOfAllWays. -/
import Derived.Test.YtodcacifpjakdaaRods
namespace Go.Proofs.Ytodcacifpjakdaa
open Go.RowKit

set_option maxRecDepth 100000 in
set_option maxHeartbeats 4000000 in
theorem rodsOfAll_none (L : Int) (A : Option Addr) (c : Nat) (l : List Int) (w : World) (hn : (l.length : Int) ≤ 9223372036854775807) (hA : SlAt intS w A l) (hp : plB L l = false) :
    Calls Try.prog 29 #[.int .i64 L, .slice A l.length c] w fun e w' => e = .returned (.tuple #[.slice none 0 0, .bool false]) ∧ Below w.heap.size w w' := by
  have HG := Lib.hid (arePlaces_at L A c l false hp w hn hA)
  clear hA hp
  go_enter Try.func29, Try.ntmps29
  go_wp2_with fail
  refine HG.out.mono ?_
  rintro e w1 ⟨rfl, hb⟩
  go_wp2
  exact bodyPost_ret (v := .tuple #[.slice none 0 0, .bool false]) (results_tmp2 Try.results29 _ _ _) rfl ⟨rfl, hb⟩

set_option maxRecDepth 100000 in
set_option maxHeartbeats 4000000 in
theorem rodsOfAll_any (L : Int) (A : Option Addr) (c : Nat) (l : List Int) (w : World) (hA : SlAt intS w A l) (hp : plB L l = true) :
    Calls Try.prog 29 #[.int .i64 L, .slice A l.length c] w fun e w' => ∃ A' c' R, e = .returned (.tuple #[.slice A' (2 ^ l.length) c', .bool true]) ∧ R.length = 2 ^ l.length ∧ SlOwn rodS w' w.heap.size 50 (.slice A' (2 ^ l.length) c') R ∧ RodsAt w' L l R ∧ Below w.heap.size w w' := by
  obtain ⟨hh1, ⟨hl1, hl2⟩, hrow⟩ := (plB_iff L l).1 hp
  have hn : (l.length : Int) ≤ 9223372036854775807 := by omega
  have HG := Lib.hid (arePlaces_at L A c l true hp w hn hA)
  have HP := Lib.hid hp
  have HA := Lib.hid hA
  have HN := Lib.hid hn
  have HAW := Lib.hid (fun w => allWays_any l.length w hl1 hl2)
  have hpow : 1 ≤ 2 ^ l.length := Nat.one_le_two_pow
  have hp12 : 2 ^ l.length ≤ 4096 := by
    have : 2 ^ l.length ≤ 2 ^ 12 := Nat.pow_le_pow_right (by omega) hl2
    omega
  clear hA hp hn hh1 hrow
  go_enter Try.func29, Try.ntmps29
  go_wp2_with fail
  refine HG.out.mono ?_
  rintro e w1 ⟨rfl, hb⟩
  have HB1 := Lib.hid hb
  have HA1 := Lib.hid (HA.out.below hb)
  have hs1 := hb.size
  clear hb
  go_wp2_with fail
  refine (HAW.out w1).mono ?_
  rintro e w2 ⟨A2, c2, rfl, ho2, hb2⟩
  have HO2 := Lib.hid ho2
  have HB2 : Hid (Below w.heap.size w w2) := HB1.out.trans (hb2.mono hs1)
  have HA2 := Lib.hid (HA1.out.below hb2)
  have hs2 := hb2.size
  clear ho2 hb2 HA HA1 HG HAW HB1
  obtain ⟨T, hT⟩ : ∃ T, T = 2 ^ l.length := ⟨_, rfl⟩
  rw [← hT] at HO2 hpow hp12 ⊢
  have HT := Lib.hid hT
  clear hT
  obtain ⟨X, hX⟩ : ∃ X, X = (List.range T).map fun k => letL (wyN l.length k) := ⟨_, rfl⟩
  rw [← hX] at HO2
  have HXL : Hid (X.length = T) := by show _ = _; rw [hX]; simp
  have HXA : Hid (∀ k (hk : k < X.length), X[k] = letL (wyN l.length k)) := fun k hk => by subst hX; simp
  clear hX
  have HSL2 := Lib.hid HO2.out.sl
  obtain ⟨b2, off2, rfl, hlt2, -⟩ := ch_range HSL2.out (k := 0) (by rw [HXL.out]; omega)
  go_wp2_with fail
  obtain ⟨i0, hi, hz0, hz1, hz2⟩ := info_parts rodI
  obtain ⟨i1, hi1, hz10, hz11, hz12⟩ := info_parts chI
  have hs02 : w.heap.size ≤ w2.heap.size := Nat.le_trans hs1 hs2
  go_loopw [6, 19] (fun v i wr => ∃ (k : Nat) (A5 : Option Addr) (c5 : Nat) (R : List (Int × Option Addr × Nat × Nat)), k ≤ T ∧ i = .int .i64 k ∧ v = .slice A5 k c5 ∧ R.length = k ∧ Below w2.heap.size w2 wr ∧ SlOwn rodS wr w2.heap.size 50 (.slice A5 k c5) R ∧ RodsAt wr L l R)
    (fun _ i _ => T - (intOf i).toNat)
  case atStart => exact ⟨0, none, 0, [], Nat.zero_le _, rfl, rfl, rfl, Below.refl _ _, ⟨rfl, .inl ⟨rfl, rfl⟩⟩, fun j p hp => by simp at hp⟩
  case round =>
    obtain ⟨k, A5, c5, R, hk, rfl, rfl, hRl, hbr, hown, hrods⟩ := hrel
    have HBr := Lib.hid hbr
    have HOr := Lib.hid hown
    have HRl := Lib.hid hRl
    have HRr := Lib.hid hrods
    have hsr := hbr.size
    clear hbr hown hRl hrods
    by_cases hlt : k < T
    · have hki : (k : Int) < (T : Int) := by omega
      obtain ⟨b', off', hbo, hlt', hrg⟩ := ch_range (HSL2.out.below HBr.out) (k := k) (by rw [HXL.out]; omega)
      simp only [Option.some.injEq, Addr.mk.injEq, and_true] at hbo
      obtain ⟨rfl, rfl⟩ := hbo
      rw [HXA.out] at hrg
      obtain ⟨M, hM⟩ : ∃ M, M = chV (letL (wyN l.length k)) := ⟨_, rfl⟩
      rw [← hM] at hrg
      have HRG := Lib.hid hrg
      have HM := Lib.hid hM
      clear hrg hM
      have HSZM : Hid ((Try.prog.info? 66).map (·.size) = some M.length) := by show _ = _; rw [HM.out, chV_len]; exact chSiz
      have HSZA : Hid ((Try.prog.info? 66).map (·.size) = some M.toArray.size) := by show _ = _; rw [HM.out]; exact chSizV _
      have HALLM : Hid (M.toArray.all (·.oneCell') = true) := by show _ = _; rw [HM.out]; exact chAllV _
      have HME : Hid ((List.replicate 12 (Value.int .u8 0)).toArray.size = M.toArray.size) := by show _ = _; rw [HM.out, List.size_toArray, List.size_toArray, chV_len, List.length_replicate]
      have HZ : Hid ((wr.alloc (Obj.cells (List.replicate 12 (Value.int .u8 0)).toArray 66)).heap[wr.heap.size]? = some (.cells (List.replicate 12 (Value.int .u8 0)).toArray 66 (0, 0))) := heap_new rfl
      have HW6 : Hid ((((wr.alloc (Obj.cells (List.replicate 12 (Value.int .u8 0)).toArray 66)).setRow wr.heap.size M.toArray).heap[wr.heap.size]? = some (.cells M.toArray 66 (0, 0)))) := setRow_heap _ _ _ _ _ _ HZ.out
      have HB6 : Hid (Below wr.heap.size wr ((wr.alloc (Obj.cells (List.replicate 12 (Value.int .u8 0)).toArray 66)).setRow wr.heap.size M.toArray)) := below_setRow ((Below.refl _ _).alloc (Nat.le_refl _) _) (Nat.le_refl _) (by simp) _
      go_upto_region 7 with (first
        | (refine wpList_load_mid rfl 66 _ rfl b2 (off2 + k * 12) rfl M _ HRG.out chUnd rfl HSZM.out ?_)
        | (refine wpList_store_row rfl 66 _ _ rfl wr.heap.size rfl 66 (List.replicate 12 (Value.int .u8 0)).toArray M.toArray rfl HZ.out HSZA.out HME.out HALLM.out ?_))
      obtain ⟨W6, hW6⟩ : ∃ W, W = (wr.alloc (Obj.cells (List.replicate 12 (Value.int .u8 0)).toArray 66)).setRow wr.heap.size M.toArray := ⟨_, rfl⟩
      rw [← hW6] at HW6 HB6
      have hgen : ∀ V, V = (wr.alloc (Obj.cells (List.replicate 12 (Value.int .u8 0)).toArray 66)).setRow wr.heap.size M.toArray → V = W6 := fun V h => h.trans hW6.symm
      generalize hQ : World.setRow _ wr.heap.size M.toArray = V
      obtain rfl : V = W6 := hgen V hQ.symm
      clear hgen hQ hW6 HZ
      have hys := wyN_len l.length k
      have HRW : Hid (∀ W, SlAt intS W A l → Calls Try.prog 38 #[.int .i64 L, .slice A l.length c, .string (txB (wyN l.length k))] W fun e w' => ∃ A' c', e = .returned (.tuple #[.agg #[.int .i64 L, .slice A' l.length c'], .bool true]) ∧ SlOwn pairS w' W.heap.size 62 (.slice A' l.length c') (rdL l (wyN l.length k)) ∧ Below W.heap.size W w') := fun W hW => by
        refine (implRodOfWays_any L A c l (txB (wyN l.length k)) W HN.out hW).mono ?_
        rintro e w' ⟨A', n', c', he, hn', ho, hb⟩
        obtain ⟨e1, e2⟩ := rwV_tx (L := L) (l := l) (ys := wyN l.length k) HP.out hys (wyN_mem _ _)
        rw [e1, rdL_len l _ hys] at hn'
        subst hn'
        rw [e2, rwB_tx HP.out hys] at he
        rw [e1] at ho
        exact ⟨A', c', he, ho, hb⟩
      have HA6 := Lib.hid ((HA2.out.below HBr.out).below HB6.out)
      have HAd : Hid (SlAt intS V.drew A l) := HA6.out.below (Below.refl _ V).drew
      have HAz : Hid (SlAt intS (V.alloc (Obj.cells #[.int .i64 0, .slice none 0 0] 50)).drew A l) := HA6.out.below ((Below.refl _ V).alloc (Nat.le_refl _) _).drew
      have hcv : ∀ W : World, W.heap[wr.heap.size]? = some (.cells M.toArray 66 (0, 0)) → (convert 69 9 (.slice (some ⟨wr.heap.size, 0, none⟩) l.length 12)).run Try.prog W = .ok (.string (txB (wyN l.length k))) W := fun W hW => by
        have h := run_convert_bytes_back (P := Try.prog) W 69 9 5 ⟨wr.heap.size, 0, none⟩ 12 (txU (wyN l.length k)) Try.underlying69 Try.underlying5 Try.underlying9 (fun j hj => by
          have hj' : j < l.length := by rw [txU_len, hys] at hj; exact hj
          have hj2 : j < (letL (wyN l.length k)).length := by rw [letL_len, hys]; exact hj'
          rw [add_plainJ, cell_of_row W wr.heap.size (0 + j) _ _ _ hW, ← Array.getElem?_toList, HM.out, chV_pad _ (by rw [letL_len, hys]; exact hl2), txU_at]
          show (List.map _ _)[0 + j]? = _
          rw [Nat.zero_add, List.getElem?_map]
          unfold padL
          rw [List.getElem?_append_left hj2, List.getElem?_eq_getElem hj2]
          rfl)
        rw [txU_len, hys] at h
        exact h
      have cv1 := hcv V.drew HW6.out
      have cv2 := hcv (V.alloc (Obj.cells #[.int .i64 0, .slice none 0 0] 50)).drew ((heap_alloc_old _ _ (by have := (Array.getElem?_eq_some_iff.1 HW6.out).1; exact this)).trans HW6.out)
      have cv3 := hcv V HW6.out
      have cv4 := hcv (V.alloc (Obj.cells #[.int .i64 0, .slice none 0 0] 50)) ((heap_alloc_old _ _ (by have := (Array.getElem?_eq_some_iff.1 HW6.out).1; exact this)).trans HW6.out)
      have slk := fun w' => chSl_h w' wr.heap.size l.length hl2
      clear hcv hys
      obtain ⟨ys, hyY⟩ : ∃ ys, ys = wyN l.length k := ⟨_, rfl⟩
      rw [← hyY] at HRW cv1 cv2 cv3 cv4
      have HYY := Lib.hid hyY
      clear hyY
      have zZ0 : (V.alloc (Obj.cells #[.int .i64 0, .slice none 0 0] 50)).drew.cell? ⟨V.heap.size, 0, none⟩ = some (.int .i64 0) := by simp [go_sem]
      have zZ1 : (V.alloc (Obj.cells #[.int .i64 0, .slice none 0 0] 50)).drew.cell? ⟨V.heap.size, 1, none⟩ = some (.slice none 0 0) := by simp [go_sem]
      have yZ0 : (V.alloc (Obj.cells #[.int .i64 0, .slice none 0 0] 50)).drew.frozen? ⟨V.heap.size, 0, none⟩ = false := by simp [go_sem]
      have yZ1 : (V.alloc (Obj.cells #[.int .i64 0, .slice none 0 0] 50)).drew.frozen? ⟨V.heap.size, 1, none⟩ = false := by simp [go_sem]
      have BZ : Hid (Below V.heap.size V (V.alloc (Obj.cells #[.int .i64 0, .slice none 0 0] 50)).drew) := (((Below.refl _ _).alloc (Nat.le_refl _) _).drew)
      have BD : Hid (Below V.heap.size V V.drew) := ((Below.refl _ _).drew)
      simp only [Act.put]
      go_cut [9, 10] from 20 to 37 (fun p q wx => ∃ (g : Nat) (A3 : Option Addr) (k3 : Nat), p = .pointer (some ⟨g, 0, none⟩) ∧ q = .bool true ∧ V.heap.size ≤ g ∧ g < wx.heap.size ∧ Below V.heap.size V wx ∧ wx.cell? ⟨g, 0, none⟩ = some (.int .i64 L) ∧ wx.cell? ⟨g, 1, none⟩ = some (.slice A3 l.length k3) ∧ SlOwn pairS wx V.heap.size 62 (.slice A3 l.length k3) (rdL l ys))
      case first =>
        go_wp2_with fail
        refine (HRW.out _ HA6.out).mono ?_
        rintro e w3 ⟨A3, k3, rfl, ho3, hb3⟩
        have HB3 := Lib.hid hb3
        have HO3 := Lib.hid ho3
        clear ho3 hb3
        go_wp2_with fail
        go_meet
        case rel => exact ⟨w3.heap.size, A3, k3, rfl, rfl, HB3.out.size, by simp, HB3.out.alloc HB3.out.size _, by simp, by simp, ownsRow_below HO3.out ((Below.refl _ _).alloc (Nat.le_refl _) _)⟩
      case rest =>
        obtain ⟨g, A3, k3, hp, hq, hg1, hg2, hbx, o0, o1, ho⟩ := hcut
        subst hp hq
        clear cv1 cv2 cv3 cv4 slk zZ0 zZ1 yZ0 yZ1 BZ BD HAd HAz HRW
        have HBX : Hid (Below wr.heap.size wr wc) := HB6.out.trans (hbx.mono HB6.out.size)
        have hsx := HBX.out.size
        have HO3 : Hid (SlOwn pairS wc 0 62 (.slice A3 l.length k3) (rdL l (wyN l.length k))) := by show SlOwn _ _ _ _ _ _; rw [← HYY.out]; exact own_base ho (Nat.zero_le _)
        have HO7 := Lib.hid (HOr.out.below HBX.out)
        have HR7 := Lib.hid (HRr.out.below HBX.out)
        clear ho hbx
        have HRN : Hid (RodsAt wc L l (R ++ [(L, A3, l.length, k3)])) := HR7.out.snoc (by rw [HRl.out]; exact HO3.out)
        have HLN : Hid (R.length + [(L, A3, l.length, k3)].length ≤ 1048576) := by show _ ≤ _; rw [HRl.out, List.length_singleton]; omega
        go_wp2_with (at_builtin; go_must (refine wpList_append_slsg rodS _ rfl _ _ 52 rfl w2.heap.size 50 i0 _ 32 Try.underlying52 hi hz0 hz1 hz2 rfl (by decide) (.slice A5 k c5) R rfl (HO7.out.allocA _) (some ⟨wc.heap.size, 0, none⟩) 1 1 [(L, A3, l.length, k3)] rfl rfl (slAt_rod1 (heap_new rfl)) HLN.out (by simp; omega) ?_); intro A8 n8 c8 w8 hn8 ho8 hb8 hg8; obtain rfl : n8 = k + 1 := (by rw [hn8, List.length_append, HRl.out]; rfl); have HO8 := Lib.hid ho8; have HB8 : Hid (Below w2.heap.size wc w8) := ((Below.refl w2.heap.size wc).alloc (by omega) _).trans hb8; have HR8 := Lib.hid ((HRN.out.below ((Below.refl _ _).alloc (Nat.le_refl _) _)).keep (HO7.out.allocA _) hg8); clear hn8 ho8 hb8 hg8)
        go_roundw
        case rel => exact ⟨k + 1, A8, c8, R ++ [(L, A3, l.length, k3)], by omega, by go_num, rfl, by rw [List.length_append, HRl.out]; rfl, (HBr.out.trans (HBX.out.mono hsr)).trans HB8.out, HO8.out, HR8.out⟩
        case measure => simp [intOf]; omega
    · obtain rfl : k = T := by omega
      go_wp2
      refine bodyPost_ret (v := .tuple #[.slice A5 k c5, .bool true]) (results_tmp2 Try.results29 _ _ _) rfl ⟨A5, c5, R, by rw [← HT.out], HRl.out.trans HT.out, by rw [← HT.out]; exact own_base HOr.out hs02, HRr.out, HB2.out.trans (HBr.out.mono hs02)⟩
end Go.Proofs.Ytodcacifpjakdaa
