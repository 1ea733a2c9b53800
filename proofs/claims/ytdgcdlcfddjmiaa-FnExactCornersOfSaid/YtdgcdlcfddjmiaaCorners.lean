/- The corners of an ant, on both sides. -/
import Derived.Test.YtdgcdlcfddjmiaaRows2
import Derived.Test.YtdgcdlcfddjmiaaMeetO
import Derived.Test.YtdgcdlcfddjmiaaWayWalked
namespace Go.Proofs.Ytdgcdlcfddjmiaa
open Go.RowKit

def cRow (x : Int × Int × Int) : List Int := [x.1, x.2.1]
def cHead (a : Int) (m : List (Int × Int × Int)) : List (List Int) := [0, a] :: m.map cRow
theorem cHead_snoc (a : Int) (m : List (Int × Int × Int)) (k : Nat) (x : Int × Int × Int) (hx : m[k]? = some x) : cHead a (m.take (k + 1)) = cHead a (m.take k) ++ [[x.1, x.2.1]] := by
  obtain ⟨hk, rfl⟩ := List.getElem?_eq_some_iff.1 hx
  unfold cHead
  rw [List.take_succ_eq_append_getElem hk, List.map_append]
  rfl
theorem cHead_len (a : Int) (m : List (Int × Int × Int)) : (cHead a m).length = m.length + 1 := by simp [cHead]
def coR (L : Int) (l : List (Int × Int)) (ant : Int) : List (List Int) := cHead (l.getD ant.toNat (0, 0)).1 (moL ant (meL L l)) ++ if 0 < foT L l ant then [[foT L l ant, foE L l ant]] else []
def crV (L : Int) (l : List (Int × Int)) (ant : Int) : List (List Int) := if foOk L l ant then coR L l ant else []
theorem crV_ok (L : Int) (l : List (Int × Int)) (ant : Int) : ((crV L l ant).length : Int) ≤ 1000 ∧ (tot (crV L l ant) : Int) ≤ 100000 ∧ ∀ r ∈ crV L l ant, (r.length : Int) ≤ 1000 := by
  have h2 : ∀ r ∈ crV L l ant, r.length = 2 := by
    intro r hr
    unfold crV coR cHead at hr
    split at hr
    · rcases List.mem_append.1 hr with hr | hr
      · rcases List.mem_cons.1 hr with rfl | hr
        · rfl
        · obtain ⟨x, _, rfl⟩ := List.mem_map.1 hr
          rfl
      · split at hr
        · rw [List.mem_singleton] at hr; subst hr; rfl
        · cases hr
    · cases hr
  have h1 : (crV L l ant).length ≤ 258 := by
    have h3 := moV_len L l ant
    unfold crV coR
    unfold moV at h3
    split
    · rename_i h
      rw [if_pos h] at h3
      rw [List.length_append, cHead_len]
      split <;> simp <;> omega
    · simp
  have h3 : tot (crV L l ant) = 2 * (crV L l ant).length := by
    unfold tot
    generalize crV L l ant = R at *
    clear h1
    induction R with
    | nil => rfl
    | cons r R ih =>
      rw [List.map_cons, List.sum_cons, ih (fun s hs => h2 s (List.mem_cons_of_mem _ hs)), h2 r List.mem_cons_self, List.length_cons]
      omega
  refine ⟨by omega, by omega, fun r hr => by rw [h2 r hr]; decide⟩

set_option maxRecDepth 100000 in
set_option maxHeartbeats 2000000 in
theorem specCornersOf_any (L : Int) (A : Option Addr) (c : Nat) (l : List (Int × Int)) (ant : Int) (w : World) (hcap : l.length ≤ c) (hA : AntsAt w A l) :
    Calls Try.prog 37 #[.agg #[.int .i64 L, .slice A l.length c], .int .i64 ant] w fun e w' => ∃ A' n c', e = .returned (.tuple #[.slice A' n c', .bool (foOk L l ant)]) ∧ RowsOwn w' w.heap.size (.slice A' n c') (crV L l ant) ∧ Below w.heap.size w w' := by
  obtain ⟨i1, hj, hy0, hy1, hy2⟩ := info_parts refI
  have HA := Lib.hid (hA.alloc (Obj.cells #[Value.int IntKind.i64 L, Value.slice A l.length c] 31))
  clear hA
  cases hg : foOk L l ant with
  | false =>
    have HV : Hid (crV L l ant = []) := by show _ = _; simp [crV, hg]
    have HG : Hid (∀ w, AntsAt w A l → Calls Try.prog 65 #[.agg #[.int .i64 L, .slice A l.length c], .int .i64 ant] w fun e w' => e = .returned (.bool false) ∧ Below w.heap.size w w') := fun w h => roAnt_at L A c l ant false hg w h
    clear hg
    go_enter Try.func37, Try.ntmps37
    go_wp2_with fail
    refine (HG.out _ HA.out).mono ?_
    rintro e w1 ⟨rfl, hb⟩
    go_wp2
    go_ret2
    exact ⟨none, 0, 0, rfl, by rw [HV.out]; exact RowsOwn.nil _ _, ((Below.refl _ _).alloc (Nat.le_refl _) _).trans (hb.mono (by simp))⟩
  | true =>
    have HV : Hid (crV L l ant = coR L l ant) := by show _ = _; simp [crV, hg]
    have hg0 := hg
    simp only [foOk, hasB, Bool.and_eq_true, decide_eq_true_eq] at hg
    obtain ⟨hgood, h0, h1⟩ := hg
    obtain ⟨k, rfl⟩ := Int.eq_ofNat_of_zero_le h0
    have hn := good_len hgood
    have hk : k < l.length := by omega
    have HL1 := Lib.hid (good_hdr hgood).2.1
    have HG : Hid (∀ w, AntsAt w A l → Calls Try.prog 65 #[.agg #[.int .i64 L, .slice A l.length c], .int .i64 k] w fun e w' => e = .returned (.bool true) ∧ Below w.heap.size w w') := fun w h => roAnt_at L A c l k true hg0 w h
    have HM := Lib.hid (fun w h => meOf_good L A c l k w hgood hcap h0 (by omega) h)
    have HRF := Lib.hid (fun w h => roFalls_good L A c l w hgood h)
    have HRL := Lib.hid (fun w h => roLeft_good L A c l w hgood h)
    have hkf : k < (fallAs L l).length := by rw [fallAs_len hgood]; exact hk
    have hx : (fallsOf L l)[k]? = some (foT L l k) := by
      unfold fallsOf foT
      rw [hg0, if_pos rfl, List.getElem?_map, Int.toNat_natCast, List.getD_eq_getElem?_getD, List.getElem?_eq_getElem hkf]; rfl
    have hlen : (fallsOf L l).length = l.length := fallsOf_len hgood
    have HNL : Hid (nL L l ≤ l.length) := nL_le L l
    have hend : foE L l k = if k < nL L l then 0 else L := by
      unfold foE
      rw [hg0, if_pos rfl, Int.toNat_natCast]
      unfold endOf
      by_cases hlt : k < nL L l
      · rw [if_pos (fallAs_left hlt), if_pos hlt]
      · have hL := (fallAs_good2 hgood ((fallAs L l).getD k (0, 0, 0)) (by rw [List.getD_eq_getElem?_getD, List.getElem?_eq_getElem hkf]; exact List.getElem_mem hkf)).2
        rw [if_neg (by rw [fallAs_right (by omega) hkf]; omega), if_neg hlt, hL]
    have HEND := Lib.hid hend
    have hft : 0 ≤ foT L l k ∧ foT L l k ≤ 1000 := by
      unfold foT
      rw [hg0, if_pos rfl, Int.toNat_natCast]
      refine ft_bounds (fallAs_good hgood _ ?_)
      rw [List.getD_eq_getElem?_getD, List.getElem?_eq_getElem hkf]; exact List.getElem_mem hkf
    have hml : (moL k (meL L l)).length ≤ 256 := Nat.le_trans (List.length_filter_le _ _) (meL_len hgood)
    have HCO : Hid (coR L l k = cHead (l.getD k (0, 0)).1 (moL k (meL L l)) ++ if 0 < foT L l k then [[foT L l k, foE L l k]] else []) := rfl
    have HX := Lib.hid hx
    have HLEN := Lib.hid hlen
    clear hg0 hgood hx hlen hend hkf
    generalize moL k (meL L l) = m at *
    generalize coR L l k = CR at *
    generalize foT L l k = ft0 at *
    generalize foE L l k = fe0 at *
    generalize fallsOf L l = fl at *
    generalize nL L l = nl at *
    obtain ⟨_, _, he, l0, hc⟩ := HA.out.at_ hk
    have hsz : ∃ b1 off1, A = some ⟨b1, off1, none⟩ := ⟨_, _, he⟩
    obtain ⟨b1, off1, rfl⟩ := hsz
    clear he l0 hc
    have hkl : (k : Int) < (l.length : Int) := by omega
    go_enter Try.func37, Try.ntmps37
    go_wp2_with fail
    refine (HG.out _ HA.out).mono ?_
    rintro e w1 ⟨rfl, hb⟩
    have c0 : w1.cell? ⟨w.heap.size, 0, none⟩ = some (.int .i64 L) := by rw [hb.cell (p := ⟨w.heap.size, 0, none⟩) (by simp)]; simp
    have c1 : w1.cell? ⟨w.heap.size, 1, none⟩ = some (.slice (some ⟨b1, off1, none⟩) l.length c) := by rw [hb.cell (p := ⟨w.heap.size, 1, none⟩) (by simp)]; simp
    have HB := Lib.hid (((Below.refl _ w).alloc (Nat.le_refl _) _).trans (hb.mono (by simp)))
    have HA1 := Lib.hid (HA.out.below hb)
    have hs1 : w.heap.size < w1.heap.size := by have := hb.size; simp at this; omega
    clear hb
    obtain ⟨_, _, he, l0, hc⟩ := HA1.out.at_ hk
    simp only [Option.some.injEq, Addr.mk.injEq, and_true] at he
    obtain ⟨rfl, rfl⟩ := he
    have p0 := (hc k hk).1
    clear hc
    generalize (l.getD k (0, 0)).1 = at0 at *
    have HST := Lib.hid (RowsQ.start w1 0 at0)
    have d0 := alloc_some (alloc_some c0 (Obj.cells #[.int .i64 0, .int .i64 at0] 3)) (Obj.cells #[.slice (some ⟨w1.heap.size, 0, none⟩) 2 2] 47)
    have d1 := alloc_some (alloc_some c1 (Obj.cells #[.int .i64 0, .int .i64 at0] 3)) (Obj.cells #[.slice (some ⟨w1.heap.size, 0, none⟩) 2 2] 47)
    have HA2 := Lib.hid ((HA1.out.alloc (Obj.cells #[.int .i64 0, .int .i64 at0] 3)).alloc (Obj.cells #[.slice (some ⟨w1.heap.size, 0, none⟩) 2 2] 47))
    go_wp2_with fail
    refine (HM.out _ HA2.out).mono ?_
    rintro e w3 ⟨AM, n3, c3, rfl, hn3, ho3, hb3⟩
    subst hn3
    have HB3 : Hid (Below w1.heap.size w1 w3) := (((Below.refl _ w1).alloc (Nat.le_refl _) _).alloc (by simp) _).trans (hb3.mono (by simp; omega))
    have HSM := Lib.hid ho3.sl
    have HML : Hid (∀ ad, AM = some ad → w1.heap.size + 2 ≤ ad.block ∧ ad.block < w3.heap.size) := fun ad h => by
      subst h
      have := World.ownsRow.lt ho3 ad.block rfl
      simp at this
      omega
    have HR0 := Lib.hid (HST.out.below hb3)
    have hs3 : w1.heap.size + 2 ≤ w3.heap.size := by have := hb3.size; simp at this; omega
    have D0 := Lib.hid (Below.cell_some hb3 d0)
    have D1 := Lib.hid (Below.cell_some hb3 d1)
    have HA3 := Lib.hid (HA2.out.below hb3)
    clear hb3 ho3 d0 d1 c0 c1
    go_wp2
    go_loopw [6, 27] (fun v i wr => ∃ (j : Nat) (q : List (Nat × Nat × Nat)) (A5 : Option Addr) (n5 c5 : Nat), j ≤ m.length ∧ i = .int .i64 j ∧ v = .slice A5 n5 c5 ∧ Below w1.heap.size w3 wr ∧ SlAt tripS wr AM m ∧ (∀ g, (Value.slice A5 n5 c5).ownBlock = some g → g < w1.heap.size + 2 ∨ w3.heap.size ≤ g) ∧ RowsQ q wr w1.heap.size (.slice A5 n5 c5) (cHead at0 (m.take j)))
      (fun _ i _ => m.length - (intOf i).toNat)
    case atStart => exact ⟨0, _, _, 1, 1, Nat.zero_le _, rfl, rfl, Below.refl _ _, HSM.out, fun g hg => by simp [Value.ownBlock] at hg; omega, HR0.out⟩
    case round =>
      obtain ⟨j, q, A5, n5, c5, hj5, rfl, rfl, hbr, hsm, hob, hown⟩ := hrel
      obtain ⟨WR, rfl⟩ : ∃ W, W = wr := ⟨_, rfl⟩
      have HBr := Lib.hid hbr
      have hsr := hbr.size
      have HOr := Lib.hid hsm
      have HOB := Lib.hid hob
      have HR1 := Lib.hid hown
      clear hbr hown hsm hob
      by_cases hlt : j < m.length
      · obtain ⟨b, off, rfl, l0', hc⟩ := HOr.out.trip_at hlt
        have hx : m[j]? = some (m[j]'hlt) := List.getElem?_eq_getElem hlt
        obtain ⟨a0, a1, a2⟩ := hc j _ hx
        have HS := Lib.hid (cHead_snoc at0 m j _ hx)
        have HML2 := HML.out _ rfl
        have HQL : Hid (q.length ≤ 300) := by
          have := HR1.out.len
          rw [cHead_len, List.length_take] at this
          show _ ≤ _
          omega
        clear hc hx
        generalize m[j]'hlt = x at *
        obtain ⟨x1, x2, x3⟩ := x
        simp only at a0 a1 a2 HS HML2
        generalize cHead at0 (m.take j) = R at *
        have hbb : Below WR.heap.size WR (WR.alloc (Obj.cells #[.int .i64 x1, .int .i64 x2, .int .i64 x3] 42)) := (Below.refl _ _).alloc (Nat.le_refl _) _
        obtain ⟨WX, hWX⟩ : ∃ WX, WX = WR.alloc (Obj.cells #[.int .i64 x1, .int .i64 x2, .int .i64 x3] 42) := ⟨_, rfl⟩
        have hWXs : WX.heap.size = WR.heap.size + 1 := by rw [hWX]; simp
        have HR : Hid (RowsQ q (WR.alloc (Obj.cells #[.int .i64 x1, .int .i64 x2, .int .i64 x3] 42)) w1.heap.size (.slice A5 n5 c5) R) := HR1.out.below hbb
        have HBX := Lib.hid (HBr.out.trans (hbb.mono (by omega)))
        have HSX := Lib.hid (HOr.out.below hbb)
        have HLT := Lib.hid (fun g h => World.ownsRow.lt HR.out.own g h)
        clear hbb hWXs hWX
        go_wp2_with (at_builtin; go_must (refine wpList_append_slsw refS _ rfl _ _ 52 rfl w1.heap.size 47 i1 _ 24 Try.underlying52 hj hy0 hy1 hy2 rfl (by decide) (.slice A5 n5 c5) q rfl (((HR.out.own).alloc' _).alloc' _) ⟨WR.heap.size + 1 + 1, 0, none⟩ 1 1 [(WR.heap.size + 1, 2, 2)] rfl rfl (slAt_ref1 (x := (WR.heap.size + 1, 2, 2)) (heap_new (by simp))) (by have := HQL.out; simp only [List.length_cons, List.length_nil]; omega) (by simp; omega) ?_); intro A7 n7 k7 w7 ho7 hg7 hb7; have HO7 := Lib.hid ho7; have HG7 := Lib.hid hg7; have HN7 := Lib.hid hb7; clear ho7 hg7 hb7)
        have HR7 := Lib.hid (HR.out.app' (by simp; omega) (by simp) x1 x2 HO7.out HG7.out HN7.out)
        have HB7 := Lib.hid (HR.out.app_below (by simp; omega) x1 x2 HG7.out)
        go_roundw
        case rel =>
          refine ⟨j + 1, _, A7, n7, k7, by omega, by go_num, rfl, HBX.out.trans HB7.out, ?_, ?_, by rw [HS.out]; exact HR7.out⟩
          · refine SlAt.grown ((HSX.out.alloc _).alloc _) HG7.out (fun a ha h => ?_)
            simp only [Option.some.injEq] at ha
            subst ha
            have h2 := HOB.out _ h
            simp only at h2
            omega
          · intro g hg
            rcases HN7.out with h | h
            · exact HOB.out g (by rw [← h]; exact hg)
            · rw [h] at hg
              injection hg with hg
              simp at hg
              omega
        case measure => simp [intOf]; omega
      · obtain rfl : j = m.length := by omega
        have HE : Hid (m.take m.length = m) := List.take_length
        have HR2 : Hid (RowsQ q WR w1.heap.size (.slice A5 n5 c5) (cHead at0 m)) := by
          have := HR1.out
          rw [HE.out] at this
          exact this
        have HQL : Hid (q.length ≤ 300) := by
          have := HR2.out.len
          rw [cHead_len] at this
          show _ ≤ _
          omega
        have HBW := Lib.hid (HB3.out.trans HBr.out)
        have HAW := Lib.hid (HA1.out.below HBW.out)
        have c0 := (HBr.out.cell (p := ⟨w.heap.size, 0, none⟩) hs1).trans D0.out
        have c1 := (HBr.out.cell (p := ⟨w.heap.size, 1, none⟩) hs1).trans D1.out
        go_wp2_with fail
        refine (HRF.out _ HAW.out).mono ?_
        rintro e w5 ⟨A8, n8, k8, rfl, hn8, ho8, hb8⟩
        rw [HLEN.out] at hn8
        subst hn8
        obtain ⟨b8, off8, rfl, _, hc8⟩ := ho8.sl.int_at (show k < fl.length by rw [HLEN.out]; exact hk)
        have g0 := hc8 k _ HX.out
        have c0 := Below.cell_some hb8 c0
        have c1 := Below.cell_some hb8 c1
        have HB5 := Lib.hid (HBW.out.trans (hb8.mono HBW.out.size))
        have HR5 := Lib.hid (HR2.out.below hb8)
        have HA5 := Lib.hid (HAW.out.below hb8)
        clear hc8 ho8 hb8
        go_wp2_with fail
        refine (HRL.out _ HA5.out).mono ?_
        rintro e w6 ⟨rfl, hb6⟩
        have c0 := Below.cell_some hb6 c0
        have c1 := Below.cell_some hb6 c1
        have HB6 := Lib.hid (HB5.out.trans (hb6.mono HB5.out.size))
        have HR := Lib.hid (HR5.out.below hb6)
        have hs6 := HB6.out.size
        clear hb6
        by_cases hknl : k < nl
        · have hfe : fe0 = 0 := by rw [HEND.out, if_pos hknl]
          subst hfe
          have hlt' : ¬ (nl : Int) ≤ (k : Int) := by omega
          by_cases hf : 0 < ft0
          · have HC : Hid (CR = cHead at0 m ++ [[ft0, 0]]) := by show _ = _; rw [HCO.out, if_pos hf]
            go_wp2_with (at_builtin; go_must (refine wpList_append_slsw refS _ rfl _ _ 52 rfl w1.heap.size 47 i1 _ 24 Try.underlying52 hj hy0 hy1 hy2 rfl (by decide) (.slice A5 n5 c5) q rfl (((HR.out.own).alloc' _).alloc' _) ⟨w6.heap.size + 1, 0, none⟩ 1 1 [(w6.heap.size, 2, 2)] rfl rfl (slAt_ref1 (x := (w6.heap.size, 2, 2)) (heap_new (by simp))) (by have := HQL.out; simp only [List.length_cons, List.length_nil]; omega) (by simp; omega) ?_); intro A7 n7 k7 w7 ho7 hg7 hb7; have HO7 := Lib.hid ho7; have HG7 := Lib.hid hg7; have HN7 := Lib.hid hb7; clear ho7 hg7 hb7)
            have HR7 := Lib.hid (HR.out.app' hs6 rfl ft0 0 HO7.out HG7.out HN7.out)
            have HB7 := Lib.hid (HR.out.app_below hs6 ft0 0 HG7.out)
            go_ret2
            exact ⟨A7, n7, k7, rfl, by rw [HV.out, HC.out]; exact ⟨_, HR7.out.base (Nat.le_of_lt hs1)⟩, HB.out.trans ((HB6.out.trans HB7.out).mono (Nat.le_of_lt hs1))⟩
          · have HC : Hid (CR = cHead at0 m) := by show _ = _; rw [HCO.out, if_neg hf, List.append_nil]
            go_wp2
            go_ret2
            exact ⟨A5, n5, c5, rfl, by rw [HV.out, HC.out]; exact ⟨_, HR.out.base (Nat.le_of_lt hs1)⟩, HB.out.trans (HB6.out.mono (Nat.le_of_lt hs1))⟩
        · have hfe : fe0 = L := by rw [HEND.out, if_neg hknl]
          subst hfe
          have hlt' : (nl : Int) ≤ (k : Int) := by omega
          by_cases hf : 0 < ft0
          · have HC : Hid (CR = cHead at0 m ++ [[ft0, fe0]]) := by show _ = _; rw [HCO.out, if_pos hf]
            go_wp2_with (at_builtin; go_must (refine wpList_append_slsw refS _ rfl _ _ 52 rfl w1.heap.size 47 i1 _ 24 Try.underlying52 hj hy0 hy1 hy2 rfl (by decide) (.slice A5 n5 c5) q rfl (((HR.out.own).alloc' _).alloc' _) ⟨w6.heap.size + 1, 0, none⟩ 1 1 [(w6.heap.size, 2, 2)] rfl rfl (slAt_ref1 (x := (w6.heap.size, 2, 2)) (heap_new (by simp))) (by have := HQL.out; simp only [List.length_cons, List.length_nil]; omega) (by simp; omega) ?_); intro A7 n7 k7 w7 ho7 hg7 hb7; have HO7 := Lib.hid ho7; have HG7 := Lib.hid hg7; have HN7 := Lib.hid hb7; clear ho7 hg7 hb7)
            have HR7 := Lib.hid (HR.out.app' hs6 rfl ft0 fe0 HO7.out HG7.out HN7.out)
            have HB7 := Lib.hid (HR.out.app_below hs6 ft0 fe0 HG7.out)
            go_ret2
            exact ⟨A7, n7, k7, rfl, by rw [HV.out, HC.out]; exact ⟨_, HR7.out.base (Nat.le_of_lt hs1)⟩, HB.out.trans ((HB6.out.trans HB7.out).mono (Nat.le_of_lt hs1))⟩
          · have HC : Hid (CR = cHead at0 m) := by show _ = _; rw [HCO.out, if_neg hf, List.append_nil]
            go_wp2
            go_ret2
            exact ⟨A5, n5, c5, rfl, by rw [HV.out, HC.out]; exact ⟨_, HR.out.base (Nat.le_of_lt hs1)⟩, HB.out.trans (HB6.out.mono (Nat.le_of_lt hs1))⟩

set_option maxRecDepth 100000 in
set_option maxHeartbeats 2000000 in
theorem implCornersOf_any (L : Int) (A : Option Addr) (c : Nat) (l : List (Int × Int)) (ant : Int) (w : World) (hA : AntsAt w A l) :
    Calls Try.prog 38 #[.agg #[.int .i64 L, .slice A l.length c], .int .i64 ant] w fun e w' => ∃ A' n c', e = .returned (.tuple #[.slice A' n c', .bool (foOk L l ant)]) ∧ RowsOwn w' w.heap.size (.slice A' n c') (crV L l ant) ∧ Below w.heap.size w w' := by
  obtain ⟨i1, hj, hy0, hy1, hy2⟩ := info_parts refI
  have HA := Lib.hid (hA.alloc (Obj.cells #[Value.int IntKind.i64 L, Value.slice A l.length c] 31))
  clear hA
  have HM := Lib.hid (fun w h => implMeetingsOfAnt_any L A c l ant w h)
  cases hg : foOk L l ant with
  | false =>
    have HV : Hid (crV L l ant = []) := by show _ = _; simp [crV, hg]
    rw [hg] at HM
    clear hg
    go_enter Try.func38, Try.ntmps38
    go_wp2_with fail
    refine (HM.out _ HA.out).mono ?_
    rintro e w1 ⟨A1, n1, c1, rfl, _, _, hb⟩
    go_wp2
    go_ret2
    exact ⟨none, 0, 0, rfl, by rw [HV.out]; exact RowsOwn.nil _ _, ((Below.refl _ _).alloc (Nat.le_refl _) _).trans (hb.mono (by simp))⟩
  | true =>
    rw [hg] at HM
    have HV : Hid (crV L l ant = coR L l ant) := by show _ = _; simp [crV, hg]
    have hg0 := hg
    simp only [foOk, hasB, Bool.and_eq_true, decide_eq_true_eq] at hg
    obtain ⟨hgood, h0, h1⟩ := hg
    obtain ⟨k, rfl⟩ := Int.eq_ofNat_of_zero_le h0
    have hn := good_len hgood
    have hk : k < l.length := by omega
    have HL1 := Lib.hid (good_hdr hgood).2.1
    have HFO : Hid (∀ w, AntsAt w A l → Calls Try.prog 72 #[.agg #[.int .i64 L, .slice A l.length c], .int .i64 k] w fun e w' => e = .returned (.tuple #[.int .i64 (foT L l k), .int .i64 (foE L l k), .bool true]) ∧ Below w.heap.size w w') := fun w h => by
      have := implFallOf_any L A c l k w h
      rw [hg0] at this
      exact this
    have hml := moV_len L l k
    have HCO : Hid (coR L l k = cHead (l.getD k (0, 0)).1 (moV L l k) ++ if 0 < foT L l k then [[foT L l k, foE L l k]] else []) := by show _ = _; unfold coR moV; rw [hg0, if_pos rfl, Int.toNat_natCast]
    clear hg0 hgood
    generalize moV L l k = m at *
    generalize coR L l k = CR at *
    generalize foT L l k = ft0 at *
    generalize foE L l k = fe0 at *
    obtain ⟨_, _, he, l0, hc⟩ := HA.out.at_ hk
    have hsz : ∃ b1 off1, A = some ⟨b1, off1, none⟩ := ⟨_, _, he⟩
    obtain ⟨b1, off1, rfl⟩ := hsz
    clear he l0 hc
    have hkl : (k : Int) < (l.length : Int) := by omega
    go_enter Try.func38, Try.ntmps38
    go_wp2_with fail
    refine (HM.out _ HA.out).mono ?_
    rintro e w1 ⟨AM, n1, k1, rfl, hn1, ho1, hb⟩
    subst hn1
    have c0 : w1.cell? ⟨w.heap.size, 0, none⟩ = some (.int .i64 L) := by rw [hb.cell (p := ⟨w.heap.size, 0, none⟩) (by simp)]; simp
    have c1 : w1.cell? ⟨w.heap.size, 1, none⟩ = some (.slice (some ⟨b1, off1, none⟩) l.length c) := by rw [hb.cell (p := ⟨w.heap.size, 1, none⟩) (by simp)]; simp
    have HB := Lib.hid (((Below.refl _ w).alloc (Nat.le_refl _) _).trans (hb.mono (by simp)))
    have HA1 := Lib.hid (HA.out.below hb)
    have HO := Lib.hid ho1.sl
    have hs1 : w.heap.size < w1.heap.size := by have := hb.size; simp at this; omega
    clear hb ho1
    obtain ⟨_, _, he, l0, hc⟩ := HA1.out.at_ hk
    simp only [Option.some.injEq, Addr.mk.injEq, and_true] at he
    obtain ⟨rfl, rfl⟩ := he
    have p0 := (hc k hk).1
    clear hc
    generalize (l.getD k (0, 0)).1 = at0 at *
    have HST := Lib.hid (RowsQ.start w1 0 at0)
    have HB0 : Hid (Below w1.heap.size w1 ((w1.alloc (Obj.cells #[.int .i64 0, .int .i64 at0] 3)).alloc (Obj.cells #[.slice (some ⟨w1.heap.size, 0, none⟩) 2 2] 47))) := ((Below.refl _ _).alloc (Nat.le_refl _) _).alloc (by simp) _
    have C0 := Lib.hid c0
    have C1 := Lib.hid c1
    go_wp2
    clear c0 c1
    go_loopw [8, 32] (fun v i wr => ∃ (j : Nat) (q : List (Nat × Nat × Nat)) (A5 : Option Addr) (n5 c5 : Nat), j ≤ m.length ∧ i = .int .i64 j ∧ v = .slice A5 n5 c5 ∧ Below w1.heap.size w1 wr ∧ RowsQ q wr w1.heap.size (.slice A5 n5 c5) (cHead at0 (m.take j)))
      (fun _ i _ => m.length - (intOf i).toNat)
    case atStart => exact ⟨0, _, _, 1, 1, Nat.zero_le _, rfl, rfl, HB0.out, HST.out⟩
    case round =>
      obtain ⟨j, q, A5, n5, c5, hj5, rfl, rfl, hbr, hown⟩ := hrel
      obtain ⟨WR, rfl⟩ : ∃ W, W = wr := ⟨_, rfl⟩
      have HBr := Lib.hid hbr
      have hsr := hbr.size
      have HOr := Lib.hid (HO.out.below hbr)
      have HR1 := Lib.hid hown
      clear hbr hown
      by_cases hlt : j < m.length
      · obtain ⟨b, off, rfl, l0', hc⟩ := HOr.out.trip_at hlt
        have hx : m[j]? = some (m[j]'hlt) := List.getElem?_eq_getElem hlt
        obtain ⟨a0, a1, a2⟩ := hc j _ hx
        have HS := Lib.hid (cHead_snoc at0 m j _ hx)
        have HQL : Hid (q.length ≤ 300) := by
          have := HR1.out.len
          rw [cHead_len, List.length_take] at this
          show _ ≤ _
          omega
        clear hc hx
        generalize m[j]'hlt = x at *
        obtain ⟨x1, x2, x3⟩ := x
        simp only at a0 a1 a2 HS
        generalize cHead at0 (m.take j) = R at *
        have hbb : Below WR.heap.size WR (WR.alloc (Obj.cells #[.int .i64 x1, .int .i64 x2, .int .i64 x3] 42)) := (Below.refl _ _).alloc (Nat.le_refl _) _
        have HR : Hid (RowsQ q (WR.alloc (Obj.cells #[.int .i64 x1, .int .i64 x2, .int .i64 x3] 42)) w1.heap.size (.slice A5 n5 c5) R) := HR1.out.below hbb
        have HBX := Lib.hid (HBr.out.trans (hbb.mono (by omega)))
        clear hbb
        go_wp2_with (at_builtin; go_must (refine wpList_append_slsw refS _ rfl _ _ 52 rfl w1.heap.size 47 i1 _ 24 Try.underlying52 hj hy0 hy1 hy2 rfl (by decide) (.slice A5 n5 c5) q rfl (((HR.out.own).alloc' _).alloc' _) ⟨WR.heap.size + 1 + 1, 0, none⟩ 1 1 [(WR.heap.size + 1, 2, 2)] rfl rfl (slAt_ref1 (x := (WR.heap.size + 1, 2, 2)) (heap_new (by simp))) (by have := HQL.out; simp only [List.length_cons, List.length_nil]; omega) (by simp; omega) ?_); intro A7 n7 k7 w7 ho7 hg7 hb7; have HO7 := Lib.hid ho7; have HG7 := Lib.hid hg7; have HN7 := Lib.hid hb7; clear ho7 hg7 hb7)
        have HR7 := Lib.hid (HR.out.app' (by simp; omega) (by simp) x1 x2 HO7.out HG7.out HN7.out)
        have HB7 := Lib.hid (HR.out.app_below (by simp; omega) x1 x2 HG7.out)
        go_roundw
        case rel => exact ⟨j + 1, _, A7, n7, k7, by omega, by go_num, rfl, HBX.out.trans HB7.out, by rw [HS.out]; exact HR7.out⟩
        case measure => simp [intOf]; omega
      · obtain rfl : j = m.length := by omega
        have HE : Hid (m.take m.length = m) := List.take_length
        have HR2 : Hid (RowsQ q WR w1.heap.size (.slice A5 n5 c5) (cHead at0 m)) := by
          have := HR1.out
          rw [HE.out] at this
          exact this
        have HQL : Hid (q.length ≤ 300) := by
          have := HR2.out.len
          rw [cHead_len] at this
          show _ ≤ _
          omega
        have HAW := Lib.hid (HA1.out.below HBr.out)
        have c0 := Below.cell_some HBr.out C0.out
        have c1 := Below.cell_some HBr.out C1.out
        go_wp2_with fail
        refine (HFO.out _ HAW.out).mono ?_
        rintro e w6 ⟨rfl, hb6⟩
        have HB6 := Lib.hid (HBr.out.trans (hb6.mono hsr))
        have HR := Lib.hid (HR2.out.below hb6)
        have hs6 := HB6.out.size
        clear hb6
        by_cases hf : 0 < ft0
        · have HC : Hid (CR = cHead at0 m ++ [[ft0, fe0]]) := by show _ = _; rw [HCO.out, if_pos hf]
          go_wp2_with (at_builtin; go_must (refine wpList_append_slsw refS _ rfl _ _ 52 rfl w1.heap.size 47 i1 _ 24 Try.underlying52 hj hy0 hy1 hy2 rfl (by decide) (.slice A5 n5 c5) q rfl (((HR.out.own).alloc' _).alloc' _) ⟨w6.heap.size + 1, 0, none⟩ 1 1 [(w6.heap.size, 2, 2)] rfl rfl (slAt_ref1 (x := (w6.heap.size, 2, 2)) (heap_new (by simp))) (by have := HQL.out; simp only [List.length_cons, List.length_nil]; omega) (by simp; omega) ?_); intro A7 n7 k7 w7 ho7 hg7 hb7; have HO7 := Lib.hid ho7; have HG7 := Lib.hid hg7; have HN7 := Lib.hid hb7; clear ho7 hg7 hb7)
          have HR7 := Lib.hid (HR.out.app' hs6 rfl ft0 fe0 HO7.out HG7.out HN7.out)
          have HB7 := Lib.hid (HR.out.app_below hs6 ft0 fe0 HG7.out)
          go_ret2
          exact ⟨A7, n7, k7, rfl, by rw [HV.out, HC.out]; exact ⟨_, HR7.out.base (Nat.le_of_lt hs1)⟩, HB.out.trans ((HB6.out.trans HB7.out).mono (Nat.le_of_lt hs1))⟩
        · have HC : Hid (CR = cHead at0 m) := by show _ = _; rw [HCO.out, if_neg hf, List.append_nil]
          go_wp2
          go_ret2
          exact ⟨A5, n5, c5, rfl, by rw [HV.out, HC.out]; exact ⟨_, HR.out.base (Nat.le_of_lt hs1)⟩, HB.out.trans (HB6.out.mono (Nat.le_of_lt hs1))⟩
end Go.Proofs.Ytdgcdlcfddjmiaa
