/- How often a runner meets another one, on both sides. -/
import Derived.Test.YtlepdphdflpoaaaMof
import Derived.Test.YtlepdphdflpoaaaMMo
import Derived.Test.YtlepdphdflpoaaaPla
namespace Go.Proofs.Ytlepdphdflpoaaa
open Go.RowKit

set_option maxRecDepth 100000 in
set_option maxHeartbeats 2000000 in
theorem specMeetsOf_any (A : Option Addr) (c : Nat) (l : List (Int × Int)) (k : Int) (w : World) (hcap : l.length ≤ c) (hA : AntsAt w A l) :
    Calls Try.prog 50 #[.slice A l.length c, .int .i64 k] w fun e w' => e = .returned (.tuple #[.int .i64 (moV l k), .bool (moB l k)]) ∧ Below w.heap.size w w' := by
  have HA := Lib.hid hA
  clear hA
  cases hg : rnnB l with
  | false =>
    have HV : Hid (moV l k = 0 ∧ moB l k = false) := by
      show _ ∧ _
      have h : moB l k = false := by unfold moB; rw [hg]; rfl
      exact ⟨by unfold moV; rw [h]; rfl, h⟩
    have HG := Lib.hid (spGood_at A c l false hg)
    clear hg hcap
    go_enter Try.func50, Try.ntmps50
    go_wp2_with fail
    refine (HG.out _ HA.out).mono ?_
    rintro e w1 ⟨rfl, hb⟩
    go_wp2
    go_ret2
    exact ⟨ret_ib HV.out.1.symm HV.out.2.symm, hb⟩
  | true =>
    have HG := Lib.hid (spGood_at A c l true hg)
    have hl12 := rnn_len hg
    cases hin : (decide (0 ≤ k) && decide (k ≤ (l.length : Int) - 1)) with
    | false =>
      have HV : Hid (moV l k = 0 ∧ moB l k = false) := by
        show _ ∧ _
        have h : moB l k = false := by unfold moB; rw [hg, hin]; rfl
        exact ⟨by unfold moV; rw [h]; rfl, h⟩
      have HIN : Hid (∀ X, Calls Try.prog 81 #[.int .i64 k, .int .i64 0, .int .i64 ((l.length : Int) - 1)] X fun e w' => e = .returned (.bool false) ∧ X = w') := fun X => in_at _ _ _ false hin X
      clear hg hin hcap
      go_enter Try.func50, Try.ntmps50
      go_wp2_with fail
      refine (HG.out _ HA.out).mono ?_
      rintro e w1 ⟨rfl, hb⟩
      go_wp2_with fail
      refine (HIN.out _).mono ?_
      rintro e w2 ⟨rfl, rfl⟩
      go_wp2
      go_ret2
      exact ⟨ret_ib HV.out.1.symm HV.out.2.symm, hb⟩
    | true =>
      have HIN : Hid (∀ X, Calls Try.prog 81 #[.int .i64 k, .int .i64 0, .int .i64 ((l.length : Int) - 1)] X fun e w' => e = .returned (.bool true) ∧ X = w') := fun X => in_at _ _ _ true hin X
      have hb0 : moB l k = true := by unfold moB; rw [hg, hin]; rfl
      rw [Bool.and_eq_true, decide_eq_true_eq, decide_eq_true_eq] at hin
      obtain ⟨kk, rfl⟩ : ∃ kk : Nat, k = (kk : Int) := ⟨k.toNat, by omega⟩
      have HV : Hid (moV l (kk : Int) = ((toG (mmL l) l kk (mmL l).length : Nat) : Int) ∧ moB l (kk : Int) = true) := by
        show _ ∧ _
        exact ⟨by unfold moV; rw [hb0, if_pos rfl, Int.toNat_natCast], hb0⟩
      have hkl : kk < l.length := by omega
      have HTM : Hid (∀ t, t ∈ mmL l → timB t.1 t.2 = true) := fun t ht => mmL_time hg ht
      have hT := mmL_len hg
      have HSP := Lib.hid (fun w h => spTimes_any A c l w hg hcap h)
      have HGH : Hid (∀ w n d, timB n d = true → AntsAt w A l → Calls Try.prog 68 #[.slice A l.length c, .agg #[.int .i64 n, .int .i64 d]] w fun e w' => ∃ A' n' c', e = .returned (.slice A' n' c') ∧ n' = l.length ∧ SlOwn pairS w' w.heap.size 64 (.slice A' n' c') (ghL n d l) ∧ Below w.heap.size w w') := fun w n d ht h => spGhosts_any A c l n d w hg ht h
      have HGL : Hid (∀ n d, (ghL n d l).length = l.length) := fun n d => ghL_len n d l
      clear hg hin hb0 hcap
      generalize mmL l = T at *
      have HTO : Hid (∀ j, toG T l kk (j + 1) = toG T l kk j + cnG (ghL (T.getD j (0, 0)).1 (T.getD j (0, 0)).2 l) kk l.length) := fun j => rfl
      have HTB : Hid (∀ j, toG T l kk j ≤ 12 * j) := fun j => toG_le hl12 kk j
      go_enter Try.func50, Try.ntmps50
      go_wp2_with fail
      refine (HG.out _ HA.out).mono ?_
      rintro e w1 ⟨rfl, hb⟩
      have HB1 := Lib.hid hb
      have HA1 := Lib.hid (HA.out.below hb)
      clear hb
      go_wp2_with fail
      refine (HIN.out _).mono ?_
      rintro e w1' ⟨rfl, rfl⟩
      go_wp2_with fail
      refine (HSP.out _ HA1.out).mono ?_
      rintro e w2 ⟨A2, n2, c2, rfl, hn2, ho2, hb2⟩
      subst hn2
      have HS2 := Lib.hid (slAt_ants ho2.sl)
      have HB2 := Lib.hid (HB1.out.trans (hb2.mono HB1.out.size))
      have HA2 := Lib.hid (HA1.out.below hb2)
      have hs2 := HB2.out.size
      clear ho2 hb2
      go_wp2
      go_loopw [6, 26] (fun cv i wr => ∃ (j : Nat) (v : Int), j ≤ T.length ∧ i = .int .i64 j ∧ cv = .int .i64 v ∧ v = ((toG T l kk j : Nat) : Int) ∧ Below w2.heap.size w2 wr)
        (fun _ i _ => T.length - (intOf i).toNat)
      case atStart => exact ⟨0, 0, Nat.zero_le _, rfl, rfl, rfl, Below.refl _ _⟩
      case round =>
        obtain ⟨j, v, hj, rfl, rfl, hv, hbr⟩ := hrel
        obtain ⟨W1, rfl⟩ : ∃ W, W = wr := ⟨_, rfl⟩
        have HBr := Lib.hid hbr
        have hsr := hbr.size
        have HVJ := Lib.hid hv
        have hv0 : 0 ≤ v := by omega
        have hv1 : v ≤ 1728 := by have := HTB.out j; omega
        have HS := Lib.hid (HS2.out.below hbr)
        have HAr := Lib.hid (HA2.out.below hbr)
        clear hbr hv
        by_cases hlt : j < T.length
        · obtain ⟨b, off, rfl, l0, hc⟩ := HS.out.at_ hlt
          obtain ⟨a0, a1⟩ := hc j hlt
          have HTJ := Lib.hid (HTM.out _ (mem_getD hlt))
          have HSN := Lib.hid (HTO.out j)
          clear hc
          generalize T.getD j (0, 0) = t at *
          obtain ⟨t1, t2⟩ := t
          simp only at a0 a1
          have HAL : Hid (AntsAt (W1.alloc (Obj.cells #[Value.int IntKind.i64 t1, Value.int IntKind.i64 t2] 32)) A l) := HAr.out.alloc _
          have HBA : Hid (Below w2.heap.size w2 (W1.alloc (Obj.cells #[Value.int IntKind.i64 t1, Value.int IntKind.i64 t2] 32))) := HBr.out.alloc HBr.out.size _
          go_wp2_with fail
          refine (HGH.out _ t1 t2 HTJ.out HAL.out).mono ?_
          rintro e w3 ⟨A3, n3, c3, rfl, hn3, ho3, hb3⟩
          subst hn3
          have HG3 := Lib.hid (slAt_ants ho3.sl)
          have HB3 := Lib.hid (HBA.out.trans (hb3.mono HBA.out.size))
          have HLG : Hid ((ghL t1 t2 l).length = l.length) := HGL.out t1 t2
          have HSN2 : Hid (toG T l kk (j + 1) = toG T l kk j + cnG (ghL t1 t2 l) kk l.length) := HSN.out
          clear ho3 hb3 a0 a1 HSN
          generalize ghL t1 t2 l = g at *
          go_wp2
          go_loopw [6, 35] (fun cv i wq => ∃ (m : Nat) (u : Int), m ≤ l.length ∧ i = .int .i64 m ∧ cv = .int .i64 u ∧ u = v + ((cnG g kk m : Nat) : Int) ∧ Below w3.heap.size w3 wq)
            (fun _ i _ => l.length - (intOf i).toNat)
          case atStart => exact ⟨0, v, Nat.zero_le _, rfl, rfl, by simp [cnG], Below.refl _ _⟩
          case round =>
            obtain ⟨m, u, hm, rfl, rfl, hu, hbq⟩ := hrel
            obtain ⟨W4, rfl⟩ : ∃ W, W = wr := ⟨_, rfl⟩
            have HBq := Lib.hid hbq
            have HU := Lib.hid hu
            have hu0 : 0 ≤ u := by omega
            have hu1 : u ≤ 1800 := by have := cnG_le g kk m; omega
            clear hu hbq
            by_cases hmt : m < l.length
            · have hmg : m < g.length := by rw [HLG.out]; exact hmt
              have hkg : kk < g.length := by rw [HLG.out]; exact hkl
              obtain ⟨b3, off3, rfl, l3, hc3⟩ := (HG3.out.below HBq.out).at_ hmg
              obtain ⟨g0, g1⟩ := hc3 m hmg
              obtain ⟨k0, k1⟩ := hc3 kk hkg
              have hk0 : (0 : Int) ≤ (kk : Int) := by omega
              have hk1 : (kk : Int) < (l.length : Int) := by omega
              have HY : Hid (m ≠ kk → (g.getD m (0, 0)).1 = (g.getD kk (0, 0)).1 → cnG g kk (m + 1) = cnG g kk m + 1) := cnG_yes
              have HN : Hid (m ≠ kk → ¬ (g.getD m (0, 0)).1 = (g.getD kk (0, 0)).1 → cnG g kk (m + 1) = cnG g kk m) := cnG_no
              have HO : Hid (m = kk → cnG g kk (m + 1) = cnG g kk m) := cnG_own
              clear hc3 k1 hmg hkg
              generalize g.getD m (0, 0) = x at *
              generalize g.getD kk (0, 0) = y at *
              obtain ⟨x1, x2⟩ := x
              obtain ⟨y1, y2⟩ := y
              simp only at g0 g1 k0 HY HN
              have hbb : Below W4.heap.size W4 (W4.alloc (Obj.cells #[Value.int IntKind.i64 x1, Value.int IntKind.i64 x2] 64)) := (Below.refl _ _).alloc (Nat.le_refl _) _
              have HBB := Lib.hid (HBq.out.trans (hbb.mono HBq.out.size))
              clear hbb
              by_cases hmk : m = kk
              · have HE := Lib.hid (HO.out hmk)
                have d : ((m : Int) != (kk : Int)) = false := by simp [hmk]
                clear hmk HY HN HO
                go_wp2
                go_quiet (fail)
                go_wp2
                go_roundw
                case rel => exact ⟨m + 1, u, by omega, by go_num, rfl, by rw [HE.out]; exact HU.out, ⟨HBB.out.os, HBB.out.tape, HBB.out.output, HBB.out.size, HBB.out.block⟩⟩
                case measure => simp [intOf]; omega
              · have d : ((m : Int) != (kk : Int)) = true := by simp; omega
                by_cases heq : x1 = y1
                · have HE := Lib.hid (HY.out hmk heq)
                  have d2 : (x1 == y1) = true := by simp [heq]
                  clear hmk heq HY HN HO
                  go_wp2
                  go_quiet (fail)
                  go_wp2
                  go_roundw
                  case rel => exact ⟨m + 1, u + 1, by omega, by go_num, rfl, by rw [HE.out, HU.out]; omega, ⟨HBB.out.os, HBB.out.tape, HBB.out.output, HBB.out.size, HBB.out.block⟩⟩
                  case measure => simp [intOf]; omega
                · have HE := Lib.hid (HN.out hmk heq)
                  have d2 : (x1 == y1) = false := by simp [heq]
                  clear hmk heq HY HN HO
                  go_wp2
                  go_quiet (fail)
                  go_wp2
                  go_roundw
                  case rel => exact ⟨m + 1, u, by omega, by go_num, rfl, by rw [HE.out]; exact HU.out, ⟨HBB.out.os, HBB.out.tape, HBB.out.output, HBB.out.size, HBB.out.block⟩⟩
                  case measure => simp [intOf]; omega
            · obtain rfl : m = l.length := by omega
              have HE : Hid (u = ((toG T l kk (j + 1) : Nat) : Int)) := by
                show _ = _
                rw [HSN2.out, HU.out, HVJ.out]; omega
              go_wp2
              go_roundw
              case rel => exact ⟨j + 1, u, by omega, by go_num, rfl, HE.out, HB3.out.trans (HBq.out.mono HB3.out.size)⟩
              case measure => simp [intOf]; omega
        · obtain rfl : j = T.length := by omega
          go_wp2
          go_ret2
          exact ⟨ret_ib (by rw [HV.out.1, HVJ.out]) HV.out.2.symm, HB2.out.trans (HBr.out.mono hs2)⟩

theorem pl_get {n d : Int} {l : List (Int × Int)} {m : Nat} (hm : m < l.length) : (plL n d l).getD m (0, 0) = lowP ((ghL n d l).getD m (0, 0)).1 d := by
  have h1 : m < (ghL n d l).length := by rw [ghL_len]; exact hm
  have h2 : m < (plL n d l).length := by rw [plL_len]; exact hm
  rw [getDp h1, getDp h2]
  exact List.getElem_map (fun q : Int × Int => lowP q.1 d)
theorem pl_same {n d : Int} {l : List (Int × Int)} {m k : Nat} (hd : 0 < d) (hm : m < l.length) (hk : k < l.length) : (plL n d l).getD m (0, 0) = (plL n d l).getD k (0, 0) ↔ ((ghL n d l).getD m (0, 0)).1 = ((ghL n d l).getD k (0, 0)).1 := by
  rw [pl_get hm, pl_get hk]
  exact lowP_inj hd
theorem tim_pos {n d : Int} (h : timB n d = true) : 0 < d := by
  unfold timB momB at h
  simp at h
  omega

set_option maxRecDepth 100000 in
set_option maxHeartbeats 2000000 in
theorem implMeetsOf_any (A : Option Addr) (c : Nat) (l : List (Int × Int)) (k : Int) (w : World) (hcap : l.length ≤ c) (hA : AntsAt w A l) :
    Calls Try.prog 51 #[.slice A l.length c, .int .i64 k] w fun e w' => e = .returned (.tuple #[.int .i64 (moV l k), .bool (moB l k)]) ∧ Below w.heap.size w w' := by
  have HA := Lib.hid hA
  have HMM := Lib.hid (implMeetMoments_any A c l w hcap hA)
  clear hA hcap
  cases hg : rnnB l with
  | false =>
    have HV : Hid (moV l k = 0 ∧ moB l k = false) := by
      show _ ∧ _
      have h : moB l k = false := by unfold moB; rw [hg]; rfl
      exact ⟨by unfold moV; rw [h]; rfl, h⟩
    rw [hg] at HMM
    clear hg
    go_enter Try.func51, Try.ntmps51
    go_wp2_with fail
    refine HMM.out.mono ?_
    rintro e w1 ⟨A1, n1, c1, rfl, _, _, hb⟩
    go_wp2
    go_ret2
    exact ⟨ret_ib HV.out.1.symm HV.out.2.symm, hb⟩
  | true =>
    rw [hg] at HMM
    have hl12 := rnn_len hg
    by_cases hk0 : k < 0
    · have HV : Hid (moV l k = 0 ∧ moB l k = false) := by
        show _ ∧ _
        have h : moB l k = false := by unfold moB; rw [hg, decide_eq_false (show ¬ 0 ≤ k by omega)]; rfl
        exact ⟨by unfold moV; rw [h]; rfl, h⟩
      clear hg
      go_enter Try.func51, Try.ntmps51
      go_wp2_with fail
      refine HMM.out.mono ?_
      rintro e w1 ⟨A1, n1, c1, rfl, _, _, hb⟩
      go_wp2
      go_ret2
      exact ⟨ret_ib HV.out.1.symm HV.out.2.symm, hb⟩
    · by_cases hk1 : (l.length : Int) ≤ k
      · have HV : Hid (moV l k = 0 ∧ moB l k = false) := by
          show _ ∧ _
          have h : moB l k = false := by unfold moB; rw [hg, decide_eq_false (show ¬ k ≤ (l.length : Int) - 1 by omega), Bool.and_false]; rfl
          exact ⟨by unfold moV; rw [h]; rfl, h⟩
        clear hg
        go_enter Try.func51, Try.ntmps51
        go_wp2_with fail
        refine HMM.out.mono ?_
        rintro e w1 ⟨A1, n1, c1, rfl, _, _, hb⟩
        go_wp2
        go_ret2
        exact ⟨ret_ib HV.out.1.symm HV.out.2.symm, hb⟩
      · obtain ⟨kk, rfl⟩ : ∃ kk : Nat, k = (kk : Int) := ⟨k.toNat, by omega⟩
        have hb0 : moB l (kk : Int) = true := by unfold moB; rw [hg, decide_eq_true (show (0 : Int) ≤ kk by omega), decide_eq_true (show (kk : Int) ≤ (l.length : Int) - 1 by omega)]; rfl
        have HV : Hid (moV l (kk : Int) = ((toG (mmL l) l kk (mmL l).length : Nat) : Int) ∧ moB l (kk : Int) = true) := by
          show _ ∧ _
          exact ⟨by unfold moV; rw [hb0, if_pos rfl, Int.toNat_natCast], hb0⟩
        have hkl : kk < l.length := by omega
        have hnk : decide (l.length ≤ kk) = false := by simp; omega
        have hnz : decide ((kk : Int) < 0) = false := by simp
        have HTM : Hid (∀ t, t ∈ mmL l → timB t.1 t.2 = true) := fun t ht => mmL_time hg ht
        have hT := mmL_len hg
        have hmv : mmV l = mmL l := by unfold mmV; rw [hg]; rfl
        rw [hmv] at HMM
        have HPL : Hid (∀ w n d, timB n d = true → AntsAt w A l → Calls Try.prog 71 #[.slice A l.length c, .agg #[.int .i64 n, .int .i64 d]] w fun e w' => ∃ A' n' c', e = .returned (.slice A' n' c') ∧ n' = l.length ∧ SlOwn pairS w' w.heap.size 32 (.slice A' n' c') (plL n d l) ∧ Below w.heap.size w w') := fun w n d ht h => placesOfAll_any A c l n d w hg ht h
        have HSL : Hid (∀ n d, (plL n d l).length = l.length) := fun n d => plL_len n d l
        have HCN : Hid (∀ n d m, timB n d = true → m < l.length → (m ≠ kk → (plL n d l).getD m (0, 0) = (plL n d l).getD kk (0, 0) → cnG (ghL n d l) kk (m + 1) = cnG (ghL n d l) kk m + 1) ∧ (m ≠ kk → ¬ (plL n d l).getD m (0, 0) = (plL n d l).getD kk (0, 0) → cnG (ghL n d l) kk (m + 1) = cnG (ghL n d l) kk m)) := fun n d m ht hm => ⟨fun h1 h2 => cnG_yes h1 ((pl_same (tim_pos ht) hm hkl).1 h2), fun h1 h2 => cnG_no h1 (fun h3 => h2 ((pl_same (tim_pos ht) hm hkl).2 h3))⟩
        clear hg hb0 hmv
        generalize mmL l = T at *
        have HTO : Hid (∀ j, toG T l kk (j + 1) = toG T l kk j + cnG (ghL (T.getD j (0, 0)).1 (T.getD j (0, 0)).2 l) kk l.length) := fun j => rfl
        have HTB : Hid (∀ j, toG T l kk j ≤ 12 * j) := fun j => toG_le hl12 kk j
        go_enter Try.func51, Try.ntmps51
        go_wp2_with fail
        refine HMM.out.mono ?_
        rintro e w2 ⟨A2, n2, c2, rfl, hn2, ho2, hb2⟩
        subst hn2
        have HS2 := Lib.hid (slAt_ants (SlOwn.sl ho2))
        have HB2 := Lib.hid hb2
        have HA2 := Lib.hid (HA.out.below hb2)
        have hs2 := hb2.size
        clear ho2 hb2
        go_wp2
        go_loopw [8, 33] (fun cv i wr => ∃ (j : Nat) (v : Int), j ≤ T.length ∧ i = .int .i64 j ∧ cv = .int .i64 v ∧ v = ((toG T l kk j : Nat) : Int) ∧ Below w2.heap.size w2 wr)
          (fun _ i _ => T.length - (intOf i).toNat)
        case atStart => exact ⟨0, 0, Nat.zero_le _, rfl, rfl, rfl, Below.refl _ _⟩
        case round =>
          obtain ⟨j, v, hj, rfl, rfl, hv, hbr⟩ := hrel
          obtain ⟨W1, rfl⟩ : ∃ W, W = wr := ⟨_, rfl⟩
          have HBr := Lib.hid hbr
          have hsr := hbr.size
          have HVJ := Lib.hid hv
          have hv0 : 0 ≤ v := by omega
          have hv1 : v ≤ 1728 := by have := HTB.out j; omega
          have HS := Lib.hid (HS2.out.below hbr)
          have HAr := Lib.hid (HA2.out.below hbr)
          clear hbr hv
          by_cases hlt : j < T.length
          · obtain ⟨b, off, rfl, l0, hc⟩ := HS.out.at_ hlt
            obtain ⟨a0, a1⟩ := hc j hlt
            have HTJ := Lib.hid (HTM.out _ (mem_getD hlt))
            have HSN := Lib.hid (HTO.out j)
            clear hc
            generalize T.getD j (0, 0) = t at *
            obtain ⟨t1, t2⟩ := t
            simp only at a0 a1
            have HAL : Hid (AntsAt (W1.alloc (Obj.cells #[Value.int IntKind.i64 t1, Value.int IntKind.i64 t2] 32)) A l) := HAr.out.alloc _
            have HBA : Hid (Below w2.heap.size w2 (W1.alloc (Obj.cells #[Value.int IntKind.i64 t1, Value.int IntKind.i64 t2] 32))) := HBr.out.alloc HBr.out.size _
            go_wp2_with fail
            refine (HPL.out _ t1 t2 HTJ.out HAL.out).mono ?_
            rintro e w3 ⟨A3, n3, c3, rfl, hn3, ho3, hb3⟩
            subst hn3
            have HG3 := Lib.hid (slAt_ants ho3.sl)
            have HB3 := Lib.hid (HBA.out.trans (hb3.mono HBA.out.size))
            have HLG : Hid ((plL t1 t2 l).length = l.length) := HSL.out t1 t2
            have HSN2 : Hid (toG T l kk (j + 1) = toG T l kk j + cnG (ghL t1 t2 l) kk l.length) := HSN.out
            have HCT : Hid (∀ m, m < l.length → (m ≠ kk → (plL t1 t2 l).getD m (0, 0) = (plL t1 t2 l).getD kk (0, 0) → cnG (ghL t1 t2 l) kk (m + 1) = cnG (ghL t1 t2 l) kk m + 1) ∧ (m ≠ kk → ¬ (plL t1 t2 l).getD m (0, 0) = (plL t1 t2 l).getD kk (0, 0) → cnG (ghL t1 t2 l) kk (m + 1) = cnG (ghL t1 t2 l) kk m)) := fun m => HCN.out t1 t2 m HTJ.out
            clear ho3 hb3 a0 a1 HSN
            generalize ghL t1 t2 l = g at *
            generalize plL t1 t2 l = p at *
            go_wp2
            go_loopw [8, 42] (fun cv i wq => ∃ (m : Nat) (u : Int), m ≤ l.length ∧ i = .int .i64 m ∧ cv = .int .i64 u ∧ u = v + ((cnG g kk m : Nat) : Int) ∧ Below w3.heap.size w3 wq)
              (fun _ i _ => l.length - (intOf i).toNat)
            case atStart => exact ⟨0, v, Nat.zero_le _, rfl, rfl, by simp [cnG], Below.refl _ _⟩
            case round =>
              obtain ⟨m, u, hm, rfl, rfl, hu, hbq⟩ := hrel
              obtain ⟨W4, rfl⟩ : ∃ W, W = wr := ⟨_, rfl⟩
              have HBq := Lib.hid hbq
              have HU := Lib.hid hu
              have hu0 : 0 ≤ u := by omega
              have hu1 : u ≤ 1800 := by have := cnG_le g kk m; omega
              clear hu hbq
              by_cases hmt : m < l.length
              · have hmg : m < p.length := by rw [HLG.out]; exact hmt
                have hkg : kk < p.length := by rw [HLG.out]; exact hkl
                obtain ⟨b3, off3, rfl, l3, hc3⟩ := (HG3.out.below HBq.out).at_ hmg
                obtain ⟨g0, g1⟩ := hc3 m hmg
                obtain ⟨k0, k1⟩ := hc3 kk hkg
                have hk0 : (0 : Int) ≤ (kk : Int) := by omega
                have hk1 : (kk : Int) < (l.length : Int) := by omega
                have HYN := Lib.hid (HCT.out m hmt)
                have HO : Hid (m = kk → cnG g kk (m + 1) = cnG g kk m) := cnG_own
                clear hc3 hmg hkg
                generalize p.getD m (0, 0) = x at *
                generalize p.getD kk (0, 0) = y at *
                obtain ⟨x1, x2⟩ := x
                obtain ⟨y1, y2⟩ := y
                simp only at g0 g1 k0 k1
                have hbb : Below W4.heap.size W4 (W4.alloc (Obj.cells #[Value.int IntKind.i64 x1, Value.int IntKind.i64 x2] 32)) := (Below.refl _ _).alloc (Nat.le_refl _) _
                have HBB := Lib.hid (HBq.out.trans (hbb.mono HBq.out.size))
                clear hbb
                by_cases hmk : m = kk
                · have HE := Lib.hid (HO.out hmk)
                  have d : ((m : Int) != (kk : Int)) = false := by simp [hmk]
                  clear hmk HYN HO
                  go_wp2
                  go_quiet (fail)
                  go_wp2
                  go_roundw
                  case rel => exact ⟨m + 1, u, by omega, by go_num, rfl, by rw [HE.out]; exact HU.out, ⟨HBB.out.os, HBB.out.tape, HBB.out.output, HBB.out.size, HBB.out.block⟩⟩
                  case measure => simp [intOf]; omega
                · have d : ((m : Int) != (kk : Int)) = true := by simp; omega
                  by_cases heq : x1 = y1
                  · by_cases heq2 : x2 = y2
                    · have HE := Lib.hid (HYN.out.1 hmk (by rw [heq, heq2]))
                      have d1 : (x1 == y1) = true := by simp [heq]
                      have d2 : (x2 == y2) = true := by simp [heq2]
                      clear hmk heq heq2 HYN HO
                      go_wp2
                      go_quiet (fail)
                      go_wp2
                      go_roundw
                      case rel => exact ⟨m + 1, u + 1, by omega, by go_num, rfl, by rw [HE.out, HU.out]; omega, ⟨HBB.out.os, HBB.out.tape, HBB.out.output, HBB.out.size, HBB.out.block⟩⟩
                      case measure => simp [intOf]; omega
                    · have HE := Lib.hid (HYN.out.2 hmk (by intro h; injection h with _ h; exact heq2 h))
                      have d1 : (x1 == y1) = true := by simp [heq]
                      have d2 : (x2 == y2) = false := by simp [heq2]
                      clear hmk heq heq2 HYN HO
                      go_wp2
                      go_quiet (fail)
                      go_wp2
                      go_roundw
                      case rel => exact ⟨m + 1, u, by omega, by go_num, rfl, by rw [HE.out]; exact HU.out, ⟨HBB.out.os, HBB.out.tape, HBB.out.output, HBB.out.size, HBB.out.block⟩⟩
                      case measure => simp [intOf]; omega
                  · have HE := Lib.hid (HYN.out.2 hmk (by intro h; injection h with h _; exact heq h))
                    have d1 : (x1 == y1) = false := by simp [heq]
                    clear hmk heq HYN HO
                    go_wp2
                    go_quiet (fail)
                    go_wp2
                    go_roundw
                    case rel => exact ⟨m + 1, u, by omega, by go_num, rfl, by rw [HE.out]; exact HU.out, ⟨HBB.out.os, HBB.out.tape, HBB.out.output, HBB.out.size, HBB.out.block⟩⟩
                    case measure => simp [intOf]; omega
              · obtain rfl : m = l.length := by omega
                have HE : Hid (u = ((toG T l kk (j + 1) : Nat) : Int)) := by
                  show _ = _
                  rw [HSN2.out, HU.out, HVJ.out]; omega
                go_wp2
                go_roundw
                case rel => exact ⟨j + 1, u, by omega, by go_num, rfl, HE.out, HB3.out.trans (HBq.out.mono HB3.out.size)⟩
                case measure => simp [intOf]; omega
          · obtain rfl : j = T.length := by omega
            go_wp2
            go_ret2
            exact ⟨ret_ib (by rw [HV.out.1, HVJ.out]) HV.out.2.symm, HB2.out.trans (HBr.out.mono hs2)⟩
end Go.Proofs.Ytlepdphdflpoaaa
