/- All times at which some meet, the first and the last of them: on both sides. -/
import Derived.Test.YtlepdphdflpoaaaTimes
import Derived.Test.YtlepdphdflpoaaaCountR
import Derived.Test.YtlepdphdflpoaaaMiddle
import Derived.Test.YtlepdphdflpoaaaShelfN
import Derived.Test.YtlepdphdflpoaaaBridgeF
namespace Go.Proofs.Ytlepdphdflpoaaa
open Go.RowKit Go.Shelf Go.Lib Go.Sort

/-! ### slices.SortFunc at moments -/
structure Frac where
  val : Int × Int
  ok : FP val ∧ smallF val
instance : Inhabited Frac := ⟨⟨(0, 1), ⟨by decide, by decide⟩, by unfold smallF; simp only; omega⟩⟩
def fracS : Shape Frac := ⟨2, fun x => [.int .i64 x.1.1, .int .i64 x.1.2], fun _ => rfl, fun _ u hu => by simp at hu; rcases hu with rfl | rfl <;> rfl, by omega⟩
theorem frac_row : ∀ lf : List Frac, fracS.row lf = pairS.row (lf.map (·.1))
  | [] => rfl
  | x :: lf => by rw [Shape.row_cons, frac_row lf]; rfl
theorem own_frac {w : World} {B : Nat} {e : TypeId} {v : Value} {lf : List Frac} : SlOwn fracS w B e v lf ↔ SlOwn pairS w B e v (lf.map (·.1)) := by
  unfold SlOwn
  rw [frac_row, List.length_map]
  exact Iff.rfl
def cmpFr (x y : Frac) : Int := cmpF x.1 y.1
theorem ltOf_cmpFr (x y : Frac) : ltOf cmpFr x y = fLt x.1 y.1 := by
  rw [Bool.eq_iff_iff, fLt_iff]
  unfold ltOf
  rw [decide_eq_true_eq]
  unfold cmpFr cmpF cmpI
  split <;> (try split) <;> omega
theorem swoFr : SWO (ltOf cmpFr) where
  irrefl x := by rw [ltOf_cmpFr]; exact fLt_irrefl _
  trans x y z h1 h2 := by rw [ltOf_cmpFr] at *; exact fLt_trans x.ok.1.1 y.ok.1.1 z.ok.1.1 h1 h2
  ntrans x y z h1 h2 := by rw [ltOf_cmpFr] at *; exact fLt_ntrans x.ok.1.1 y.ok.1.1 z.ok.1.1 h1 h2
theorem grow2 (W : World) (a b : Obj) : ((W.alloc a).alloc b) = grow (W.drewN 0) (#[a] ++ #[b]) := by
  rw [alloc_eq_grow, alloc_eq_grow, grow_grow]; rfl
theorem cmpLaysFr (blk off size : Nat) (w : World) : CmpLays Try.prog 77 #[] fracS.cells fracS.size cmpFr blk off size w :=
  fun _ _ _ _ x y => (cmpMoments_any x.1 y.1 _ x.ok.2 y.ok.2).mono fun _ _ ⟨he, o1, o2, hw⟩ => ⟨he, 0, #[o1] ++ #[o2], hw.trans (grow2 _ _ _)⟩

theorem sortFr_any {w : World} {B n c : Nat} {A : Option Addr} {e : TypeId} {l : List Frac} (hll : l.length ≤ 65536) (h : SlOwn fracS w B e (.slice A n c) l) :
    Calls Try.prog 79 #[.slice A n c, .func (.func 77) #[] #[]] w fun e' w' => e' = .returned (.tuple #[]) ∧ ∃ d : List Frac, SlOwn fracS w' B e (.slice A n c) d ∧ d.Perm l ∧ (d.Pairwise fun a b => fLt b.1 a.1 = false) ∧ RowKit.Below B w w' := by
  have hlt : l.length ≤ maxLen := by
    rcases h.2 with ⟨_, h0⟩ | ⟨g, cap, cur, hv, _, _, hnc, hm, _⟩
    · omega
    · exact Nat.le_trans hnc hm
  obtain ⟨A', c', hv, _, _⟩ := h.form
  injection hv with e1 e2 e3
  subst e1; subst e2; subst e3
  rcases h.2 with ⟨hv, h0⟩ | ⟨g, cap, cur, hv, _, hg, _⟩
  · injection hv with e1 e2 e3
    have hl : l = [] := List.eq_nil_of_length_eq_zero h0
    subst e1; subst hl; subst e3
    refine (AnyF.slices_SortFunc_none sortMoment none 0 _ w).mono ?_
    rintro e' w' ⟨rfl, rfl⟩
    exact ⟨rfl, [], h, List.Perm.refl _, by simp, Below.refl _ _⟩
  · injection hv with e1 e2 e3
    subst e1
    obtain ⟨hH, hg2, hB, _⟩ := own_holdsS h
    have hs : l.toArray.size = l.length := by simp
    have eg : ∀ args w, (callFunc 77 args).run Try.prog w = .ok (.enter 77 args) w := enters_of Try.func77 (by kernel_rfl) rfl
    have hcon := AnyQ.slices_SortFunc sortMoment fracS.size Try.isAgg32 Try.sizeOf32 fracS.cells fracS.len fracS.one cmpFr swoFr 77 #[] g 0 c l.toArray w eg (cmpLaysFr g 0 l.toArray.size w) hH hg2 (by rw [hs]; omega)
    rw [hs] at hcon
    refine Calls.mono hcon ?_
    rintro e' w' ⟨rfl, d', m, os, hp, hso, rfl⟩
    have hds : d'.size = l.length := by rw [hp.1, hs]
    have hperm : d'.toList.Perm l := by
      have h3 := hp.2.2
      have e1 : d'.extract 0 l.length = d' := by rw [← hds]; exact Array.extract_size
      have e2 : l.toArray.extract 0 l.length = l.toArray := by rw [← hs]; exact Array.extract_size
      rw [e1, e2] at h3
      simpa using h3
    have hsrt : d'.toList.Pairwise fun a b => fLt b.1 a.1 = false := by
      rw [List.pairwise_iff_getElem]
      intro i j hi hj hij
      have hi' : i < d'.size := by simpa using hi
      have hj' : j < d'.size := by simpa using hj
      have := hso i j (Nat.zero_le _) hij (by omega)
      rw [getElem!_pos d' j hj', getElem!_pos d' i hi', ltOf_cmpFr] at this
      simpa using this
    have := sorted_ownS h d' hds m os
    exact ⟨rfl, d'.toList, this.1, hperm, hsrt, this.2⟩
theorem lift_frac : ∀ l : List (Int × Int), (∀ x, x ∈ l → FP x ∧ smallF x) → ∃ lf : List Frac, lf.map (fun x => x.1) = l
  | [], _ => ⟨[], rfl⟩
  | x :: l, h => by
    obtain ⟨lf, hl⟩ := lift_frac l (fun y hy => h y (List.mem_cons_of_mem x hy))
    exact ⟨⟨x, h x List.mem_cons_self⟩ :: lf, by rw [List.map_cons, hl]⟩
theorem sortN_any {w : World} {B n c : Nat} {A : Option Addr} {e : TypeId} {l : List (Int × Int)} (hP : ∀ x, x ∈ l → FP x ∧ smallF x) (hll : l.length ≤ 65536) (h : SlOwn pairS w B e (.slice A n c) l) :
    Calls Try.prog 79 #[.slice A n c, .func (.func 77) #[] #[]] w fun e' w' => e' = .returned (.tuple #[]) ∧ ∃ d : List (Int × Int), SlOwn pairS w' B e (.slice A n c) d ∧ d.Perm l ∧ (d.Pairwise fun a b => fLt b a = false) ∧ RowKit.Below B w w' := by
  obtain ⟨lf, hlf⟩ := lift_frac l hP
  subst hlf
  refine (sortFr_any (by simpa using hll) (own_frac.2 h)).mono ?_
  rintro e' w' ⟨rfl, d, ho, hp, hs, hb⟩
  exact ⟨rfl, d.map (·.1), own_frac.1 ho, hp.map _, by rw [List.pairwise_map]; exact hs, hb⟩

/-! ### MeetMoments -/
def mmV (l : List (Int × Int)) : List (Int × Int) := if rnnB l then mmL l else []
theorem mmV_len (l : List (Int × Int)) : (mmV l).length ≤ 144 := by
  unfold mmV
  split
  · rename_i h; exact mmL_len h
  · simp

set_option maxRecDepth 100000 in
set_option maxHeartbeats 1000000 in
theorem specMeetMoments_any (A : Option Addr) (c : Nat) (l : List (Int × Int)) (w : World) (hcap : l.length ≤ c) (hA : AntsAt w A l) :
    Calls Try.prog 46 #[.slice A l.length c] w fun e w' => ∃ A' n' c', e = .returned (.tuple #[.slice A' n' c', .bool (rnnB l)]) ∧ n' = (mmV l).length ∧ AntsOwn w' w.heap.size 32 (.slice A' n' c') (mmV l) ∧ RowKit.Below w.heap.size w w' := by
  have HA := Lib.hid hA
  clear hA
  cases hg : rnnB l with
  | false =>
    have HV : Hid (mmV l = []) := by show _ = _; simp [mmV, hg]
    have HG := Lib.hid (spGood_at A c l false hg)
    clear hg
    go_enter Try.func46, Try.ntmps46
    go_wp2_with fail
    refine (HG.out _ HA.out).mono ?_
    rintro e w1 ⟨rfl, hb⟩
    go_wp2
    go_ret2
    exact ⟨none, 0, 0, rfl, by rw [HV.out]; rfl, by rw [HV.out]; exact SlOwn.nil pairS _ _ _, hb⟩
  | true =>
    have HV : Hid (mmV l = mmL l) := by show _ = _; simp [mmV, hg]
    have HG := Lib.hid (spGood_at A c l true hg)
    have HT := Lib.hid (fun w h => spTimes_any A c l w hg hcap h)
    clear hg
    go_enter Try.func46, Try.ntmps46
    go_wp2_with fail
    refine (HG.out _ HA.out).mono ?_
    rintro e w1 ⟨rfl, hb⟩
    have HB1 := Lib.hid hb
    clear hb
    go_wp2_with fail
    refine (HT.out _ (HA.out.below HB1.out)).mono ?_
    rintro e w2 ⟨A2, n2, c2, rfl, hn2, ho2, hb2⟩
    have HN2 := Lib.hid hn2
    clear hn2
    go_wp2
    go_ret2
    exact ⟨_, _, _, rfl, by rw [HV.out]; exact HN2.out, by rw [HV.out]; exact SlOwn.base ho2 HB1.out.size, HB1.out.trans (hb2.mono HB1.out.size)⟩

set_option maxRecDepth 100000 in
set_option maxHeartbeats 2000000 in
theorem implMeetMoments_any (A : Option Addr) (c : Nat) (l : List (Int × Int)) (w : World) (hcap : l.length ≤ c) (hA : AntsAt w A l) :
    Calls Try.prog 47 #[.slice A l.length c] w fun e w' => ∃ A' n' c', e = .returned (.tuple #[.slice A' n' c', .bool (rnnB l)]) ∧ n' = (mmV l).length ∧ AntsOwn w' w.heap.size 32 (.slice A' n' c') (mmV l) ∧ RowKit.Below w.heap.size w w' := by
  obtain ⟨i0, hi, hz0, hz1, hz2⟩ := info_parts momInfo
  have HA := Lib.hid hA
  clear hA
  cases hg : rnnB l with
  | false =>
    have HV : Hid (mmV l = []) := by show _ = _; simp [mmV, hg]
    have HG := Lib.hid (areRunners_at A c l false hg)
    clear hg
    go_enter Try.func47, Try.ntmps47
    go_wp2
    go_step3
    go_wp2_with fail
    refine (HG.out _ HA.out).mono ?_
    rintro e w1 ⟨rfl, hb⟩
    go_wp2
    try rw [Exit.noGoto_ret]
    go_ret2
    exact ⟨none, 0, 0, rfl, by rw [HV.out]; rfl, by rw [HV.out]; exact SlOwn.nil pairS _ _ _, hb⟩
  | true =>
    have HV : Hid (mmV l = mmL l) := by show _ = _; simp [mmV, hg]
    have HG := Lib.hid (areRunners_at A c l true hg)
    have HT := Lib.hid (fun w h => timesOfPairs_any A c l w hg hcap h)
    have HOF : Hid (∀ m : List (Int × Int), m.Perm (ddK (tiL l) (tiL l).length) → (m.Pairwise fun a b => fLt b a = false) → m = mmL l) := fun m h1 h2 => mmL_of hg h1 h2
    have HFP : Hid (∀ x, x ∈ ddK (tiL l) (tiL l).length → FP x ∧ smallF x) := fun x hx => by
      have h1 := (ddK_mem (tiL l) _ (Nat.le_refl _) x).1 hx
      rw [List.take_length] at h1
      exact ⟨fp_ti hg h1, small_met hg h1⟩
    have hs144 : (tiL l).length ≤ 144 := tiK_144 (rnn_len hg) (rnn_len hg)
    clear hg
    generalize tiL l = s at *
    go_enter Try.func47, Try.ntmps47
    go_wp2
    go_step3
    go_wp2_with fail
    refine (HG.out _ HA.out).mono ?_
    rintro e w1 ⟨rfl, hb⟩
    have HB1 := Lib.hid hb
    clear hb
    go_wp2
    go_step3
    go_wp2_with fail
    refine (HT.out _ (HA.out.below HB1.out)).mono ?_
    rintro e w2 ⟨A2, n2, c2, rfl, hn2, ho2, hb2⟩
    have HS2 := Lib.hid (slAt_ants ho2.sl)
    have HB2 := Lib.hid (HB1.out.trans (hb2.mono HB1.out.size))
    have hs2 := HB2.out.size
    subst hn2
    clear ho2 hb2
    go_wp2
    go_loopw [4, 15] (fun v i wr => ∃ (k : Nat) (A3 : Option Addr) (n3 c3 : Nat), k ≤ s.length ∧ i = .int .i64 k ∧ v = .slice A3 n3 c3 ∧ RowKit.Below w2.heap.size w2 wr ∧ SlOwn pairS wr w2.heap.size 32 (.slice A3 n3 c3) (ddK s k))
      (fun _ i _ => s.length - (intOf i).toNat)
    case atStart => exact ⟨0, none, 0, 0, Nat.zero_le _, rfl, rfl, Below.refl _ _, SlOwn.nil pairS _ _ _⟩
    case round =>
      obtain ⟨k, A6, n6, c6, hk, rfl, rfl, hbr, hown⟩ := hrel
      obtain ⟨W1, rfl⟩ : ∃ W, W = wr := ⟨_, rfl⟩
      have HB11 := Lib.hid hbr
      have hs11 := hbr.size
      have HSr := Lib.hid (HS2.out.below hbr)
      have HO := Lib.hid hown
      clear hbr hown
      by_cases hlt : k < s.length
      · obtain ⟨b1, off1, rfl, l0, hc⟩ := HSr.out.at_ hlt
        obtain ⟨a0, a1⟩ := hc k hlt
        have HIN : Hid (s.getD k (0, 0) ∈ ddK s k → ddK s (k + 1) = ddK s k) := fun h => ddK_in h
        have HOUT : Hid (¬ s.getD k (0, 0) ∈ ddK s k → ddK s (k + 1) = ddK s k ++ [s.getD k (0, 0)]) := fun h => ddK_out h
        have HLEN : Hid ((ddK s k).length ≤ 200) := by show _ ≤ _; have := ddK_len s k; omega
        clear hc
        generalize s.getD k (0, 0) = x at *
        obtain ⟨T, P⟩ := x
        simp only at a0 a1
        generalize hdd : ddK s k = m at *
        clear hdd
        have HN6 := Lib.hid (own_len HO.out)
        obtain ⟨W3, hW3⟩ : ∃ X, X = W1.alloc (Obj.cells #[Value.int IntKind.i64 T, Value.int IntKind.i64 P] 32) := ⟨_, rfl⟩
        have Z0 : Hid (W3.cell? ⟨W1.heap.size, 0, none⟩ = some (.int .i64 T)) := by show _ = _; rw [hW3]; simp
        have Z1 : Hid (W3.cell? ⟨W1.heap.size, 1, none⟩ = some (.int .i64 P)) := by show _ = _; rw [hW3]; simp
        have hb13 : RowKit.Below W1.heap.size W1 W3 := by rw [hW3]; exact (Below.refl _ _).alloc (Nat.le_refl _) _
        have HO3 := Lib.hid (HO.out.below hb13)
        have HB13 := Lib.hid (HB11.out.trans (hb13.mono hs11))
        have hs13 : w2.heap.size ≤ W3.heap.size := HB13.out.size
        have hn6 := HN6.out
        subst hn6
        clear hb13
        go_wp2
        rw [← hW3]
        clear hW3
        go_loopw [21] (fun i w4 => ∃ j : Nat, j ≤ m.length ∧ i = .int .i64 j ∧ (∀ q, q < j → m.getD q (0, 0) ≠ (T, P)) ∧ RowKit.Below W3.heap.size W3 w4) (fun i _ => m.length - (intOf i).toNat)
        case atStart => exact ⟨0, Nat.zero_le _, rfl, fun q hq => absurd hq (Nat.not_lt_zero q), Below.refl _ _⟩
        case round =>
          obtain ⟨j, hj, rfl, hall, hb4⟩ := hrel
          obtain ⟨W4, rfl⟩ : ∃ W, W = wr := ⟨_, rfl⟩
          have HB4 := Lib.hid hb4
          have HALL := Lib.hid hall
          have z0 := Below.cell_some hb4 Z0.out
          have z1 := Below.cell_some hb4 Z1.out
          have hsl : W1.heap.size < W4.heap.size := World.block_lt_of_cell? _ _ z0
          have hs4 := hb4.size
          have hml := HLEN.out
          clear hb4 hall a0 a1
          by_cases hjl : j < m.length
          · obtain ⟨b, off, rfl, l2, hc2⟩ := (slAt_ants (HO3.out.sl.below HB4.out)).at_ hjl
            obtain ⟨b0, b1'⟩ := hc2 j hjl
            have HMEM := Lib.hid (mem_getD hjl)
            obtain ⟨v, hv⟩ : ∃ v, m.getD j (0, 0) = v := ⟨_, rfl⟩
            have HVJ := Lib.hid hv
            rw [hv] at b0 b1' HMEM
            clear hc2 hv
            obtain ⟨v1, v2⟩ := v
            simp only at b0 b1'
            by_cases heq : (v1, v2) = (T, P)
            · have HIN2 := Lib.hid (HIN.out (by rw [← heq]; exact HMEM.out))
              simp only [Prod.mk.injEq] at heq
              obtain ⟨rfl, rfl⟩ := heq
              go_wp2
              refine ⟨⟨k + 1, _, _, _, by omega, by go_num, rfl, (HB13.out.trans (HB4.out.mono hs13)).alloc (by omega) _, ?_⟩, by simp [intOf]; omega⟩
              rw [HIN2.out]
              exact (HO3.out.below HB4.out).alloc' _
            · have HAL : Hid (∀ q, q < j + 1 → m.getD q (0, 0) ≠ (T, P)) := fun q hq => by
                by_cases e : q = j
                · subst e; rw [HVJ.out]; exact heq
                · exact HALL.out q (by omega)
              by_cases hv1 : v1 = T
              · have hv1' : T = v1 := hv1.symm
                subst hv1'
                have hv2 : ¬ v2 = P := fun h => heq (by rw [h])
                have hne : (v2 == P) = false := by simpa using hv2
                go_wp2
                go_roundw
                case rel => exact ⟨j + 1, by omega, by go_num, HAL.out, HB4.out.alloc hs4 _⟩
                case measure => simp [intOf]; omega
              · have hne : (v1 == T) = false := by simpa using hv1
                go_wp2
                go_roundw
                case rel => exact ⟨j + 1, by omega, by go_num, HAL.out, HB4.out.alloc hs4 _⟩
                case measure => simp [intOf]; omega
          · have hjm : j = m.length := by omega
            subst hjm
            have HNM : Hid (¬ (T, P) ∈ m) := fun h => by
              obtain ⟨q, hq, he⟩ := List.mem_iff_getElem.1 h
              exact HALL.out q hq (by rw [getDp hq]; exact he)
            have HOU2 := Lib.hid (HOUT.out HNM.out)
            have HO4 := Lib.hid (HO3.out.below HB4.out)
            go_wp2_with (at_builtin; go_must (refine wpList_append_slsv pairS _ rfl _ _ 35 rfl w2.heap.size 32 i0 _ 16 Try.underlying35 hi hz0 hz1 hz2 rfl (by decide) (.slice A6 m.length c6) m rfl (HO4.out.alloc' _) _ 1 1 [(T, P)] rfl rfl (slAt_one (heap_new rfl)) (by have := HLEN.out; simp only [List.length_cons, List.length_nil]; omega) (by simp; omega) ?_); intro A7 n7 k7 w7 hn7 ho7 hb7; have HO7 := Lib.hid ho7; have HB7 := Lib.hid (((HB13.out.trans (HB4.out.mono hs13)).alloc (by omega) _).trans hb7); clear hn7 ho7 hb7)
            go_roundw
            case rel => exact ⟨k + 1, A7, n7, k7, by omega, by go_num, rfl, HB7.out, by rw [HOU2.out]; exact HO7.out⟩
            case measure => simp [intOf]; omega
      · obtain rfl : k = s.length := by omega
        have HN6 := Lib.hid (own_len HO.out)
        have HLD := Lib.hid (ddK_len s s.length)
        go_wp2_with fail
        refine (sortN_any HFP.out (by have := HLD.out; omega) HO.out).mono ?_
        rintro e w6 ⟨rfl, d, ho6, hp6, hs6, hb6⟩
        have HE := Lib.hid (HOF.out d hp6 hs6)
        have HPL := Lib.hid hp6.length_eq
        go_wp2
        try rw [Exit.noGoto_ret]
        go_ret2
        exact ⟨_, _, _, rfl, by rw [HV.out, ← HE.out, HPL.out]; exact HN6.out, by rw [HV.out, ← HE.out]; exact SlOwn.base ho6 hs2, HB2.out.trans ((HB11.out.trans hb6).mono hs2)⟩
end Go.Proofs.Ytlepdphdflpoaaa
