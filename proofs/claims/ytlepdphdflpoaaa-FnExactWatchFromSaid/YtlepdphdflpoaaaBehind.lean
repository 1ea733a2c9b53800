/- FromBehind on both sides. -/
import Derived.Test.YtlepdphdflpoaaaKept
import Derived.Test.YtlepdphdflpoaaaShelfR
import Derived.Test.YtlepdphdflpoaaaBridge
namespace Go.Proofs.Ytlepdphdflpoaaa
open Go.RowKit Go.Shelf Go.Lib Go.Sort

theorem runInfo : (Try.prog.info? 64).map (fun i => (i.zero, i.size, i.bytes)) = some (some (.agg #[.int .i64 0, .int .i64 0]), pairS.size, 16) := by kernel_rfl
theorem reverseR_any {w : World} {B n c : Nat} {A : Option Addr} {e : TypeId} {l : List (Int × Int)} (h : SlOwn pairS w B e (.slice A n c) l) :
    Calls Try.prog 83 #[.slice A n c] w fun e' w' => e' = .returned (.tuple #[]) ∧ SlOwn pairS w' B e (.slice A n c) l.reverse ∧ RowKit.Below B w w' := by
  have hlt : l.length ≤ maxLen := by
    rcases h.2 with ⟨_, h0⟩ | ⟨g, cap, cur, hv, _, _, hnc, hm, _⟩
    · omega
    · exact Nat.le_trans hnc hm
  obtain ⟨A', c', hv, _, _⟩ := h.form
  injection hv with e1 e2 e3
  subst e1; subst e2; subst e3
  rcases h.2 with ⟨hv, h0⟩ | ⟨g, cap, cur, hv, _, hg, _⟩
  · injection hv with e1 e2 e3
    have hl : l = [] := List.eq_nil_of_length_eq_zero h0
    subst e1; subst hl; subst e3
    refine (AnyQ.slices_Reverse_empty reverseRunner none 0 w).mono ?_
    rintro e' w' ⟨rfl, rfl⟩
    exact ⟨rfl, h, Below.refl _ _⟩
  · injection hv with e1 e2 e3
    subst e1
    obtain ⟨hH, hg2, hB, _⟩ := own_holds h
    have hs : l.toArray.size = l.length := by simp
    have hcon := AnyQ.slices_Reverse reverseRunner 2 Try.isAgg64 Try.sizeOf64 encP encP_len encP_one g 0 c l.toArray w hH (by unfold maxLen at hlt; rw [hs]; omega)
    rw [hs] at hcon
    refine Calls.mono hcon ?_
    rintro e' w' ⟨rfl, m, rfl⟩
    rw [putRow_sort]
    have := sorted_own h l.toArray.reverse (by simp) m #[]
    exact ⟨rfl, by simpa using this.1, this.2⟩

/-- a runner from the other side -/
def fbF (x : Int × Int) : Int × Int := (1000 - x.1, -x.2)
def fbV (l : List (Int × Int)) : List (Int × Int) := if rnnB l then (l.map fbF).reverse else []
theorem fbV_len (l : List (Int × Int)) : (fbV l).length ≤ 12 := by
  unfold fbV
  split
  · rename_i h
    have := rnn_len h
    rw [List.length_reverse, List.length_map]; exact this
  · simp
theorem fb_snoc (l : List (Int × Int)) (k : Nat) (hk : k < l.length) : (l.take (k + 1)).map fbF = (l.take k).map fbF ++ [fbF (l.getD k (0, 0))] := by
  rw [List.take_succ_eq_append_getElem hk, List.map_append, getDp hk]
  rfl
theorem fbr_snoc (l : List (Int × Int)) (k : Nat) (hk : k < l.length) : ((l.map fbF).reverse).take (k + 1) = ((l.map fbF).reverse).take k ++ [fbF (l.getD (l.length - 1 - k) (0, 0))] := by
  have hk' : k < ((l.map fbF).reverse).length := by simpa using hk
  rw [List.take_succ_eq_append_getElem hk', getDp (by omega)]
  congr 2
  rw [List.getElem_reverse, List.getElem_map]
  simp

set_option maxRecDepth 100000 in
set_option maxHeartbeats 1000000 in
theorem implFromBehind_any (A : Option Addr) (c : Nat) (l : List (Int × Int)) (w : World) (hA : AntsAt w A l) :
    Calls Try.prog 60 #[.slice A l.length c] w fun e w' => ∃ A' n' c', e = .returned (.tuple #[.slice A' n' c', .bool (rnnB l)]) ∧ n' = (fbV l).length ∧ AntsOwn w' w.heap.size 64 (.slice A' n' c') (fbV l) ∧ RowKit.Below w.heap.size w w' := by
  obtain ⟨i0, hi, hz0, hz1, hz2⟩ := info_parts runInfo
  have HA := Lib.hid hA
  clear hA
  cases hg : rnnB l with
  | false =>
    have HV : Hid (fbV l = []) := by show _ = _; simp [fbV, hg]
    have HG := Lib.hid (areRunners_at A c l false hg)
    clear hg
    go_enter Try.func60, Try.ntmps60
    go_wp2_with fail
    refine (HG.out _ HA.out).mono ?_
    rintro e w1 ⟨rfl, hb⟩
    go_wp2
    go_ret2
    exact ⟨none, 0, 0, rfl, by rw [HV.out]; rfl, by rw [HV.out]; exact SlOwn.nil pairS _ _ _, hb⟩
  | true =>
    have HV : Hid (fbV l = (l.map fbF).reverse) := by show _ = _; simp [fbV, hg]
    have HG := Lib.hid (areRunners_at A c l true hg)
    have hl := rnn_len hg
    have HGG := Lib.hid hg
    clear hg
    go_enter Try.func60, Try.ntmps60
    go_wp2_with fail
    refine (HG.out _ HA.out).mono ?_
    rintro e w1 ⟨rfl, hb⟩
    have HB1 := Lib.hid hb
    have hs1 := hb.size
    clear hb
    go_wp2_with (at_make; refine wpList_make_own _ rfl _ _ _ rfl w1.heap.size 64 i0 _ 2 Try.underlying25 hi hz0 hz1 .i64 .i64 _ l.length rfl rfl rfl (by rw [hz2]; omega) (by unfold maxLen; omega) (Nat.le_refl _) ?_; intro w2 hown hgr; have hb2 : RowKit.Below w1.heap.size w1 w2 := (Below.refl _ _).grown hgr (Nat.le_refl _) (by simp))
    have HO2 : Hid (SlOwn pairS w2 w1.heap.size 64 (.slice (some ⟨w1.heap.size, 0, none⟩) 0 l.length) ((l.take 0).map fbF)) := by
      have h : w2.ownsRow w1.heap.size 64 2 (.slice (some ⟨w1.heap.size, 0, none⟩) 0 l.length) 0 [] := by simpa using hown
      exact h
    have HB2 := Lib.hid (HB1.out.trans (hb2.mono hs1))
    clear hgr hown hb2
    go_loopw [4, 15] (fun v i wr => ∃ (k : Nat) (A5 : Option Addr) (n5 c5 : Nat), k ≤ l.length ∧ i = .int .i64 k ∧ v = .slice A5 n5 c5 ∧ RowKit.Below w.heap.size w wr ∧ w1.heap.size ≤ wr.heap.size ∧ SlOwn pairS wr w1.heap.size 64 (.slice A5 n5 c5) ((l.take k).map fbF))
      (fun _ i _ => l.length - (intOf i).toNat)
    case atStart => exact ⟨0, _, _, _, Nat.zero_le _, rfl, rfl, HB2.out, Nat.le_of_lt (World.ownsRow.lt HO2.out _ rfl).2, HO2.out⟩
    case round =>
      obtain ⟨k, A5, n5, c5, hk, rfl, rfl, hbr, hsr, hown⟩ := hrel
      have HBr := Lib.hid hbr
      have hsw := hbr.size
      have HAr := Lib.hid (HA.out.below hbr)
      have HO := Lib.hid hown
      clear hbr hown
      by_cases hlt : k < l.length
      · obtain ⟨b, off, rfl, l0, hc⟩ := HAr.out.at_ hlt
        obtain ⟨a0, a1⟩ := hc k hlt
        have HSN := Lib.hid (fb_snoc l k hlt)
        have HLEN : Hid (((l.take k).map fbF).length ≤ 65536) := by show _ ≤ _; simp; omega
        have hx := rnn_one HGG.out hlt
        clear hc
        generalize l.getD k (0, 0) = x at *
        obtain ⟨x1, x2⟩ := x
        simp only at a0 a1 hx
        have hw1 : IntKind.i64.wrap (1000 - x1) = 1000 - x1 := IntWalk.i64_in _ (by omega)
        have hw2 : IntKind.i64.wrap (-x2) = -x2 := IntWalk.i64_in _ (by omega)
        clear hx
        generalize (l.take k).map fbF = m at *
        go_wp2_with (at_builtin; go_must (refine wpList_append_slsv pairS _ rfl _ _ 25 rfl w1.heap.size 64 i0 _ 16 Try.underlying25 hi hz0 hz1 hz2 rfl (by decide) (.slice A5 n5 c5) m rfl ((HO.out.alloc' _).alloc' _) _ 1 1 [(1000 - x1, -x2)] rfl rfl (slAt_one (heap_new (by simp))) (by have := HLEN.out; simp only [List.length_cons, List.length_nil]; omega) (by simp; omega) ?_); intro A7 n7 k7 w7 hn7 ho7 hb7; have HO7 := Lib.hid ho7; have HB7 := Lib.hid (((HBr.out.alloc hsw _).alloc (by simp; omega) _).trans (hb7.mono (by omega))); have S7 := Lib.hid hb7.size; clear hn7 ho7 hb7)
        go_roundw
        case rel => exact ⟨k + 1, A7, n7, k7, by omega, by go_num, rfl, HB7.out, by have := S7.out; simp at this; omega, by rw [HSN.out]; exact HO7.out⟩
        case measure => simp [intOf]; omega
      · obtain rfl : k = l.length := by omega
        have hn5 := own_len HO.out
        have HN5 : Hid (n5 = l.length) := by show _ = _; simpa using hn5
        have HO6 : Hid (SlOwn pairS wr w1.heap.size 64 (.slice A5 n5 c5) (l.map fbF)) := by
          have h := HO.out
          rwa [List.take_length] at h
        clear hn5
        go_wp2_with fail
        refine (reverseR_any HO6.out).mono ?_
        rintro e w6 ⟨rfl, ho6, hb6⟩
        go_wp2
        go_ret2
        exact ⟨_, _, _, rfl, by rw [HV.out, HN5.out]; simp, by rw [HV.out]; exact SlOwn.base ho6 hs1, HBr.out.trans (hb6.mono hs1)⟩

set_option maxRecDepth 100000 in
set_option maxHeartbeats 1000000 in
theorem specFromBehind_any (A : Option Addr) (c : Nat) (l : List (Int × Int)) (w : World) (hA : AntsAt w A l) :
    Calls Try.prog 59 #[.slice A l.length c] w fun e w' => ∃ A' n' c', e = .returned (.tuple #[.slice A' n' c', .bool (rnnB l)]) ∧ n' = (fbV l).length ∧ AntsOwn w' w.heap.size 64 (.slice A' n' c') (fbV l) ∧ RowKit.Below w.heap.size w w' := by
  obtain ⟨i0, hi, hz0, hz1, hz2⟩ := info_parts runInfo
  have HA := Lib.hid hA
  clear hA
  cases hg : rnnB l with
  | false =>
    have HV : Hid (fbV l = []) := by show _ = _; simp [fbV, hg]
    have HG := Lib.hid (spGood_at A c l false hg)
    clear hg
    go_enter Try.func59, Try.ntmps59
    go_wp2_with fail
    refine (HG.out _ HA.out).mono ?_
    rintro e w1 ⟨rfl, hb⟩
    go_wp2
    go_ret2
    exact ⟨none, 0, 0, rfl, by rw [HV.out]; rfl, by rw [HV.out]; exact SlOwn.nil pairS _ _ _, hb⟩
  | true =>
    have HV : Hid (fbV l = (l.map fbF).reverse) := by show _ = _; simp [fbV, hg]
    have HG := Lib.hid (spGood_at A c l true hg)
    have hl := rnn_len hg
    have HGG := Lib.hid hg
    clear hg
    have hw0 : IntKind.i64.wrap ((l.length : Int) - 1) = (l.length : Int) - 1 := IntWalk.i64_in _ (by omega)
    go_enter Try.func59, Try.ntmps59
    go_wp2_with fail
    refine (HG.out _ HA.out).mono ?_
    rintro e w1 ⟨rfl, hb⟩
    have HB1 := Lib.hid hb
    clear hb
    go_wp2
    go_loopw [4, 5] (fun v i wr => ∃ (k : Nat) (A5 : Option Addr) (n5 c5 : Nat), k ≤ l.length ∧ i = .int .i64 ((l.length : Int) - 1 - k) ∧ v = .slice A5 n5 c5 ∧ RowKit.Below w.heap.size w wr ∧ SlOwn pairS wr w.heap.size 64 (.slice A5 n5 c5) (((l.map fbF).reverse).take k))
      (fun _ i _ => (intOf i + 1).toNat)
    case atStart => exact ⟨0, none, 0, 0, Nat.zero_le _, by simp, rfl, HB1.out, SlOwn.nil pairS _ _ _⟩
    case round =>
      obtain ⟨k, A5, n5, c5, hk, rfl, rfl, hbr, hown⟩ := hrel
      have HBr := Lib.hid hbr
      have hsw := hbr.size
      have HAr := Lib.hid (HA.out.below hbr)
      have HO := Lib.hid hown
      clear hbr hown
      by_cases hlt : k < l.length
      · have hj : l.length - 1 - k < l.length := by omega
        obtain ⟨b, off, rfl, l0, hc⟩ := HA.out.at_ hj
        obtain ⟨a0, a1⟩ := hc _ hj
        have a0 := (HBr.out.cell (p := ⟨b, off + (l.length - 1 - k) * 2, none⟩) l0).trans a0
        have a1 := (HBr.out.cell (p := ⟨b, off + (l.length - 1 - k) * 2 + 1, none⟩) l0).trans a1
        have l1 : b < wr.heap.size := by omega
        have HSN := Lib.hid (fbr_snoc l k hlt)
        have HLEN : Hid ((((l.map fbF).reverse).take k).length ≤ 65536) := by show _ ≤ _; rw [List.length_take]; omega
        have hx := rnn_one HGG.out hj
        have hi0 : (0 : Int) ≤ (l.length : Int) - 1 - k := by omega
        have hi1 : (l.length : Int) - 1 - k < (l.length : Int) := by omega
        have hi2 : ((l.length : Int) - 1 - k).toNat = l.length - 1 - k := by omega
        have hw3 : IntKind.i64.wrap ((l.length : Int) - 1 - k - 1) = (l.length : Int) - 1 - k - 1 := IntWalk.i64_in _ (by omega)
        clear hc
        generalize l.length - 1 - k = j at *
        generalize l.getD j (0, 0) = x at *
        obtain ⟨x1, x2⟩ := x
        simp only at a0 a1 hx
        have hw1 : IntKind.i64.wrap (1000 - x1) = 1000 - x1 := IntWalk.i64_in _ (by omega)
        have hw2 : IntKind.i64.wrap (-x2) = -x2 := IntWalk.i64_in _ (by omega)
        clear hx
        generalize ((l.map fbF).reverse).take k = m at *
        go_wp2
        go_region_held3 (fun w' => w'.cell? ⟨b, off + j * 2, none⟩ = some (.int .i64 x1) ∧ w'.cell? ⟨b, off + j * 2 + 1, none⟩ = some (.int .i64 x2))
          (first | go_keep | exact ⟨alloc_some a0 _, alloc_some a1 _⟩ | exact ⟨(hb7.cell (p := ⟨b, off + j * 2, none⟩) l0).trans (by simpa using alloc_some a0 _), (hb7.cell (p := ⟨b, off + j * 2 + 1, none⟩) l0).trans (by simpa using alloc_some a1 _)⟩)
          (first | (refine step_append_slsv pairS _ rfl _ _ 25 rfl w.heap.size 64 i0 _ 16 Try.underlying25 hi hz0 hz1 hz2 rfl (by decide) (.slice A5 n5 c5) m rfl (HO.out.below (((Below.refl _ wr).alloc (Nat.le_refl _) _).drew)) (some ⟨wr.heap.size, 0, none⟩) 1 1 [(1000 - x1, -x2)] rfl rfl (slAt_one (heap_new (by simp))) (by have := HLEN.out; simp only [List.length_cons, List.length_nil]; omega) (by simp; omega) ?_; intro A7 n7 k7 w7 hn7 ho7 hb7 hg7; clear hn7; have HO7 := Lib.hid ho7; have HB7 := Lib.hid ((HBr.out.alloc hsw _).drew.trans hb7)))
        clear ho7 hb7 hg7
        go_wp2
        go_roundw
        case rel => exact ⟨k + 1, A7, n7, k7, by omega, by congr 1; omega, rfl, HB7.out, by rw [HSN.out]; exact HO7.out⟩
        case measure => simp [intOf]; omega
      · obtain rfl : k = l.length := by omega
        have hn5 := own_len HO.out
        have HN5 : Hid (n5 = l.length) := by show _ = _; simpa using hn5
        have HO6 : Hid (SlOwn pairS wr w.heap.size 64 (.slice A5 n5 c5) ((l.map fbF).reverse)) := by
          have h := HO.out
          rwa [show l.length = ((l.map fbF).reverse).length by simp, List.take_length] at h
        clear hn5
        have hneg : ¬ (0 : Int) ≤ (l.length : Int) - 1 - (l.length : Int) := by omega
        go_wp2
        go_ret2
        exact ⟨_, _, _, rfl, by rw [HV.out, HN5.out]; simp, by rw [HV.out]; exact HO6.out, HBr.out⟩
end Go.Proofs.Ytlepdphdflpoaaa
