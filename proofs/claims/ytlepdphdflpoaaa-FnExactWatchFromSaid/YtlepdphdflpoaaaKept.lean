/- The runners' paces in a row of their own, and KeptSums on both sides. -/
import Derived.Test.YtlepdphdflpoaaaIsRnn
import Derived.Test.YtlepdphdflpoaaaStepR
import Derived.Lib.AppendZerosOnto
namespace Go.Proofs.Ytlepdphdflpoaaa
open Go.RowKit

theorem intInfoR : (Try.prog.info? 3).map (fun i => (i.zero, i.size, i.bytes)) = some (some (.int .i64 0), intS.size, 8) := by kernel_rfl
theorem ret_iib {a b c d : Int} {x y : Bool} (h : a = b) (h2 : c = d) (h' : x = y) : Ending.returned (.tuple #[.int .i64 a, .int .i64 c, .bool x]) = .returned (.tuple #[.int .i64 b, .int .i64 d, .bool y]) := by rw [h, h2, h']
theorem own_len {α : Type} {S : Shape α} {w : World} {B n c : Nat} {e : TypeId} {A : Option Addr} {l : List α} (h : SlOwn S w B e (.slice A n c) l) : n = l.length := by
  obtain ⟨_, _, hv, _⟩ := h.form
  simp only [Value.slice.injEq] at hv
  exact hv.2.1
theorem SlOwn.alloc' {α : Type} {S : Shape α} {w : World} {B : Nat} {e : TypeId} {v : Value} {l : List α} (h : SlOwn S w B e v l) (o : Obj) : SlOwn S (w.alloc o) B e v l := h.below ((Below.refl _ _).alloc (Nat.le_refl _) _)
theorem slAt_one1 {w : World} {g : Nat} {x : Int} {e : TypeId} {m : Nat × Nat} (h : w.heap[g]? = some (.cells #[.int .i64 x] e m)) : SlAt intS w (some ⟨g, 0, none⟩) [x] := by
  refine .inr ⟨g, 0, rfl, (Array.getElem?_eq_some_iff.1 h).1, fun k y hk j hj => ?_⟩
  cases k with
  | succ k => simp at hk
  | zero =>
    simp only [List.getElem?_cons_zero, Option.some.injEq] at hk
    subst hk
    simp only [Nat.zero_mul, Nat.zero_add]
    rw [cell_of_row w g j _ _ _ h, ← Array.getElem?_toList]
    rfl
theorem paces_snoc (l : List (Int × Int)) (k : Nat) (hk : k < l.length) : (l.take (k + 1)).map Prod.snd = (l.take k).map Prod.snd ++ [(l.getD k (0, 0)).2] := by
  rw [List.take_succ_eq_append_getElem hk, List.map_append, getDp hk]
  rfl

set_option maxRecDepth 100000 in
set_option maxHeartbeats 1000000 in
theorem pacesOf_any (A : Option Addr) (c : Nat) (l : List (Int × Int)) (w : World) (hn : (l.length : Int) ≤ 65536) (hA : AntsAt w A l) :
    Calls Try.prog 72 #[.slice A l.length c] w fun e w' => ∃ A' n' c', e = .returned (.slice A' n' c') ∧ n' = l.length ∧ SlOwn intS w' w.heap.size 3 (.slice A' n' c') (l.map Prod.snd) ∧ Below w.heap.size w w' := by
  obtain ⟨i0, hi, hz0, hz1, hz2⟩ := info_parts intInfoR
  have HA := Lib.hid hA
  clear hA
  go_enter Try.func72, Try.ntmps72
  go_wp2_with (at_make; refine wpList_make_own _ rfl _ _ _ rfl w.heap.size 3 i0 _ 1 Try.underlying42 hi hz0 hz1 .i64 .i64 _ l.length rfl rfl rfl (by rw [hz2]; omega) (by unfold maxLen; omega) (Nat.le_refl _) ?_; intro w2 hown hg; have hb2 : Below w.heap.size w w2 := (Below.refl _ _).grown hg (Nat.le_refl _) (by simp))
  have HO2 : Hid (SlOwn intS w2 w.heap.size 3 (.slice (some ⟨w.heap.size, 0, none⟩) 0 l.length) ((l.take 0).map Prod.snd)) := by
    have h : w2.ownsRow w.heap.size 3 1 (.slice (some ⟨w.heap.size, 0, none⟩) 0 l.length) 0 [] := by simpa using hown
    exact h
  have HB2 := Lib.hid hb2
  clear hg hown hb2
  go_loopw [3, 11] (fun v i wr => ∃ (k : Nat) (A5 : Option Addr) (n5 c5 : Nat), k ≤ l.length ∧ i = .int .i64 k ∧ v = .slice A5 n5 c5 ∧ Below w.heap.size w wr ∧ SlOwn intS wr w.heap.size 3 (.slice A5 n5 c5) ((l.take k).map Prod.snd))
    (fun _ i _ => l.length - (intOf i).toNat)
  case atStart => exact ⟨0, _, _, _, Nat.zero_le _, rfl, rfl, HB2.out, HO2.out⟩
  case round =>
    obtain ⟨k, A5, n5, c5, hk, rfl, rfl, hbr, hown⟩ := hrel
    have HBr := Lib.hid hbr
    have hsr := hbr.size
    have HAr := Lib.hid (HA.out.below hbr)
    have HO := Lib.hid hown
    clear hbr hown
    by_cases hlt : k < l.length
    · obtain ⟨b, off, rfl, l0, hc⟩ := HAr.out.at_ hlt
      obtain ⟨a0, a1⟩ := hc k hlt
      have HSN := Lib.hid (paces_snoc l k hlt)
      have HLEN : Hid (((l.take k).map Prod.snd).length ≤ 65536) := by show _ ≤ _; simp; omega
      have hn5 := own_len HO.out
      clear hc
      generalize l.getD k (0, 0) = x at *
      obtain ⟨x1, x2⟩ := x
      simp only at a0 a1
      generalize (l.take k).map Prod.snd = m at *
      subst hn5
      go_wp2_with (at_builtin; go_must (refine wpList_append_slsv intS _ rfl _ _ 42 rfl w.heap.size 3 i0 _ 8 Try.underlying42 hi hz0 hz1 hz2 rfl (by decide) _ m rfl ((HO.out.alloc' _).alloc' _) _ 1 1 [x2] rfl rfl (slAt_one1 (heap_new (by simp))) (by have := HLEN.out; simp only [List.length_cons, List.length_nil]; omega) (by simp; omega) ?_); intro A7 n7 k7 w7 hn7 ho7 hb7; have HO7 := Lib.hid ho7; have HB7 := Lib.hid (((HBr.out.alloc HBr.out.size _).alloc (by simp; omega) _).trans hb7); clear hn7 ho7 hb7)
      go_roundw
      case rel => exact ⟨k + 1, A7, n7, k7, by omega, by go_num, rfl, HB7.out, by rw [HSN.out]; exact HO7.out⟩
      case measure => simp [intOf]; omega
    · obtain rfl : k = l.length := by omega
      have hn5 : n5 = l.length := by have := own_len HO.out; simpa using this
      go_wp2
      go_ret
      exact ⟨_, _, _, rfl, hn5, by have h := HO.out; rwa [List.take_length] at h, HBr.out⟩

def ksV (l : List (Int × Int)) : Int × Int := if rnnB l then (paSum l, sqSum l) else (0, 0)

set_option maxRecDepth 100000 in
set_option maxHeartbeats 1000000 in
theorem implKeptSums_any (A : Option Addr) (c : Nat) (l : List (Int × Int)) (w : World) (hA : AntsAt w A l) :
    Calls Try.prog 55 #[.slice A l.length c] w fun e w' => e = .returned (.tuple #[.int .i64 (ksV l).1, .int .i64 (ksV l).2, .bool (rnnB l)]) ∧ Below w.heap.size w w' := by
  have HA := Lib.hid hA
  clear hA
  cases hg : rnnB l with
  | false =>
    have HV : Hid (ksV l = (0, 0)) := by show _ = _; simp [ksV, hg]
    have HG := Lib.hid (areRunners_at A c l false hg)
    clear hg
    go_enter Try.func55, Try.ntmps55
    go_wp2_with fail
    refine (HG.out _ HA.out).mono ?_
    rintro e w1 ⟨rfl, hb⟩
    go_wp2
    go_ret3
    exact ⟨ret_iib (by rw [HV.out]) (by rw [HV.out]) rfl, hb⟩
  | true =>
    have HV : Hid (ksV l = (paSum l, sqSum l)) := by show _ = _; simp [ksV, hg]
    have HG := Lib.hid (areRunners_at A c l true hg)
    have hl := rnn_len hg
    have HGG := Lib.hid hg
    clear hg
    go_enter Try.func55, Try.ntmps55
    go_wp2_with fail
    refine (HG.out _ HA.out).mono ?_
    rintro e w1 ⟨rfl, hb⟩
    have HB1 := Lib.hid hb
    clear hb
    go_wp2_with fail
    refine (pacesOf_any A c l _ (by omega) (HA.out.below HB1.out)).mono ?_
    rintro e w2 ⟨A2, n2, c2, rfl, hn2, ho2, hb2⟩
    subst hn2
    have HO2 := Lib.hid ho2.sl
    have HB2 := Lib.hid (HB1.out.trans (hb2.mono HB1.out.size))
    clear ho2 hb2
    go_wp2
    go_loop [5, 6, 15] (fun s q i => ∃ k : Nat, k ≤ l.length ∧ i = .int .i64 k ∧ s = .int .i64 (paSum (l.take k)) ∧ q = .int .i64 (sqSum (l.take k))) (fun _ _ i => l.length - (intOf i).toNat)
    case atStart => exact ⟨0, Nat.zero_le _, rfl, rfl, rfl⟩
    case round =>
      obtain ⟨k, hk, rfl, rfl, rfl⟩ := hrel
      by_cases hlt : k < l.length
      · obtain ⟨b, off, rfl, l0, hc⟩ := HO2.out.int_at (show k < (l.map Prod.snd).length by simpa using hlt)
        have a0 := hc k (l.getD k (0, 0)).2 (by rw [List.getElem?_map, getDq hlt]; rfl)
        have hm := paSum_snoc l k hlt
        have hq := sqSum_snoc l k hlt
        have hbd := sums_bounds HGG.out k hk
        have hx := rnn_one HGG.out hlt
        have hx2 := sq_le hx.2.2.1 hx.2.2.2
        clear hc
        generalize l.getD k (0, 0) = x at *
        obtain ⟨x1, x2⟩ := x
        simp only at a0 hm hq hx hx2
        have HM := Lib.hid hm
        have HQ := Lib.hid hq
        clear hm hq
        generalize paSum (l.take k) = s at *
        generalize sqSum (l.take k) = q at *
        have hw1 : IntKind.i64.wrap (s + x2) = s + x2 := IntWalk.i64_in _ (by omega)
        have hw2 : IntKind.i64.wrap (x2 * x2) = x2 * x2 := IntWalk.i64_in _ (by omega)
        have hw3 : IntKind.i64.wrap (q + x2 * x2) = q + x2 * x2 := IntWalk.i64_in _ (by omega)
        clear hbd hx hx2
        go_wp2
        go_round
        case rel => exact ⟨k + 1, by omega, by go_num, by rw [HM.out], by rw [HQ.out]⟩
        case measure => simp [intOf]; omega
      · obtain rfl : k = l.length := by omega
        go_wp2
        go_ret3
        exact ⟨ret_iib (by simp [HV.out]) (by simp [HV.out]) rfl, HB2.out⟩

set_option maxRecDepth 100000 in
set_option maxHeartbeats 1000000 in
theorem specKeptSums_any (A : Option Addr) (c : Nat) (l : List (Int × Int)) (w : World) (hA : AntsAt w A l) :
    Calls Try.prog 54 #[.slice A l.length c] w fun e w' => e = .returned (.tuple #[.int .i64 (ksV l).1, .int .i64 (ksV l).2, .bool (rnnB l)]) ∧ Below w.heap.size w w' := by
  have HA := Lib.hid hA
  clear hA
  cases hg : rnnB l with
  | false =>
    have HV : Hid (ksV l = (0, 0)) := by show _ = _; simp [ksV, hg]
    have HG := Lib.hid (spGood_at A c l false hg)
    clear hg
    go_enter Try.func54, Try.ntmps54
    go_wp2_with fail
    refine (HG.out _ HA.out).mono ?_
    rintro e w1 ⟨rfl, hb⟩
    go_wp2
    go_ret3
    exact ⟨ret_iib (by rw [HV.out]) (by rw [HV.out]) rfl, hb⟩
  | true =>
    have HV : Hid (ksV l = (paSum l, sqSum l)) := by show _ = _; simp [ksV, hg]
    have HG := Lib.hid (spGood_at A c l true hg)
    have hl := rnn_len hg
    have HGG := Lib.hid hg
    clear hg
    go_enter Try.func54, Try.ntmps54
    go_wp2_with fail
    refine (HG.out _ HA.out).mono ?_
    rintro e w1 ⟨rfl, hb⟩
    have HB1 := Lib.hid hb
    clear hb
    go_wp2
    go_loopw [5, 6, 14] (fun s q i wr => ∃ k : Nat, k ≤ l.length ∧ i = .int .i64 k ∧ s = .int .i64 (paSum (l.take k)) ∧ q = .int .i64 (sqSum (l.take k)) ∧ Below w.heap.size w wr) (fun _ _ i _ => l.length - (intOf i).toNat)
    case atStart => exact ⟨0, Nat.zero_le _, rfl, rfl, rfl, HB1.out⟩
    case round =>
      obtain ⟨k, hk, rfl, rfl, rfl, hbr⟩ := hrel
      have HBr := Lib.hid hbr
      have HAr := Lib.hid (HA.out.below hbr)
      clear hbr
      by_cases hlt : k < l.length
      · obtain ⟨b, off, rfl, l0, hc⟩ := HAr.out.at_ hlt
        obtain ⟨a0, a1⟩ := hc k hlt
        have hm := paSum_snoc l k hlt
        have hq := sqSum_snoc l k hlt
        have hbd := sums_bounds HGG.out k hk
        have hx := rnn_one HGG.out hlt
        have hx2 := sq_le hx.2.2.1 hx.2.2.2
        clear hc
        generalize l.getD k (0, 0) = x at *
        obtain ⟨x1, x2⟩ := x
        simp only at a0 a1 hm hq hx hx2
        have HM := Lib.hid hm
        have HQ := Lib.hid hq
        clear hm hq
        generalize paSum (l.take k) = s at *
        generalize sqSum (l.take k) = q at *
        have hw1 : IntKind.i64.wrap (s + x2) = s + x2 := IntWalk.i64_in _ (by omega)
        have hw2 : IntKind.i64.wrap (x2 * x2) = x2 * x2 := IntWalk.i64_in _ (by omega)
        have hw3 : IntKind.i64.wrap (q + x2 * x2) = q + x2 * x2 := IntWalk.i64_in _ (by omega)
        clear hbd hx hx2
        go_wp2
        go_roundw
        case rel => exact ⟨k + 1, by omega, by go_num, by rw [HM.out], by rw [HQ.out], HBr.out.alloc HBr.out.size _⟩
        case measure => simp [intOf]; omega
      · obtain rfl : k = l.length := by omega
        go_wp2
        go_ret3
        exact ⟨ret_iib (by simp [HV.out]) (by simp [HV.out]) rfl, HBr.out⟩
end Go.Proofs.Ytlepdphdflpoaaa
