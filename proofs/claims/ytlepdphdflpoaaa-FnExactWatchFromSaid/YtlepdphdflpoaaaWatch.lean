/- WatchFrom on both sides. -/
import Derived.Test.YtlepdphdflpoaaaBehind
namespace Go.Proofs.Ytlepdphdflpoaaa
open Go.RowKit

def wfF (p : Int) (x : Int × Int) : Int × Int := (x.1, x.2 - p)
def wfOk (l : List (Int × Int)) (p : Int) : Bool := rnnB l && (pacB p && rnnB (l.map (wfF p)))
def wfV (l : List (Int × Int)) (p : Int) : List (Int × Int) := if wfOk l p then l.map (wfF p) else []
theorem wfV_len (l : List (Int × Int)) (p : Int) : (wfV l p).length ≤ 12 := by
  unfold wfV
  split
  · rename_i h
    simp only [wfOk, Bool.and_eq_true] at h
    exact rnn_len h.2.2
  · simp
theorem wf_snoc (p : Int) (l : List (Int × Int)) (k : Nat) (hk : k < l.length) : (l.take (k + 1)).map (wfF p) = (l.take k).map (wfF p) ++ [wfF p (l.getD k (0, 0))] := by
  rw [List.take_succ_eq_append_getElem hk, List.map_append, getDp hk]
  rfl
theorem pac_iff (p : Int) : pacB p = true ↔ -9 ≤ p ∧ p ≤ 9 := by unfold pacB; simp

set_option maxRecDepth 100000 in
set_option maxHeartbeats 1000000 in
theorem specWatchFrom_any (A : Option Addr) (c : Nat) (l : List (Int × Int)) (p : Int) (w : World) (hA : AntsAt w A l) :
    Calls Try.prog 56 #[.slice A l.length c, .int .i64 p] w fun e w' => ∃ A' n' c', e = .returned (.tuple #[.slice A' n' c', .bool (wfOk l p)]) ∧ n' = (wfV l p).length ∧ AntsOwn w' w.heap.size 64 (.slice A' n' c') (wfV l p) ∧ RowKit.Below w.heap.size w w' := by
  obtain ⟨i0, hi, hz0, hz1, hz2⟩ := info_parts runInfo
  have HA := Lib.hid hA
  clear hA
  cases hg : rnnB l with
  | false =>
    have HV : Hid (wfV l p = [] ∧ wfOk l p = false) := by show _ ∧ _; simp [wfV, wfOk, hg]
    have HG := Lib.hid (spGood_at A c l false hg)
    clear hg
    rw [HV.out.1, HV.out.2]
    go_enter Try.func56, Try.ntmps56
    go_wp2_with fail
    refine (HG.out _ HA.out).mono ?_
    rintro e w1 ⟨rfl, hb⟩
    go_wp2
    go_ret2
    exact ⟨none, 0, 0, rfl, rfl, SlOwn.nil pairS _ _ _, hb⟩
  | true =>
    have HG := Lib.hid (spGood_at A c l true hg)
    cases hp : pacB p with
    | false =>
      have HV : Hid (wfV l p = [] ∧ wfOk l p = false) := by show _ ∧ _; simp [wfV, wfOk, hp]
      have HP : Hid (∀ w, Calls Try.prog 81 #[.int .i64 p, .int .i64 (-9), .int .i64 9] w fun e w' => e = .returned (.bool false) ∧ w = w') := fun w => in_at p (-9) 9 false (by have h := hp; unfold pacB at h; simpa using h) w
      clear hg hp
      rw [HV.out.1, HV.out.2]
      go_enter Try.func56, Try.ntmps56
      go_wp2_with fail
      refine (HG.out _ HA.out).mono ?_
      rintro e w1 ⟨rfl, hb⟩
      have HB := Lib.hid hb
      clear hb
      go_wp2_with fail
      refine (HP.out _).mono ?_
      rintro e w2 ⟨rfl, rfl⟩
      go_wp2
      go_ret2
      exact ⟨none, 0, 0, rfl, rfl, SlOwn.nil pairS _ _ _, HB.out⟩
    | true =>
      have HP : Hid (∀ w, Calls Try.prog 81 #[.int .i64 p, .int .i64 (-9), .int .i64 9] w fun e w' => e = .returned (.bool true) ∧ w = w') := fun w => in_at p (-9) 9 true (by have h := hp; unfold pacB at h; simpa using h) w
      obtain ⟨hp0, hp1⟩ := (pac_iff p).1 hp
      have hl := rnn_len hg
      have HML : Hid ((l.map (wfF p)).length = l.length) := List.length_map _
      have HQ : Hid (∀ (A : Option Addr) (c : Nat) (W : World), AntsAt W A (l.map (wfF p)) → Calls Try.prog 61 #[.slice A l.length c] W fun e w' => e = .returned (.bool (rnnB (l.map (wfF p)))) ∧ RowKit.Below W.heap.size W w') := fun A c W hW => by
        have h := spGood_at A c (l.map (wfF p)) _ rfl W hW
        rwa [HML.out] at h
      have HGG := Lib.hid hg
      have HV : Hid (wfOk l p = rnnB (l.map (wfF p)) ∧ (rnnB (l.map (wfF p)) = true → wfV l p = l.map (wfF p)) ∧ (rnnB (l.map (wfF p)) = false → wfV l p = [])) := by
        show _ ∧ _ ∧ _
        have e : wfOk l p = rnnB (l.map (wfF p)) := by simp [wfOk, hg, hp]
        refine ⟨e, fun h => ?_, fun h => ?_⟩
        · unfold wfV; rw [e, h]; rfl
        · unfold wfV; rw [e, h]; rfl
      clear hg hp
      rw [HV.out.1]
      generalize rnnB (l.map (wfF p)) = ok at *
      go_enter Try.func56, Try.ntmps56
      go_wp2_with fail
      refine (HG.out _ HA.out).mono ?_
      rintro e w1 ⟨rfl, hb⟩
      have HB1 := Lib.hid hb
      have hs1 := hb.size
      clear hb
      go_wp2_with fail
      refine (HP.out _).mono ?_
      rintro e w2 ⟨rfl, rfl⟩
      go_wp2
      have HB2 := HB1
      have HO2 : Hid (SlOwn pairS w1 w1.heap.size 64 (.slice none 0 0) ((l.take 0).map (wfF p))) := SlOwn.nil pairS _ _ _
      go_loopw [6, 19] (fun v i wr => ∃ (k : Nat) (A5 : Option Addr) (n5 c5 : Nat), k ≤ l.length ∧ i = .int .i64 k ∧ v = .slice A5 n5 c5 ∧ RowKit.Below w.heap.size w wr ∧ w1.heap.size ≤ wr.heap.size ∧ SlOwn pairS wr w1.heap.size 64 (.slice A5 n5 c5) ((l.take k).map (wfF p)))
        (fun _ i _ => l.length - (intOf i).toNat)
      case atStart => exact ⟨0, none, 0, 0, Nat.zero_le _, rfl, rfl, HB2.out, Nat.le_refl _, HO2.out⟩
      case round =>
        obtain ⟨k, A5, n5, c5, hk, rfl, rfl, hbr, hsr, hown⟩ := hrel
        have HBr := Lib.hid hbr
        have hsw := hbr.size
        have HAr := Lib.hid (HA.out.below hbr)
        have HO := Lib.hid hown
        clear hbr hown
        by_cases hlt : k < l.length
        · obtain ⟨b, off, rfl, l0, hc⟩ := HAr.out.at_ hlt
          obtain ⟨a0, a1⟩ := hc k hlt
          have HSN := Lib.hid (wf_snoc p l k hlt)
          have HLEN : Hid (((l.take k).map (wfF p)).length ≤ 65536) := by show _ ≤ _; simp; omega
          have hx := rnn_one HGG.out hlt
          clear hc
          generalize l.getD k (0, 0) = x at *
          obtain ⟨x1, x2⟩ := x
          simp only at a0 a1 hx
          have hw2 : IntKind.i64.wrap (x2 - p) = x2 - p := IntWalk.i64_in _ (by omega)
          clear hx
          generalize (l.take k).map (wfF p) = m at *
          go_wp2_with (at_builtin; go_must (refine wpList_append_slsv pairS _ rfl _ _ 25 rfl w1.heap.size 64 i0 _ 16 Try.underlying25 hi hz0 hz1 hz2 rfl (by decide) (.slice A5 n5 c5) m rfl ((HO.out.alloc' _).alloc' _) _ 1 1 [(x1, x2 - p)] rfl rfl (slAt_one (heap_new (by simp))) (by have := HLEN.out; simp only [List.length_cons, List.length_nil]; omega) (by simp; omega) ?_); intro A7 n7 k7 w7 hn7 ho7 hb7; have HO7 := Lib.hid ho7; have HB7 := Lib.hid (((HBr.out.alloc hsw _).alloc (by simp; omega) _).trans (hb7.mono (by omega))); have S7 := Lib.hid hb7.size; clear hn7 ho7 hb7)
          go_roundw
          case rel => exact ⟨k + 1, A7, n7, k7, by omega, by go_num, rfl, HB7.out, by have := S7.out; simp at this; omega, by rw [HSN.out]; exact HO7.out⟩
          case measure => simp [intOf]; omega
        · obtain rfl : k = l.length := by omega
          have hn5 := own_len HO.out
          have HN5 : Hid (n5 = l.length) := by show _ = _; simpa using hn5
          have HO6 : Hid (SlOwn pairS wr w1.heap.size 64 (.slice A5 n5 c5) (l.map (wfF p))) := by
            have h := HO.out
            rwa [List.take_length] at h
          clear hn5
          obtain ⟨W5, rfl⟩ : ∃ W, W = wr := ⟨_, rfl⟩
          have HQ5 := Lib.hid (HQ.out A5 c5 W5 (slAt_ants HO6.out.sl))
          have hn5' := HN5.out
          subst hn5'
          cases ok with
          | false =>
            go_wp2_with fail
            refine HQ5.out.mono ?_
            rintro e w6 ⟨rfl, hb6⟩
            have HB6 := Lib.hid (HBr.out.trans (hb6.mono hsw))
            clear hb6
            go_wp2
            go_ret2
            exact ⟨none, 0, 0, rfl, by rw [HV.out.2.2 (by trivial)]; rfl, by rw [HV.out.2.2 (by trivial)]; exact SlOwn.nil pairS _ _ _, HB6.out⟩
          | true =>
            go_wp2_with fail
            refine HQ5.out.mono ?_
            rintro e w6 ⟨rfl, hb6⟩
            have HB6 := Lib.hid (HBr.out.trans (hb6.mono hsw))
            have HO7 := Lib.hid (HO6.out.below hb6)
            clear hb6
            go_wp2
            go_ret2
            exact ⟨_, _, _, rfl, by rw [HV.out.2.1 (by trivial), HML.out], by rw [HV.out.2.1 (by trivial)]; exact SlOwn.base HO7.out hs1, HB6.out⟩

set_option maxRecDepth 100000 in
set_option maxHeartbeats 1000000 in
theorem implWatchFrom_any (A : Option Addr) (c : Nat) (l : List (Int × Int)) (p : Int) (w : World) (hA : AntsAt w A l) :
    Calls Try.prog 57 #[.slice A l.length c, .int .i64 p] w fun e w' => ∃ A' n' c', e = .returned (.tuple #[.slice A' n' c', .bool (wfOk l p)]) ∧ n' = (wfV l p).length ∧ AntsOwn w' w.heap.size 64 (.slice A' n' c') (wfV l p) ∧ RowKit.Below w.heap.size w w' := by
  obtain ⟨i0, hi, hz0, hz1, hz2⟩ := info_parts runInfo
  have HA := Lib.hid hA
  clear hA
  cases hg : rnnB l with
  | false =>
    have HV : Hid (wfV l p = [] ∧ wfOk l p = false) := by show _ ∧ _; simp [wfV, wfOk, hg]
    have HG := Lib.hid (areRunners_at A c l false hg)
    clear hg
    rw [HV.out.1, HV.out.2]
    go_enter Try.func57, Try.ntmps57
    go_wp2_with fail
    refine (HG.out _ HA.out).mono ?_
    rintro e w1 ⟨rfl, hb⟩
    go_wp2
    go_ret2
    exact ⟨none, 0, 0, rfl, rfl, SlOwn.nil pairS _ _ _, hb⟩
  | true =>
    have HG := Lib.hid (areRunners_at A c l true hg)
    cases hp : pacB p with
    | false =>
      have HV : Hid (wfV l p = [] ∧ wfOk l p = false) := by show _ ∧ _; simp [wfV, wfOk, hp]
      have HP : Hid (∀ w, Calls Try.prog 82 #[.int .i64 p] w fun e w' => e = .returned (.bool false) ∧ w = w') := fun w => (isPaceOfRunner_any p w).mono fun e w' h => ⟨by rw [h.1, hp], h.2.symm⟩
      clear hg hp
      rw [HV.out.1, HV.out.2]
      go_enter Try.func57, Try.ntmps57
      go_wp2_with fail
      refine (HG.out _ HA.out).mono ?_
      rintro e w1 ⟨rfl, hb⟩
      have HB := Lib.hid hb
      clear hb
      go_wp2_with fail
      refine (HP.out _).mono ?_
      rintro e w2 ⟨rfl, rfl⟩
      go_wp2
      go_ret2
      exact ⟨none, 0, 0, rfl, rfl, SlOwn.nil pairS _ _ _, HB.out⟩
    | true =>
      have HP : Hid (∀ w, Calls Try.prog 82 #[.int .i64 p] w fun e w' => e = .returned (.bool true) ∧ w = w') := fun w => (isPaceOfRunner_any p w).mono fun e w' h => ⟨by rw [h.1, hp], h.2.symm⟩
      obtain ⟨hp0, hp1⟩ := (pac_iff p).1 hp
      have hl := rnn_len hg
      have HML : Hid ((l.map (wfF p)).length = l.length) := List.length_map _
      have HQ : Hid (∀ (A : Option Addr) (c : Nat) (W : World), AntsAt W A (l.map (wfF p)) → Calls Try.prog 21 #[.slice A l.length c] W fun e w' => e = .returned (.bool (rnnB (l.map (wfF p)))) ∧ RowKit.Below W.heap.size W w') := fun A c W hW => by
        have h := areRunners_at A c (l.map (wfF p)) _ rfl W hW
        rwa [HML.out] at h
      have HGG := Lib.hid hg
      have HV : Hid (wfOk l p = rnnB (l.map (wfF p)) ∧ (rnnB (l.map (wfF p)) = true → wfV l p = l.map (wfF p)) ∧ (rnnB (l.map (wfF p)) = false → wfV l p = [])) := by
        show _ ∧ _ ∧ _
        have e : wfOk l p = rnnB (l.map (wfF p)) := by simp [wfOk, hg, hp]
        refine ⟨e, fun h => ?_, fun h => ?_⟩
        · unfold wfV; rw [e, h]; rfl
        · unfold wfV; rw [e, h]; rfl
      clear hg hp
      rw [HV.out.1]
      generalize rnnB (l.map (wfF p)) = ok at *
      go_enter Try.func57, Try.ntmps57
      go_wp2_with fail
      refine (HG.out _ HA.out).mono ?_
      rintro e w1 ⟨rfl, hb⟩
      have HB1 := Lib.hid hb
      have hs1 := hb.size
      clear hb
      go_wp2_with fail
      refine (HP.out _).mono ?_
      rintro e w2 ⟨rfl, rfl⟩
      go_wp2_with (at_make; refine wpList_make_own _ rfl _ _ _ rfl w1.heap.size 64 i0 _ 2 Try.underlying25 hi hz0 hz1 .i64 .i64 _ l.length rfl rfl rfl (by rw [hz2]; omega) (by unfold maxLen; omega) (Nat.le_refl _) ?_; intro w3 hown hgr; have hb2 : RowKit.Below w1.heap.size w1 w3 := (Below.refl _ _).grown hgr (Nat.le_refl _) (by simp))
      have HO2 : Hid (SlOwn pairS w3 w1.heap.size 64 (.slice (some ⟨w1.heap.size, 0, none⟩) 0 l.length) ((l.take 0).map (wfF p))) := by
        have h : w3.ownsRow w1.heap.size 64 2 (.slice (some ⟨w1.heap.size, 0, none⟩) 0 l.length) 0 [] := by simpa using hown
        exact h
      have HB2 := Lib.hid (HB1.out.trans (hb2.mono hs1))
      have HS2 := Lib.hid hb2.size
      clear hgr hown hb2
      go_loopw [6, 22] (fun v i wr => ∃ (k : Nat) (A5 : Option Addr) (n5 c5 : Nat), k ≤ l.length ∧ i = .int .i64 k ∧ v = .slice A5 n5 c5 ∧ RowKit.Below w.heap.size w wr ∧ w1.heap.size ≤ wr.heap.size ∧ SlOwn pairS wr w1.heap.size 64 (.slice A5 n5 c5) ((l.take k).map (wfF p)))
        (fun _ i _ => l.length - (intOf i).toNat)
      case atStart => exact ⟨0, _, _, _, Nat.zero_le _, rfl, rfl, HB2.out, HS2.out, HO2.out⟩
      case round =>
        obtain ⟨k, A5, n5, c5, hk, rfl, rfl, hbr, hsr, hown⟩ := hrel
        have HBr := Lib.hid hbr
        have hsw := hbr.size
        have HAr := Lib.hid (HA.out.below hbr)
        have HO := Lib.hid hown
        clear hbr hown
        by_cases hlt : k < l.length
        · obtain ⟨b, off, rfl, l0, hc⟩ := HAr.out.at_ hlt
          obtain ⟨a0, a1⟩ := hc k hlt
          have HSN := Lib.hid (wf_snoc p l k hlt)
          have HLEN : Hid (((l.take k).map (wfF p)).length ≤ 65536) := by show _ ≤ _; simp; omega
          have hx := rnn_one HGG.out hlt
          clear hc
          generalize l.getD k (0, 0) = x at *
          obtain ⟨x1, x2⟩ := x
          simp only at a0 a1 hx
          have hw2 : IntKind.i64.wrap (x2 - p) = x2 - p := IntWalk.i64_in _ (by omega)
          clear hx
          generalize (l.take k).map (wfF p) = m at *
          go_wp2_with (at_builtin; go_must (refine wpList_append_slsv pairS _ rfl _ _ 25 rfl w1.heap.size 64 i0 _ 16 Try.underlying25 hi hz0 hz1 hz2 rfl (by decide) (.slice A5 n5 c5) m rfl ((HO.out.alloc' _).alloc' _) _ 1 1 [(x1, x2 - p)] rfl rfl (slAt_one (heap_new (by simp))) (by have := HLEN.out; simp only [List.length_cons, List.length_nil]; omega) (by simp; omega) ?_); intro A7 n7 k7 w7 hn7 ho7 hb7; have HO7 := Lib.hid ho7; have HB7 := Lib.hid (((HBr.out.alloc hsw _).alloc (by simp; omega) _).trans (hb7.mono (by omega))); have S7 := Lib.hid hb7.size; clear hn7 ho7 hb7)
          go_roundw
          case rel => exact ⟨k + 1, A7, n7, k7, by omega, by go_num, rfl, HB7.out, by have := S7.out; simp at this; omega, by rw [HSN.out]; exact HO7.out⟩
          case measure => simp [intOf]; omega
        · obtain rfl : k = l.length := by omega
          have hn5 := own_len HO.out
          have HN5 : Hid (n5 = l.length) := by show _ = _; simpa using hn5
          have HO6 : Hid (SlOwn pairS wr w1.heap.size 64 (.slice A5 n5 c5) (l.map (wfF p))) := by
            have h := HO.out
            rwa [List.take_length] at h
          clear hn5
          obtain ⟨W5, rfl⟩ : ∃ W, W = wr := ⟨_, rfl⟩
          have HQ5 := Lib.hid (HQ.out A5 c5 W5 (slAt_ants HO6.out.sl))
          have hn5' := HN5.out
          subst hn5'
          cases ok with
          | false =>
            go_wp2_with fail
            refine HQ5.out.mono ?_
            rintro e w6 ⟨rfl, hb6⟩
            have HB6 := Lib.hid (HBr.out.trans (hb6.mono hsw))
            clear hb6
            go_wp2
            go_ret2
            exact ⟨none, 0, 0, rfl, by rw [HV.out.2.2 (by trivial)]; rfl, by rw [HV.out.2.2 (by trivial)]; exact SlOwn.nil pairS _ _ _, HB6.out⟩
          | true =>
            go_wp2_with fail
            refine HQ5.out.mono ?_
            rintro e w6 ⟨rfl, hb6⟩
            have HB6 := Lib.hid (HBr.out.trans (hb6.mono hsw))
            have HO7 := Lib.hid (HO6.out.below hb6)
            clear hb6
            go_wp2
            go_ret2
            exact ⟨_, _, _, rfl, by rw [HV.out.2.1 (by trivial), HML.out], by rw [HV.out.2.1 (by trivial)]; exact SlOwn.base HO7.out hs1, HB6.out⟩
end Go.Proofs.Ytlepdphdflpoaaa
