/- Where all runners are at a time, and their paces just behind it: on both sides. -/
import Derived.Test.YtlepdphdflpoaaaOrd
import Derived.Test.YtlepdphdflpoaaaFinal
namespace Go.Proofs.Ytlepdphdflpoaaa
open Go.RowKit

def plF (n d : Int) (x : Int × Int) : Int × Int := lowP (keyR n d x).1 d
def plL (n d : Int) (l : List (Int × Int)) : List (Int × Int) := (ghL n d l).map fun q => lowP q.1 d
theorem plL_len (n d : Int) (l : List (Int × Int)) : (plL n d l).length = l.length := by unfold plL; rw [List.length_map, ghL_len]
theorem pl_of {n d : Int} {l m : List (Int × Int)} (h : m.map (keyR n d) = ghL n d l) : m.map (plF n d) = plL n d l := by
  unfold plL
  rw [← h, List.map_map]
  rfl
theorem pl_snoc (n d : Int) (m : List (Int × Int)) (k : Nat) (hk : k < m.length) : (m.take (k + 1)).map (plF n d) = (m.take k).map (plF n d) ++ [plF n d (m.getD k (0, 0))] := by
  rw [List.take_succ_eq_append_getElem hk, List.map_append, getDp hk]
  rfl

set_option maxRecDepth 100000 in
set_option maxHeartbeats 2000000 in
theorem placesOfAll_any (A : Option Addr) (c : Nat) (l : List (Int × Int)) (n d : Int) (w : World) (hg : rnnB l = true) (ht : timB n d = true) (hA : AntsAt w A l) :
    Calls Try.prog 71 #[.slice A l.length c, .agg #[.int .i64 n, .int .i64 d]] w fun e w' => ∃ A' n' c', e = .returned (.slice A' n' c') ∧ n' = l.length ∧ SlOwn pairS w' w.heap.size 32 (.slice A' n' c') (plL n d l) ∧ Below w.heap.size w w' := by
  obtain ⟨i0, hi, hz0, hz1, hz2⟩ := info_parts momInfo
  have hl12 := rnn_len hg
  have HRN : Hid (∀ x, x ∈ l → rnOk x) := fun x hx => rnn_mem hg hx
  have HT := Lib.hid ht
  have HOB : Hid (∀ w, AntsAt w A l → Calls Try.prog 73 #[.slice A l.length c, .agg #[.int .i64 n, .int .i64 d]] w fun e w' => ∃ A' n' c' m, e = .returned (.slice A' n' c') ∧ n' = l.length ∧ SlOwn pairS w' w.heap.size 64 (.slice A' n' c') m ∧ m.Perm l ∧ m.map (keyR n d) = ghL n d l ∧ Below w.heap.size w w') := fun w h => orderBehind_any A c l n d w hg ht h
  obtain ⟨W0, hW0⟩ : ∃ X, X = w.alloc (Obj.cells #[Value.int IntKind.i64 n, Value.int IntKind.i64 d] 32) := ⟨_, rfl⟩
  have C0 : Hid (W0.cell? ⟨w.heap.size, 0, none⟩ = some (.int .i64 n)) := by show _ = _; rw [hW0]; simp
  have C1 : Hid (W0.cell? ⟨w.heap.size, 1, none⟩ = some (.int .i64 d)) := by show _ = _; rw [hW0]; simp
  have HB0 : Hid (Below w.heap.size w W0) := by show Below _ _ _; rw [hW0]; exact (Below.refl _ _).alloc (Nat.le_refl _) _
  have HA := Lib.hid (hA.below HB0.out)
  have HS0 : Hid (W0.heap.size = w.heap.size + 1) := by show _ = _; rw [hW0]; simp
  clear hA hg ht
  go_enter Try.func71, Try.ntmps71
  go_wp2_with (at_make; rw [← hW0]; refine wpList_make_own _ rfl _ _ _ rfl W0.heap.size 32 i0 _ 2 Try.underlying35 hi hz0 hz1 .i64 .i64 _ l.length rfl rfl rfl (by rw [hz2]; omega) (by unfold maxLen; omega) (Nat.le_refl _) ?_; intro w2 hown hgr; have hb2 : Below W0.heap.size W0 w2 := (Below.refl _ _).grown hgr (Nat.le_refl _) (by simp); have c0 := Below.cell_some hb2 C0.out; have c1 := Below.cell_some hb2 C1.out; clear hgr)
  have HO2 : Hid (SlOwn pairS w2 W0.heap.size 32 (.slice (some ⟨W0.heap.size, 0, none⟩) 0 l.length) []) := by
    have h : w2.ownsRow W0.heap.size 32 2 (.slice (some ⟨W0.heap.size, 0, none⟩) 0 l.length) 0 [] := by simpa using hown
    exact h
  have HB2 := Lib.hid hb2
  clear hW0 hown hb2
  go_wp2_with fail
  refine (HOB.out _ (HA.out.below HB2.out)).mono ?_
  rintro e w3 ⟨A3, n3, c3, m, rfl, hn3, ho3, hp3, hm3, hb3⟩
  have HO3 := Lib.hid (HO2.out.below hb3)
  have HB3 := Lib.hid (HB2.out.trans (hb3.mono HB2.out.size))
  have HMP := Lib.hid (pl_of hm3)
  have HMO : Hid (∀ x, x ∈ m → rnOk x) := fun x hx => HRN.out x (hp3.mem_iff.1 hx)
  have hml : m.length = l.length := hp3.length_eq
  have hm12 : m.length ≤ 12 := by omega
  have HSM := Lib.hid ho3.sl
  have HLT := Lib.hid (World.ownsRow.lt ho3)
  have HS2 : Hid (W0.heap.size < w2.heap.size) := (World.ownsRow.lt HO2.out _ rfl).2
  have HN3 : Hid (n3 = m.length) := by show _ = _; rw [hn3, hml]
  have HML := Lib.hid hml
  have HAD := Lib.hid (own_addr ho3)
  clear hn3 ho3 hp3 hm3 hb3 c0 c1 hml
  have hn3 := HN3.out
  subst hn3
  go_wp2
  go_loopw [5, 15] (fun v i wr => ∃ (k : Nat) (A5 : Option Addr) (n5 c5 : Nat), k ≤ m.length ∧ i = .int .i64 k ∧ v = .slice A5 n5 c5 ∧ Below W0.heap.size W0 wr ∧ (∀ a g, A3 = some a → (Value.slice A5 n5 c5).ownBlock = some g → g ≠ a.block) ∧ SlAt pairS wr A3 m ∧ SlOwn pairS wr W0.heap.size 32 (.slice A5 n5 c5) ((m.take k).map (plF n d)))
    (fun _ i _ => m.length - (intOf i).toNat)
  case atStart =>
    refine ⟨0, _, _, _, Nat.zero_le _, rfl, rfl, HB3.out, fun a g ha hg => ?_, HSM.out, by rw [← HS0.out]; exact HO3.out⟩
    subst ha
    have h1 := (HLT.out a.block (by
      rcases HAD.out with ⟨h, _⟩ | ⟨g2, h⟩
      · cases h
      · injection h with h; subst h; rfl)).1
    injection hg with hg
    have := HS2.out
    have := HS0.out
    simp only at hg
    omega
  case round =>
    obtain ⟨k, A5, n5, c5, hk, rfl, rfl, hbr, hne, hsm, hown⟩ := hrel
    have HBr := Lib.hid hbr
    have hsw := hbr.size
    have HNE := Lib.hid hne
    have HMr := Lib.hid hsm
    have HO := Lib.hid hown
    have C0r := Lib.hid (Below.cell_some hbr C0.out)
    have C1r := Lib.hid (Below.cell_some hbr C1.out)
    clear hbr hne hsm hown
    by_cases hlt : k < m.length
    · obtain ⟨b, off, rfl, l0, hc⟩ := (slAt_ants HMr.out).at_ hlt
      obtain ⟨a0, a1⟩ := hc k hlt
      have HSN := Lib.hid (pl_snoc n d m k hlt)
      have HLEN : Hid (((m.take k).map (plF n d)).length ≤ 100) := by show _ ≤ _; simp; omega
      have HOK := Lib.hid (HMO.out _ (mem_getD hlt))
      have HLTo := Lib.hid (World.ownsRow.lt HO.out)
      clear hc
      have HPF : Hid (plF n d (m.getD k (0, 0)) = ((lowP (keyR n d (m.getD k (0, 0))).1 d).1, (lowP (keyR n d (m.getD k (0, 0))).1 d).2)) := rfl
      generalize m.getD k (0, 0) = x at *
      have HGX : Hid (∀ g w, w.cell? ⟨g, 0, none⟩ = some (.int .i64 x.1) → w.cell? ⟨g, 1, none⟩ = some (.int .i64 x.2) → Calls Try.prog 97 #[.agg #[.int .i64 n, .int .i64 d], .pointer (some ⟨g, 0, none⟩)] w fun e w' => e = .returned (.agg #[.int .i64 (lowP (keyR n d x).1 d).1, .int .i64 (lowP (keyR n d x).1 d).2]) ∧ Below w.heap.size w w' ∧ w.drawn ≤ w'.drawn) := fun g w a b => ghostAt_any x n d g w HOK.out HT.out a b
      generalize (lowP (keyR n d x).1 d).1 = u1 at *
      generalize (lowP (keyR n d x).1 d).2 = u2 at *
      generalize hpf : plF n d x = pf at *
      clear hpf
      obtain ⟨x1, x2⟩ := x
      simp only at a0 a1 HGX
      generalize (m.take k).map (plF n d) = s at *
      obtain ⟨W1, hW1⟩ : ∃ X, X = wr.alloc (Obj.cells #[Value.int IntKind.i64 x1, Value.int IntKind.i64 x2] 64) := ⟨_, rfl⟩
      have r0 : W1.cell? ⟨wr.heap.size, 0, none⟩ = some (.int .i64 x1) := by rw [hW1]; simp
      have r1 : W1.cell? ⟨wr.heap.size, 1, none⟩ = some (.int .i64 x2) := by rw [hW1]; simp
      have c0 : W1.cell? ⟨w.heap.size, 0, none⟩ = some (.int .i64 n) := by rw [hW1]; exact alloc_some C0r.out _
      have c1 : W1.cell? ⟨w.heap.size, 1, none⟩ = some (.int .i64 d) := by rw [hW1]; exact alloc_some C1r.out _
      have hb11 : Below wr.heap.size wr W1 := by rw [hW1]; exact (Below.refl _ _).alloc (Nat.le_refl _) _
      have HB11 := Lib.hid hb11
      have hs11 : wr.heap.size < W1.heap.size := by rw [hW1]; simp
      have hw0 : w.heap.size < W0.heap.size := World.block_lt_of_cell? _ _ C0.out
      clear hb11
      go_wp2
      rw [← hW1]
      clear hW1
      go_region_held3 (fun w' => w'.cell? ⟨wr.heap.size, 0, none⟩ = some (.int .i64 x1) ∧ w'.cell? ⟨wr.heap.size, 1, none⟩ = some (.int .i64 x2) ∧ w'.cell? ⟨w.heap.size, 0, none⟩ = some (.int .i64 n) ∧ w'.cell? ⟨w.heap.size, 1, none⟩ = some (.int .i64 d))
        (first | exact ⟨r0, r1, c0, c1⟩ | exact ⟨alloc_some r0 _, alloc_some r1 _, alloc_some c0 _, alloc_some c1 _⟩ | go_keep)
        (first
          | (go_at_call 86; with_reducible refine (ghostOf_any x1 x2 W1.drew).mono ?_; rintro e q1 ⟨gx, rfl, gx0, gx1, hbx, hdx⟩; have hbw := below_drew hbx; have r0 := Below.cell_some hbw r0; have r1 := Below.cell_some hbw r1; have c0 := Below.cell_some hbw c0; have c1 := Below.cell_some hbw c1; have QB1 := Lib.hid (HB11.out.trans (hbw.mono HB11.out.size)); clear hbx hbw hdx)
          | (go_at_call 97; with_reducible refine (HGX.out gx q1 gx0 gx1).mono ?_; rintro e q2 ⟨rfl, hbw, hdx⟩; have r0 := Below.cell_some hbw r0; have r1 := Below.cell_some hbw r1; have c0 := Below.cell_some hbw c0; have c1 := Below.cell_some hbw c1; have QB2 := Lib.hid (QB1.out.trans (hbw.mono QB1.out.size)); have QB3 := Lib.hid (QB2.out.alloc QB2.out.size (Obj.cells #[Value.int IntKind.i64 u1, Value.int IntKind.i64 u2] 32)); have HO4 := Lib.hid (HO.out.below QB3.out); have HM4 := Lib.hid (HMr.out.below QB3.out); have r0a := alloc_some r0 (Obj.cells #[Value.int IntKind.i64 u1, Value.int IntKind.i64 u2] 32); have r1a := alloc_some r1 (Obj.cells #[Value.int IntKind.i64 u1, Value.int IntKind.i64 u2] 32); have c0a := alloc_some c0 (Obj.cells #[Value.int IntKind.i64 u1, Value.int IntKind.i64 u2] 32); have c1a := alloc_some c1 (Obj.cells #[Value.int IntKind.i64 u1, Value.int IntKind.i64 u2] 32); clear hbw hdx)
          | (refine step_append_slsw pairS _ rfl _ _ 35 rfl W0.heap.size 32 i0 _ 16 Try.underlying35 hi hz0 hz1 hz2 rfl (by decide) (.slice A5 n5 c5) s rfl HO4.out ⟨q2.heap.size, 0, none⟩ 1 1 [(u1, u2)] rfl rfl (slAt_one (heap_new rfl)) (by have := HLEN.out; simp only [List.length_cons, List.length_nil]; omega) (by have := QB3.out.size; omega) ?_; intro A7 n7 k7 w7 ho7 hg7 hat7; have r0 := hg7.cell r0a (fun h => by have := (HLTo.out _ h.symm).2; simp only at this; omega); have r1 := hg7.cell r1a (fun h => by have := (HLTo.out _ h.symm).2; simp only at this; omega); have c0 := hg7.cell c0a (fun h => by have := (HLTo.out _ h.symm).1; simp only at this; omega); have c1 := hg7.cell c1a (fun h => by have := (HLTo.out _ h.symm).1; simp only at this; omega); have HO7 := Lib.hid ho7; have HG7 := Lib.hid hg7; have HAT7 := Lib.hid hat7; clear ho7 hg7 hat7))
      go_wp2
      go_roundw
      case rel =>
        have hbg : Below W0.heap.size (q2.alloc (Obj.cells #[Value.int IntKind.i64 u1, Value.int IntKind.i64 u2] 32)) w7 := (Below.refl _ _).grown HG7.out (by have := QB3.out.size; omega) (fun g hg => (HLTo.out g hg).1)
        refine ⟨k + 1, A7, n7, k7, by omega, by go_num, rfl, (HBr.out.trans (QB3.out.mono hsw)).trans hbg, fun a g ha hg => ?_, HM4.out.grown HG7.out (fun a ha h => HNE.out a a.block ha h rfl), ?_⟩
        · rcases HAT7.out with h | h
          · exact HNE.out a g ha (by rw [← h]; exact hg)
          · rw [h] at hg
            injection hg with hg
            injection ha with ha
            subst ha
            have := QB2.out.size
            simp at hg
            simp only
            omega
        · rw [HSN.out, HPF.out]; exact HO7.out
      case measure => simp [intOf]; omega
    · obtain rfl : k = m.length := by omega
      have HN5 : Hid (n5 = l.length) := by show _ = _; rw [own_len HO.out, List.take_length, List.length_map, HML.out]
      have HO9 : Hid (SlOwn pairS wr W0.heap.size 32 (.slice A5 n5 c5) (plL n d l)) := by
        have h := HO.out
        rwa [List.take_length, HMP.out] at h
      go_wp2
      go_ret
      exact ⟨_, _, _, rfl, HN5.out, SlOwn.base HO9.out HB0.out.size, HB0.out.trans (HBr.out.mono HB0.out.size)⟩

/-! ### PacesBehind -/
def paV (l : List (Int × Int)) (n d : Int) : List Int := if askB l n d then (ghL n d l).map Prod.snd else []
theorem paV_len (l : List (Int × Int)) (n d : Int) : (paV l n d).length ≤ 12 := by
  unfold paV
  split
  · rename_i h
    unfold askB at h
    rw [Bool.and_eq_true] at h
    rw [List.length_map, ghL_len]
    exact rnn_len h.1
  · simp
theorem snd_key (n d : Int) (m : List (Int × Int)) : m.map Prod.snd = (m.map (keyR n d)).map Prod.snd := by
  rw [List.map_map]; rfl

set_option maxRecDepth 100000 in
set_option maxHeartbeats 1000000 in
theorem implPacesBehind_any (A : Option Addr) (c : Nat) (l : List (Int × Int)) (n d : Int) (w : World) (hA : AntsAt w A l) :
    Calls Try.prog 33 #[.slice A l.length c, .agg #[.int .i64 n, .int .i64 d]] w fun e w' => ∃ A' n' c', e = .returned (.tuple #[.slice A' n' c', .bool (askB l n d)]) ∧ n' = (paV l n d).length ∧ SlOwn intS w' w.heap.size 3 (.slice A' n' c') (paV l n d) ∧ Below w.heap.size w w' := by
  have HA := Lib.hid (hA.alloc (Obj.cells #[Value.int IntKind.i64 n, Value.int IntKind.i64 d] 32))
  clear hA
  cases hg : rnnB l with
  | false =>
    have HV : Hid (paV l n d = [] ∧ askB l n d = false) := by show _ ∧ _; simp [paV, askB, hg]
    have HG := Lib.hid (areRunners_at A c l false hg)
    clear hg
    go_enter Try.func33, Try.ntmps33
    go_wp2_with fail
    refine (HG.out _ HA.out).mono ?_
    rintro e w1 ⟨rfl, hb⟩
    go_wp2
    go_ret2
    exact ⟨none, 0, 0, ret_sbR rfl HV.out.2.symm, by rw [HV.out.1]; rfl, by rw [HV.out.1]; exact SlOwn.nil intS _ _ _, ((Below.refl _ _).alloc (Nat.le_refl _) _).trans (hb.mono (by simp))⟩
  | true =>
    have HG := Lib.hid (areRunners_at A c l true hg)
    cases ht : timB n d with
    | false =>
      have HV : Hid (paV l n d = [] ∧ askB l n d = false) := by show _ ∧ _; simp [paV, askB, ht]
      have HM := Lib.hid (isTime_at n d false ht)
      clear hg ht
      go_enter Try.func33, Try.ntmps33
      go_wp2_with fail
      refine (HG.out _ HA.out).mono ?_
      rintro e w1 ⟨rfl, hb⟩
      have c0 : w1.cell? ⟨w.heap.size, 0, none⟩ = some (.int .i64 n) := by rw [hb.cell (p := ⟨w.heap.size, 0, none⟩) (by simp)]; simp
      have c1 : w1.cell? ⟨w.heap.size, 1, none⟩ = some (.int .i64 d) := by rw [hb.cell (p := ⟨w.heap.size, 1, none⟩) (by simp)]; simp
      have HB1 := Lib.hid (((Below.refl _ w).alloc (Nat.le_refl _) _).trans (hb.mono (by simp)))
      clear hb
      go_wp2_with fail
      refine (HM.out _).mono ?_
      rintro e w2 ⟨rfl, hb⟩
      go_wp2
      go_ret2
      exact ⟨none, 0, 0, ret_sbR rfl HV.out.2.symm, by rw [HV.out.1]; rfl, by rw [HV.out.1]; exact SlOwn.nil intS _ _ _, HB1.out.trans (hb.mono HB1.out.size)⟩
    | true =>
      have HV : Hid (paV l n d = (ghL n d l).map Prod.snd ∧ askB l n d = true) := by show _ ∧ _; simp [paV, askB, hg, ht]
      have HM := Lib.hid (isTime_at n d true ht)
      have HOB := Lib.hid (fun w h => orderBehind_any A c l n d w hg ht h)
      have hl12 := rnn_len hg
      clear hg ht
      go_enter Try.func33, Try.ntmps33
      go_wp2_with fail
      refine (HG.out _ HA.out).mono ?_
      rintro e w1 ⟨rfl, hb⟩
      have c0 : w1.cell? ⟨w.heap.size, 0, none⟩ = some (.int .i64 n) := by rw [hb.cell (p := ⟨w.heap.size, 0, none⟩) (by simp)]; simp
      have c1 : w1.cell? ⟨w.heap.size, 1, none⟩ = some (.int .i64 d) := by rw [hb.cell (p := ⟨w.heap.size, 1, none⟩) (by simp)]; simp
      have HB1 := Lib.hid (((Below.refl _ w).alloc (Nat.le_refl _) _).trans (hb.mono (by simp)))
      have HA1 := Lib.hid (HA.out.below hb)
      clear hb
      go_wp2_with fail
      refine (HM.out _).mono ?_
      rintro e w2 ⟨rfl, hb⟩
      have c0 := Below.cell_some hb c0
      have c1 := Below.cell_some hb c1
      have HB2 := Lib.hid (HB1.out.trans (hb.mono HB1.out.size))
      have HA2 := Lib.hid (HA1.out.below hb)
      clear hb
      go_wp2_with fail
      refine (HOB.out _ HA2.out).mono ?_
      rintro e w3 ⟨A3, n3, c3, m, rfl, hn3, ho3, hp3, hm3, hb3⟩
      have HO3 := Lib.hid (slAt_ants ho3.sl)
      have HB3 := Lib.hid (HB2.out.trans (hb3.mono HB2.out.size))
      have hml : m.length = l.length := hp3.length_eq
      have hm12 : m.length ≤ 12 := by omega
      obtain rfl : n3 = m.length := by rw [hn3, hml]
      have HE : Hid (m.map Prod.snd = (ghL n d l).map Prod.snd) := by show _ = _; rw [snd_key n d m, hm3]
      clear ho3 hb3 hn3 hp3 hm3 hml
      go_wp2_with fail
      refine (pacesOf_any A3 c3 m _ (by omega) HO3.out).mono ?_
      rintro e w4 ⟨A4, n4, c4, rfl, hn4, ho4, hb4⟩
      have HN4 := Lib.hid hn4
      have HO4 := Lib.hid ho4
      clear hn4 ho4
      go_wp2
      go_ret2
      exact ⟨_, _, _, ret_sbR rfl HV.out.2.symm, by rw [HV.out.1, ← HE.out, HN4.out]; simp, by rw [HV.out.1, ← HE.out]; exact SlOwn.base HO4.out HB3.out.size, HB3.out.trans (hb4.mono HB3.out.size)⟩

set_option maxRecDepth 100000 in
set_option maxHeartbeats 1000000 in
theorem specPacesBehind_any (A : Option Addr) (c : Nat) (l : List (Int × Int)) (n d : Int) (w : World) (hA : AntsAt w A l) :
    Calls Try.prog 32 #[.slice A l.length c, .agg #[.int .i64 n, .int .i64 d]] w fun e w' => ∃ A' n' c', e = .returned (.tuple #[.slice A' n' c', .bool (askB l n d)]) ∧ n' = (paV l n d).length ∧ SlOwn intS w' w.heap.size 3 (.slice A' n' c') (paV l n d) ∧ Below w.heap.size w w' := by
  obtain ⟨i0, hi, hz0, hz1, hz2⟩ := info_parts intInfoR
  have HA := Lib.hid (hA.alloc (Obj.cells #[Value.int IntKind.i64 n, Value.int IntKind.i64 d] 32))
  clear hA
  cases hg : askB l n d with
  | false =>
    have HV : Hid (paV l n d = []) := by show _ = _; simp [paV, hg]
    have HG := Lib.hid (asked_at A c l n d false hg)
    clear hg
    go_enter Try.func32, Try.ntmps32
    go_wp2_with fail
    refine (HG.out _ HA.out).mono ?_
    rintro e w1 ⟨rfl, hb⟩
    go_wp2
    go_ret2
    exact ⟨none, 0, 0, rfl, by rw [HV.out]; rfl, by rw [HV.out]; exact SlOwn.nil intS _ _ _, ((Below.refl _ _).alloc (Nat.le_refl _) _).trans (hb.mono (by simp))⟩
  | true =>
    have HV : Hid (paV l n d = (ghL n d l).map Prod.snd) := by show _ = _; simp [paV, hg]
    have HG := Lib.hid (asked_at A c l n d true hg)
    unfold askB at hg
    rw [Bool.and_eq_true] at hg
    obtain ⟨hgr, ht⟩ := hg
    have HGH := Lib.hid (fun w h => spGhosts_any A c l n d w hgr ht h)
    have hl12 := rnn_len hgr
    have HGL := Lib.hid (ghL_len n d l)
    clear hgr ht
    generalize ghL n d l = s at *
    go_enter Try.func32, Try.ntmps32
    go_wp2_with fail
    refine (HG.out _ HA.out).mono ?_
    rintro e w1 ⟨rfl, hb⟩
    have c0 : w1.cell? ⟨w.heap.size, 0, none⟩ = some (.int .i64 n) := by rw [hb.cell (p := ⟨w.heap.size, 0, none⟩) (by simp)]; simp
    have c1 : w1.cell? ⟨w.heap.size, 1, none⟩ = some (.int .i64 d) := by rw [hb.cell (p := ⟨w.heap.size, 1, none⟩) (by simp)]; simp
    have HB1 := Lib.hid (((Below.refl _ w).alloc (Nat.le_refl _) _).trans (hb.mono (by simp)))
    have HA1 := Lib.hid (HA.out.below hb)
    clear hb
    go_wp2_with fail
    refine (HGH.out _ HA1.out).mono ?_
    rintro e w2 ⟨A2, n2, c2, rfl, hn2, ho2, hb2⟩
    have HS2 := Lib.hid (slAt_ants ho2.sl)
    have HB2 := Lib.hid (HB1.out.trans (hb2.mono HB1.out.size))
    have hs2 := HB2.out.size
    obtain rfl : n2 = s.length := by rw [hn2, HGL.out]
    have hs12 : s.length ≤ 12 := by rw [HGL.out]; exact hl12
    clear ho2 hb2 hn2 c0 c1
    go_wp2
    go_loopw [6, 17] (fun v i wr => ∃ (k : Nat) (A5 : Option Addr) (n5 c5 : Nat), k ≤ s.length ∧ i = .int .i64 k ∧ v = .slice A5 n5 c5 ∧ Below w2.heap.size w2 wr ∧ SlOwn intS wr w2.heap.size 3 (.slice A5 n5 c5) ((s.take k).map Prod.snd))
      (fun _ i _ => s.length - (intOf i).toNat)
    case atStart => exact ⟨0, none, 0, 0, Nat.zero_le _, rfl, rfl, Below.refl _ _, SlOwn.nil intS _ _ _⟩
    case round =>
      obtain ⟨k, A5, n5, c5, hk, rfl, rfl, hbr, hown⟩ := hrel
      have HBr := Lib.hid hbr
      have hsr := hbr.size
      have HSr := Lib.hid (HS2.out.below hbr)
      have HO := Lib.hid hown
      clear hbr hown
      by_cases hlt : k < s.length
      · obtain ⟨b, off, rfl, l0, hc⟩ := HSr.out.at_ hlt
        obtain ⟨a0, a1⟩ := hc k hlt
        have HSN := Lib.hid (paces_snoc s k hlt)
        have HLEN : Hid (((s.take k).map Prod.snd).length ≤ 65536) := by show _ ≤ _; simp; omega
        clear hc
        generalize s.getD k (0, 0) = x at *
        obtain ⟨x1, x2⟩ := x
        simp only at a0 a1
        generalize (s.take k).map Prod.snd = m at *
        go_wp2_with (at_builtin; go_must (refine wpList_append_slsv intS _ rfl _ _ 42 rfl w2.heap.size 3 i0 _ 8 Try.underlying42 hi hz0 hz1 hz2 rfl (by decide) (.slice A5 n5 c5) m rfl ((HO.out.alloc' _).alloc' _) _ 1 1 [x2] rfl rfl (slAt_one1 (heap_new (by simp))) (by have := HLEN.out; simp only [List.length_cons, List.length_nil]; omega) (by simp; omega) ?_); intro A7 n7 k7 w7 hn7 ho7 hb7; have HO7 := Lib.hid ho7; have HB7 := Lib.hid (((HBr.out.alloc HBr.out.size _).alloc (by simp; omega) _).trans hb7); clear hn7 ho7 hb7)
        go_roundw
        case rel => exact ⟨k + 1, A7, n7, k7, by omega, by go_num, rfl, HB7.out, by rw [HSN.out]; exact HO7.out⟩
        case measure => simp [intOf]; omega
      · obtain rfl : k = s.length := by omega
        have HN5 := Lib.hid (own_len HO.out)
        have HO9 : Hid (SlOwn intS wr w2.heap.size 3 (.slice A5 n5 c5) (s.map Prod.snd)) := by
          have h := HO.out
          rwa [List.take_length] at h
        go_wp2
        go_ret2
        exact ⟨_, _, _, rfl, by rw [HV.out, HN5.out, List.take_length], by rw [HV.out]; exact SlOwn.base HO9.out hs2, HB2.out.trans (HBr.out.mono hs2)⟩

/-! ### PlacesAt -/
def plOk (l : List (Int × Int)) (n d : Int) : Bool := askB l n d && (plL n d l).all fun q => momB q.1 q.2
def plV (l : List (Int × Int)) (n d : Int) : List (Int × Int) := if plOk l n d then plL n d l else []
theorem plV_len (l : List (Int × Int)) (n d : Int) : (plV l n d).length ≤ 12 := by
  unfold plV
  split
  · rename_i h
    unfold plOk askB at h
    rw [Bool.and_eq_true, Bool.and_eq_true] at h
    rw [plL_len]
    exact rnn_len h.1.1
  · simp
theorem all_pre {p : Int × Int → Bool} {s : List (Int × Int)} {k : Nat} (h : ∀ j, j < k → p (s.getD j (0, 0)) = true) (hk : p (s.getD k (0, 0)) = true) : ∀ j, j < k + 1 → p (s.getD j (0, 0)) = true := fun j hj => by
  by_cases e : j = k
  · subst e; exact hk
  · exact h j (by omega)
theorem all_no2 {p : Int × Int → Bool} {s : List (Int × Int)} {k : Nat} (hk : k < s.length) (h : p (s.getD k (0, 0)) = false) : s.all p = false := by
  rw [List.all_eq_false]
  exact ⟨_, mem_getD hk, by rw [h]; decide⟩
theorem all_yes2 {p : Int × Int → Bool} {s : List (Int × Int)} (h : ∀ j, j < s.length → p (s.getD j (0, 0)) = true) : s.all p = true := by
  rw [List.all_eq_true]
  intro x hx
  obtain ⟨j, hj, rfl⟩ := List.mem_iff_getElem.1 hx
  rw [← getDp hj]
  exact h j hj

set_option maxRecDepth 100000 in
set_option maxHeartbeats 1000000 in
theorem implPlacesAt_any (A : Option Addr) (c : Nat) (l : List (Int × Int)) (n d : Int) (w : World) (hA : AntsAt w A l) :
    Calls Try.prog 27 #[.slice A l.length c, .agg #[.int .i64 n, .int .i64 d]] w fun e w' => ∃ A' n' c', e = .returned (.tuple #[.slice A' n' c', .bool (plOk l n d)]) ∧ n' = (plV l n d).length ∧ AntsOwn w' w.heap.size 32 (.slice A' n' c') (plV l n d) ∧ Below w.heap.size w w' := by
  have HA := Lib.hid (hA.alloc (Obj.cells #[Value.int IntKind.i64 n, Value.int IntKind.i64 d] 32))
  clear hA
  cases hg : rnnB l with
  | false =>
    have HV : Hid (plV l n d = [] ∧ plOk l n d = false) := by show _ ∧ _; simp [plV, plOk, askB, hg]
    have HG := Lib.hid (areRunners_at A c l false hg)
    clear hg
    go_enter Try.func27, Try.ntmps27
    go_wp2_with fail
    refine (HG.out _ HA.out).mono ?_
    rintro e w1 ⟨rfl, hb⟩
    go_wp2
    go_ret2
    exact ⟨none, 0, 0, ret_sbR rfl HV.out.2.symm, by rw [HV.out.1]; rfl, by rw [HV.out.1]; exact SlOwn.nil pairS _ _ _, ((Below.refl _ _).alloc (Nat.le_refl _) _).trans (hb.mono (by simp))⟩
  | true =>
    have HG := Lib.hid (areRunners_at A c l true hg)
    cases ht : timB n d with
    | false =>
      have HV : Hid (plV l n d = [] ∧ plOk l n d = false) := by show _ ∧ _; simp [plV, plOk, askB, ht]
      have HM := Lib.hid (isTime_at n d false ht)
      clear hg ht
      go_enter Try.func27, Try.ntmps27
      go_wp2_with fail
      refine (HG.out _ HA.out).mono ?_
      rintro e w1 ⟨rfl, hb⟩
      have c0 : w1.cell? ⟨w.heap.size, 0, none⟩ = some (.int .i64 n) := by rw [hb.cell (p := ⟨w.heap.size, 0, none⟩) (by simp)]; simp
      have c1 : w1.cell? ⟨w.heap.size, 1, none⟩ = some (.int .i64 d) := by rw [hb.cell (p := ⟨w.heap.size, 1, none⟩) (by simp)]; simp
      have HB1 := Lib.hid (((Below.refl _ w).alloc (Nat.le_refl _) _).trans (hb.mono (by simp)))
      clear hb
      go_wp2_with fail
      refine (HM.out _).mono ?_
      rintro e w2 ⟨rfl, hb⟩
      go_wp2
      go_ret2
      exact ⟨none, 0, 0, ret_sbR rfl HV.out.2.symm, by rw [HV.out.1]; rfl, by rw [HV.out.1]; exact SlOwn.nil pairS _ _ _, HB1.out.trans (hb.mono HB1.out.size)⟩
    | true =>
      have HOKK : Hid (plOk l n d = (plL n d l).all fun q => momB q.1 q.2) := by show _ = _; simp [plOk, askB, hg, ht]
      have HVV : Hid (plV l n d = if plOk l n d then plL n d l else []) := rfl
      have HM := Lib.hid (isTime_at n d true ht)
      have HPL := Lib.hid (fun w h => placesOfAll_any A c l n d w hg ht h)
      have hl12 := rnn_len hg
      have HLL := Lib.hid (plL_len n d l)
      clear hg ht
      generalize plL n d l = s at *
      generalize plV l n d = V at *
      generalize plOk l n d = R at *
      go_enter Try.func27, Try.ntmps27
      go_wp2_with fail
      refine (HG.out _ HA.out).mono ?_
      rintro e w1 ⟨rfl, hb⟩
      have c0 : w1.cell? ⟨w.heap.size, 0, none⟩ = some (.int .i64 n) := by rw [hb.cell (p := ⟨w.heap.size, 0, none⟩) (by simp)]; simp
      have c1 : w1.cell? ⟨w.heap.size, 1, none⟩ = some (.int .i64 d) := by rw [hb.cell (p := ⟨w.heap.size, 1, none⟩) (by simp)]; simp
      have HB1 := Lib.hid (((Below.refl _ w).alloc (Nat.le_refl _) _).trans (hb.mono (by simp)))
      have HA1 := Lib.hid (HA.out.below hb)
      clear hb
      go_wp2_with fail
      refine (HM.out _).mono ?_
      rintro e w2 ⟨rfl, hb⟩
      have c0 := Below.cell_some hb c0
      have c1 := Below.cell_some hb c1
      have HB2 := Lib.hid (HB1.out.trans (hb.mono HB1.out.size))
      have HA2 := Lib.hid (HA1.out.below hb)
      clear hb
      go_wp2_with fail
      refine (HPL.out _ HA2.out).mono ?_
      rintro e w3 ⟨A3, n3, c3, rfl, hn3, ho3, hb3⟩
      have HO3 := Lib.hid ho3
      have HB3 := Lib.hid (HB2.out.trans (hb3.mono HB2.out.size))
      obtain rfl : n3 = s.length := by rw [hn3, HLL.out]
      have hs12 : s.length ≤ 12 := by rw [HLL.out]; exact hl12
      have hs3 := HB2.out.size
      clear ho3 hb3 hn3 c0 c1
      go_wp2
      go_loopw [22] (fun i wr => ∃ k : Nat, k ≤ s.length ∧ i = .int .i64 k ∧ (∀ j, j < k → momB (s.getD j (0, 0)).1 (s.getD j (0, 0)).2 = true) ∧ Below w3.heap.size w3 wr) (fun i _ => s.length - (intOf i).toNat)
      case atStart => exact ⟨0, Nat.zero_le _, rfl, fun j hj => absurd hj (Nat.not_lt_zero j), Below.refl _ _⟩
      case round =>
        obtain ⟨k, hk, rfl, hall, hbr⟩ := hrel
        have HBr := Lib.hid hbr
        have HALL := Lib.hid hall
        have HOr := Lib.hid (slAt_ants (HO3.out.sl.below hbr))
        clear hbr hall
        by_cases hlt : k < s.length
        · obtain ⟨b, off, rfl, l0, hc⟩ := HOr.out.at_ hlt
          obtain ⟨a0, a1⟩ := hc k hlt
          clear hc
          cases hmb : momB (s.getD k (0, 0)).1 (s.getD k (0, 0)).2 with
          | false =>
            have HR : Hid (R = false) := by show _ = _; rw [HOKK.out]; exact all_no2 (p := fun q => momB q.1 q.2) hlt hmb
            have HVE : Hid (V = []) := by show _ = _; rw [HVV.out, HR.out]; rfl
            have HMM := Lib.hid (isMoment_at _ _ false hmb)
            clear hmb
            generalize s.getD k (0, 0) = x at *
            obtain ⟨x1, x2⟩ := x
            simp only at a0 a1 HMM
            go_wp2_with fail
            refine (HMM.out _).mono ?_
            rintro e w4 ⟨rfl, hb4⟩
            go_wp2
            go_ret2
            exact ⟨none, 0, 0, ret_sbR rfl HR.out.symm, by rw [HVE.out]; rfl, by rw [HVE.out]; exact SlOwn.nil pairS _ _ _, HB3.out.trans ((HBr.out.trans (((Below.refl _ _).alloc (Nat.le_refl _) _).mono HBr.out.size)).mono HB3.out.size) |>.trans (hb4.mono (by have := HB3.out.size; have := HBr.out.size; simp; omega))⟩
          | true =>
            have HAL := Lib.hid (all_pre (p := fun q => momB q.1 q.2) (s := s) HALL.out hmb)
            have HMM := Lib.hid (isMoment_at _ _ true hmb)
            clear hmb
            generalize s.getD k (0, 0) = x at *
            obtain ⟨x1, x2⟩ := x
            simp only at a0 a1 HMM
            go_wp2_with fail
            refine (HMM.out _).mono ?_
            rintro e w4 ⟨rfl, hb4⟩
            go_wp2
            go_roundw
            case rel => exact ⟨k + 1, by omega, by go_num, HAL.out, (HBr.out.alloc HBr.out.size _).trans (hb4.mono (by have := HBr.out.size; simp; omega))⟩
            case measure => simp [intOf]; omega
        · obtain rfl : k = s.length := by omega
          have HR : Hid (R = true) := by show _ = _; rw [HOKK.out]; exact all_yes2 (p := fun q => momB q.1 q.2) HALL.out
          have HVE : Hid (V = s) := by show _ = _; rw [HVV.out, HR.out]; rfl
          have HO9 := Lib.hid (HO3.out.below HBr.out)
          go_wp2
          go_ret2
          exact ⟨_, _, _, ret_sbR rfl HR.out.symm, by rw [HVE.out], by rw [HVE.out]; exact SlOwn.base HO9.out hs3, HB3.out.trans (HBr.out.mono HB3.out.size)⟩

set_option maxRecDepth 100000 in
set_option maxHeartbeats 1000000 in
theorem specPlacesAt_any (A : Option Addr) (c : Nat) (l : List (Int × Int)) (n d : Int) (w : World) (hA : AntsAt w A l) :
    Calls Try.prog 26 #[.slice A l.length c, .agg #[.int .i64 n, .int .i64 d]] w fun e w' => ∃ A' n' c', e = .returned (.tuple #[.slice A' n' c', .bool (plOk l n d)]) ∧ n' = (plV l n d).length ∧ AntsOwn w' w.heap.size 32 (.slice A' n' c') (plV l n d) ∧ Below w.heap.size w w' := by
  obtain ⟨i0, hi, hz0, hz1, hz2⟩ := info_parts momInfo
  have HA := Lib.hid (hA.alloc (Obj.cells #[Value.int IntKind.i64 n, Value.int IntKind.i64 d] 32))
  clear hA
  cases hg : askB l n d with
  | false =>
    have HV : Hid (plV l n d = [] ∧ plOk l n d = false) := by show _ ∧ _; simp [plV, plOk, hg]
    have HG := Lib.hid (asked_at A c l n d false hg)
    clear hg
    go_enter Try.func26, Try.ntmps26
    go_wp2_with fail
    refine (HG.out _ HA.out).mono ?_
    rintro e w1 ⟨rfl, hb⟩
    go_wp2
    go_ret2
    exact ⟨none, 0, 0, ret_sbR rfl HV.out.2.symm, by rw [HV.out.1]; rfl, by rw [HV.out.1]; exact SlOwn.nil pairS _ _ _, ((Below.refl _ _).alloc (Nat.le_refl _) _).trans (hb.mono (by simp))⟩
  | true =>
    have HOKK : Hid (plOk l n d = (plL n d l).all fun q => momB q.1 q.2) := by show _ = _; simp [plOk, hg]
    have HVV : Hid (plV l n d = if plOk l n d then plL n d l else []) := rfl
    have HG := Lib.hid (asked_at A c l n d true hg)
    unfold askB at hg
    rw [Bool.and_eq_true] at hg
    obtain ⟨hgr, ht⟩ := hg
    have HGH := Lib.hid (fun w h => spGhosts_any A c l n d w hgr ht h)
    have hl12 := rnn_len hgr
    have HGL := Lib.hid (ghL_len n d l)
    have hti := (timB_iff n d).1 ht
    have HKEY : Hid (∀ q, q ∈ ghL n d l → -9000000 ≤ q.1 ∧ q.1 ≤ 10000000) := fun q hq => ghL_key hgr hti.1 hti.2.1 hti.2.2.1 hti.2.2.2.1 hq
    have hd0 : 0 < d := by omega
    have hd1 : d ≤ 1000000000000 := by omega
    have HPLD : Hid (plL n d l = (ghL n d l).map fun q => lowP q.1 d) := rfl
    clear hgr ht hti
    generalize plL n d l = pl at *
    generalize plV l n d = V at *
    generalize plOk l n d = R at *
    generalize ghL n d l = s at *
    go_enter Try.func26, Try.ntmps26
    go_wp2_with fail
    refine (HG.out _ HA.out).mono ?_
    rintro e w1 ⟨rfl, hb⟩
    have c0 : w1.cell? ⟨w.heap.size, 0, none⟩ = some (.int .i64 n) := by rw [hb.cell (p := ⟨w.heap.size, 0, none⟩) (by simp)]; simp
    have c1 : w1.cell? ⟨w.heap.size, 1, none⟩ = some (.int .i64 d) := by rw [hb.cell (p := ⟨w.heap.size, 1, none⟩) (by simp)]; simp
    have HB1 := Lib.hid (((Below.refl _ w).alloc (Nat.le_refl _) _).trans (hb.mono (by simp)))
    have HA1 := Lib.hid (HA.out.below hb)
    clear hb
    go_wp2_with fail
    refine (HGH.out _ HA1.out).mono ?_
    rintro e w2 ⟨A2, n2, c2, rfl, hn2, ho2, hb2⟩
    have HS2 := Lib.hid (slAt_ants ho2.sl)
    have HB2 := Lib.hid (HB1.out.trans (hb2.mono HB1.out.size))
    have hs2 := HB2.out.size
    obtain rfl : n2 = s.length := by rw [hn2, HGL.out]
    have hs12 : s.length ≤ 12 := by rw [HGL.out]; exact hl12
    have C0 := Lib.hid (Below.cell_some hb2 c0)
    have C1 := Lib.hid (Below.cell_some hb2 c1)
    clear ho2 hb2 hn2 c0 c1
    go_wp2
    go_loopw [6, 19] (fun v i wr => ∃ (k : Nat) (A5 : Option Addr) (n5 c5 : Nat), k ≤ s.length ∧ i = .int .i64 k ∧ v = .slice A5 n5 c5 ∧ (∀ j, j < k → momB (lowP (s.getD j (0, 0)).1 d).1 (lowP (s.getD j (0, 0)).1 d).2 = true) ∧ Below w2.heap.size w2 wr ∧ SlOwn pairS wr w2.heap.size 32 (.slice A5 n5 c5) ((s.take k).map fun q => lowP q.1 d))
      (fun _ i _ => s.length - (intOf i).toNat)
    case atStart => exact ⟨0, none, 0, 0, Nat.zero_le _, rfl, rfl, fun j hj => absurd hj (Nat.not_lt_zero j), Below.refl _ _, SlOwn.nil pairS _ _ _⟩
    case round =>
      obtain ⟨k, A5, n5, c5, hk, rfl, rfl, hall, hbr, hown⟩ := hrel
      have HBr := Lib.hid hbr
      have hsr := hbr.size
      have HALL := Lib.hid hall
      have HSr := Lib.hid (HS2.out.below hbr)
      have HO := Lib.hid hown
      have c0 := Below.cell_some hbr C0.out
      have c1 := Below.cell_some hbr C1.out
      have hsl : w.heap.size < wr.heap.size := World.block_lt_of_cell? _ _ c0
      clear hbr hown hall
      by_cases hlt : k < s.length
      · obtain ⟨b, off, rfl, l0, hc⟩ := HSr.out.at_ hlt
        obtain ⟨a0, a1⟩ := hc k hlt
        have HSN : Hid ((s.take (k + 1)).map (fun q => lowP q.1 d) = (s.take k).map (fun q => lowP q.1 d) ++ [lowP (s.getD k (0, 0)).1 d]) := by
          show _ = _
          rw [List.take_succ_eq_append_getElem hlt, List.map_append, getDp hlt]
          rfl
        have HLEN : Hid (((s.take k).map fun q => lowP q.1 d).length ≤ 65536) := by show _ ≤ _; simp; omega
        have hkey := HKEY.out _ (mem_getD hlt)
        have HMK := Lib.hid (fun w => make_any (s.getD k (0, 0)).1 d w hd0 hd1 (by omega) (by omega))
        have HMB : Hid (mkB (s.getD k (0, 0)).1 d = momB (lowP (s.getD k (0, 0)).1 d).1 (lowP (s.getD k (0, 0)).1 d).2) := rfl
        have HMV : Hid (mkV (s.getD k (0, 0)).1 d = if mkB (s.getD k (0, 0)).1 d then lowP (s.getD k (0, 0)).1 d else (0, 0)) := rfl
        have HANO : Hid (momB (lowP (s.getD k (0, 0)).1 d).1 (lowP (s.getD k (0, 0)).1 d).2 = false → R = false) := fun h => by
          rw [HOKK.out, HPLD.out, List.all_map]
          exact all_no2 (p := fun q => momB (lowP q.1 d).1 (lowP q.1 d).2) hlt h
        have HAYS : Hid (momB (lowP (s.getD k (0, 0)).1 d).1 (lowP (s.getD k (0, 0)).1 d).2 = true → ∀ j, j < k + 1 → momB (lowP (s.getD j (0, 0)).1 d).1 (lowP (s.getD j (0, 0)).1 d).2 = true) := fun h => all_pre (p := fun q => momB (lowP q.1 d).1 (lowP q.1 d).2) (s := s) HALL.out h
        clear hc
        generalize s.getD k (0, 0) = x at *
        obtain ⟨x1, x2⟩ := x
        simp only at a0 a1 HMK HMB HMV HANO HAYS HSN
        clear hkey
        generalize (s.take k).map (fun q => lowP q.1 d) = m at *
        generalize lowP x1 d = z at *
        obtain ⟨z1, z2⟩ := z
        simp only at HMB HANO HAYS
        generalize mkV x1 d = MV at *
        cases hmb : mkB x1 d with
        | false =>
          have HR := Lib.hid (HANO.out (by rw [← HMB.out]; exact hmb))
          have HVE : Hid (V = []) := by show _ = _; rw [HVV.out, HR.out]; rfl
          rw [hmb] at HMK HMV
          have HM0 : Hid (MV = (0, 0)) := HMV.out
          rw [HM0.out] at HMK
          simp only at HMK
          clear hmb
          go_wp2_with fail
          refine (HMK.out _).mono ?_
          rintro e w4 ⟨rfl, hb4⟩
          go_wp2
          go_ret2
          exact ⟨none, 0, 0, ret_sbR rfl HR.out.symm, by rw [HVE.out]; rfl, by rw [HVE.out]; exact SlOwn.nil pairS _ _ _, ((HB2.out.trans ((HBr.out.alloc HBr.out.size _).mono hs2)).trans (hb4.mono (by simp; omega))).alloc (by have := hb4.size; simp at this; omega) _⟩
        | true =>
          have HAL := Lib.hid (HAYS.out (by rw [← HMB.out]; exact hmb))
          rw [hmb] at HMK HMV
          have HM0 : Hid (MV = (z1, z2)) := HMV.out
          rw [HM0.out] at HMK
          simp only at HMK
          clear hmb
          go_wp2_with fail
          refine (HMK.out _).mono ?_
          rintro e w4 ⟨rfl, hb4⟩
          have hb14 : Below wr.heap.size wr w4 := ((Below.refl _ _).alloc (Nat.le_refl _) _).trans (hb4.mono (by simp))
          have HO4 := Lib.hid (HO.out.below hb14)
          have HB4 := Lib.hid (HBr.out.trans (hb14.mono hsr))
          have s4 := HB4.out.size
          clear hb4 hb14
          go_wp2_with (at_builtin; go_must (refine wpList_append_slsv pairS _ rfl _ _ 35 rfl w2.heap.size 32 i0 _ 16 Try.underlying35 hi hz0 hz1 hz2 rfl (by decide) (.slice A5 n5 c5) m rfl ((HO4.out.alloc' _).alloc' _) _ 1 1 [(z1, z2)] rfl rfl (slAt_one (heap_new (by simp))) (by have := HLEN.out; simp only [List.length_cons, List.length_nil]; omega) (by simp; omega) ?_); intro A7 n7 k7 w7 hn7 ho7 hb7; have HO7 := Lib.hid ho7; have HB7 := Lib.hid (((HB4.out.alloc s4 _).alloc (by simp; omega) _).trans hb7); clear hn7 ho7 hb7)
          go_roundw
          case rel => exact ⟨k + 1, A7, n7, k7, by omega, by go_num, rfl, HAL.out, HB7.out, by rw [HSN.out]; exact HO7.out⟩
          case measure => simp [intOf]; omega
      · obtain rfl : k = s.length := by omega
        have HR : Hid (R = true) := by
          show _ = _
          rw [HOKK.out, HPLD.out, List.all_map]
          exact all_yes2 (p := fun q => momB (lowP q.1 d).1 (lowP q.1 d).2) HALL.out
        have HVE : Hid (V = s.map fun q => lowP q.1 d) := by show _ = _; rw [HVV.out, HR.out, HPLD.out]; rfl
        have HN5 := Lib.hid (own_len HO.out)
        have HO9 : Hid (SlOwn pairS wr w2.heap.size 32 (.slice A5 n5 c5) (s.map fun q => lowP q.1 d)) := by
          have h := HO.out
          rwa [List.take_length] at h
        go_wp2
        go_ret2
        exact ⟨_, _, _, ret_sbR rfl HR.out.symm, by rw [HVE.out, HN5.out, List.take_length], by rw [HVE.out]; exact SlOwn.base HO9.out hs2, HB2.out.trans (HBr.out.mono hs2)⟩
end Go.Proofs.Ytlepdphdflpoaaa
