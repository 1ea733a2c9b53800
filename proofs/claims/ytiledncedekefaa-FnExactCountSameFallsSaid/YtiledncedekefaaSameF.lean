/- CountSameFalls on both sides. -/
import Derived.Test.YtiledncedekefaaFlsR
import Derived.Test.YtiledncedekefaaLate
namespace Go.Proofs.Ytiledncedekefaa
open Go.RowKit

/-- two in one place, one behind the other -/
def metAt (q : List (Int × Int)) (i : Nat) : Bool := (q.getD i (0, 0)).1 == (q.getD (i + 1) (0, 0)).1
def alone (q : List (Int × Int)) : Bool := (List.range (q.length - 1)).all fun i => !metAt q i
/-- what CountSameFalls returns -/
def csV (L : Int) (l m : List Int) : Int := if flB L l m then (if alone (srtA (rawF L l m)) then 1 else 0) else 0
theorem rowB_pw {L : Int} {l : List Int} (h : rowB L l = true) : l.Pairwise fun a b => a < b := by
  rw [List.pairwise_iff_getElem]
  intro i j hi hj hij
  have key : ∀ n, i + n + 1 < l.length → l.getD i 0 < l.getD (i + n + 1) 0 := by
    intro n
    induction n with
    | zero => intro h2; exact rowB_next h i h2
    | succ n ih =>
      intro h2
      have h3 := ih (by omega)
      have h4 := rowB_next h (i + n + 1) h2
      have e : i + (n + 1) + 1 = i + n + 1 + 1 := by omega
      rw [e]
      omega
  have := key (j - i - 1) (by omega)
  rw [show i + (j - i - 1) + 1 = j by omega, List.getD_eq_getElem?_getD, List.getD_eq_getElem?_getD, List.getElem?_eq_getElem hi, List.getElem?_eq_getElem hj] at this
  exact this
theorem rawF_nodup {L : Int} {l m : List Int} (hl : rowB L l = true) (hm : rowB L m = true) : (rawF L l m).Nodup := by
  unfold rawF
  rw [List.nodup_append]
  refine ⟨?_, ?_, ?_⟩
  · rw [List.Nodup, List.pairwise_map]
    exact (rowB_pw hl).imp fun h e => by injection e with e; omega
  · rw [List.Nodup, List.pairwise_map]
    exact (rowB_pw hm).imp fun h e => by injection e with e; omega
  · intro a ha b hb e
    obtain ⟨x, _, rfl⟩ := List.mem_map.1 ha
    obtain ⟨y, _, rfl⟩ := List.mem_map.1 hb
    injection e with e1 e2
    omega
theorem rawF_ways {L : Int} {l m : List Int} : ∀ p ∈ rawF L l m, p.2 = -1 ∨ p.2 = 1 := by
  intro p hp
  unfold rawF at hp
  rcases List.mem_append.1 hp with h | h
  · obtain ⟨x, _, rfl⟩ := List.mem_map.1 h; exact .inl rfl
  · obtain ⟨x, _, rfl⟩ := List.mem_map.1 h; exact .inr rfl
/-- in order, two in one place have just met -/
theorem met_iff {L : Int} {l m : List Int} (hl : rowB L l = true) (hm : rowB L m = true) (i : Nat) (hi : i + 1 < (srtA (rawF L l m)).length) :
    metB ((srtA (rawF L l m)).getD i (0, 0)).1 ((srtA (rawF L l m)).getD i (0, 0)).2 ((srtA (rawF L l m)).getD (i + 1) (0, 0)).1 ((srtA (rawF L l m)).getD (i + 1) (0, 0)).2 = metAt (srtA (rawF L l m)) i := by
  have hnd : (srtA (rawF L l m)).Nodup := (srtA_perm _).nodup_iff.2 (rawF_nodup hl hm)
  have hs := srtA_srt (rawF L l m)
  have hmem : ∀ p ∈ srtA (rawF L l m), p.2 = -1 ∨ p.2 = 1 := fun p hp => rawF_ways p ((srtA_perm _).mem_iff.1 hp)
  have h1 := List.pairwise_iff_getElem.1 hs i (i + 1) (by omega) hi (by omega)
  have h2 := List.pairwise_iff_getElem.1 hnd i (i + 1) (by omega) hi (by omega)
  have m1 := hmem _ (List.getElem_mem (show i < (srtA (rawF L l m)).length by omega))
  have m2 := hmem _ (List.getElem_mem hi)
  unfold metAt
  rw [List.getD_eq_getElem?_getD, List.getD_eq_getElem?_getD, List.getElem?_eq_getElem (show i < (srtA (rawF L l m)).length by omega), List.getElem?_eq_getElem hi]
  simp only [Option.getD_some]
  generalize (srtA (rawF L l m))[i] = x at *
  generalize (srtA (rawF L l m))[i + 1] = y at *
  obtain ⟨x1, x2⟩ := x
  obtain ⟨y1, y2⟩ := y
  rw [antLe_iff] at h1
  simp only at h1 m1 m2
  unfold metB
  by_cases e : x1 = y1
  · subst e
    have h3 : x2 = -1 ∧ y2 = 1 := by
      have hne : x2 ≠ y2 := fun h => h2 (by rw [h])
      omega
    rw [h3.1, h3.2]
    simp
  · have e2 : (x1 == y1) = false := by simpa using e
    rw [e2]; rfl
theorem not_alone {q : List (Int × Int)} {i : Nat} (hi : i + 1 < q.length) (h : metAt q i = true) : alone q = false := by
  unfold alone
  rw [List.all_eq_false]
  exact ⟨i, List.mem_range.2 (by omega), by rw [h]; simp⟩
theorem is_alone {q : List (Int × Int)} (h : ∀ i, i + 1 < q.length → metAt q i = false) : alone q = true := by
  unfold alone
  rw [List.all_eq_true]
  intro i hi
  rw [h i (by have := List.mem_range.1 hi; omega)]
  rfl

set_option maxRecDepth 100000 in
set_option maxHeartbeats 4000000 in
theorem specCountSameFalls_any (L : Int) (A : Option Addr) (c : Nat) (l : List Int) (B : Option Addr) (d : Nat) (m : List Int) (w : World) (hl : (l.length : Int) ≤ 1048576) (hm : (m.length : Int) ≤ 1048576) (hA : SlAt intS w A l) (hB : SlAt intS w B m) :
    Calls Try.prog 53 #[.int .i64 L, .slice A l.length c, .slice B m.length d] w fun e w' => e = .returned (.tuple #[.int .i64 (csV L l m), .bool (flB L l m)]) ∧ Below w.heap.size w w' := by
  have HA := Lib.hid hA
  have HB := Lib.hid hB
  clear hA hB
  cases hg : flB L l m with
  | false =>
    have HV : Hid (csV L l m = 0) := by show _ = _; unfold csV; rw [hg]; rfl
    have HG := Lib.hid (fun w h h' => stFalls_at L A B c d l m false hg w hl hm h h')
    clear hg
    go_enter Try.func53, Try.ntmps53
    go_wp2_with fail
    refine (HG.out _ HA.out HB.out).mono ?_
    rintro e w1 ⟨rfl, hb1⟩
    go_wp2
    go_ret2
    exact ⟨ret_ib' HV.out.symm rfl, hb1⟩
  | true =>
    have HV : Hid (csV L l m = if alone (srtA (rawF L l m)) then 1 else 0) := by show _ = _; unfold csV; rw [hg]; rfl
    have HG := Lib.hid (fun w h h' => stFalls_at L A B c d l m true hg w hl hm h h')
    have HS := Lib.hid (fun w h h' => stOf_any L A B c d l m w hg h h')
    have hlen := ((flB_iff L l m).1 hg).2.1
    have HQL : Hid ((srtA (rawF L l m)).length = l.length + m.length) := by show _ = _; rw [srtA_len, rawF_len]
    clear hg
    generalize srtA (rawF L l m) = q at *
    go_enter Try.func53, Try.ntmps53
    go_wp2_with fail
    refine (HG.out _ HA.out HB.out).mono ?_
    rintro e w1 ⟨rfl, hb1⟩
    have HB1 := Lib.hid hb1
    clear hb1
    go_wp2_with fail
    refine (HS.out _ (HA.out.below HB1.out) (HB.out.below HB1.out)).mono ?_
    rintro e w3 ⟨A3, n3, k3, rfl, hn3, ho3, hb3⟩
    have HB3 := Lib.hid (HB1.out.trans (hb3.mono HB1.out.size))
    have hn3' : n3 = q.length := hn3.trans HQL.out.symm
    subst hn3'
    have hq16 : q.length ≤ 16 := by have := HQL.out; omega
    have HO3 := Lib.hid ho3
    clear hb3 ho3 hn3
    go_wp2
    go_loopw [9] (fun i wr => ∃ k : Nat, 1 ≤ k ∧ i = .int .i64 k ∧ (k ≤ q.length ∨ k = 1) ∧ (∀ j, j + 1 < k → metAt q j = false) ∧ Below w3.heap.size w3 wr ∧ wr.cell? ⟨w3.heap.size, 1, none⟩ = some (.slice A3 q.length k3))
      (fun i _ => q.length - (intOf i).toNat)
    case atStart => exact ⟨1, Nat.le_refl _, rfl, .inr rfl, fun j hj => by omega, (Below.refl _ _).alloc (Nat.le_refl _) _, by simp⟩
    case round =>
      obtain ⟨k, hk1, rfl, hk, hno, hbr, c1⟩ := hrel
      have HNO := Lib.hid hno
      have HBr := Lib.hid hbr
      clear hno hbr
      by_cases hlt : k < q.length
      · have hkl : (k : Int) < (q.length : Int) := by omega
        obtain ⟨b, off, rfl, l0, hc⟩ := (slAt_ants (HO3.out.below HBr.out).sl).at_ hlt
        obtain ⟨a0, a1⟩ := hc k hlt
        obtain ⟨p0, p1⟩ := hc (k - 1) (by omega)
        have hm : metAt q (k - 1) = ((q.getD (k - 1) (0, 0)).1 == (q.getD k (0, 0)).1) := by unfold metAt; rw [show k - 1 + 1 = k by omega]
        clear hc
        generalize (q.getD k (0, 0)) = x at *
        generalize (q.getD (k - 1) (0, 0)) = y at *
        obtain ⟨x1, x2⟩ := x
        obtain ⟨y1, y2⟩ := y
        simp only at a0 a1 p0 p1 hm
        have HM := Lib.hid hm
        have q2 : (1 : Int) ≤ (k : Int) := by omega
        have q3 : ((k : Int) - 1).toNat = k - 1 := by omega
        have q4 : (k : Int) - 1 < (q.length : Int) := by omega
        clear hm hk a1 p1
        by_cases he : y1 = x1
        · subst he
          have HF : Hid (alone q = false) := not_alone (i := k - 1) (by omega) (by rw [HM.out]; simp)
          go_wp2
          go_region
          go_wp2
          go_ret2
          exact ⟨ret_ib' (by rw [HV.out, HF.out]; rfl) rfl, HB3.out.trans (HBr.out.mono HB3.out.size) |>.drew⟩
        · have hne : (y1 == x1) = false := by simpa using he
          go_wp2
          go_region
          go_wp2
          go_roundw
          case rel =>
            refine ⟨k + 1, by omega, by go_num, .inl (by omega), fun j hj => ?_, HBr.out.drew, c1⟩
            rcases (by omega : j + 1 < k ∨ j = k - 1) with h | h
            · exact HNO.out j h
            · rw [h, HM.out]; exact hne
          case measure => simp [intOf]; omega
      · have hkl : ¬ (k : Int) < (q.length : Int) := by omega
        have HT : Hid (alone q = true) := is_alone fun i hi => HNO.out i (by omega)
        clear hk
        go_wp2
        go_ret2
        exact ⟨ret_ib' (by rw [HV.out, HT.out]; rfl) rfl, HB3.out.trans (HBr.out.mono HB3.out.size)⟩

set_option maxRecDepth 100000 in
set_option maxHeartbeats 4000000 in
theorem implCountSameFalls_any (L : Int) (A : Option Addr) (c : Nat) (l : List Int) (B : Option Addr) (d : Nat) (m : List Int) (w : World) (hl : (l.length : Int) ≤ 1048576) (hm : (m.length : Int) ≤ 1048576) (hA : SlAt intS w A l) (hB : SlAt intS w B m) :
    Calls Try.prog 54 #[.int .i64 L, .slice A l.length c, .slice B m.length d] w fun e w' => e = .returned (.tuple #[.int .i64 (csV L l m), .bool (flB L l m)]) ∧ Below w.heap.size w w' := by
  cases hg : flB L l m with
  | false =>
    have HV : Hid (csV L l m = 0) := by show _ = _; unfold csV; rw [hg]; rfl
    have HG := Lib.hid (implRodOfFalls_out L A c l B d m w hl hm hg hA hB)
    clear hg hA hB
    go_enter Try.func54, Try.ntmps54
    go_wp2_with fail
    refine HG.out.mono ?_
    rintro e w1 ⟨rfl, hb1⟩
    go_wp2
    go_ret2
    exact ⟨ret_ib' HV.out.symm rfl, hb1.alloc hb1.size _⟩
  | true =>
    have HV : Hid (csV L l m = if alone (srtA (rawF L l m)) then 1 else 0) := by show _ = _; unfold csV; rw [hg]; rfl
    have HG := Lib.hid (implRodOfFalls_in L A c l B d m w hg hA hB)
    obtain ⟨_, hlen, hrl, hrm⟩ := (flB_iff L l m).1 hg
    have HQL : Hid ((srtA (rawF L l m)).length = l.length + m.length) := by show _ = _; rw [srtA_len, rawF_len]
    have HMI := Lib.hid (fun i hi => met_iff hrl hrm i hi)
    clear hg hA hB hrl hrm
    generalize srtA (rawF L l m) = q at *
    go_enter Try.func54, Try.ntmps54
    go_wp2_with fail
    refine HG.out.mono ?_
    rintro e w3 ⟨A3, n3, k3, rfl, hn3, ho3, hb3⟩
    have HB3 := Lib.hid hb3
    have hn3' : n3 = q.length := hn3.trans HQL.out.symm
    subst hn3'
    have hq16 : q.length ≤ 16 := by have := HQL.out; omega
    have HO3 := Lib.hid ho3
    clear hb3 ho3 hn3
    go_wp2
    go_loopw [10] (fun i wr => ∃ k : Nat, 1 ≤ k ∧ i = .int .i64 k ∧ (k ≤ q.length ∨ k = 1) ∧ (∀ j, j + 1 < k → metAt q j = false) ∧ Below w3.heap.size w3 wr ∧ wr.cell? ⟨w3.heap.size, 1, none⟩ = some (.slice A3 q.length k3))
      (fun i _ => q.length - (intOf i).toNat)
    case atStart => exact ⟨1, Nat.le_refl _, rfl, .inr rfl, fun j hj => by omega, (Below.refl _ _).alloc (Nat.le_refl _) _, by simp⟩
    case round =>
      obtain ⟨k, hk1, rfl, hk, hno, hbr, c1⟩ := hrel
      have HNO := Lib.hid hno
      have HBr := Lib.hid hbr
      clear hno hbr
      by_cases hlt : k < q.length
      · have hkl : (k : Int) < (q.length : Int) := by omega
        obtain ⟨b, off, rfl, l0, hc⟩ := (slAt_ants (HO3.out.below HBr.out).sl).at_ hlt
        obtain ⟨a0, a1⟩ := hc k hlt
        obtain ⟨p0, p1⟩ := hc (k - 1) (by omega)
        have hm := HMI.out (k - 1) (by omega)
        rw [show k - 1 + 1 = k by omega] at hm
        clear hc
        generalize (q.getD k (0, 0)) = x at *
        generalize (q.getD (k - 1) (0, 0)) = y at *
        obtain ⟨x1, x2⟩ := x
        obtain ⟨y1, y2⟩ := y
        simp only at a0 a1 p0 p1 hm
        have q2 : (1 : Int) ≤ (k : Int) := by omega
        have q3 : ((k : Int) - 1).toNat = k - 1 := by omega
        have q4 : (k : Int) - 1 < (q.length : Int) := by omega
        have HMET := Lib.hid (fun W => met_any y1 y2 x1 x2 W)
        rw [hm] at HMET
        clear hk hm
        have f0 := Ext.cell a0
        have f1 := Ext.cell a1
        have f2 := Ext.cell p0
        have f3 := Ext.cell p1
        have f4 := Ext.cell c1
        cases hme : metAt q (k - 1) with
        | true =>
          have HF : Hid (alone q = false) := not_alone (i := k - 1) (by omega) hme
          rw [hme] at HMET
          clear hme
          go_wp2
          refine wp_region_ext (by kernel_rfl) (by kernel_rfl) ?_
          repeat (first | go_big_quiet_skip | (go_big_quiet_want; go_big_quiet_op; first | go_big_quiet_on | (apply Exists.intro; refine ⟨fun _ => ?_, ?_⟩; (go_at_call 92; exact Ext.call (HMET.out _)); go_big_quiet_on)))
          refine wpQuiet_nil ?_
          rintro _ ⟨x, rfl⟩
          go_wp2
          go_ret2
          exact ⟨ret_ib' (by rw [HV.out, HF.out]; rfl) rfl, HB3.out.trans ((HBr.out.trans (x.h.mono HBr.out.size)).mono HB3.out.size)⟩
        | false =>
          rw [hme] at HMET
          have HME := Lib.hid hme
          clear hme
          go_wp2
          refine wp_region_ext (by kernel_rfl) (by kernel_rfl) ?_
          repeat (first | go_big_quiet_skip | (go_big_quiet_want; go_big_quiet_op; first | go_big_quiet_on | (apply Exists.intro; refine ⟨fun _ => ?_, ?_⟩; (go_at_call 92; exact Ext.call (HMET.out _)); go_big_quiet_on)))
          refine wpQuiet_nil ?_
          rintro _ ⟨x, rfl⟩
          go_wp2
          go_roundw
          case rel =>
            refine ⟨k + 1, by omega, by go_num, .inl (by omega), fun j hj => ?_, HBr.out.trans (x.h.mono HBr.out.size), f4 x⟩
            rcases (by omega : j + 1 < k ∨ j = k - 1) with h | h
            · exact HNO.out j h
            · rw [h]; exact HME.out
          case measure => simp [intOf]; omega
      · have hkl : ¬ (k : Int) < (q.length : Int) := by omega
        have HT : Hid (alone q = true) := is_alone fun i hi => HNO.out i (by omega)
        clear hk
        go_wp2
        go_ret2
        exact ⟨ret_ib' (by rw [HV.out, HT.out]; rfl) rfl, HB3.out.trans (HBr.out.mono HB3.out.size)⟩
end Go.Proofs.Ytiledncedekefaa
