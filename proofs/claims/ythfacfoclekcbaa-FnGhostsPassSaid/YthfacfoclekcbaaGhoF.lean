/- FnGhostsPass: what the law says, in plain words, and each call as the walk meets it. -/
import Derived.Test.YthfacfoclekcbaaGhoM
import Derived.Test.YthfacfoclekcbaaWhereS
import Derived.Test.YthfacfoclekcbaaLast
import Derived.Test.YthfacfoclekcbaaLawR
import Derived.Test.YthfacfoclekcbaaDrawA
namespace Go.Proofs.Ythfacfoclekcbaa
open Go.RowKit

theorem own_le {w : World} {B n c : Nat} {e : TypeId} {A : Option Addr} {l : List (Int × Int)} (h : AntsOwn w B e (.slice A n c) l) : n = l.length ∧ l.length ≤ c := by
  rcases h.2 with ⟨hv, h0⟩ | ⟨g, cap, cur, hv, _, _, hle, _⟩
  · simp only [Value.slice.injEq] at hv
    omega
  · simp only [Value.slice.injEq] at hv
    omega
theorem ga_map (L : Int) (l : List (Int × Int)) (t : Int) : gaV L l t = (raA L l t).map Prod.fst := by
  unfold gaV raA
  split <;> rfl
theorem ga_len (L : Int) (l : List (Int × Int)) (t : Int) : (gaV L l t).length = (raA L l t).length := by rw [ga_map, List.length_map]

/-- what the law meets at an ant -/
structure PerAnt (L t : Int) (Ar : Option Addr) (cr N n : Nat) (l M : List (Int × Int)) (G FL : List Int) (i : Nat) (f ax ay px py : Int) (s : Bool) : Prop where
  kle : befN FL t i ≤ 16
  place : ∀ W, AntsAt W Ar l → Calls Try.prog 17 #[.agg #[.int .i64 L, .slice Ar N cr], .int .i64 i, .int .i64 t] W fun e w' => e = .returned (.tuple #[.int .i64 px, .bool s]) ∧ Below W.heap.size W w'
  way : ∀ W, AntsAt W Ar l → Calls Try.prog 18 #[.agg #[.int .i64 L, .slice Ar N cr], .int .i64 i, .int .i64 t] W fun e w' => e = .returned (.tuple #[.int .i64 py, .bool s]) ∧ Below W.heap.size W w'
  fall : FL[i]? = some f
  no : s = false → ¬ t < f
  stays : s = false → befN FL t (i + 1) = befN FL t i
  yes : s = true → t < f
  goes : s = true → befN FL t (i + 1) = befN FL t i + 1
  klt : s = true → befN FL t i < n
  atM : s = true → M[befN FL t i]? = some (px, py)
  atG : s = true → G[befN FL t i]? = some px
  ant : l[i]? = some (ax, ay)
  abs : s = true → ∃ v, v ≤ t ∧ Hid (∀ W, Calls Try.prog 19 #[.int .i64 (px - ax)] W fun e w' => e = .returned (.int .i64 v) ∧ w' = W)
  pb : s = true → 0 ≤ px ∧ px ≤ 1000
  ab : 0 ≤ ax ∧ ax ≤ 1000

theorem perAnt {L t : Int} {Ar : Option Addr} {cr N : Nat} {l : List (Int × Int)} (hN : N = l.length) (hg : goodB L l = true) (ht : timeB t = true) (i : Nat) (hi : i < N) :
    ∃ f ax ay px py s, PerAnt L t Ar cr N (srtA (afL L t l)).length l (srtA (afL L t l)) ((srtA (afL L t l)).map Prod.fst) (fallsOf L l) i f ax ay px py s := by
  have hl16 := good_len hg
  have hfl := fallsOf_len hg
  have hbl := bef_le (fallsOf L l) t i
  obtain ⟨t0, t1⟩ := timeB_le ht
  obtain ⟨f, hf⟩ : ∃ f, (fallsOf L l)[i]? = some f := ⟨_, List.getElem?_eq_getElem (by omega)⟩
  obtain ⟨p, hp⟩ : ∃ p, l[i]? = some p := ⟨_, List.getElem?_eq_getElem (by omega)⟩
  obtain ⟨p1, p2, _, _⟩ := good_ant hg hp
  obtain ⟨_, hL1, _⟩ := good_hdr hg
  have hbs := bef_snoc (fallsOf L l) t i f hf
  have hh : hasB l.length (i : Int) = true := by unfold hasB; rw [Bool.and_eq_true, decide_eq_true_eq, decide_eq_true_eq]; omega
  have hok : pwOk L l (i : Int) t = !leB t f := by
    unfold pwOk
    rw [hg, hh, ht, Int.toNat_natCast, getD_of hf]; rfl
  have hP := fun W h => implPlaceAfter_any L Ar cr l (i : Int) t W h
  have hW := fun W h => implWayAfter_any L Ar cr l (i : Int) t W h
  rw [hok, ← hN] at hP hW
  refine ⟨f, p.1, p.2, (pwV L l i t).1, (pwV L l i t).2, !leB t f, ?_⟩
  have hyes : (!leB t f) = true → ¬ f ≤ t := fun h => by unfold leB at h; simpa using h
  have hq : (!leB t f) = true → (srtA (afL L t l))[befN (fallsOf L l) t i]? = some (pwV L l i t) := fun h => by
    obtain ⟨_, _, e3⟩ := where_eq hg t i f hf (hyes h)
    unfold pwV
    rw [hok, if_pos h, Int.toNat_natCast, List.getD_eq_getElem?_getD, List.getElem?_eq_getElem e3]
    rfl
  have hqb : (!leB t f) = true → 0 ≤ (pwV L l i t).1 ∧ (pwV L l i t).1 ≤ 1000 := fun h => by
    have hm := good_mem (after_good hg t0 (by
      unfold timeB at ht
      rw [Bool.and_eq_true, beq_iff_eq] at ht
      exact ht.2)) (List.mem_of_getElem? (hq h))
    omega
  refine ⟨by omega, hP, hW, hf, fun h => ?_, fun h => ?_, fun h => ?_, fun h => ?_, fun h => ?_, fun h => ?_, fun h => ?_, hp, fun h => ?_, hqb, by omega⟩
  · unfold leB at h; simp at h; omega
  · rw [hbs, if_pos]; · rfl
    unfold leB at h; simpa using h
  · have := hyes h; omega
  · rw [hbs, if_neg (hyes h)]
  · exact (where_eq hg t i f hf (hyes h)).2.2
  · exact hq h
  · rw [List.getElem?_map, hq h]; rfl
  · obtain ⟨e1, e2⟩ := far_le hg t0 i f hf (hyes h) p _ hp (hq h)
    obtain ⟨b1, b2⟩ := hqb h
    refine ⟨if (pwV L l i t).1 - p.1 < 0 then -((pwV L l i t).1 - p.1) else (pwV L l i t).1 - p.1, ?_, Lib.hid fun W => gAbs_any _ (by omega) (by omega) W⟩
    split <;> omega

theorem ghF (L : Int) (Ar : Option Addr) (cr : Nat) (l : List (Int × Int)) (t : Int) (N : Nat) (hN : N = l.length) (hcap : l.length ≤ cr) (h16 : l.length ≤ 16) :
    ∃ (La : Int) (M : List (Int × Int)) (G : List Int) (n : Nat) (q : Bool),
      Hid (∀ W, AntsAt W Ar l → Calls Try.prog 6 #[.agg #[.int .i64 L, .slice Ar N cr], .int .i64 t] W fun e w' => ∃ A' c', e = .returned (.tuple #[.agg #[.int .i64 La, .slice A' n c'], .bool (raOk L l t)]) ∧ AntsOwn w' W.heap.size 42 (.slice A' n c') M ∧ Below W.heap.size W w') ∧
      Hid (∀ W, AntsAt W Ar l → Calls Try.prog 7 #[.agg #[.int .i64 L, .slice Ar N cr], .int .i64 t] W fun e w' => ∃ A' c', e = .returned (.tuple #[.agg #[.int .i64 La, .slice A' n c'], .bool (raOk L l t)]) ∧ AntsOwn w' W.heap.size 42 (.slice A' n c') M ∧ Below W.heap.size W w') ∧
      Hid (∀ W, AntsAt W Ar l → Calls Try.prog 8 #[.agg #[.int .i64 L, .slice Ar N cr], .int .i64 t] W fun e w' => ∃ A' c', e = .returned (.tuple #[.slice A' n c', .bool (raOk L l t)]) ∧ SlOwn intS w' W.heap.size 3 (.slice A' n c') G ∧ Below W.heap.size W w') ∧
      Hid (∀ W, AntsAt W Ar l → Calls Try.prog 9 #[.agg #[.int .i64 L, .slice Ar N cr], .int .i64 t] W fun e w' => ∃ A' c', e = .returned (.tuple #[.slice A' n c', .bool (raOk L l t)]) ∧ SlOwn intS w' W.heap.size 3 (.slice A' n c') G ∧ Below W.heap.size W w') ∧
      Hid (∀ W, AntsAt W Ar l → Calls Try.prog 10 #[.agg #[.int .i64 L, .slice Ar N cr], .int .i64 t] W fun e w' => e = .returned (.tuple #[.int .i64 n, .bool (raOk L l t)]) ∧ Below W.heap.size W w') ∧
      Hid (∀ W, AntsAt W Ar l → Calls Try.prog 11 #[.agg #[.int .i64 L, .slice Ar N cr], .int .i64 t] W fun e w' => e = .returned (.tuple #[.int .i64 n, .bool (raOk L l t)]) ∧ Below W.heap.size W w') ∧
      Hid (∀ W, AntsAt W Ar l → Calls Try.prog 14 #[.agg #[.int .i64 L, .slice Ar N cr]] W fun e w' => e = .returned (.bool q) ∧ Below W.heap.size W w') ∧
      Hid (∀ W, AntsAt W Ar l → Calls Try.prog 15 #[.agg #[.int .i64 L, .slice Ar N cr]] W fun e w' => e = .returned (.bool q) ∧ Below W.heap.size W w') ∧
      Hid (∀ (A B : Option Addr) (c d : Nat) (W : World), AntsAt W A M → AntsAt W B M → Calls Try.prog 12 #[.agg #[.int .i64 La, .slice A n c], .agg #[.int .i64 La, .slice B n d]] W fun e w' => e = .returned (.bool true) ∧ Below W.heap.size W w') ∧
      Hid (∀ (A B : Option Addr) (c d : Nat) (W : World), SlAt intS W A G → SlAt intS W B G → Calls Try.prog 13 #[.slice A n c, .slice B n d] W fun e w' => e = .returned (.bool true) ∧ Below W.heap.size W w') ∧
      Hid (raOk L l t = true → q = true ∧ (0 ≤ t ∧ t ≤ 2000) ∧ ∃ FL : List Int, L = La ∧ Hid (M.length = n) ∧ Hid (G.length = n) ∧ Hid (FL.length = N) ∧
        Hid (∀ W, AntsAt W Ar l → Calls Try.prog 16 #[.agg #[.int .i64 L, .slice Ar N cr]] W fun e w' => ∃ A' c', e = .returned (.tuple #[.slice A' N c', .bool true]) ∧ SlOwn intS w' W.heap.size 3 (.slice A' N c') FL ∧ Below W.heap.size W w') ∧
        Hid (∀ (A : Option Addr) (c : Nat) (W : World), AntsAt W A M → Calls Try.prog 14 #[.agg #[.int .i64 L, .slice A n c]] W fun e w' => e = .returned (.bool true) ∧ Below W.heap.size W w') ∧
        Hid (∀ i, i < N → ∃ f ax ay px py s, PerAnt L t Ar cr N n l M G FL i f ax ay px py s) ∧
        Hid (befN FL t N = n) ∧
        Hid (∀ (A : Option Addr) (c : Nat), M.length ≤ c → t ≤ 1000 → ∃ (M2 : List (Int × Int)) (m : Nat),
          Hid (∀ W, AntsAt W A M → Calls Try.prog 6 #[.agg #[.int .i64 L, .slice A n c], .int .i64 t] W fun e w' => ∃ A' c', e = .returned (.tuple #[.agg #[.int .i64 L, .slice A' m c'], .bool true]) ∧ AntsOwn w' W.heap.size 42 (.slice A' m c') M2 ∧ Below W.heap.size W w') ∧
          Hid (∀ W, AntsAt W Ar l → Calls Try.prog 6 #[.agg #[.int .i64 L, .slice Ar N cr], .int .i64 (2 * t)] W fun e w' => ∃ A' c', e = .returned (.tuple #[.agg #[.int .i64 L, .slice A' m c'], .bool true]) ∧ AntsOwn w' W.heap.size 42 (.slice A' m c') M2 ∧ Below W.heap.size W w') ∧
          Hid (∀ (A B : Option Addr) (c d : Nat) (W : World), AntsAt W A M2 → AntsAt W B M2 → Calls Try.prog 12 #[.agg #[.int .i64 L, .slice A m c], .agg #[.int .i64 L, .slice B m d]] W fun e w' => e = .returned (.bool true) ∧ Below W.heap.size W w'))) := by
  have hra := raA_len L l t
  subst hN
  refine ⟨raL L l t, raA L l t, gaV L l t, (raA L l t).length, goodB L l, fun W h => ?_, fun W h => ?_, fun W h => ?_, fun W h => ?_, fun W h => ?_, fun W h => ?_, fun W h => isRod_any L Ar cr l W h, fun W h => specIsRod_any L Ar cr l W h, fun A B c d W h1 h2 => gRod_true _ A B c d _ W (by omega) h1 h2, fun A B c d W h1 h2 => ?_, fun ho => ?_⟩
  · refine (implRodAfter_any L Ar cr l t W hcap h).mono ?_
    rintro e w' ⟨A', n', c', rfl, rfl, ho, hb⟩; exact ⟨A', c', rfl, ho, hb⟩
  · refine (specRodAfter_any L Ar cr l t W hcap h).mono ?_
    rintro e w' ⟨A', n', c', rfl, rfl, ho, hb⟩; exact ⟨A', c', rfl, ho, hb⟩
  · refine (implGhostsAfter_any L Ar cr l t W h).mono ?_
    rintro e w' ⟨A', n', c', rfl, rfl, ho, hb⟩; exact ⟨A', c', by rw [ga_len], by rw [← ga_len]; exact ho, hb⟩
  · refine (specGhostsAfter_any L Ar cr l t W h).mono ?_
    rintro e w' ⟨A', n', c', rfl, rfl, ho, hb⟩; exact ⟨A', c', by rw [ga_len], by rw [← ga_len]; exact ho, hb⟩
  · have := implOnRodAfter_any L Ar cr l t W h
    rw [ga_len] at this; exact this
  · have := specOnRodAfter_any L Ar cr l t W h
    rw [ga_len] at this; exact this
  · have := gSame_true A B c d _ W (by rw [ga_len]; omega) h1 h2
    rw [ga_len] at this; exact this
  · have hgt := ho
    unfold raOk at hgt
    rw [Bool.and_eq_true] at hgt
    obtain ⟨hg, ht⟩ := hgt
    obtain ⟨t0, t1⟩ := timeB_le ht
    have ht2 : t % 2 = 0 := by
      have := ht
      unfold timeB at this
      rw [Bool.and_eq_true, beq_iff_eq] at this
      exact this.2
    have eM : raA L l t = srtA (afL L t l) := by unfold raA; rw [ho]; rfl
    have eL : raL L l t = L := by unfold raL; rw [ho]; rfl
    have eF : ftV L l = fallsOf L l := by unfold ftV; rw [hg]; rfl
    have hgM := after_good hg t0 ht2
    refine ⟨hg, ⟨t0, t1⟩, fallsOf L l, eL.symm, rfl, ga_len L l t, fallsOf_len hg, fun W h => ?_, fun A c W h => ?_, fun i hi => ?_, ?_, fun A c hc h1 => ?_⟩
    · have hft := implFallTimes_any L Ar cr l W h
      rw [hg, eF, fallsOf_len hg] at hft
      refine hft.mono ?_
      rintro e w' ⟨A', n', c', rfl, rfl, ho, hb⟩; exact ⟨A', c', rfl, ho, hb⟩
    · have := isRod_any L A c (raA L l t) W h
      rw [eM, hgM] at this
      rw [eM]; exact this
    · rw [ga_map, eM]
      exact perAnt rfl hg ht i hi
    · have := on_count hg t
      rw [fallsOf_len hg] at this
      rw [eM, this]; rfl
    · have hk2 : timeB (2 * t) = true := by
        unfold timeB
        rw [Bool.and_eq_true, Bool.and_eq_true, decide_eq_true_eq, decide_eq_true_eq, beq_iff_eq]
        omega
      have ok1 : raOk L (raA L l t) t = true := by unfold raOk; rw [eM, hgM, ht]; rfl
      have ok2 : raOk L l (2 * t) = true := by unfold raOk; rw [hg, hk2]; rfl
      have e1 : raA L (raA L l t) t = srtA (afL L (2 * t) l) := by unfold raA at ok1 ⊢; rw [ok1, if_pos rfl, ho, if_pos rfl]; exact after_twice hg t0
      have e2 : raA L l (2 * t) = srtA (afL L (2 * t) l) := by unfold raA; rw [ok2]; rfl
      have l1 : raL L (raA L l t) t = L := by unfold raL; rw [ok1]; rfl
      have l2 : raL L l (2 * t) = L := by unfold raL; rw [ok2]; rfl
      have h2 := raA_len L l (2 * t)
      rw [e2] at h2
      refine ⟨srtA (afL L (2 * t) l), (srtA (afL L (2 * t) l)).length, fun W h => ?_, fun W h => ?_, fun A B c d W h1 h2' => gRod_true _ A B c d _ W (by omega) h1 h2'⟩
      · have hr := implRodAfter_any L A c (raA L l t) t W hc h
        rw [ok1, e1, l1] at hr
        refine hr.mono ?_
        rintro e w' ⟨A', n', c', rfl, rfl, ho, hb⟩; exact ⟨A', c', rfl, ho, hb⟩
      · have hr := implRodAfter_any L Ar cr l (2 * t) W hcap h
        rw [ok2, e2, l2] at hr
        refine hr.mono ?_
        rintro e w' ⟨A', n', c', rfl, rfl, ho, hb⟩; exact ⟨A', c', rfl, ho, hb⟩
end Go.Proofs.Ythfacfoclekcbaa
