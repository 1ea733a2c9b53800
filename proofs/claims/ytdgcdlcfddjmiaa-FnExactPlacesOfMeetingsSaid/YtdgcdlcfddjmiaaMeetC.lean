/- How many meetings each ant has, on both sides. -/
import Derived.Test.YtdgcdlcfddjmiaaMeetA
import Derived.Test.YtdgcdlcfddjmiaaMark
import Derived.Test.YtdgcdlcfddjmiaaFallAs
namespace Go.Proofs.Ytdgcdlcfddjmiaa
open Go.RowKit

def inc1 (q : List Int) (a : Nat) : List Int := q.set a (q.getD a 0 + 1)
def coStep (q : List Int) (x : Int × Int × Int) : List Int := inc1 (inc1 q x.2.2.toNat) (x.2.2.toNat + 1)
def coL (n : Nat) (m : List (Int × Int × Int)) : List Int := m.foldl coStep (List.replicate n 0)
theorem inc1_len (q : List Int) (a : Nat) : (inc1 q a).length = q.length := by simp [inc1]
theorem coStep_len (q : List Int) (x : Int × Int × Int) : (coStep q x).length = q.length := by simp [coStep, inc1_len]
theorem coL_len (n : Nat) (m : List (Int × Int × Int)) : (coL n m).length = n := by
  unfold coL
  have h : ∀ (m : List (Int × Int × Int)) (q : List Int), (m.foldl coStep q).length = q.length := by
    intro m
    induction m with
    | nil => intro q; rfl
    | cons x m ih => intro q; rw [List.foldl_cons, ih, coStep_len]
  rw [h]; simp
theorem coL_snoc (n : Nat) (m : List (Int × Int × Int)) (k : Nat) (x : Int × Int × Int) (hx : m[k]? = some x) : coL n (m.take (k + 1)) = coStep (coL n (m.take k)) x := by
  obtain ⟨hk, rfl⟩ := List.getElem?_eq_some_iff.1 hx
  unfold coL
  rw [List.take_succ_eq_append_getElem hk, List.foldl_append]
  rfl
theorem inc1_bound {q : List Int} {b : Int} (h : ∀ v ∈ q, 0 ≤ v ∧ v ≤ b) (hb : 0 ≤ b) (a : Nat) : ∀ v ∈ inc1 q a, 0 ≤ v ∧ v ≤ b + 1 := by
  intro v hv
  unfold inc1 at hv
  rcases List.mem_or_eq_of_mem_set hv with hv | rfl
  · have := h v hv; omega
  · by_cases ha : a < q.length
    · have := h _ (List.getElem_mem ha)
      rw [List.getD_eq_getElem?_getD, List.getElem?_eq_getElem ha]
      simp only [Option.getD_some]; omega
    · rw [List.getD_eq_getElem?_getD, List.getElem?_eq_none (by omega)]
      simp only [Option.getD_none]; omega
theorem coL_bound (n : Nat) (m : List (Int × Int × Int)) : ∀ k, ∀ v ∈ coL n (m.take k), 0 ≤ v ∧ v ≤ 2 * k := by
  intro k
  induction k with
  | zero =>
    intro v hv
    unfold coL at hv
    simp at hv
    omega
  | succ k ih =>
    by_cases hk : k < m.length
    · rw [coL_snoc n m k _ (List.getElem?_eq_getElem hk)]
      have h1 := inc1_bound ih (by omega) (m[k].2.2.toNat)
      have h2 := inc1_bound h1 (by omega) (m[k].2.2.toNat + 1)
      intro v hv
      have := h2 v hv
      omega
    · intro v hv
      rw [List.take_of_length_le (by omega)] at hv
      rw [List.take_of_length_le (by omega)] at ih
      have := ih v hv
      omega
def coV (L : Int) (l : List (Int × Int)) : List Int := if goodB L l then coL l.length (meL L l) else []
theorem coV_lenI (L : Int) (l : List (Int × Int)) : ((coV L l).length : Int) ≤ 1048576 := by
  unfold coV
  split
  · rename_i h
    rw [coL_len]
    have := good_len h
    omega
  · simp

theorem zeroInts (n : Nat) : (madeCells #[.int .i64 0] (n * 1)).toList = intS.row (List.replicate n 0) := by
  rw [Nat.mul_one]
  apply List.ext_getElem?
  intro j
  by_cases hj : j < n
  · have hx : (List.replicate n (0 : Int))[j]? = some 0 := by simp [hj]
    have := intS.row_at _ j _ hx 0 (by decide)
    simp [intS] at this
    simp only [intS]
    rw [this]
    simp [madeCells, hj, Nat.mod_one]
  · rw [List.getElem?_eq_none (by simp [madeCells]; omega), List.getElem?_eq_none (by rw [Shape.row_length]; simp [intS]; omega)]

-- GENERATED
set_option maxRecDepth 100000 in
set_option maxHeartbeats 2000000 in
theorem meCounts_good (L : Int) (A : Option Addr) (c : Nat) (l : List (Int × Int)) (w : World) (hg : goodB L l = true) (hcap : l.length ≤ c) (hA : AntsAt w A l) :
    Calls Try.prog 69 #[.agg #[.int .i64 L, .slice A l.length c]] w fun e w' => ∃ A' c', e = .returned (.slice A' l.length c') ∧ SlOwn intS w' w.heap.size 3 (.slice A' l.length c') (coL l.length (meL L l)) ∧ Below w.heap.size w w' := by
  obtain ⟨i0, hi, hz0, hz1, hz2⟩ := info_parts intInfo
  have HA := Lib.hid (hA.alloc (Obj.cells #[Value.int IntKind.i64 L, Value.slice A l.length c] 31))
  clear hA
  have HM := Lib.hid (fun w h => meAll_good L A c l w hg hcap h)
  have hml := meL_len hg
  have hnl := good_len hg
  have HOK : Hid (∀ x ∈ meL L l, 0 ≤ x.2.2 ∧ x.2.2 + 1 < (l.length : Int)) := fun x hx => by
    have := meL_ok hg hx
    omega
  clear hg
  generalize meL L l = m at *
  generalize hn : l.length = n at *
  have HN := Lib.hid hn
  clear hn
  go_enter Try.func69, Try.ntmps69
  go_wp2_with (at_make; refine wpList_make_full _ rfl _ _ _ rfl (w.heap.size + 1) 3 i0 _ 1 Try.underlying47 hi hz0 hz1 .i64 .i64 _ _ n rfl rfl rfl rfl (by rw [hz2]; omega) (by unfold maxLen; omega) (by simp) ?_; intro w1 hown hg; have hb1 : Below (w.heap.size + 1) (w.alloc (Obj.cells #[Value.int IntKind.i64 L, Value.slice A n c] 31)) w1 := (Below.refl _ _).grown hg (by simp) (by simp); have c0 : w1.cell? ⟨w.heap.size, 0, none⟩ = some (.int .i64 L) := (by rw [hb1.cell (p := ⟨w.heap.size, 0, none⟩) (by simp)]; simp); have c1 : w1.cell? ⟨w.heap.size, 1, none⟩ = some (.slice A n c) := (by rw [hb1.cell (p := ⟨w.heap.size, 1, none⟩) (by simp)]; simp))
  have HC1 : Hid (SlOwn intS w1 (w.heap.size + 1) 3 (.slice (some ⟨w.heap.size + 1, 0, none⟩) n n) (List.replicate n 0)) := by
    show World.ownsRow _ _ _ _ _ _ _
    rw [List.length_replicate, ← zeroInts]
    rw [show (w.alloc (Obj.cells #[Value.int IntKind.i64 L, Value.slice A n c] 31)).heap.size = w.heap.size + 1 by simp] at hown
    exact hown
  have HB1 := Lib.hid (((Below.refl _ w).alloc (Nat.le_refl _) _).trans (hb1.mono (Nat.le_succ _)))
  have HA1 := Lib.hid (HA.out.below (hb1.mono (by simp)))
  have hlt1 := World.ownsRow.lt HC1.out (w.heap.size + 1) rfl
  clear hb1 hown hg
  go_wp2_with fail
  refine (HM.out _ HA1.out).mono ?_
  rintro e w2 ⟨AM, n2, c2, rfl, hn2, ho2, hb2⟩
  subst hn2
  have HSM := Lib.hid ho2.sl
  have HBLK : Hid (∀ ad, AM = some ad → ad.block ≠ w.heap.size + 1) := fun ad h => by
    subst h
    have := World.ownsRow.lt ho2 ad.block rfl
    omega
  have HCO : Hid (SlOwn intS w2 (w.heap.size + 1) 3 (.slice (some ⟨w.heap.size + 1, 0, none⟩) n n) (coL n (m.take 0))) := HC1.out.below hb2
  have HB2 := Lib.hid (HB1.out.trans (hb2.mono HB1.out.size))
  have HSZ : Hid (w.heap.size + 1 ≤ w2.heap.size) := by show _ ≤ _; have := hb2.size; omega
  clear hb2 ho2 c0 c1
  go_wp2
  go_loopw [13] (fun i wr => ∃ k : Nat, k ≤ m.length ∧ i = .int .i64 k ∧ Below (w.heap.size + 1) w2 wr ∧ SlAt tripS wr AM m ∧ SlOwn intS wr (w.heap.size + 1) 3 (.slice (some ⟨(w.heap.size + 1), 0, none⟩) n n) (coL n (m.take k)))
    (fun i _ => m.length - (intOf i).toNat)
  case atStart => exact ⟨0, Nat.zero_le _, rfl, Below.refl _ _, HSM.out, HCO.out⟩
  case round =>
    obtain ⟨k, hk, rfl, hbr, hsm, hown⟩ := hrel
    obtain ⟨WR, rfl⟩ : ∃ W, W = wr := ⟨_, rfl⟩
    have HBr := Lib.hid hbr
    have hsr := hbr.size
    have HOr := Lib.hid hsm
    have HL := Lib.hid hown
    have hgb := World.ownsRow.lt hown (w.heap.size + 1) rfl
    clear hbr hown hsm
    by_cases hlt : k < m.length
    · obtain ⟨b, off, rfl, l0, hc⟩ := HOr.out.trip_at hlt
      have hx : m[k]? = some (m[k]'hlt) := List.getElem?_eq_getElem hlt
      obtain ⟨a0, a1, a2⟩ := hc k _ hx
      have HS := Lib.hid (coL_snoc n m k _ hx)
      have hq := HOK.out _ (List.getElem_mem hlt)
      have hbl := HBLK.out _ rfl
      have HBD := Lib.hid (coL_bound n m k)
      clear hc hx
      generalize m[k]'hlt = x at *
      obtain ⟨x1, x2, x3⟩ := x
      simp only at a0 a1 a2 hq hbl
      obtain ⟨a, rfl⟩ := Int.eq_ofNat_of_zero_le hq.1
      have hql := coL_len n (m.take k)
      generalize coL n (m.take k) = q at *
      have ha1 : a + 1 < n := by omega
      have haq : a < q.length := by omega
      have hqa : q[a]? = some (q[a]'haq) := List.getElem?_eq_getElem haq
      have hv := HBD.out _ (List.getElem_mem haq)
      have hga : q.getD a 0 = q[a]'haq := getD_lt haq
      obtain ⟨v, hv'⟩ : ∃ v, q[a]'haq = v := ⟨_, rfl⟩
      rw [hv'] at hv hqa hga
      have ho5 := HL.out
      obtain ⟨_, _, he, _, hc1⟩ := ho5.sl.int_at haq
      simp only [Option.some.injEq, Addr.mk.injEq, and_true] at he
      obtain ⟨rfl, rfl⟩ := he
      have y0 := hc1 a _ hqa
      rw [Nat.zero_add] at y0
      obtain ⟨_, _, fz0, ho6, hg6⟩ := ho5.int_store haq (v + 1)
      have e6 : q.set a (v + 1) = inc1 q a := by unfold inc1; rw [hga]
      rw [e6] at ho6
      have hl6 : (inc1 q a).length = n := by rw [inc1_len]; omega
      have haq6 : a + 1 < (inc1 q a).length := by omega
      have hqb : (inc1 q a)[a + 1]? = some ((inc1 q a)[a + 1]'haq6) := List.getElem?_eq_getElem haq6
      have hu := inc1_bound HBD.out (by omega) a _ (List.getElem_mem haq6)
      have hgb2 : (inc1 q a).getD (a + 1) 0 = (inc1 q a)[a + 1]'haq6 := getD_lt haq6
      obtain ⟨u, hu'⟩ : ∃ u, (inc1 q a)[a + 1]'haq6 = u := ⟨_, rfl⟩
      rw [hu'] at hu hqb hgb2
      obtain ⟨_, _, he, _, hc2⟩ := ho6.sl.int_at haq6
      simp only [Option.some.injEq, Addr.mk.injEq, and_true] at he
      obtain ⟨rfl, rfl⟩ := he
      have y1 := hc2 (a + 1) _ hqb
      rw [Nat.zero_add] at y1
      obtain ⟨_, _, fz1, ho7, hg7⟩ := ho6.int_store haq6 (u + 1)
      have e7 : (inc1 q a).set (a + 1) (u + 1) = coStep q (x1, x2, (a : Int)) := by
        show _ = inc1 (inc1 q (Int.toNat (a : Int))) (Int.toNat (a : Int) + 1)
        rw [Int.toNat_natCast]
        show _ = (inc1 q a).set (a + 1) ((inc1 q a).getD (a + 1) 0 + 1)
        rw [hgb2]
      rw [e7] at ho7
      have hgg := grown_trans hg6 hg7
      have hb7 := HBr.out.grown hgg (by have := HSZ.out; omega) (fun j hj => by simp at hj; omega)
      have HB7 := Lib.hid (hb7.alloc (by have := hb7.size; have := HSZ.out; omega) (Obj.cells #[.int .i64 x1, .int .i64 x2, .int .i64 (a : Int)] 42))
      have HM7 := Lib.hid ((HOr.out.grown hgg (fun ad h1 h2 => by simp only [Option.some.injEq] at h1 h2; subst h1; exact hbl h2.symm)).alloc (Obj.cells #[.int .i64 x1, .int .i64 x2, .int .i64 (a : Int)] 42))
      have HO7 := Lib.hid (ho7.alloc' (Obj.cells #[.int .i64 x1, .int .i64 x2, .int .i64 (a : Int)] 42))
      have hai : (a : Int) < (n : Int) := by omega
      have hai1 : (a : Int) + 1 < (n : Int) := by omega
      have hai2 : (0 : Int) ≤ (a : Int) + 1 := by omega
      have hai3 : ((a : Int) + 1).toNat = a + 1 := by omega
      have hkm : (k : Int) ≤ 256 := by omega
      clear ho5 ho6 ho7 hc1 hc2 hqa hqb hga hgb2 e6 e7 hv' hu' hb7 hgg hg6 hg7 hql hl6
      go_wp2
      go_roundw
      case rel => exact ⟨k + 1, by omega, by go_num, HB7.out, HM7.out, by rw [HS.out]; exact HO7.out⟩
      case measure => simp [intOf]; omega
    · obtain rfl : k = m.length := by omega
      have HE : Hid (m.take m.length = m) := List.take_length
      go_wp2
      go_ret
      refine ⟨some ⟨w.heap.size + 1, 0, none⟩, n, rfl, ?_, HB2.out.trans (HBr.out.mono (Nat.le_succ _))⟩
      have := HL.out
      rw [HE.out] at this
      exact this.base (Nat.le_succ _)

set_option maxHeartbeats 1000000 in
theorem specCountOfAnts_any (L : Int) (A : Option Addr) (c : Nat) (l : List (Int × Int)) (w : World) (hcap : l.length ≤ c) (hA : AntsAt w A l) :
    Calls Try.prog 32 #[.agg #[.int .i64 L, .slice A l.length c]] w fun e w' => ∃ A' n c', e = .returned (.tuple #[.slice A' n c', .bool (goodB L l)]) ∧ n = (coV L l).length ∧ SlOwn intS w' w.heap.size 3 (.slice A' n c') (coV L l) ∧ Below w.heap.size w w' := by
  have HA := Lib.hid (hA.alloc (Obj.cells #[Value.int IntKind.i64 L, Value.slice A l.length c] 31))
  clear hA
  cases hg : goodB L l with
  | false =>
    have HV : Hid (coV L l = []) := by show _ = _; simp [coV, hg]
    have HG : Hid (∀ w, AntsAt w A l → Calls Try.prog 51 #[.agg #[.int .i64 L, .slice A l.length c]] w fun e w' => e = .returned (.bool false) ∧ Below w.heap.size w w') := fun w h => by
      rw [← hg]; exact roGood_any L A c l w h
    clear hg
    go_enter Try.func32, Try.ntmps32
    go_wp2_with fail
    refine (HG.out _ HA.out).mono ?_
    rintro e w1 ⟨rfl, hb⟩
    go_wp2
    go_ret2
    exact ⟨none, 0, 0, rfl, by rw [HV.out]; rfl, by rw [HV.out]; exact SlOwn.nil _ _ _ _, ((Below.refl _ _).alloc (Nat.le_refl _) _).trans (hb.mono (by simp))⟩
  | true =>
    have HV : Hid (coV L l = coL l.length (meL L l)) := by show _ = _; simp [coV, hg]
    have HG : Hid (∀ w, AntsAt w A l → Calls Try.prog 51 #[.agg #[.int .i64 L, .slice A l.length c]] w fun e w' => e = .returned (.bool true) ∧ Below w.heap.size w w') := fun w h => by
      rw [← hg]; exact roGood_any L A c l w h
    have HM := Lib.hid (fun w h => meCounts_good L A c l w hg hcap h)
    clear hg
    go_enter Try.func32, Try.ntmps32
    go_wp2_with fail
    refine (HG.out _ HA.out).mono ?_
    rintro e w1 ⟨rfl, hb⟩
    have c0 : w1.cell? ⟨w.heap.size, 0, none⟩ = some (.int .i64 L) := by rw [hb.cell (p := ⟨w.heap.size, 0, none⟩) (by simp)]; simp
    have c1 : w1.cell? ⟨w.heap.size, 1, none⟩ = some (.slice A l.length c) := by rw [hb.cell (p := ⟨w.heap.size, 1, none⟩) (by simp)]; simp
    have HB := Lib.hid (((Below.refl _ w).alloc (Nat.le_refl _) _).trans (hb.mono (by simp)))
    have HA1 := Lib.hid (HA.out.below hb)
    clear hb
    go_wp2_with fail
    refine (HM.out _ HA1.out).mono ?_
    rintro e w2 ⟨A2, c2, rfl, ho, hb2⟩
    have HO := Lib.hid ho
    have HB2 := Lib.hid (HB.out.trans (hb2.mono HB.out.size))
    clear hb2 ho
    go_wp2
    go_ret2
    exact ⟨A2, l.length, c2, rfl, by rw [HV.out, coL_len], by rw [HV.out]; exact HO.out.base HB.out.size, HB2.out⟩

set_option maxRecDepth 100000 in
set_option maxHeartbeats 2000000 in
theorem implCountOfAnts_any (L : Int) (A : Option Addr) (c : Nat) (l : List (Int × Int)) (w : World) (hA : AntsAt w A l) :
    Calls Try.prog 33 #[.agg #[.int .i64 L, .slice A l.length c]] w fun e w' => ∃ A' n c', e = .returned (.tuple #[.slice A' n c', .bool (goodB L l)]) ∧ n = (coV L l).length ∧ SlOwn intS w' w.heap.size 3 (.slice A' n c') (coV L l) ∧ Below w.heap.size w w' := by
  obtain ⟨i0, hi, hz0, hz1, hz2⟩ := info_parts intInfo
  have HA := Lib.hid (hA.alloc (Obj.cells #[Value.int IntKind.i64 L, Value.slice A l.length c] 31))
  clear hA
  have HM := Lib.hid (fun w h => implMeetingsOf_any L A c l w h)
  cases hg : goodB L l with
  | false =>
    have HV : Hid (coV L l = []) := by show _ = _; simp [coV, hg]
    rw [hg] at HM
    clear hg
    go_enter Try.func33, Try.ntmps33
    go_wp2_with fail
    refine (HM.out _ HA.out).mono ?_
    rintro e w1 ⟨A1, n1, c1, rfl, _, _, hb⟩
    go_wp2
    go_ret2
    exact ⟨none, 0, 0, rfl, by rw [HV.out]; rfl, by rw [HV.out]; exact SlOwn.nil _ _ _ _, ((Below.refl _ _).alloc (Nat.le_refl _) _).trans (hb.mono (by simp))⟩
  | true =>
    have HV : Hid (coV L l = coL l.length (meV L l)) := by show _ = _; simp [coV, hg, meV]
    rw [hg] at HM
    have hml := meV_len L l
    have hnl := good_len hg
    have HOK : Hid (∀ x ∈ meV L l, 0 ≤ x.2.2 ∧ x.2.2 + 1 < (l.length : Int)) := fun x hx => by
      rw [meV_good hg] at hx
      have := meL_ok hg hx
      omega
    clear hg
    generalize meV L l = m at *
    generalize hn : l.length = n at *
    have HN := Lib.hid hn
    clear hn
    go_enter Try.func33, Try.ntmps33
    go_wp2_with fail
    refine (HM.out _ HA.out).mono ?_
    rintro e w1 ⟨AM, n1, k1, rfl, hn1, ho1, hb⟩
    subst hn1
    have c0 : w1.cell? ⟨w.heap.size, 0, none⟩ = some (.int .i64 L) := by rw [hb.cell (p := ⟨w.heap.size, 0, none⟩) (by simp)]; simp
    have c1 : w1.cell? ⟨w.heap.size, 1, none⟩ = some (.slice A n c) := by rw [hb.cell (p := ⟨w.heap.size, 1, none⟩) (by simp)]; simp
    have HB := Lib.hid (((Below.refl _ w).alloc (Nat.le_refl _) _).trans (hb.mono (by simp)))
    have HO1 := Lib.hid ho1.sl
    have HBLK : Hid (∀ ad, AM = some ad → ad.block ≠ w1.heap.size) := fun ad h => by
      subst h
      have := World.ownsRow.lt ho1 ad.block rfl
      omega
    clear hb ho1
    go_wp2_with (at_make; refine wpList_make_full _ rfl _ _ _ rfl w1.heap.size 3 i0 _ 1 Try.underlying47 hi hz0 hz1 .i64 .i64 _ _ n rfl rfl rfl rfl (by rw [hz2]; omega) (by unfold maxLen; omega) (Nat.le_refl _) ?_; intro w2 hown hg; have hb1 : Below w1.heap.size w1 w2 := (Below.refl _ _).grown hg (Nat.le_refl _) (by simp))
    have HCO : Hid (SlOwn intS w2 w1.heap.size 3 (.slice (some ⟨w1.heap.size, 0, none⟩) n n) (coL n (m.take 0))) := by
      show World.ownsRow _ _ _ _ _ _ (intS.row (List.replicate n 0))
      show World.ownsRow _ _ _ _ _ (List.replicate n (0 : Int)).length _
      rw [List.length_replicate, ← zeroInts]
      exact hown
    have HSM := Lib.hid (HO1.out.below hb1)
    have HB2 := Lib.hid (HB.out.trans (hb1.mono HB.out.size))
    have HSZ : Hid (w1.heap.size ≤ w2.heap.size) := hb1.size
    clear hb1 hown hg c0 c1
    try go_wp2
    go_loopw [22] (fun i wr => ∃ k : Nat, k ≤ m.length ∧ i = .int .i64 k ∧ Below w1.heap.size w2 wr ∧ SlAt tripS wr AM m ∧ SlOwn intS wr w1.heap.size 3 (.slice (some ⟨w1.heap.size, 0, none⟩) n n) (coL n (m.take k)))
      (fun i _ => m.length - (intOf i).toNat)
    case atStart => exact ⟨0, Nat.zero_le _, rfl, Below.refl _ _, HSM.out, HCO.out⟩
    case round =>
      obtain ⟨k, hk, rfl, hbr, hsm, hown⟩ := hrel
      obtain ⟨WR, rfl⟩ : ∃ W, W = wr := ⟨_, rfl⟩
      have HBr := Lib.hid hbr
      have hsr := hbr.size
      have HOr := Lib.hid hsm
      have HL := Lib.hid hown
      have hgb := World.ownsRow.lt hown w1.heap.size rfl
      clear hbr hown hsm
      by_cases hlt : k < m.length
      · obtain ⟨b, off, rfl, l0, hc⟩ := HOr.out.trip_at hlt
        have hx : m[k]? = some (m[k]'hlt) := List.getElem?_eq_getElem hlt
        obtain ⟨a0, a1, a2⟩ := hc k _ hx
        have HS := Lib.hid (coL_snoc n m k _ hx)
        have hq := HOK.out _ (List.getElem_mem hlt)
        have hbl := HBLK.out _ rfl
        have HBD := Lib.hid (coL_bound n m k)
        clear hc hx
        generalize m[k]'hlt = x at *
        obtain ⟨x1, x2, x3⟩ := x
        simp only at a0 a1 a2 hq hbl
        obtain ⟨a, rfl⟩ := Int.eq_ofNat_of_zero_le hq.1
        have hql := coL_len n (m.take k)
        generalize coL n (m.take k) = q at *
        have ha1 : a + 1 < n := by omega
        have haq : a < q.length := by omega
        have hqa : q[a]? = some (q[a]'haq) := List.getElem?_eq_getElem haq
        have hv := HBD.out _ (List.getElem_mem haq)
        have hga : q.getD a 0 = q[a]'haq := getD_lt haq
        obtain ⟨v, hv'⟩ : ∃ v, q[a]'haq = v := ⟨_, rfl⟩
        rw [hv'] at hv hqa hga
        have ho5 := HL.out
        obtain ⟨_, _, he, _, hc1⟩ := ho5.sl.int_at haq
        simp only [Option.some.injEq, Addr.mk.injEq, and_true] at he
        obtain ⟨rfl, rfl⟩ := he
        have y0 := hc1 a _ hqa
        rw [Nat.zero_add] at y0
        obtain ⟨_, _, fz0, ho6, hg6⟩ := ho5.int_store haq (v + 1)
        have e6 : q.set a (v + 1) = inc1 q a := by unfold inc1; rw [hga]
        rw [e6] at ho6
        have hl6 : (inc1 q a).length = n := by rw [inc1_len]; omega
        have haq6 : a + 1 < (inc1 q a).length := by omega
        have hqb : (inc1 q a)[a + 1]? = some ((inc1 q a)[a + 1]'haq6) := List.getElem?_eq_getElem haq6
        have hu := inc1_bound HBD.out (by omega) a _ (List.getElem_mem haq6)
        have hgb2 : (inc1 q a).getD (a + 1) 0 = (inc1 q a)[a + 1]'haq6 := getD_lt haq6
        obtain ⟨u, hu'⟩ : ∃ u, (inc1 q a)[a + 1]'haq6 = u := ⟨_, rfl⟩
        rw [hu'] at hu hqb hgb2
        obtain ⟨_, _, he, _, hc2⟩ := ho6.sl.int_at haq6
        simp only [Option.some.injEq, Addr.mk.injEq, and_true] at he
        obtain ⟨rfl, rfl⟩ := he
        have y1 := hc2 (a + 1) _ hqb
        rw [Nat.zero_add] at y1
        obtain ⟨_, _, fz1, ho7, hg7⟩ := ho6.int_store haq6 (u + 1)
        have e7 : (inc1 q a).set (a + 1) (u + 1) = coStep q (x1, x2, (a : Int)) := by
          show _ = inc1 (inc1 q (Int.toNat (a : Int))) (Int.toNat (a : Int) + 1)
          rw [Int.toNat_natCast]
          show _ = (inc1 q a).set (a + 1) ((inc1 q a).getD (a + 1) 0 + 1)
          rw [hgb2]
        rw [e7] at ho7
        have hgg := grown_trans hg6 hg7
        have hb7 := HBr.out.grown hgg (by have := HSZ.out; omega) (fun j hj => by simp at hj; omega)
        have HB7 := Lib.hid (hb7.alloc (by have := hb7.size; have := HSZ.out; omega) (Obj.cells #[.int .i64 x1, .int .i64 x2, .int .i64 (a : Int)] 42))
        have HM7 := Lib.hid ((HOr.out.grown hgg (fun ad h1 h2 => by simp only [Option.some.injEq] at h1 h2; subst h1; exact hbl h2.symm)).alloc (Obj.cells #[.int .i64 x1, .int .i64 x2, .int .i64 (a : Int)] 42))
        have HO7 := Lib.hid (ho7.alloc' (Obj.cells #[.int .i64 x1, .int .i64 x2, .int .i64 (a : Int)] 42))
        have hai : (a : Int) < (n : Int) := by omega
        have hai1 : (a : Int) + 1 < (n : Int) := by omega
        have hai2 : (0 : Int) ≤ (a : Int) + 1 := by omega
        have hai3 : ((a : Int) + 1).toNat = a + 1 := by omega
        have hkm : (k : Int) ≤ 256 := by omega
        clear ho5 ho6 ho7 hc1 hc2 hqa hqb hga hgb2 e6 e7 hv' hu' hb7 hgg hg6 hg7 hql hl6
        go_wp2
        go_roundw
        case rel => exact ⟨k + 1, by omega, by go_num, HB7.out, HM7.out, by rw [HS.out]; exact HO7.out⟩
        case measure => simp [intOf]; omega
      · obtain rfl : k = m.length := by omega
        have HE : Hid (m.take m.length = m) := List.take_length
        go_wp2
        go_ret2
        refine ⟨some ⟨w1.heap.size, 0, none⟩, n, n, rfl, by rw [HV.out, coL_len], ?_, HB2.out.trans (HBr.out.mono HB.out.size)⟩
        have := HL.out
        rw [HE.out] at this
        rw [HV.out]
        exact this.base HB.out.size
end Go.Proofs.Ytdgcdlcfddjmiaa
