/- The first and the last meeting, on both sides. -/
import Derived.Test.YtdgcdlcfddjmiaaMeetA
import Derived.Test.YtdgcdlcfddjmiaaRoMe
namespace Go.Proofs.Ytdgcdlcfddjmiaa
open Go.RowKit

/-- as many meetings as are counted -/
theorem meL_count {L : Int} {l : List (Int × Int)} (hg : goodB L l = true) : ((meL L l).length : Int) = (mAll l).1 := by
  have h := good_ants hg
  have h0 : (meL L l).length = (genC (rightsL l) (leftsL l)).length := by
    have h1 : (meL L l).length = _ := (mAllS_perm (genS L l l.length)).length_eq
    rw [h1, genS_eq h]
  -- by the ants to the left: how many to the right are ahead of each
  let nC : List (Int × Int) → List (Int × Int) → Nat := fun rs ls => (rs.map fun a => (ls.filter fun b => decide (a.1 < b.1)).length).sum
  have hrow : ∀ (rs ls0 ls : List (Int × Int)) (a : Int × Int), (rowC rs ls0 a ls).length = (ls.filter fun b => decide (a.1 < b.1)).length := by
    intro rs ls0 ls a
    unfold rowC
    induction ls with
    | nil => rfl
    | cons b ls ih =>
      rw [List.flatMap_cons, List.length_append, ih, List.filter_cons]
      by_cases hab : b.1 ≤ a.1
      · rw [if_pos hab, if_neg (by simp; omega)]; simp
      · rw [if_neg hab, if_pos (by simp; omega)]; simp; omega
  have hC : ∀ (rs0 ls0 rs ls : List (Int × Int)), (rs.flatMap fun a => rowC rs0 ls0 a ls).length = nC rs ls := by
    intro rs0 ls0 rs ls
    induction rs with
    | nil => rfl
    | cons a rs ih =>
      rw [List.flatMap_cons, List.length_append, hrow, ih]
      simp [nC]
  have hsnocL : ∀ (rs ls : List (Int × Int)) (x : Int × Int), (∀ a ∈ rs, a.1 < x.1) → nC rs (ls ++ [x]) = nC rs ls + rs.length := by
    intro rs ls x hx
    induction rs with
    | nil => rfl
    | cons a rs ih =>
      have h1 := ih fun b hb => hx b (List.mem_cons_of_mem _ hb)
      have h2 := hx a List.mem_cons_self
      simp only [nC, List.map_cons, List.sum_cons, List.length_cons] at h1 ⊢
      rw [h1, List.filter_append, List.length_append]
      simp [h2]
      omega
  have hsnocR : ∀ (rs ls : List (Int × Int)) (x : Int × Int), (∀ b ∈ ls, b.1 ≤ x.1) → nC (rs ++ [x]) ls = nC rs ls := by
    intro rs ls x hx
    have : (ls.filter fun b => decide (x.1 < b.1)) = [] := by
      rw [List.filter_eq_nil_iff]
      intro b hb
      have := hx b hb
      simp; omega
    simp [nC, this]
  have key : ∀ k, k ≤ l.length → (mAll (l.take k)).1 = ((nC (rightsL (l.take k)) (leftsL (l.take k)) : Nat) : Int) ∧ (mAll (l.take k)).2 = ((rightsL (l.take k)).length : Int) := by
    intro k
    induction k with
    | zero => intro _; exact ⟨rfl, rfl⟩
    | succ k ih =>
      intro hk
      obtain ⟨i1, i2⟩ := ih (by omega)
      have hkl : k < l.length := hk
      have hbef : ∀ y ∈ l.take k, y.1 < l[k].1 ∨ (y.1 = l[k].1 ∧ y.2 < l[k].2) := by
        intro y hy
        obtain ⟨j, hj, rfl⟩ := List.mem_iff_getElem.1 hy
        rw [List.length_take] at hj
        rw [List.getElem_take]
        exact List.pairwise_iff_getElem.1 h.ord j k (by omega) hkl (by omega)
      rw [mAll_snoc l k _ (List.getElem?_eq_getElem hkl), List.take_succ_eq_append_getElem hkl]
      unfold rightsL leftsL at *
      rw [List.filter_append, List.filter_append]
      rcases (h.ant l[k] (List.getElem_mem hkl)).2.2.2 with hw | hw
      · have e1 : ([l[k]].filter fun x => x.2 == 1) = [] := by simp [hw]
        have e2 : ([l[k]].filter fun x => x.2 == -1) = [l[k]] := by simp [hw]
        rw [e1, e2, List.append_nil]
        unfold mStep
        rw [if_neg (by omega)]
        refine ⟨?_, i2⟩
        show _ + _ = _
        rw [hsnocL _ _ _ (fun a ha => by
          have ha' := List.mem_filter.1 ha
          have h1 := hbef a ha'.1
          have h2 : a.2 = 1 := by simpa using ha'.2
          omega), i1, i2]
        omega
      · have e1 : ([l[k]].filter fun x => x.2 == 1) = [l[k]] := by simp [hw]
        have e2 : ([l[k]].filter fun x => x.2 == -1) = [] := by simp [hw]
        rw [e1, e2, List.append_nil]
        unfold mStep
        rw [if_pos hw]
        refine ⟨?_, ?_⟩
        · show _ = _
          rw [hsnocR _ _ _ (fun b hb => by
            have h1 := hbef b (List.mem_filter.1 hb).1
            omega)]
          exact i1
        · show _ + 1 = _
          rw [i2, List.length_append]
          simp
  have h2 := (key l.length (Nat.le_refl _)).1
  rw [List.take_length] at h2
  rw [h0, h2]
  congr 1
  exact hC _ _ _ _

def fmB (L : Int) (l : List (Int × Int)) : Bool := !((meV L l).length == 0)
def fmV (L : Int) (l : List (Int × Int)) : Int × Int × Int := (meV L l).getD 0 (0, 0, 0)
def lmV (L : Int) (l : List (Int × Int)) : Int × Int × Int := (meV L l).getD ((meV L l).length - 1) (0, 0, 0)
theorem tb_eq {a b : Int × Int × Int} {x y : Bool} (h : a = b) (h' : x = y) : Ending.returned (.tuple #[.agg #[.int .i64 a.1, .int .i64 a.2.1, .int .i64 a.2.2], .bool x]) = .returned (.tuple #[.agg #[.int .i64 b.1, .int .i64 b.2.1, .int .i64 b.2.2], .bool y]) := by rw [h, h']

set_option maxHeartbeats 1000000 in
theorem implFirstMeeting_any (L : Int) (A : Option Addr) (c : Nat) (l : List (Int × Int)) (w : World) (hA : AntsAt w A l) :
    Calls Try.prog 26 #[.agg #[.int .i64 L, .slice A l.length c]] w fun e w' => e = .returned (.tuple #[.agg #[.int .i64 (fmV L l).1, .int .i64 (fmV L l).2.1, .int .i64 (fmV L l).2.2], .bool (fmB L l)]) ∧ Below w.heap.size w w' := by
  have HA := Lib.hid (hA.alloc (Obj.cells #[Value.int IntKind.i64 L, Value.slice A l.length c] 31))
  clear hA
  have HM := Lib.hid (fun w h => implMeetingsOf_any L A c l w h)
  have hml := meV_len L l
  have HV : Hid (fmV L l = (meV L l).getD (0) (0, 0, 0) ∧ fmB L l = !((meV L l).length == 0)) := ⟨rfl, rfl⟩
  generalize meV L l = m at *
  generalize goodB L l = g at *
  go_enter Try.func26, Try.ntmps26
  go_wp2_with fail
  refine (HM.out _ (HA.out.alloc _)).mono ?_
  rintro e w1 ⟨A1, n1, c1, rfl, hn1, ho1, hb1⟩
  subst hn1
  have r0 : w1.cell? ⟨w.heap.size + 1, 0, none⟩ = some (.int .i64 0) := by rw [hb1.cell (p := ⟨w.heap.size + 1, 0, none⟩) (by simp)]; simp [go_sem]
  have r1 : w1.cell? ⟨w.heap.size + 1, 1, none⟩ = some (.int .i64 0) := by rw [hb1.cell (p := ⟨w.heap.size + 1, 1, none⟩) (by simp)]; simp [go_sem]
  have r2 : w1.cell? ⟨w.heap.size + 1, 2, none⟩ = some (.int .i64 0) := by rw [hb1.cell (p := ⟨w.heap.size + 1, 2, none⟩) (by simp)]; simp [go_sem]
  have hf : ∀ o, w1.frozen? ⟨w.heap.size + 1, o, none⟩ = false := fun o => by rw [hb1.frozen (p := ⟨w.heap.size + 1, o, none⟩) (by simp)]; simp [go_sem]
  have hlt1 : w.heap.size + 1 < w1.heap.size := by have := hb1.size; simp at this; omega
  have HB : Hid (Below w.heap.size w w1) := (((Below.refl _ w).alloc (Nat.le_refl _) _).alloc (by simp) _).trans (hb1.mono (by simp; omega))
  have HO := Lib.hid ho1.sl
  clear ho1 hb1
  by_cases hm0 : m.length = 0
  · have HV2 : Hid ((0, 0, 0) = fmV L l ∧ false = fmB L l) := by
      show _ ∧ _
      rw [HV.out.1, HV.out.2, hm0, List.eq_nil_of_length_eq_zero hm0]; exact ⟨rfl, rfl⟩
    rw [hm0]
    clear hm0
    go_wp2
    exact bodyPost_ret (v := .tuple #[.agg #[.int .i64 0, .int .i64 0, .int .i64 0], .bool false]) (by simp [results, Try.results26, go_sem, r0, r1, r2]) rfl ⟨tb_eq (a := (0, 0, 0)) HV2.out.1 HV2.out.2, ((HB.out.setCell (by simp) _).setCell (by simp) _).setCell (by simp) _⟩
  · obtain ⟨j, hj⟩ : ∃ j : Nat, j = 0 := ⟨_, rfl⟩
    have hjl : j < m.length := by omega
    obtain ⟨b, off, rfl, l0, hc⟩ := HO.out.trip_at hjl
    obtain ⟨a0, a1, a2⟩ := hc j _ (List.getElem?_eq_getElem hjl)
    have HV2 : Hid (m[j] = fmV L l ∧ true = fmB L l) := by
      show _ ∧ _
      subst hj
      rw [HV.out.1, HV.out.2, show (m.length == 0) = false by simpa using hm0]; exact ⟨(getD_lt hjl).symm, rfl⟩
    generalize m[j] = x at *
    obtain ⟨x1, x2, x3⟩ := x
    simp only at a0 a1 a2
    have hm1 : (0 : Int) < (m.length : Int) := by omega
    have hm2 : ((m.length : Int) == 0) = false := by simpa using hm0
    have hm3 : (j : Int) < (m.length : Int) := by omega
    have hm5 : ((m.length : Int) - 1).toNat = m.length - 1 := by omega
    clear hc
    subst hj
    simp only [Nat.zero_mul, Nat.add_zero] at a0 a1 a2
    go_wp2
    exact bodyPost_ret (v := .tuple #[.agg #[.int .i64 x1, .int .i64 x2, .int .i64 x3], .bool true]) (by simp [results, Try.results26, go_sem, r0, r1, r2]) rfl ⟨tb_eq (a := (x1, x2, x3)) HV2.out.1 HV2.out.2, ((HB.out.setCell (by simp) _).setCell (by simp) _).setCell (by simp) _⟩

set_option maxHeartbeats 1000000 in
theorem specFirstMeeting_any (L : Int) (A : Option Addr) (c : Nat) (l : List (Int × Int)) (w : World) (hcap : l.length ≤ c) (hA : AntsAt w A l) :
    Calls Try.prog 25 #[.agg #[.int .i64 L, .slice A l.length c]] w fun e w' => e = .returned (.tuple #[.agg #[.int .i64 (fmV L l).1, .int .i64 (fmV L l).2.1, .int .i64 (fmV L l).2.2], .bool (fmB L l)]) ∧ Below w.heap.size w w' := by
  have HA := Lib.hid (hA.alloc (Obj.cells #[Value.int IntKind.i64 L, Value.slice A l.length c] 31))
  clear hA
  have HV : Hid (fmV L l = (meV L l).getD (0) (0, 0, 0) ∧ fmB L l = !((meV L l).length == 0)) := ⟨rfl, rfl⟩
  have start : ∀ w1 : World, Below ((w.alloc (Obj.cells #[Value.int IntKind.i64 L, Value.slice A l.length c] 31)).alloc (Obj.cells #[Value.int IntKind.i64 0, Value.int IntKind.i64 0, Value.int IntKind.i64 0] 42)).heap.size ((w.alloc (Obj.cells #[Value.int IntKind.i64 L, Value.slice A l.length c] 31)).alloc (Obj.cells #[Value.int IntKind.i64 0, Value.int IntKind.i64 0, Value.int IntKind.i64 0] 42)) w1 →
      (w1.cell? ⟨w.heap.size, 0, none⟩ = some (.int .i64 L) ∧ w1.cell? ⟨w.heap.size, 1, none⟩ = some (.slice A l.length c) ∧ w1.cell? ⟨w.heap.size + 1, 0, none⟩ = some (.int .i64 0) ∧ w1.cell? ⟨w.heap.size + 1, 1, none⟩ = some (.int .i64 0) ∧ w1.cell? ⟨w.heap.size + 1, 2, none⟩ = some (.int .i64 0)) ∧ (∀ o, w1.frozen? ⟨w.heap.size + 1, o, none⟩ = false) ∧ w.heap.size + 1 < w1.heap.size ∧ Below w.heap.size w w1 ∧ AntsAt w1 A l := fun w1 hb1 => by
    refine ⟨⟨?_, ?_, ?_, ?_, ?_⟩, fun o => ?_, ?_, ?_, (HA.out.alloc _).below hb1⟩
    · rw [hb1.cell (p := ⟨w.heap.size, 0, none⟩) (by simp; omega)]; exact alloc_some (by simp) _
    · rw [hb1.cell (p := ⟨w.heap.size, 1, none⟩) (by simp; omega)]; exact alloc_some (by simp) _
    · rw [hb1.cell (p := ⟨w.heap.size + 1, 0, none⟩) (by simp)]; simp [go_sem]
    · rw [hb1.cell (p := ⟨w.heap.size + 1, 1, none⟩) (by simp)]; simp [go_sem]
    · rw [hb1.cell (p := ⟨w.heap.size + 1, 2, none⟩) (by simp)]; simp [go_sem]
    · rw [hb1.frozen (p := ⟨w.heap.size + 1, o, none⟩) (by simp)]; simp [go_sem]
    · have := hb1.size; simp at this; omega
    · exact (((Below.refl _ w).alloc (Nat.le_refl _) _).alloc (by simp) _).trans (hb1.mono (by simp; omega))
  have HST := Lib.hid start
  clear start
  cases hg : goodB L l with
  | false =>
    have HG : Hid (∀ w, AntsAt w A l → Calls Try.prog 51 #[.agg #[.int .i64 L, .slice A l.length c]] w fun e w' => e = .returned (.bool false) ∧ Below w.heap.size w w') := fun w h => by
      rw [← hg]; exact roGood_any L A c l w h
    have HV2 : Hid ((0, 0, 0) = fmV L l ∧ false = fmB L l) := by
      show _ ∧ _
      rw [HV.out.1, HV.out.2, meV_bad hg]; exact ⟨rfl, rfl⟩
    clear hg
    go_enter Try.func25, Try.ntmps25
    go_wp2_with fail
    refine (HG.out _ (HA.out.alloc _)).mono ?_
    rintro e w1 ⟨rfl, hb1⟩
    obtain ⟨⟨c0, c1, r0, r1, r2⟩, hf, hlt1, hb, hA1⟩ := HST.out w1 hb1
    have HB := Lib.hid hb
    clear hb hb1 hA1
    go_wp2
    exact bodyPost_ret (v := .tuple #[.agg #[.int .i64 0, .int .i64 0, .int .i64 0], .bool false]) (by simp [results, Try.results25, go_sem, r0, r1, r2]) rfl ⟨tb_eq (a := (0, 0, 0)) HV2.out.1 HV2.out.2, ((HB.out.setCell (by simp) _).setCell (by simp) _).setCell (by simp) _⟩
  | true =>
    have HG : Hid (∀ w, AntsAt w A l → Calls Try.prog 51 #[.agg #[.int .i64 L, .slice A l.length c]] w fun e w' => e = .returned (.bool true) ∧ Below w.heap.size w w') := fun w h => by
      rw [← hg]; exact roGood_any L A c l w h
    have HM := Lib.hid (fun w h => meAll_good L A c l w hg hcap h)
    have HC : Hid (∀ w, AntsAt w A l → Calls Try.prog 64 #[.agg #[.int .i64 L, .slice A l.length c]] w fun e w' => e = .returned (.int .i64 ((meL L l).length : Int)) ∧ Below w.heap.size w w') := fun w h => by
      rw [meL_count hg]; exact roMeetings_good L A c l w hg h
    have hml := meL_len hg
    rw [meV_good hg] at HV
    clear hg
    generalize meL L l = m at *
    by_cases hm0 : m.length = 0
    · have HV2 : Hid ((0, 0, 0) = fmV L l ∧ false = fmB L l) := by
        show _ ∧ _
        rw [HV.out.1, HV.out.2, hm0, List.eq_nil_of_length_eq_zero hm0]; exact ⟨rfl, rfl⟩
      have HC0 : Hid (∀ w, AntsAt w A l → Calls Try.prog 64 #[.agg #[.int .i64 L, .slice A l.length c]] w fun e w' => e = .returned (.int .i64 0) ∧ Below w.heap.size w w') := fun w h => by
        have := HC.out w h
        rw [hm0] at this
        exact this
      clear hm0
      go_enter Try.func25, Try.ntmps25
      go_wp2_with fail
      refine (HG.out _ (HA.out.alloc _)).mono ?_
      rintro e w1 ⟨rfl, hb1⟩
      obtain ⟨⟨c0, c1, r0, r1, r2⟩, hf, hlt1, hb, hA1⟩ := HST.out w1 hb1
      have HA1 := Lib.hid hA1
      have HB1 := Lib.hid hb1
      clear hb hb1 hA1
      go_wp2_with fail
      refine (HC0.out _ HA1.out).mono ?_
      rintro e w2 ⟨rfl, hb2⟩
      clear c0 c1 r0 r1 r2 hf hlt1
      obtain ⟨⟨c0, c1, r0, r1, r2⟩, hf, hlt1, hb, hA2⟩ := HST.out w2 (HB1.out.trans (hb2.mono HB1.out.size))
      have HB := Lib.hid hb
      clear hb hb2 hA2
      go_wp2
      exact bodyPost_ret (v := .tuple #[.agg #[.int .i64 0, .int .i64 0, .int .i64 0], .bool false]) (by simp [results, Try.results25, go_sem, r0, r1, r2]) rfl ⟨tb_eq (a := (0, 0, 0)) HV2.out.1 HV2.out.2, ((HB.out.setCell (by simp) _).setCell (by simp) _).setCell (by simp) _⟩
    · obtain ⟨j, hj⟩ : ∃ j : Nat, j = 0 := ⟨_, rfl⟩
      have hjl : j < m.length := by omega
      have HV2 : Hid (m[j] = fmV L l ∧ true = fmB L l) := by
        show _ ∧ _
        subst hj
        rw [HV.out.1, HV.out.2, show (m.length == 0) = false by simpa using hm0]; exact ⟨(getD_lt hjl).symm, rfl⟩
      have HJ : Hid (m[j]? = some m[j]) := List.getElem?_eq_getElem hjl
      generalize m[j] = x at *
      obtain ⟨x1, x2, x3⟩ := x
      have hm1 : (0 : Int) < (m.length : Int) := by omega
      have hm2 : ((m.length : Int) == 0) = false := by simpa using hm0
      have hm3 : (j : Int) < (m.length : Int) := by omega
      have HJL := Lib.hid hjl
      clear hm0
      subst hj
      go_enter Try.func25, Try.ntmps25
      go_wp2_with fail
      refine (HG.out _ (HA.out.alloc _)).mono ?_
      rintro e w1 ⟨rfl, hb1⟩
      obtain ⟨⟨c0, c1, r0, r1, r2⟩, hf, hlt1, hb, hA1⟩ := HST.out w1 hb1
      have HA1 := Lib.hid hA1
      have HB1 := Lib.hid hb1
      clear hb hb1 hA1
      go_wp2_with fail
      refine (HC.out _ HA1.out).mono ?_
      rintro e w2 ⟨rfl, hb2⟩
      clear c0 c1 r0 r1 r2 hf hlt1
      have HB2 := Lib.hid (HB1.out.trans (hb2.mono HB1.out.size))
      obtain ⟨⟨c0, c1, r0, r1, r2⟩, hf, hlt1, hb, hA2⟩ := HST.out w2 HB2.out
      have HA2 := Lib.hid hA2
      clear hb hb2 hA2
      go_wp2_with fail
      refine (HM.out _ HA2.out).mono ?_
      rintro e w3 ⟨A3, n3, c3, rfl, hn3, ho3, hb3⟩
      subst hn3
      clear c0 c1 r0 r1 r2 hf hlt1
      obtain ⟨⟨c0, c1, r0, r1, r2⟩, hf, hlt1, hb, _⟩ := HST.out w3 (HB2.out.trans (hb3.mono HB2.out.size))
      have HB := Lib.hid hb
      obtain ⟨b, off, rfl, l0, hc⟩ := ho3.sl.trip_at HJL.out
      obtain ⟨a0, a1, a2⟩ := hc _ _ HJ.out
      simp only [Nat.zero_mul, Nat.add_zero] at a0 a1 a2
      clear hb hb3 ho3 hc
      go_wp2
      exact bodyPost_ret (v := .tuple #[.agg #[.int .i64 x1, .int .i64 x2, .int .i64 x3], .bool true]) (by simp [results, Try.results25, go_sem, r0, r1, r2]) rfl ⟨tb_eq (a := (x1, x2, x3)) HV2.out.1 HV2.out.2, ((HB.out.setCell (by simp) _).setCell (by simp) _).setCell (by simp) _⟩

set_option maxHeartbeats 1000000 in
theorem implLastMeeting_any (L : Int) (A : Option Addr) (c : Nat) (l : List (Int × Int)) (w : World) (hA : AntsAt w A l) :
    Calls Try.prog 29 #[.agg #[.int .i64 L, .slice A l.length c]] w fun e w' => e = .returned (.tuple #[.agg #[.int .i64 (lmV L l).1, .int .i64 (lmV L l).2.1, .int .i64 (lmV L l).2.2], .bool (fmB L l)]) ∧ Below w.heap.size w w' := by
  have HA := Lib.hid (hA.alloc (Obj.cells #[Value.int IntKind.i64 L, Value.slice A l.length c] 31))
  clear hA
  have HM := Lib.hid (fun w h => implMeetingsOf_any L A c l w h)
  have hml := meV_len L l
  have HV : Hid (lmV L l = (meV L l).getD ((meV L l).length - 1) (0, 0, 0) ∧ fmB L l = !((meV L l).length == 0)) := ⟨rfl, rfl⟩
  generalize meV L l = m at *
  generalize goodB L l = g at *
  go_enter Try.func29, Try.ntmps29
  go_wp2_with fail
  refine (HM.out _ (HA.out.alloc _)).mono ?_
  rintro e w1 ⟨A1, n1, c1, rfl, hn1, ho1, hb1⟩
  subst hn1
  have r0 : w1.cell? ⟨w.heap.size + 1, 0, none⟩ = some (.int .i64 0) := by rw [hb1.cell (p := ⟨w.heap.size + 1, 0, none⟩) (by simp)]; simp [go_sem]
  have r1 : w1.cell? ⟨w.heap.size + 1, 1, none⟩ = some (.int .i64 0) := by rw [hb1.cell (p := ⟨w.heap.size + 1, 1, none⟩) (by simp)]; simp [go_sem]
  have r2 : w1.cell? ⟨w.heap.size + 1, 2, none⟩ = some (.int .i64 0) := by rw [hb1.cell (p := ⟨w.heap.size + 1, 2, none⟩) (by simp)]; simp [go_sem]
  have hf : ∀ o, w1.frozen? ⟨w.heap.size + 1, o, none⟩ = false := fun o => by rw [hb1.frozen (p := ⟨w.heap.size + 1, o, none⟩) (by simp)]; simp [go_sem]
  have hlt1 : w.heap.size + 1 < w1.heap.size := by have := hb1.size; simp at this; omega
  have HB : Hid (Below w.heap.size w w1) := (((Below.refl _ w).alloc (Nat.le_refl _) _).alloc (by simp) _).trans (hb1.mono (by simp; omega))
  have HO := Lib.hid ho1.sl
  clear ho1 hb1
  by_cases hm0 : m.length = 0
  · have HV2 : Hid ((0, 0, 0) = lmV L l ∧ false = fmB L l) := by
      show _ ∧ _
      rw [HV.out.1, HV.out.2, hm0, List.eq_nil_of_length_eq_zero hm0]; exact ⟨rfl, rfl⟩
    rw [hm0]
    clear hm0
    go_wp2
    exact bodyPost_ret (v := .tuple #[.agg #[.int .i64 0, .int .i64 0, .int .i64 0], .bool false]) (by simp [results, Try.results29, go_sem, r0, r1, r2]) rfl ⟨tb_eq (a := (0, 0, 0)) HV2.out.1 HV2.out.2, ((HB.out.setCell (by simp) _).setCell (by simp) _).setCell (by simp) _⟩
  · obtain ⟨j, hj⟩ : ∃ j : Nat, j = m.length - 1 := ⟨_, rfl⟩
    have hjl : j < m.length := by omega
    obtain ⟨b, off, rfl, l0, hc⟩ := HO.out.trip_at hjl
    obtain ⟨a0, a1, a2⟩ := hc j _ (List.getElem?_eq_getElem hjl)
    have HV2 : Hid (m[j] = lmV L l ∧ true = fmB L l) := by
      show _ ∧ _
      rw [HV.out.1, HV.out.2, ← hj, getD_lt hjl, show (m.length == 0) = false by simpa using hm0]; exact ⟨rfl, rfl⟩
    generalize m[j] = x at *
    obtain ⟨x1, x2, x3⟩ := x
    simp only at a0 a1 a2
    have hm1 : (0 : Int) < (m.length : Int) := by omega
    have hm2 : ((m.length : Int) == 0) = false := by simpa using hm0
    have hm3 : (j : Int) < (m.length : Int) := by omega
    have hm5 : ((m.length : Int) - 1).toNat = m.length - 1 := by omega
    clear hc
    have hm4 : (m.length : Int) - 1 = (j : Int) := by omega
    have hm6 : IntKind.i64.wrap ((m.length : Int) - 1) = (j : Int) := by rw [hm4]; exact IntWalk.i64_in _ (by omega)
    clear hj hm5
    go_wp2
    exact bodyPost_ret (v := .tuple #[.agg #[.int .i64 x1, .int .i64 x2, .int .i64 x3], .bool true]) (by simp [results, Try.results29, go_sem, r0, r1, r2]) rfl ⟨tb_eq (a := (x1, x2, x3)) HV2.out.1 HV2.out.2, ((HB.out.setCell (by simp) _).setCell (by simp) _).setCell (by simp) _⟩

set_option maxHeartbeats 1000000 in
theorem specLastMeeting_any (L : Int) (A : Option Addr) (c : Nat) (l : List (Int × Int)) (w : World) (hcap : l.length ≤ c) (hA : AntsAt w A l) :
    Calls Try.prog 28 #[.agg #[.int .i64 L, .slice A l.length c]] w fun e w' => e = .returned (.tuple #[.agg #[.int .i64 (lmV L l).1, .int .i64 (lmV L l).2.1, .int .i64 (lmV L l).2.2], .bool (fmB L l)]) ∧ Below w.heap.size w w' := by
  have HA := Lib.hid (hA.alloc (Obj.cells #[Value.int IntKind.i64 L, Value.slice A l.length c] 31))
  clear hA
  have HV : Hid (lmV L l = (meV L l).getD ((meV L l).length - 1) (0, 0, 0) ∧ fmB L l = !((meV L l).length == 0)) := ⟨rfl, rfl⟩
  have start : ∀ w1 : World, Below ((w.alloc (Obj.cells #[Value.int IntKind.i64 L, Value.slice A l.length c] 31)).alloc (Obj.cells #[Value.int IntKind.i64 0, Value.int IntKind.i64 0, Value.int IntKind.i64 0] 42)).heap.size ((w.alloc (Obj.cells #[Value.int IntKind.i64 L, Value.slice A l.length c] 31)).alloc (Obj.cells #[Value.int IntKind.i64 0, Value.int IntKind.i64 0, Value.int IntKind.i64 0] 42)) w1 →
      (w1.cell? ⟨w.heap.size, 0, none⟩ = some (.int .i64 L) ∧ w1.cell? ⟨w.heap.size, 1, none⟩ = some (.slice A l.length c) ∧ w1.cell? ⟨w.heap.size + 1, 0, none⟩ = some (.int .i64 0) ∧ w1.cell? ⟨w.heap.size + 1, 1, none⟩ = some (.int .i64 0) ∧ w1.cell? ⟨w.heap.size + 1, 2, none⟩ = some (.int .i64 0)) ∧ (∀ o, w1.frozen? ⟨w.heap.size + 1, o, none⟩ = false) ∧ w.heap.size + 1 < w1.heap.size ∧ Below w.heap.size w w1 ∧ AntsAt w1 A l := fun w1 hb1 => by
    refine ⟨⟨?_, ?_, ?_, ?_, ?_⟩, fun o => ?_, ?_, ?_, (HA.out.alloc _).below hb1⟩
    · rw [hb1.cell (p := ⟨w.heap.size, 0, none⟩) (by simp; omega)]; exact alloc_some (by simp) _
    · rw [hb1.cell (p := ⟨w.heap.size, 1, none⟩) (by simp; omega)]; exact alloc_some (by simp) _
    · rw [hb1.cell (p := ⟨w.heap.size + 1, 0, none⟩) (by simp)]; simp [go_sem]
    · rw [hb1.cell (p := ⟨w.heap.size + 1, 1, none⟩) (by simp)]; simp [go_sem]
    · rw [hb1.cell (p := ⟨w.heap.size + 1, 2, none⟩) (by simp)]; simp [go_sem]
    · rw [hb1.frozen (p := ⟨w.heap.size + 1, o, none⟩) (by simp)]; simp [go_sem]
    · have := hb1.size; simp at this; omega
    · exact (((Below.refl _ w).alloc (Nat.le_refl _) _).alloc (by simp) _).trans (hb1.mono (by simp; omega))
  have HST := Lib.hid start
  clear start
  cases hg : goodB L l with
  | false =>
    have HG : Hid (∀ w, AntsAt w A l → Calls Try.prog 51 #[.agg #[.int .i64 L, .slice A l.length c]] w fun e w' => e = .returned (.bool false) ∧ Below w.heap.size w w') := fun w h => by
      rw [← hg]; exact roGood_any L A c l w h
    have HV2 : Hid ((0, 0, 0) = lmV L l ∧ false = fmB L l) := by
      show _ ∧ _
      rw [HV.out.1, HV.out.2, meV_bad hg]; exact ⟨rfl, rfl⟩
    clear hg
    go_enter Try.func28, Try.ntmps28
    go_wp2_with fail
    refine (HG.out _ (HA.out.alloc _)).mono ?_
    rintro e w1 ⟨rfl, hb1⟩
    obtain ⟨⟨c0, c1, r0, r1, r2⟩, hf, hlt1, hb, hA1⟩ := HST.out w1 hb1
    have HB := Lib.hid hb
    clear hb hb1 hA1
    go_wp2
    exact bodyPost_ret (v := .tuple #[.agg #[.int .i64 0, .int .i64 0, .int .i64 0], .bool false]) (by simp [results, Try.results28, go_sem, r0, r1, r2]) rfl ⟨tb_eq (a := (0, 0, 0)) HV2.out.1 HV2.out.2, ((HB.out.setCell (by simp) _).setCell (by simp) _).setCell (by simp) _⟩
  | true =>
    have HG : Hid (∀ w, AntsAt w A l → Calls Try.prog 51 #[.agg #[.int .i64 L, .slice A l.length c]] w fun e w' => e = .returned (.bool true) ∧ Below w.heap.size w w') := fun w h => by
      rw [← hg]; exact roGood_any L A c l w h
    have HM := Lib.hid (fun w h => meAll_good L A c l w hg hcap h)
    have HC : Hid (∀ w, AntsAt w A l → Calls Try.prog 64 #[.agg #[.int .i64 L, .slice A l.length c]] w fun e w' => e = .returned (.int .i64 ((meL L l).length : Int)) ∧ Below w.heap.size w w') := fun w h => by
      rw [meL_count hg]; exact roMeetings_good L A c l w hg h
    have hml := meL_len hg
    rw [meV_good hg] at HV
    clear hg
    generalize meL L l = m at *
    by_cases hm0 : m.length = 0
    · have HV2 : Hid ((0, 0, 0) = lmV L l ∧ false = fmB L l) := by
        show _ ∧ _
        rw [HV.out.1, HV.out.2, hm0, List.eq_nil_of_length_eq_zero hm0]; exact ⟨rfl, rfl⟩
      have HC0 : Hid (∀ w, AntsAt w A l → Calls Try.prog 64 #[.agg #[.int .i64 L, .slice A l.length c]] w fun e w' => e = .returned (.int .i64 0) ∧ Below w.heap.size w w') := fun w h => by
        have := HC.out w h
        rw [hm0] at this
        exact this
      clear hm0
      go_enter Try.func28, Try.ntmps28
      go_wp2_with fail
      refine (HG.out _ (HA.out.alloc _)).mono ?_
      rintro e w1 ⟨rfl, hb1⟩
      obtain ⟨⟨c0, c1, r0, r1, r2⟩, hf, hlt1, hb, hA1⟩ := HST.out w1 hb1
      have HA1 := Lib.hid hA1
      have HB1 := Lib.hid hb1
      clear hb hb1 hA1
      go_wp2_with fail
      refine (HC0.out _ HA1.out).mono ?_
      rintro e w2 ⟨rfl, hb2⟩
      clear c0 c1 r0 r1 r2 hf hlt1
      obtain ⟨⟨c0, c1, r0, r1, r2⟩, hf, hlt1, hb, hA2⟩ := HST.out w2 (HB1.out.trans (hb2.mono HB1.out.size))
      have HB := Lib.hid hb
      clear hb hb2 hA2
      go_wp2
      exact bodyPost_ret (v := .tuple #[.agg #[.int .i64 0, .int .i64 0, .int .i64 0], .bool false]) (by simp [results, Try.results28, go_sem, r0, r1, r2]) rfl ⟨tb_eq (a := (0, 0, 0)) HV2.out.1 HV2.out.2, ((HB.out.setCell (by simp) _).setCell (by simp) _).setCell (by simp) _⟩
    · obtain ⟨j, hj⟩ : ∃ j : Nat, j = m.length - 1 := ⟨_, rfl⟩
      have hjl : j < m.length := by omega
      have HV2 : Hid (m[j] = lmV L l ∧ true = fmB L l) := by
        show _ ∧ _
        rw [HV.out.1, HV.out.2, ← hj, getD_lt hjl, show (m.length == 0) = false by simpa using hm0]; exact ⟨rfl, rfl⟩
      have HJ : Hid (m[j]? = some m[j]) := List.getElem?_eq_getElem hjl
      generalize m[j] = x at *
      obtain ⟨x1, x2, x3⟩ := x
      have hm1 : (0 : Int) < (m.length : Int) := by omega
      have hm2 : ((m.length : Int) == 0) = false := by simpa using hm0
      have hm3 : (j : Int) < (m.length : Int) := by omega
      have hm4 : (m.length : Int) - 1 = (j : Int) := by omega
      have hm6 : IntKind.i64.wrap ((m.length : Int) - 1) = (j : Int) := by rw [hm4]; exact IntWalk.i64_in _ (by omega)
      have hm7 : IntKind.i64.wrap (j : Int) = (j : Int) := IntWalk.i64_in _ (by omega)
      have hm8 : (0 : Int) ≤ (j : Int) := by omega
      have HJL := Lib.hid hjl
      clear hm4
      clear hm0
      clear hj
      go_enter Try.func28, Try.ntmps28
      go_wp2_with fail
      refine (HG.out _ (HA.out.alloc _)).mono ?_
      rintro e w1 ⟨rfl, hb1⟩
      obtain ⟨⟨c0, c1, r0, r1, r2⟩, hf, hlt1, hb, hA1⟩ := HST.out w1 hb1
      have HA1 := Lib.hid hA1
      have HB1 := Lib.hid hb1
      clear hb hb1 hA1
      go_wp2_with fail
      refine (HC.out _ HA1.out).mono ?_
      rintro e w2 ⟨rfl, hb2⟩
      clear c0 c1 r0 r1 r2 hf hlt1
      have HB2 := Lib.hid (HB1.out.trans (hb2.mono HB1.out.size))
      obtain ⟨⟨c0, c1, r0, r1, r2⟩, hf, hlt1, hb, hA2⟩ := HST.out w2 HB2.out
      have HA2 := Lib.hid hA2
      clear hb hb2 hA2
      have HBq := Lib.hid HB2.out.drew
      have HS2 := Lib.hid (HST.out _ HBq.out)
      clear c0 c1 r0 r1 r2 hf hlt1
      obtain ⟨⟨c0, c1, r0, r1, r2⟩, hf, hlt1, hb, _⟩ := HST.out w2 HB2.out
      go_wp2
      go_region_with (first
          | (go_at_call 52; (with_reducible refine (HM.out _ (HST.out _ HBq.out).2.2.2.2).mono ?_); rintro e w3 ⟨A3, n3, c3, rfl, hn3, ho3, hb3⟩; subst hn3; have HBq := Lib.hid (HBq.out.trans (hb3.mono HBq.out.size)); obtain ⟨⟨c0', c1', r0', r1', r2'⟩, hf', hlt1', _, _⟩ := HST.out w3 HBq.out; obtain ⟨b, off, rfl, l0, hc⟩ := ho3.sl.trip_at HJL.out; obtain ⟨a0, a1, a2⟩ := hc _ _ HJ.out; simp only at a0 a1 a2; clear hc hb3 ho3)
          | (go_at_call 64; (with_reducible refine (HC.out _ (HST.out _ HBq.out).2.2.2.2).mono ?_); rintro e w4 ⟨rfl, hb4⟩; have HBq := Lib.hid (HBq.out.trans (hb4.mono HBq.out.size)); obtain ⟨⟨c0'', c1'', r0'', r1'', r2''⟩, hf'', hlt1'', _, _⟩ := HST.out w4 HBq.out; (try (have a0 := Below.cell_some hb4 a0; have a1 := Below.cell_some hb4 a1; have a2 := Below.cell_some hb4 a2)); clear hb4))
      all_goals (
        go_wp2
        have HB := Lib.hid (HST.out _ HBq.out).2.2.2.1
        exact bodyPost_ret (v := .tuple #[.agg #[.int .i64 x1, .int .i64 x2, .int .i64 x3], .bool true]) (by simp [results, Try.results28, go_sem, r0'', r1'', r2'']) rfl ⟨tb_eq (a := (x1, x2, x3)) HV2.out.1 HV2.out.2, ((HB.out.setCell (by simp) _).setCell (by simp) _).setCell (by simp) _⟩)

end Go.Proofs.Ytdgcdlcfddjmiaa
