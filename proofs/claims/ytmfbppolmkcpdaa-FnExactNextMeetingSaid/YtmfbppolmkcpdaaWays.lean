/- How many meetings there are in a round: MeetingsInRound on both sides. -/
import Derived.Test.YtmfbppolmkcpdaaShift
import Derived.Test.YtmfbppolmkcpdaaThat
import Derived.Test.YtmfbppolmkcpdaaStep
namespace Go.Proofs.Ytmfbppolmkcpdaa
open Go.RowKit

theorem intI4 : (Try.prog.info? 3).map (fun i => (i.zero, i.size, i.bytes)) = some (some (.int .i64 0), intS.size, 8) := by kernel_rfl
theorem slAt_oneK {w : World} {g : Nat} {x : Int} {e : TypeId} {m : Nat × Nat} (h : w.heap[g]? = some (.cells #[.int .i64 x] e m)) : SlAt intS w (some ⟨g, 0, none⟩) [x] := by
  refine .inr ⟨g, 0, rfl, (Array.getElem?_eq_some_iff.1 h).1, fun k y hk j hj => ?_⟩
  cases k with
  | succ k => simp at hk
  | zero =>
    simp only [List.getElem?_cons_zero, Option.some.injEq] at hk
    subst hk
    simp only [Nat.zero_mul, Nat.zero_add]
    rw [cell_of_row w g j _ _ _ h, ← Array.getElem?_toList]
    rfl

theorem SlOwn.alloc' {α : Type} {S : Shape α} {w : World} {B : Nat} {e : TypeId} {v : Value} {l : List α} (h : SlOwn S w B e v l) (o : Obj) : SlOwn S (w.alloc o) B e v l := h.below ((Below.refl _ _).alloc (Nat.le_refl _) _)
theorem wpList_append_slsw {α : Type} (S : Shape α) {P : Program} (w : World) {ops : Array Oper} {rest : List Oper} {o : Oper} {a : Act} {Q : Exit → Act → World → Prop} (hgd : o.guard = none) (s x : Operand) (t : TypeId)
    (ho : o.op = .call { callee := .builtin .append, args := #[s, x], argTypes := #[t, t] })
    (B : Nat) (e : TypeId) (i : TypeInfo) (z : Value) (bytes : Nat) (ht : P.underlying t = some (.slice e)) (hi : P.info? e = some i) (hz : i.zero = some z)
    (hsize : i.size = S.size) (hby : i.bytes = bytes) (hzs : z.cells.size = S.size) (hB64 : bytes ≤ 64)
    (v : Value) (l : List α) (hs : a.eval s = v) (hown : SlOwn S w B e v l)
    (ad : Addr) (n c : Nat) (m : List α) (hx : a.eval x = .slice (some ad) n c) (hn : n = m.length) (hm : SlAt S w (some ad) m)
    (hlen : l.length + m.length ≤ 1048576) (hbase : B ≤ w.heap.size)
    (h : ∀ A' n' c' w', SlOwn S w' B e (.slice A' n' c') (l ++ m) → w.grownBy w' v.ownBlock → ((Value.slice A' n' c').ownBlock = v.ownBlock ∨ (Value.slice A' n' c').ownBlock = some w.heap.size) → wpList P ops Q rest (a.put o.dst (.slice A' n' c')) w') : wpList P ops Q (o :: rest) a w := by
  subst hn
  refine wpList_append_own_at w hgd s x t ho B e i z S.size bytes ht hi hz hsize hby hzs S.pos v l.length (S.row l) hs hown ad m.length c (S.row m) hx (S.row_length m) hm.cells_at (S.row_oneCell m)
    (by unfold maxLen; omega) (by have : (l.length + m.length) * bytes ≤ 1048576 * 64 := Nat.mul_le_mul hlen hB64; omega) hbase ?_
  intro v' w' h2 h3 _ h5
  have h4 : SlOwn S w' B e v' (l ++ m) := by
    show World.ownsRow _ _ _ _ _ _ _
    rw [List.length_append, S.row_append]
    exact h2
  obtain ⟨A', c', rfl, _, _⟩ := h4.form
  exact h A' _ c' w' h4 h3 h5
theorem SlAt.grown {α : Type} {S : Shape α} {w w' : World} {row : Option Nat} {A : Option Addr} {l : List α} (h : SlAt S w A l) (hg : w.grownBy w' row) (hne : ∀ a, A = some a → row ≠ some a.block) : SlAt S w' A l := by
  rcases h with h | ⟨b, off, rfl, hlt, h⟩
  · exact .inl h
  · refine .inr ⟨b, off, rfl, Nat.lt_of_lt_of_le hlt hg.size, fun k x hx j hj => ?_⟩
    have h1 := h k x hx j hj
    have hj' : j < (S.cells x).length := by rw [S.len]; exact hj
    rw [List.getElem?_eq_getElem hj'] at *
    exact hg.cell h1 (fun e => hne ⟨b, off, none⟩ rfl e.symm)

/-- how far a ghost to the right and one to the left go together until they meet first -/
def apart (L : Int) (r y : Int × Int × Int) : Int := if (y.1 - r.1) % L = 0 then L else (y.1 - r.1) % L
def aparts (L : Int) (r : Int × Int × Int) (ys : List (Int × Int × Int)) : List Int := ys.map (apart L r)
def wtm (L : Int) (rs ys : List (Int × Int × Int)) : List Int := rs.flatMap fun r => aparts L r ys
theorem aparts_snoc (L : Int) (r : Int × Int × Int) (ys : List (Int × Int × Int)) (k : Nat) (y : Int × Int × Int) (h : ys[k]? = some y) : aparts L r (ys.take (k + 1)) = aparts L r (ys.take k) ++ [apart L r y] := by
  obtain ⟨hk, rfl⟩ := List.getElem?_eq_some_iff.1 h
  unfold aparts
  rw [List.take_succ_eq_append_getElem hk, List.map_append]
  rfl
theorem wtm_snoc (L : Int) (rs ys : List (Int × Int × Int)) (k : Nat) (r : Int × Int × Int) (h : rs[k]? = some r) : wtm L (rs.take (k + 1)) ys = wtm L (rs.take k) ys ++ aparts L r ys := by
  obtain ⟨hk, rfl⟩ := List.getElem?_eq_some_iff.1 h
  unfold wtm
  rw [List.take_succ_eq_append_getElem hk, List.flatMap_append]
  simp
theorem wtm_len (L : Int) (rs ys : List (Int × Int × Int)) : (wtm L rs ys).length = rs.length * ys.length := by
  induction rs with
  | nil => simp [wtm]
  | cons r rs ih =>
    show ((aparts L r ys) ++ wtm L rs ys).length = _
    rw [List.length_append, ih, List.length_cons, Nat.add_mul, Nat.one_mul]
    unfold aparts
    rw [List.length_map, Nat.add_comm]
theorem way_mem {y : Int} {l : List (Int × Int)} {L : Int} {g : Int × Int × Int} (h : g ∈ way y (gsOf L l)) : ∃ x, x ∈ l ∧ g = (x.1, x.2, L) := by
  unfold way gsOf at h
  rw [List.mem_filter, List.mem_map] at h
  obtain ⟨⟨x, hx, rfl⟩, _⟩ := h
  exact ⟨x, hx, rfl⟩
theorem way_le (y : Int) (L : Int) (l : List (Int × Int)) : (way y (gsOf L l)).length ≤ l.length := by
  have := way_len y (gsOf L l)
  unfold gsOf at *
  rwa [List.length_map] at this
theorem way_counts {L : Int} {l : List (Int × Int)} (h : ciB L l = true) : ((way 1 (gsOf L l)).length : Int) = rAll l ∧ ((way (-1) (gsOf L l)).length : Int) = l.length - rAll l := by
  have hk : ∀ k, k ≤ l.length → ((way 1 (gsOf L (l.take k))).length : Int) = rAll (l.take k) ∧ ((way (-1) (gsOf L (l.take k))).length : Int) = k - rAll (l.take k) := by
    intro k
    induction k with
    | zero => intro _; simp [way, gsOf, rAll]
    | succ k ih =>
      intro hk
      obtain ⟨h1, h2⟩ := ih (by omega)
      have hx : l[k]? = some l[k] := List.getElem?_eq_getElem hk
      obtain ⟨_, _, hw⟩ := ciB_way h hx
      rw [gsOf_take L l k _ hx, rAll_snoc l k _ hx]
      rcases hw with e | e
      · rw [way_snoc_no 1 _ _ (by show (l[k].2 == 1) = false; rw [e]; decide), way_snoc_yes (-1) _ _ (by show (l[k].2 == -1) = true; rw [e]; decide), if_neg (by omega), List.length_append]
        simp only [List.length_cons, List.length_nil]
        omega
      · rw [way_snoc_yes 1 _ _ (by show (l[k].2 == 1) = true; rw [e]; decide), way_snoc_no (-1) _ _ (by show (l[k].2 == -1) = false; rw [e]; decide), if_pos (by omega), List.length_append]
        simp only [List.length_cons, List.length_nil]
        omega
  have := hk l.length (Nat.le_refl _)
  rwa [List.take_length] at this

set_option maxRecDepth 100000 in
set_option maxHeartbeats 2000000 in
theorem waysToMeet_any (L : Int) (A : Option Addr) (c : Nat) (l : List (Int × Int)) (w : World) (hg : ciB L l = true) (hA : AntsAt w A l) :
    Calls Try.prog 19 #[.agg #[.int .i64 L, .slice A l.length c]] w fun e w' => ∃ A' n' c', e = .returned (.slice A' n' c') ∧ n' = (wtm L (way 1 (gsOf L l)) (way (-1) (gsOf L l))).length ∧ SlOwn intS w' w.heap.size 3 (.slice A' n' c') (wtm L (way 1 (gsOf L l)) (way (-1) (gsOf L l))) ∧ Below w.heap.size w w' := by
  obtain ⟨i0, hi, hz0, hz1, hz2⟩ := info_parts intI4
  have HA := Lib.hid (hA.alloc (Obj.cells #[Value.int IntKind.i64 L, Value.slice A l.length c] 30))
  have hl := ciB_len hg
  have hn : (l.length : Int) ≤ 16 := by omega
  have hrl := way_le 1 L l
  have hll := way_le (-1) L l
  have HMR : Hid (∀ (k : Nat) (x : Int × Int × Int), (way 1 (gsOf L l))[k]? = some x → 0 ≤ x.1 ∧ x.1 ≤ L - 2) := fun k x hx => by
    obtain ⟨y, hy, rfl⟩ := way_mem (List.mem_of_getElem? hx)
    obtain ⟨j, hj, rfl⟩ := List.mem_iff_getElem.1 hy
    have := ciB_way hg (List.getElem?_eq_getElem hj)
    exact ⟨this.1, this.2.1⟩
  have HML : Hid (∀ (k : Nat) (x : Int × Int × Int), (way (-1) (gsOf L l))[k]? = some x → 0 ≤ x.1 ∧ x.1 ≤ L - 2) := fun k x hx => by
    obtain ⟨y, hy, rfl⟩ := way_mem (List.mem_of_getElem? hx)
    obtain ⟨j, hj, rfl⟩ := List.mem_iff_getElem.1 hy
    have := ciB_way hg (List.getElem?_eq_getElem hj)
    exact ⟨this.1, this.2.1⟩
  have HTR := Lib.hid (fun W h => thatR_any L A c l W hn h)
  have HTL := Lib.hid (fun W h => thatL_any L A c l W hn h)
  clear hA hg
  generalize way 1 (gsOf L l) = rs at *
  generalize way (-1) (gsOf L l) = ys at *
  go_enter Try.func19, Try.ntmps19
  go_wp2_with fail
  refine (HTR.out _ HA.out).mono ?_
  rintro e w2 ⟨A2, c2, rfl, ho, hb2⟩
  have HR := Lib.hid ho.sl
  have d0 : w2.cell? ⟨w.heap.size, 0, none⟩ = some (.int .i64 L) := by rw [hb2.cell (p := ⟨w.heap.size, 0, none⟩) (by simp)]; simp
  have d1 : w2.cell? ⟨w.heap.size, 1, none⟩ = some (.slice A l.length c) := by rw [hb2.cell (p := ⟨w.heap.size, 1, none⟩) (by simp)]; simp
  have hs2 : w.heap.size < w2.heap.size := by have := hb2.size; simp at this; omega
  have HB2 := Lib.hid (((Below.refl _ w).alloc (Nat.le_refl _) _).trans (hb2.mono (by simp)))
  have HA2 := Lib.hid (HA.out.below hb2)
  have D0 := Lib.hid d0
  have D1 := Lib.hid d1
  clear hb2 ho
  go_wp2
  go_loopw [3, 12] (fun v i wr => ∃ (k : Nat) (A5 : Option Addr) (n5 c5 : Nat), k ≤ rs.length ∧ i = .int .i64 k ∧ v = .slice A5 n5 c5 ∧ Below w2.heap.size w2 wr ∧ SlOwn intS wr w2.heap.size 3 (.slice A5 n5 c5) (wtm L (rs.take k) ys))
    (fun _ i _ => rs.length - (intOf i).toNat)
  case atStart => exact ⟨0, none, 0, 0, Nat.zero_le _, rfl, rfl, Below.refl _ _, SlOwn.nil intS _ _ _⟩
  case round =>
    clear d0 d1
    obtain ⟨k, A5, n5, c5, hk, rfl, rfl, hbr, hown⟩ := hrel
    have OBr := Lib.hid hbr
    have osr := hbr.size
    have ORr := Lib.hid (HR.out.below hbr)
    have d0 := Below.cell_some hbr D0.out
    have d1 := Below.cell_some hbr D1.out
    have OAr := Lib.hid (HA2.out.below hbr)
    have OO := Lib.hid hown
    clear hbr hown
    by_cases hlt : k < rs.length
    · obtain ⟨b, off, rfl, l0, hc⟩ := ORr.out.trip_at hlt
      have hx : rs[k]? = some (rs[k]) := List.getElem?_eq_getElem hlt
      obtain ⟨a0, a1, a2⟩ := hc k _ hx
      have OSN := Lib.hid (wtm_snoc L rs ys k _ hx)
      have q := HMR.out k _ hx
      have hol : (wtm L (rs.take k) ys).length = k * ys.length := by rw [wtm_len, List.length_take, Nat.min_eq_left hk]
      have hoB : k * ys.length ≤ 16 * 16 := Nat.mul_le_mul (by omega) (by omega)
      have OL : Hid ((wtm L (rs.take k) ys).length ≤ 256) := by show _ ≤ _; omega
      clear hc hx hol hoB
      generalize rs[k] = r at *
      obtain ⟨r1, r2, r3⟩ := r
      simp only at a0 a1 a2 q
      generalize wtm L (rs.take k) ys = m at *
      have e0 : (wr.alloc (Obj.cells #[Value.int IntKind.i64 r1, Value.int IntKind.i64 r2, Value.int IntKind.i64 r3] 62)).cell? ⟨wr.heap.size, 0, none⟩ = some (.int .i64 r1) := by simp
      have e1 := alloc_some d0 (Obj.cells #[Value.int IntKind.i64 r1, Value.int IntKind.i64 r2, Value.int IntKind.i64 r3] 62)
      have e2 := alloc_some d1 (Obj.cells #[Value.int IntKind.i64 r1, Value.int IntKind.i64 r2, Value.int IntKind.i64 r3] 62)
      have hs4 : w.heap.size < wr.heap.size := by omega
      go_wp2_with fail
      refine (HTL.out _ (OAr.out.alloc _)).mono ?_
      rintro e w3 ⟨A3, c3, rfl, ho3, hb3⟩
      have OY := Lib.hid ho3.sl
      have O3 : Hid (∀ a, A3 = some a → wr.heap.size < a.block ∧ a.block < w3.heap.size) := fun a ha => by
        subst ha
        have := World.ownsRow.lt ho3 a.block rfl
        simp at this
        omega
      have E0 := Lib.hid (Below.cell_some hb3 e0)
      have E1 := Lib.hid (Below.cell_some hb3 e1)
      have OB3 := Lib.hid (OBr.out.trans ((((Below.refl _ wr).alloc (Nat.le_refl _) _).trans (hb3.mono (by simp))).mono osr))
      have OO3 := Lib.hid ((OO.out.alloc' (Obj.cells #[Value.int IntKind.i64 r1, Value.int IntKind.i64 r2, Value.int IntKind.i64 r3] 62)).below hb3)
      have OLT : Hid (∀ g, (Value.slice A5 n5 c5).ownBlock = some g → g < wr.heap.size ∨ w3.heap.size ≤ g) := fun g h => .inl (World.ownsRow.lt OO.out g h).2
      have hs3 : w2.heap.size ≤ w3.heap.size := OB3.out.size
      have hs5 : wr.heap.size < w3.heap.size := by have := hb3.size; simp at this; omega
      have HS5 := Lib.hid hs5
      have HS3 := Lib.hid hs3
      clear hb3 ho3 e0 e1 e2 d0 d1
      go_wp2
      go_loopw [3, 19] (fun v i wq => ∃ (j : Nat) (A6 : Option Addr) (n6 c6 : Nat), j ≤ ys.length ∧ i = .int .i64 j ∧ v = .slice A6 n6 c6 ∧ Below w2.heap.size w3 wq ∧ wq.cell? ⟨wr.heap.size, 0, none⟩ = some (.int .i64 r1) ∧ SlAt tripS wq A3 ys ∧ (∀ g, (Value.slice A6 n6 c6).ownBlock = some g → g < wr.heap.size ∨ w3.heap.size ≤ g) ∧ SlOwn intS wq w2.heap.size 3 (.slice A6 n6 c6) (m ++ aparts L (r1, r2, r3) (ys.take j)))
        (fun _ i _ => ys.length - (intOf i).toNat)
      case atStart => exact ⟨0, A5, n5, c5, Nat.zero_le _, rfl, rfl, Below.refl _ _, E0.out, OY.out, OLT.out, by rw [List.take_zero]; show SlOwn intS _ _ _ _ (m ++ []); rw [List.append_nil]; exact OO3.out⟩
      case round =>
        obtain ⟨j, A6, n6, c6, hj, rfl, rfl, hbq, g0, hyq, hlt6, hown⟩ := hrel
        have HBq := Lib.hid hbq
        have hsq := hbq.size
        have hsq5 := Nat.lt_of_lt_of_le hs5 hsq
        have HYq := Lib.hid hyq
        have HLT := Lib.hid hlt6
        have g1 := (hbq.cell (p := ⟨w.heap.size, 0, none⟩) hs2).trans E1.out
        have HO := Lib.hid hown
        clear hbq hown hyq hlt6
        by_cases hjl : j < ys.length
        · obtain ⟨b', off', rfl, l0', hc'⟩ := HYq.out.trip_at hjl
          have hx : ys[j]? = some (ys[j]) := List.getElem?_eq_getElem hjl
          obtain ⟨b0, b1, b2⟩ := hc' j _ hx
          have HSN := Lib.hid (aparts_snoc L (r1, r2, r3) ys j _ hx)
          have q' := HML.out j _ hx
          have hlen : (m ++ aparts L (r1, r2, r3) (ys.take j)).length ≤ 300 := by
            rw [List.length_append]
            have := OL.out
            have : (aparts L (r1, r2, r3) (ys.take j)).length ≤ j := by
              unfold aparts
              rw [List.length_map, List.length_take]; omega
            omega
          have HLEN := Lib.hid hlen
          clear hc' hx hlen
          generalize ys[j] = y at *
          obtain ⟨y1, y2, y3⟩ := y
          simp only at b0 b1 b2 q'
          have hw1 : IntKind.i64.wrap (y1 - r1) = y1 - r1 := IntWalk.i64_in _ (by omega)
          have HAR : Hid (∀ w, Calls Try.prog 31 #[.int .i64 (y1 - r1), .int .i64 L] w fun e w' => e = .returned (.int .i64 ((y1 - r1) % L)) ∧ w = w') := fun w => around_any _ L w (by omega) (by omega) (by omega) (by omega)
          have HAP : Hid (apart L (r1, r2, r3) (y1, y2, y3) = if (y1 - r1) % L = 0 then L else (y1 - r1) % L) := rfl
          generalize hq9 : m ++ aparts L (r1, r2, r3) (ys.take j) = q9 at *
          have HQ9 := Lib.hid hq9
          clear hq9
          generalize (y1 - r1) % L = u at *
          have hsw : w.heap.size < wr.heap.size := by omega
          by_cases hu : u = 0
          · have HX : Hid (apart L (r1, r2, r3) (y1, y2, y3) = L) := by show _ = _; rw [HAP.out, if_pos hu]
            subst hu
            have G0 := Lib.hid g0
            go_wp2_with (first | (go_at_call 31; refine (HAR.out _).mono ?_; rintro e w' ⟨rfl, rfl⟩) | (at_builtin; go_must (refine wpList_append_slsw intS _ rfl _ _ 39 rfl w2.heap.size 3 i0 _ 8 Try.underlying39 hi hz0 hz1 hz2 rfl (by decide) (.slice A6 n6 c6) q9 rfl ((HO.out.alloc' _).alloc' _) ⟨wr.heap.size + 1, 0, none⟩ 1 1 [L] rfl rfl (slAt_oneK (heap_new (by simp))) (by have := HLEN.out; simp only [List.length_cons, List.length_nil]; omega) (by simp; omega) ?_); intro A7 n7 k7 w7 hown7 hg7 hb7))
            go_roundw
            case rel =>
              have hbb : Below wr.heap.size wr ((wr.alloc (Obj.cells #[Value.int IntKind.i64 y1, Value.int IntKind.i64 y2, Value.int IntKind.i64 y3] 62)).alloc (Obj.cells #[Value.int IntKind.i64 L] 3)) := ((Below.refl _ _).alloc (Nat.le_refl _) _).alloc (by simp) _
              have hlt := HLT.out
              refine ⟨j + 1, A7, n7, k7, by omega, by go_num, rfl, ?_, ?_, ?_, ?_, ?_⟩
              · refine HBq.out.trans (((hbb.mono (by omega)).trans ((Below.refl _ _).grown hg7 (by simp; omega) (fun k hk => (World.ownsRow.lt HO.out k hk).1))))
              · exact hg7.cell (Below.cell_some hbb G0.out) (fun h => by
                  have h' := hlt _ h.symm
                  simp only at h'
                  omega)
              · refine SlAt.grown (HYq.out.below hbb) hg7 (fun a ha h => ?_)
                have h1 := O3.out a ha
                have h2 := hlt _ h
                omega
              · intro g hg
                rcases hb7 with h | h
                · exact hlt g (by rw [← h]; exact hg)
                · rw [h] at hg
                  injection hg with hg
                  simp at hg
                  omega
              · rw [HSN.out, HX.out, ← List.append_assoc, HQ9.out]; exact hown7
            case measure => simp [intOf]; omega
          · have HX : Hid (apart L (r1, r2, r3) (y1, y2, y3) = u) := by show _ = _; rw [HAP.out, if_neg hu]
            have G0 := Lib.hid g0
            go_wp2_with (first | (go_at_call 31; refine (HAR.out _).mono ?_; rintro e w' ⟨rfl, rfl⟩) | (at_builtin; go_must (refine wpList_append_slsw intS _ rfl _ _ 39 rfl w2.heap.size 3 i0 _ 8 Try.underlying39 hi hz0 hz1 hz2 rfl (by decide) (.slice A6 n6 c6) q9 rfl ((HO.out.alloc' _).alloc' _) ⟨wr.heap.size + 1, 0, none⟩ 1 1 [u] rfl rfl (slAt_oneK (heap_new (by simp))) (by have := HLEN.out; simp only [List.length_cons, List.length_nil]; omega) (by simp; omega) ?_); intro A7 n7 k7 w7 hown7 hg7 hb7))
            go_roundw
            case rel =>
              have hbb : Below wr.heap.size wr ((wr.alloc (Obj.cells #[Value.int IntKind.i64 y1, Value.int IntKind.i64 y2, Value.int IntKind.i64 y3] 62)).alloc (Obj.cells #[Value.int IntKind.i64 u] 3)) := ((Below.refl _ _).alloc (Nat.le_refl _) _).alloc (by simp) _
              have hlt := HLT.out
              refine ⟨j + 1, A7, n7, k7, by omega, by go_num, rfl, ?_, ?_, ?_, ?_, ?_⟩
              · refine HBq.out.trans (((hbb.mono (by omega)).trans ((Below.refl _ _).grown hg7 (by simp; omega) (fun k hk => (World.ownsRow.lt HO.out k hk).1))))
              · exact hg7.cell (Below.cell_some hbb G0.out) (fun h => by
                  have h' := hlt _ h.symm
                  simp only at h'
                  omega)
              · refine SlAt.grown (HYq.out.below hbb) hg7 (fun a ha h => ?_)
                have h1 := O3.out a ha
                have h2 := hlt _ h
                omega
              · intro g hg
                rcases hb7 with h | h
                · exact hlt g (by rw [← h]; exact hg)
                · rw [h] at hg
                  injection hg with hg
                  simp at hg
                  omega
              · rw [HSN.out, HX.out, ← List.append_assoc, HQ9.out]; exact hown7
            case measure => simp [intOf]; omega
        · obtain rfl : j = ys.length := by omega
          have HE : Hid (ys.take ys.length = ys) := List.take_length
          go_wp2
          go_roundw
          case rel =>
            refine ⟨k + 1, A6, n6, c6, by omega, by go_num, rfl, OB3.out.trans HBq.out, ?_⟩
            have := HO.out
            rw [HE.out] at this
            rw [OSN.out]; exact this
          case measure => simp [intOf]; omega
    · obtain rfl : k = rs.length := by omega
      have HE : Hid (rs.take rs.length = rs) := List.take_length
      have HOE : Hid (SlOwn intS wr w2.heap.size 3 (.slice A5 n5 c5) (wtm L rs ys)) := by
        have := OO.out
        rwa [HE.out] at this
      have hn5 : n5 = (wtm L rs ys).length := by
        obtain ⟨_, _, he, _, _⟩ := HOE.out.form
        injection he
      have HN5 := Lib.hid hn5
      clear hn5
      go_wp2
      go_ret
      exact ⟨A5, n5, c5, rfl, HN5.out, HOE.out.base (Nat.le_of_lt hs2), HB2.out.trans (OBr.out.mono (Nat.le_of_lt hs2))⟩

/-- what MeetingsInRound returns -/
def mrV (L : Int) (l : List (Int × Int)) : Int := if ciB L l then 2 * rAll l * (l.length - rAll l) else 0
theorem mrV_wtm {L : Int} {l : List (Int × Int)} (h : ciB L l = true) : 2 * (((wtm L (way 1 (gsOf L l)) (way (-1) (gsOf L l))).length : Nat) : Int) = mrV L l := by
  obtain ⟨h1, h2⟩ := way_counts h
  have : mrV L l = 2 * rAll l * (l.length - rAll l) := by unfold mrV; rw [if_pos h]
  rw [this, wtm_len, Int.natCast_mul, h1, h2, Int.mul_assoc]

end Go.Proofs.Ytmfbppolmkcpdaa
