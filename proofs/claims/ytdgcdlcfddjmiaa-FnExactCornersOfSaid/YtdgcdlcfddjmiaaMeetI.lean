/- The program's meetings: the ghosts to the right and those to the left that cross, sorted. -/
import Derived.Test.YtdgcdlcfddjmiaaThat
import Derived.Test.YtdgcdlcfddjmiaaStep
import Derived.Test.YtdgcdlcfddjmiaaGoodF
import Derived.Test.YtdgcdlcfddjmiaaCompareM
namespace Go.Proofs.Ytdgcdlcfddjmiaa
open Go.RowKit

theorem good_ants {L : Int} {l : List (Int × Int)} (hg : goodB L l = true) : Ants L l where
  ant x hx := by
    obtain ⟨i, hi, rfl⟩ := List.mem_iff_getElem.1 hx
    exact good_ant hg (List.getElem?_eq_getElem hi)
  ord := by
    rw [List.pairwise_iff_getElem]
    intro i j hi hj hij
    have := good_lt hg i j hij hj
    rw [getD_lt hi, getD_lt hj, antLt_iff] at this
    exact this

/-- the meetings of a rod -/
def meL (L : Int) (l : List (Int × Int)) : List (Int × Int × Int) := mAllS (genS L l l.length)
def meV (L : Int) (l : List (Int × Int)) : List (Int × Int × Int) := if goodB L l then meL L l else []
theorem meL_gen {L : Int} {l : List (Int × Int)} (hg : goodB L l = true) : meL L l = mAllS (genI (rightsL l) (leftsL l) (rightsL l).length) := by
  have h := good_ants hg
  unfold meL
  rw [genS_eq h, genI_eq (rs := rightsL l) (ls := leftsL l) (h.inc 1) (h.inc (-1))]
theorem genI_dist {L : Int} {l : List (Int × Int)} (hg : goodB L l = true) : mDist (genI (rightsL l) (leftsL l) (rightsL l).length) := by
  have h := good_ants hg
  rw [genI_eq (rs := rightsL l) (ls := leftsL l) (h.inc 1) (h.inc (-1))]
  exact genC_dist h
theorem meL_ok {L : Int} {l : List (Int × Int)} (hg : goodB L l = true) {m : Int × Int × Int} (hm : m ∈ meL L l) :
    0 < m.1 ∧ m.1 * 2 ≤ L ∧ 0 ≤ m.2.1 ∧ m.2.1 ≤ L ∧ 0 ≤ m.2.2 ∧ m.2.2 + 1 < (l.length : Int) := by
  have h := good_ants hg
  unfold meL at hm
  rw [genS_eq h] at hm
  exact genC_ok h ((mAllS_perm _).mem_iff.1 hm)

theorem rowI_len (a : Int × Int) (i : Nat) (ls : List (Int × Int)) : ∀ j, (rowI a i ls j).length ≤ j
  | 0 => Nat.le_refl _
  | j + 1 => by
    unfold rowI
    rw [List.length_append]
    have := rowI_len a i ls j
    split <;> simp <;> omega
theorem genI_len (rs ls : List (Int × Int)) : ∀ i, (genI rs ls i).length ≤ i * ls.length
  | 0 => Nat.zero_le _
  | i + 1 => by
    unfold genI
    rw [List.length_append, Nat.add_mul, Nat.one_mul]
    have h1 := genI_len rs ls i
    have h2 := rowI_len (rs.getD i (0, 0)) i ls ls.length
    omega
theorem meL_len {L : Int} {l : List (Int × Int)} (hg : goodB L l = true) : (meL L l).length ≤ 256 := by
  rw [meL_gen hg]
  have h1 : (mAllS (genI (rightsL l) (leftsL l) (rightsL l).length)).length = _ := (mAllS_perm _).length_eq
  rw [h1]
  have h2 := genI_len (rightsL l) (leftsL l) (rightsL l).length
  have h3 := ways_len (good_ants hg)
  have h4 := good_len hg
  have h5 : (rightsL l).length * (leftsL l).length ≤ 16 * 16 := Nat.mul_le_mul (by omega) (by omega)
  omega
theorem way_gs (y L : Int) (l : List (Int × Int)) : way y (gsOf L l) = gsOf L (l.filter fun x => x.2 == y) := by
  unfold way gsOf
  rw [List.filter_map]
  rfl
theorem gsOf_at (L : Int) (l : List (Int × Int)) (k : Nat) (hk : k < l.length) : (gsOf L l)[k]? = some (l[k].1, l[k].2, L) := by
  unfold gsOf
  rw [List.getElem?_map, List.getElem?_eq_getElem hk]
  rfl
theorem gsOf_length (L : Int) (l : List (Int × Int)) : (gsOf L l).length = l.length := by simp [gsOf]

theorem meetI : (Try.prog.info? 42).map (fun i => (i.zero, i.size, i.bytes)) = some (some (.agg #[.int .i64 0, .int .i64 0, .int .i64 0]), tripS.size, 24) := by kernel_rfl
theorem slAt_trip1 {w : World} {g : Nat} {x : Int × Int × Int} {e : TypeId} {m : Nat × Nat} (h : w.heap[g]? = some (.cells #[.int .i64 x.1, .int .i64 x.2.1, .int .i64 x.2.2] e m)) : SlAt tripS w (some ⟨g, 0, none⟩) [x] := by
  refine .inr ⟨g, 0, rfl, (Array.getElem?_eq_some_iff.1 h).1, fun k y hk j hj => ?_⟩
  cases k with
  | succ k => simp at hk
  | zero =>
    simp only [List.getElem?_cons_zero, Option.some.injEq] at hk
    subst hk
    simp only [Nat.zero_mul, Nat.zero_add]
    rw [cell_of_row w g j _ _ _ h, ← Array.getElem?_toList]
    rfl
theorem SlOwn.alloc' {α : Type} {S : Shape α} {w : World} {B : Nat} {e : TypeId} {v : Value} {l : List α} (h : SlOwn S w B e v l) (o : Obj) : SlOwn S (w.alloc o) B e v l := h.below ((Below.refl _ _).alloc (Nat.le_refl _) _)
theorem wpList_append_slsw {α : Type} (S : Shape α) {P : Program} (w : World) {ops : Array Oper} {rest : List Oper} {o : Oper} {a : Act} {Q : Exit → Act → World → Prop} (hgd : o.guard = none) (s x : Operand) (t : TypeId)
    (ho : o.op = .call { callee := .builtin .append, args := #[s, x], argTypes := #[t, t] })
    (B : Nat) (e : TypeId) (i : TypeInfo) (z : Value) (bytes : Nat) (ht : P.underlying t = some (.slice e)) (hi : P.info? e = some i) (hz : i.zero = some z)
    (hsize : i.size = S.size) (hby : i.bytes = bytes) (hzs : z.cells.size = S.size) (hB64 : bytes ≤ 64)
    (v : Value) (l : List α) (hs : a.eval s = v) (hown : SlOwn S w B e v l)
    (ad : Addr) (n c : Nat) (m : List α) (hx : a.eval x = .slice (some ad) n c) (hn : n = m.length) (hm : SlAt S w (some ad) m)
    (hlen : l.length + m.length ≤ 1048576) (hbase : B ≤ w.heap.size)
    (h : ∀ A' n' c' w', SlOwn S w' B e (.slice A' n' c') (l ++ m) → w.grownBy w' v.ownBlock → ((Value.slice A' n' c').ownBlock = v.ownBlock ∨ (Value.slice A' n' c').ownBlock = some w.heap.size) → wpList P ops Q rest (a.put o.dst (.slice A' n' c')) w') : wpList P ops Q (o :: rest) a w := by
  subst hn
  refine wpList_append_own_at w hgd s x t ho B e i z S.size bytes ht hi hz hsize hby hzs S.pos v l.length (S.row l) hs hown ad m.length c (S.row m) hx (S.row_length m) hm.cells_at (S.row_oneCell m)
    (by unfold maxLen; omega) (by have : (l.length + m.length) * bytes ≤ 1048576 * 64 := Nat.mul_le_mul hlen hB64; omega) hbase ?_
  intro v' w' h2 h3 _ h5
  have h4 : SlOwn S w' B e v' (l ++ m) := by
    show World.ownsRow _ _ _ _ _ _ _
    rw [List.length_append, S.row_append]
    exact h2
  obtain ⟨A', c', rfl, _, _⟩ := h4.form
  exact h A' _ c' w' h4 h3 h5
theorem SlAt.grown {α : Type} {S : Shape α} {w w' : World} {row : Option Nat} {A : Option Addr} {l : List α} (h : SlAt S w A l) (hg : w.grownBy w' row) (hne : ∀ a, A = some a → row ≠ some a.block) : SlAt S w' A l := by
  rcases h with h | ⟨b, off, rfl, hlt, h⟩
  · exact .inl h
  · refine .inr ⟨b, off, rfl, Nat.lt_of_lt_of_le hlt hg.size, fun k x hx j hj => ?_⟩
    have h1 := h k x hx j hj
    have hj' : j < (S.cells x).length := by rw [S.len]; exact hj
    rw [List.getElem?_eq_getElem hj'] at *
    exact hg.cell h1 (fun e => hne ⟨b, off, none⟩ rfl e.symm)

theorem own_len {α : Type} {S : Shape α} {w : World} {B n c : Nat} {e : TypeId} {A : Option Addr} {l : List α} (h : SlOwn S w B e (.slice A n c) l) : n = l.length := by
  obtain ⟨_, _, he, _, _⟩ := h.form
  injection he

set_option maxRecDepth 100000 in
set_option maxHeartbeats 2000000 in
theorem implMeetingsOf_good (L : Int) (A : Option Addr) (c : Nat) (l : List (Int × Int)) (w : World) (hg : goodB L l = true) (hA : AntsAt w A l) :
    Calls Try.prog 17 #[.agg #[.int .i64 L, .slice A l.length c]] w fun e w' => ∃ A' n' c', e = .returned (.tuple #[.slice A' n' c', .bool true]) ∧ n' = (meL L l).length ∧ SlOwn tripS w' w.heap.size 42 (.slice A' n' c') (meL L l) ∧ Below w.heap.size w w' := by
  obtain ⟨i0, hi, hz0, hz1, hz2⟩ := info_parts meetI
  have HA := Lib.hid (hA.alloc (Obj.cells #[Value.int IntKind.i64 L, Value.slice A l.length c] 31))
  have hn := good_len hg
  have HRL : (rightsL l).length ≤ 16 := by have := ways_len (good_ants hg); omega
  have HLL : (leftsL l).length ≤ 16 := by have := ways_len (good_ants hg); omega
  have hL1 := (good_hdr hg).2.1
  have HIR : Hid (∀ w, AntsAt w A l → Calls Try.prog 54 #[.agg #[.int .i64 L, .slice A l.length c]] w fun e w' => e = .returned (.bool true) ∧ Below w.heap.size w w') := fun w h => by
    rw [← hg]; exact isRod_any L A c l w h
  have HMR : Hid (∀ x ∈ rightsL l, 0 ≤ x.1 ∧ x.1 ≤ L) := fun x hx => by
    have := (good_ants hg).ant x (List.mem_filter.1 hx).1
    exact ⟨this.1, this.2.1⟩
  have HML : Hid (∀ x ∈ leftsL l, 0 ≤ x.1 ∧ x.1 ≤ L) := fun x hx => by
    have := (good_ants hg).ant x (List.mem_filter.1 hx).1
    exact ⟨this.1, this.2.1⟩
  have HTR : Hid (∀ W, AntsAt W A l → Calls Try.prog 55 #[.agg #[.int .i64 L, .slice A l.length c], .func (.func 56) #[] #[]] W fun e w' => ∃ A' c', e = .returned (.slice A' (rightsL l).length c') ∧ SlOwn tripS w' W.heap.size 69 (.slice A' (rightsL l).length c') (gsOf L (rightsL l)) ∧ Below W.heap.size W w') := fun W h => by
    have := thatR_any L A c l W hn h
    rw [way_gs, gsOf_length] at this
    exact this
  have HTL : Hid (∀ W, AntsAt W A l → Calls Try.prog 55 #[.agg #[.int .i64 L, .slice A l.length c], .func (.func 57) #[] #[]] W fun e w' => ∃ A' c', e = .returned (.slice A' (leftsL l).length c') ∧ SlOwn tripS w' W.heap.size 69 (.slice A' (leftsL l).length c') (gsOf L (leftsL l)) ∧ Below W.heap.size W w') := fun W h => by
    have := thatL_any L A c l W hn h
    rw [way_gs, gsOf_length] at this
    exact this
  have HME := Lib.hid (meL_gen hg)
  have HD := Lib.hid (genI_dist hg)
  clear hA hg
  generalize rightsL l = rs at *
  generalize leftsL l = ls at *
  generalize meL L l = ME at *
  go_enter Try.func17, Try.ntmps17
  go_wp2_with fail
  refine (HIR.out _ HA.out).mono ?_
  rintro e w1 ⟨rfl, hb1⟩
  have d0 : w1.cell? ⟨w.heap.size, 0, none⟩ = some (.int .i64 L) := by rw [hb1.cell (p := ⟨w.heap.size, 0, none⟩) (by simp)]; simp
  have d1 : w1.cell? ⟨w.heap.size, 1, none⟩ = some (.slice A l.length c) := by rw [hb1.cell (p := ⟨w.heap.size, 1, none⟩) (by simp)]; simp
  have hs1 : w.heap.size < w1.heap.size := by have := hb1.size; simp at this; omega
  have HB1 := Lib.hid (((Below.refl _ w).alloc (Nat.le_refl _) _).trans (hb1.mono (by simp)))
  have HA1 := Lib.hid (HA.out.below hb1)
  clear hb1
  go_wp2_with fail
  refine (HTR.out _ HA1.out).mono ?_
  rintro e w2 ⟨A2, c2, rfl, ho, hb2⟩
  have HR := Lib.hid ho.sl
  have D0 := Lib.hid (Below.cell_some hb2 d0)
  have D1 := Lib.hid (Below.cell_some hb2 d1)
  have hs2 : w.heap.size < w2.heap.size := by have := hb2.size; omega
  have HB2 := Lib.hid (HB1.out.trans (hb2.mono HB1.out.size))
  have HA2 := Lib.hid (HA1.out.below hb2)
  clear hb2 ho d0 d1
  go_wp2
  go_loopw [4, 15] (fun v i wr => ∃ (k : Nat) (A5 : Option Addr) (n5 c5 : Nat), k ≤ rs.length ∧ i = .int .i64 k ∧ v = .slice A5 n5 c5 ∧ Below w2.heap.size w2 wr ∧ SlOwn tripS wr w2.heap.size 42 (.slice A5 n5 c5) (genI rs ls k))
    (fun _ i _ => rs.length - (intOf i).toNat)
  case atStart => exact ⟨0, none, 0, 0, Nat.zero_le _, rfl, rfl, Below.refl _ _, SlOwn.nil tripS _ _ _⟩
  case round =>
    obtain ⟨k, A5, n5, c5, hk, rfl, rfl, hbr, hown⟩ := hrel
    have OBr := Lib.hid hbr
    have osr := hbr.size
    have ORr := Lib.hid (HR.out.below hbr)
    have d0 := Below.cell_some hbr D0.out
    have d1 := Below.cell_some hbr D1.out
    have OAr := Lib.hid (HA2.out.below hbr)
    have OO := Lib.hid hown
    clear hbr hown
    by_cases hlt : k < rs.length
    · obtain ⟨b, off, rfl, l0, hc⟩ := ORr.out.trip_at (by rw [gsOf_length]; exact hlt)
      obtain ⟨a0, a1, a2⟩ := hc k _ (gsOf_at L rs k hlt)
      have q := HMR.out rs[k] (List.getElem_mem hlt)
      have OSN : Hid (genI rs ls (k + 1) = genI rs ls k ++ rowI rs[k] k ls ls.length) := by show _ = _; rw [← getD_lt (d := (0, 0)) hlt]; rfl
      have hoB : k * ls.length ≤ 16 * 16 := Nat.mul_le_mul (by omega) (by omega)
      have OL : Hid ((genI rs ls k).length ≤ 256) := by show _ ≤ _; have := genI_len rs ls k; omega
      clear hc hoB
      generalize rs[k] = r at *
      obtain ⟨r1, r2⟩ := r
      simp only at a0 a1 a2 q
      generalize genI rs ls k = m at *
      have e0 : (wr.alloc (Obj.cells #[Value.int IntKind.i64 r1, Value.int IntKind.i64 r2, Value.int IntKind.i64 L] 69)).cell? ⟨wr.heap.size, 0, none⟩ = some (.int .i64 r1) := by simp
      have e1 := alloc_some d0 (Obj.cells #[Value.int IntKind.i64 r1, Value.int IntKind.i64 r2, Value.int IntKind.i64 L] 69)
      have e2 := alloc_some d1 (Obj.cells #[Value.int IntKind.i64 r1, Value.int IntKind.i64 r2, Value.int IntKind.i64 L] 69)
      have hs4 : w.heap.size < wr.heap.size := by omega
      go_wp2_with fail
      refine (HTL.out _ (OAr.out.alloc _)).mono ?_
      rintro e w3 ⟨A3, c3, rfl, ho3, hb3⟩
      have OY := Lib.hid ho3.sl
      have O3 : Hid (∀ a, A3 = some a → wr.heap.size < a.block ∧ a.block < w3.heap.size) := fun a ha => by
        subst ha
        have := World.ownsRow.lt ho3 a.block rfl
        simp at this
        omega
      have E0 := Lib.hid (Below.cell_some hb3 e0)
      have OB3 := Lib.hid (OBr.out.trans ((((Below.refl _ wr).alloc (Nat.le_refl _) _).trans (hb3.mono (by simp))).mono osr))
      have OO3 := Lib.hid ((OO.out.alloc' (Obj.cells #[Value.int IntKind.i64 r1, Value.int IntKind.i64 r2, Value.int IntKind.i64 L] 69)).below hb3)
      have OLT : Hid (∀ g, (Value.slice A5 n5 c5).ownBlock = some g → g < wr.heap.size ∨ w3.heap.size ≤ g) := fun g h => .inl (World.ownsRow.lt OO.out g h).2
      have hs3 : w2.heap.size ≤ w3.heap.size := OB3.out.size
      have hs5 : wr.heap.size < w3.heap.size := by have := hb3.size; simp at this; omega
      have HS5 := Lib.hid hs5
      have HS3 := Lib.hid hs3
      clear hb3 ho3 e0 e1 e2 d0 d1
      go_wp2
      go_loopw [4, 23] (fun v i wq => ∃ (j : Nat) (A6 : Option Addr) (n6 c6 : Nat), j ≤ ls.length ∧ i = .int .i64 j ∧ v = .slice A6 n6 c6 ∧ Below w2.heap.size w3 wq ∧ wq.cell? ⟨wr.heap.size, 0, none⟩ = some (.int .i64 r1) ∧ SlAt tripS wq A3 (gsOf L ls) ∧ (∀ g, (Value.slice A6 n6 c6).ownBlock = some g → g < wr.heap.size ∨ w3.heap.size ≤ g) ∧ SlOwn tripS wq w2.heap.size 42 (.slice A6 n6 c6) (m ++ rowI (r1, r2) k ls j))
        (fun _ i _ => ls.length - (intOf i).toNat)
      case atStart => exact ⟨0, A5, n5, c5, Nat.zero_le _, rfl, rfl, Below.refl _ _, E0.out, OY.out, OLT.out, by show SlOwn tripS _ _ _ _ (m ++ []); rw [List.append_nil]; exact OO3.out⟩
      case round =>
        obtain ⟨j, A6, n6, c6, hj, rfl, rfl, hbq, g0, hyq, hlt6, hown⟩ := hrel
        have HBq := Lib.hid hbq
        have hsq := hbq.size
        have hsq5 := Nat.lt_of_lt_of_le hs5 hsq
        have HYq := Lib.hid hyq
        have HLT := Lib.hid hlt6
        have HO := Lib.hid hown
        clear hbq hown hyq hlt6
        by_cases hjl : j < ls.length
        · obtain ⟨b', off', rfl, l0', hc'⟩ := HYq.out.trip_at (by rw [gsOf_length]; exact hjl)
          obtain ⟨b0, b1, b2⟩ := hc' j _ (gsOf_at L ls j hjl)
          have q' := HML.out ls[j] (List.getElem_mem hjl)
          have HSN : Hid (rowI (r1, r2) k ls (j + 1) = rowI (r1, r2) k ls j ++ if ls[j].1 ≤ r1 then [] else [mMk (r1, r2) ls[j] ((k : Int) + (j : Int))]) := by show _ = _; rw [← getD_lt (d := (0, 0)) hjl]; rfl
          have hlen : (m ++ rowI (r1, r2) k ls j).length ≤ 300 := by
            rw [List.length_append]
            have := OL.out
            have := rowI_len (r1, r2) k ls j
            omega
          have HLEN := Lib.hid hlen
          clear hc' hlen
          generalize ls[j] = y at *
          obtain ⟨y1, y2⟩ := y
          simp only at b0 b1 b2 q'
          generalize hq9 : m ++ rowI (r1, r2) k ls j = q9 at *
          have HQ9 := Lib.hid hq9
          clear hq9
          have hsw : w.heap.size < wr.heap.size := by omega
          by_cases hu : y1 ≤ r1
          · have HX : Hid (rowI (r1, r2) k ls (j + 1) = rowI (r1, r2) k ls j) := by show _ = _; rw [HSN.out, if_pos hu, List.append_nil]
            have G0 := Lib.hid g0
            have hu2 : decide (y1 ≤ r1) = true := decide_eq_true hu
            go_wp2
            go_roundw
            case rel =>
              have hbb : Below wr.heap.size wr (wr.alloc (Obj.cells #[Value.int IntKind.i64 y1, Value.int IntKind.i64 y2, Value.int IntKind.i64 L] 69)) := (Below.refl _ _).alloc (Nat.le_refl _) _
              refine ⟨j + 1, A6, n6, c6, by omega, by go_num, rfl, HBq.out.trans (hbb.mono (by omega)), Below.cell_some hbb G0.out, HYq.out.below hbb, HLT.out, ?_⟩
              rw [HX.out, HQ9.out]; exact HO.out.below hbb
            case measure => simp [intOf]; omega
          · have hu2 : decide (y1 ≤ r1) = false := decide_eq_false hu
            have hw1 : IntKind.i64.wrap (y1 - r1) = y1 - r1 := IntWalk.i64_in _ (by omega)
            have hw2 : IntKind.i64.wrap (y1 + r1) = y1 + r1 := IntWalk.i64_in _ (by omega)
            have hw3 : IntKind.i64.wrap ((k : Int) + (j : Int)) = (k : Int) + (j : Int) := IntWalk.i64_in _ (by omega)
            have hq0 : (0 : Int) ≤ y1 - r1 := by omega
            have hq1 : (0 : Int) ≤ y1 + r1 := by omega
            obtain ⟨t, ht⟩ : ∃ t, mMk (r1, r2) (y1, y2) ((k : Int) + (j : Int)) = t := ⟨_, rfl⟩
            have HX : Hid (rowI (r1, r2) k ls (j + 1) = rowI (r1, r2) k ls j ++ [t]) := by show _ = _; rw [HSN.out, if_neg hu, ht]
            obtain ⟨t1, t2, t3⟩ := t
            have ht' : (y1 - r1) / 2 = t1 ∧ (y1 + r1) / 2 = t2 ∧ (k : Int) + (j : Int) = t3 := by
              unfold mMk at ht
              simp only [Prod.mk.injEq] at ht
              obtain ⟨h1, h2, h3⟩ := ht
              refine ⟨h1, ?_, h3⟩
              rw [Int.add_comm]; exact h2
            obtain ⟨ht1, ht2, ht3⟩ := ht'
            clear ht
            have G0 := Lib.hid g0
            go_wp2_with (at_builtin; go_must (refine wpList_append_slsw tripS _ rfl _ _ 26 rfl w2.heap.size 42 i0 _ 24 Try.underlying26 hi hz0 hz1 hz2 rfl (by decide) (.slice A6 n6 c6) q9 rfl ((HO.out.alloc' _).alloc' _) ⟨wr.heap.size + 1, 0, none⟩ 1 1 [(t1, t2, t3)] rfl rfl (slAt_trip1 (heap_new (by simp))) (by have := HLEN.out; simp only [List.length_cons, List.length_nil]; omega) (by simp; omega) ?_); intro A7 n7 k7 w7 hown7 hg7 hb7)
            go_roundw
            case rel =>
              have hbb : Below wr.heap.size wr ((wr.alloc (Obj.cells #[Value.int IntKind.i64 y1, Value.int IntKind.i64 y2, Value.int IntKind.i64 L] 69)).alloc (Obj.cells #[Value.int IntKind.i64 t1, Value.int IntKind.i64 t2, Value.int IntKind.i64 t3] 42)) := ((Below.refl _ _).alloc (Nat.le_refl _) _).alloc (by simp) _
              have hlt := HLT.out
              refine ⟨j + 1, A7, n7, k7, by omega, by go_num, rfl, ?_, ?_, ?_, ?_, ?_⟩
              · refine HBq.out.trans (((hbb.mono (by omega)).trans ((Below.refl _ _).grown hg7 (by simp; omega) (fun k hk => (World.ownsRow.lt HO.out k hk).1))))
              · exact hg7.cell (Below.cell_some hbb G0.out) (fun h => by
                  have h' := hlt _ h.symm
                  simp only at h'
                  omega)
              · refine SlAt.grown (HYq.out.below hbb) hg7 (fun a ha h => ?_)
                have h1 := O3.out a ha
                have h2 := hlt _ h
                omega
              · intro g hg
                rcases hb7 with h | h
                · exact hlt g (by rw [← h]; exact hg)
                · rw [h] at hg
                  injection hg with hg
                  simp at hg
                  omega
              · rw [HX.out, ← List.append_assoc, HQ9.out]; exact hown7
            case measure => simp [intOf]; omega
        · obtain rfl : j = ls.length := by omega
          go_wp2
          go_roundw
          case rel =>
            refine ⟨k + 1, A6, n6, c6, by omega, by go_num, rfl, OB3.out.trans HBq.out, ?_⟩
            rw [OSN.out]; exact HO.out
          case measure => simp [intOf]; omega
    · obtain rfl : k = rs.length := by omega
      have hn5 := own_len OO.out
      have hll : (genI rs ls rs.length).length ≤ 65536 := by
        have h1 := genI_len rs ls rs.length
        have h2 : rs.length * ls.length ≤ 16 * 16 := Nat.mul_le_mul HRL HLL
        omega
      have HS : Hid (Calls Try.prog 58 #[.slice A5 n5 c5, .func (.func 59) #[] #[]] wr fun e' w' => e' = .returned (.tuple #[]) ∧ SlOwn tripS w' w2.heap.size 42 (.slice A5 n5 c5) ME ∧ Below w2.heap.size wr w') := by
        have := sortMeet_any hll HD.out OO.out
        rw [← HME.out] at this
        exact this
      have HN : Hid (n5 = ME.length) := by show _ = _; rw [hn5, HME.out]; exact (mAllS_perm _).length_eq.symm
      clear hn5 hll
      go_wp2_with fail
      refine HS.out.mono ?_
      rintro e w8 ⟨rfl, ho8, hb8⟩
      go_wp2
      go_ret2
      exact ⟨A5, n5, c5, rfl, HN.out, ho8.base (by omega), HB2.out.trans ((OBr.out.trans hb8).mono (by omega))⟩
end Go.Proofs.Ytdgcdlcfddjmiaa
