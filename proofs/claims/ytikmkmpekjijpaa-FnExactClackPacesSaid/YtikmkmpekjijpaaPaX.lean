/- Balls on the program's side: the paces behind each clack. -/
import Derived.Test.YtikmkmpekjijpaaPaJ
import Derived.Test.YtikmkmpekjijpaaOrdA
namespace Go.Proofs.Ytikmkmpekjijpaa
open Go.RowKit

/-- what stands while one couple is taken apart -/
structure KB (w : World) (B g : Nat) (s : St) (v9 : Value) (l9 : List (Int × Int)) (v10 : Value) (l10 : List (Int × Int)) (A : Option Addr) (L : List St) (W : World) : Prop where
  own9 : SlOwn pairS W B 25 v9 l9
  own10 : SlOwn pairS W B 25 v10 l10
  cp : CP g s W
  sl : SlAt coupS W A L
  bel : Below w.heap.size w W
  apart : ∀ x, v9.ownBlock = some x → v10.ownBlock ≠ some x
  low : ∀ a, A = some a → a.block < B
  g9 : v9.ownBlock ≠ some g
  g10 : v10.ownBlock ≠ some g
section
variable {w W W' : World} {B g : Nat} {s : St} {v9 v10 v9' v10' : Value} {l9 l10 l9' l10' : List (Int × Int)} {A : Option Addr} {L : List St}
theorem KB.below (h : KB w B g s v9 l9 v10 l10 A L W) (hb : Below W.heap.size W W') : KB w B g s v9 l9 v10 l10 A L W' :=
  ⟨h.own9.below hb, h.own10.below hb, h.cp.below hb, h.sl.below hb, h.bel.trans (hb.mono h.bel.size), h.apart, h.low, h.g9, h.g10⟩
theorem KB.grow (h : KB w B g s v9 l9 v10 l10 A L W) (o : Obj) : KB w B g s v9 l9 v10 l10 A L (W.alloc o) := h.below ((Below.refl _ _).alloc (Nat.le_refl _) _)
theorem KB.drew (h : KB w B g s v9 l9 v10 l10 A L W) : KB w B g s v9 l9 v10 l10 A L W.drew := h.below (Below.refl _ _).drew
theorem KB.app9 (h : KB w B g s v9 l9 v10 l10 A L W) (hB : w.heap.size ≤ B) (ho : SlOwn pairS W' B 25 v9' l9') (hg : W.grownBy W' v9.ownBlock) (hk : v9'.ownBlock = v9.ownBlock ∨ v9'.ownBlock = some W.heap.size) : KB w B g s v9' l9' v10 l10 A L W' where
  own9 := ho
  own10 := h.own10.kept hg (by cases hx : v10.ownBlock with | none => exact .inl rfl | some y => exact .inr fun e => h.apart y e.symm hx)
  cp := h.cp.kept hg (fun e => h.g9 e.symm)
  sl := h.sl.grown hg (fun a ha e => by have h1 := h.low a ha; have h2 := (World.ownsRow.lt h.own9 _ e).1; omega)
  bel := h.bel.grown hg h.bel.size (fun k hk => Nat.le_trans hB (World.ownsRow.lt h.own9 k hk).1)
  apart := ba_apart h.apart (fun x hx => (World.ownsRow.lt h.own10 x hx).2) hk (Nat.le_refl _)
  low := h.low
  g9 := fun e => by
    rcases hk with hk | hk
    · rw [hk] at e; exact h.g9 e
    · rw [hk] at e; injection e with e; have := h.cp.lt; omega
  g10 := h.g10
theorem KB.app10 (h : KB w B g s v9 l9 v10 l10 A L W) (hB : w.heap.size ≤ B) (ho : SlOwn pairS W' B 25 v10' l10') (hg : W.grownBy W' v10.ownBlock) (hk : v10'.ownBlock = v10.ownBlock ∨ v10'.ownBlock = some W.heap.size) : KB w B g s v9 l9 v10' l10' A L W' where
  own9 := h.own9.kept hg (by cases hx : v9.ownBlock with | none => exact .inl rfl | some y => exact .inr fun e => h.apart y hx e.symm)
  own10 := ho
  cp := h.cp.kept hg (fun e => h.g10 e.symm)
  sl := h.sl.grown hg (fun a ha e => by have h1 := h.low a ha; have h2 := (World.ownsRow.lt h.own10 _ e).1; omega)
  bel := h.bel.grown hg h.bel.size (fun k hk => Nat.le_trans hB (World.ownsRow.lt h.own10 k hk).1)
  apart := ba_apart' h.apart (fun x hx => (World.ownsRow.lt h.own9 x hx).2) hk (Nat.le_refl _)
  low := h.low
  g9 := h.g9
  g10 := fun e => by
    rcases hk with hk | hk
    · rw [hk] at e; exact h.g10 e
    · rw [hk] at e; injection e with e; have := h.cp.lt; omega
theorem sl_drew {α : Type} {S : Shape α} {A : Option Addr} {l : List α} (h : SlAt S W A l) : SlAt S W.drew A l := h.below (Below.refl _ _).drew
end
theorem ne_row {row : Option Nat} {g M : Nat} (hl : ∀ x, row = some x → x < M) (h : M ≤ g) : ∀ a, some (⟨g, 0, none⟩ : Addr) = some a → row ≠ some a.block := fun a ha e => by
  injection ha with ha
  subst ha
  exact absurd (hl _ e) (Nat.not_lt.2 h)
theorem clL_at {a b : Int} {k : Nat} (h : k < (clL a b).length) : (clL a b)[k]? = some (bxN a b (k + 1)) := by
  unfold clL at h ⊢
  cases hb : bmB a b with
  | false => rw [hb] at h; simp at h
  | true =>
    rw [hb, if_pos rfl, cpL_len] at h
    rw [if_pos rfl]
    unfold cpL
    simp [h]
theorem cp_lists (a b : Int) : cpU a b = bxU a b (clL a b).length ∧ cpV a b = bxV a b (clL a b).length := by
  unfold cpU cpV clL
  cases hb : bmB a b with
  | false => exact ⟨rfl, rfl⟩
  | true => rw [if_pos rfl, if_pos rfl, if_pos rfl, cpL_len]; exact ⟨rfl, rfl⟩

theorem cpU_bd (a b : Int) : (cpU a b).length ≤ 30 := by
  rw [(cp_lists a b).1, bxU_len]; exact (clL_len a b).2
theorem cpV_bd (a b : Int) : (cpV a b).length ≤ 30 := by
  rw [(cp_lists a b).2, bxV_len]; exact (clL_len a b).2
set_option maxRecDepth 100000 in
set_option maxHeartbeats 8000000 in
theorem implClackPaces_any (a b : Int) (w : World) :
    Calls Try.prog 34 #[.int .i64 a, .int .i64 b] w fun e w' => ∃ A1 n1 c1 A2 n2 c2, e = .returned (.tuple #[.slice A1 n1 c1, .slice A2 n2 c2, .bool (bmB a b)]) ∧ n1 = (cpU a b).length ∧ n2 = (cpV a b).length ∧
      SlOwn pairS w' w.heap.size 25 (.slice A1 n1 c1) (cpU a b) ∧ SlOwn pairS w' w.heap.size 25 (.slice A2 n2 c2) (cpV a b) ∧ (∀ x, (Value.slice A1 n1 c1).ownBlock = some x → (Value.slice A2 n2 c2).ownBlock ≠ some x) ∧ Below w.heap.size w w' := by
  obtain ⟨i0, hi, hz0, hz1, hz2⟩ := info_parts paceInfo
  have HC := Lib.hid (clacksOf_any a b)
  have HAT : Hid (∀ k, k < (clL a b).length → (clL a b)[k]? = some (bxN a b (k + 1))) := fun k hk => clL_at hk
  have HLN := Lib.hid (clL_len a b).2
  have HU := Lib.hid (cp_lists a b).1
  have HV := Lib.hid (cp_lists a b).2
  have HUS : Hid (∀ k, bxU a b (k + 1) = bxU a b k ++ [(bxN a b (k + 1)).1]) := bxU_succ a b
  have HVS : Hid (∀ k, bxV a b (k + 1) = bxV a b k ++ [(bxN a b (k + 1)).2]) := bxV_succ a b
  have HUL : Hid (∀ k, (bxU a b k).length = k) := bxU_len a b
  have HVL : Hid (∀ k, (bxV a b k).length = k) := bxV_len a b
  have HU0 : Hid (bxU a b 0 = []) := rfl
  have HV0 : Hid (bxV a b 0 = []) := rfl
  generalize bxU a b = U at *
  generalize bxV a b = V at *
  generalize bxN a b = N at *
  generalize clL a b = L at *
  generalize bmB a b = R at *
  generalize cpU a b = CU at *
  generalize cpV a b = CV at *
  go_enter Try.func34, Try.ntmps34
  go_wp2_with fail
  refine (HC.out _).mono ?_
  rintro e w2 ⟨A, n, c, rfl, hn, ho, hb⟩
  have HN := Lib.hid hn
  have hn30 : n ≤ 30 := by have := HLN.out; omega
  have HSL := Lib.hid ho.sl
  have HB := Lib.hid hb
  have hs2 := hb.size
  have HLOW : Hid (∀ a, A = some a → a.block < w2.heap.size) := fun a ha => by
    obtain ⟨A', c', he, _, hlt⟩ := ho.form
    injection he with e1 _ _
    exact (hlt a (by rw [← e1]; exact ha)).2
  clear hn ho hb
  go_wp2
  go_loopw [9, 10, 21] (fun us vs i wr => ∃ (k : Nat) (A9 : Option Addr) (n9 c9 : Nat) (A10 : Option Addr) (n10 c10 : Nat), k ≤ n ∧ us = .slice A9 n9 c9 ∧ vs = .slice A10 n10 c10 ∧ i = .int .i64 (k : Int) ∧ Below w.heap.size w wr ∧ w2.heap.size ≤ wr.heap.size ∧ SlAt coupS wr A L ∧
      SlOwn pairS wr w2.heap.size 25 (.slice A9 n9 c9) (U k) ∧ SlOwn pairS wr w2.heap.size 25 (.slice A10 n10 c10) (V k) ∧ (∀ x, (Value.slice A9 n9 c9).ownBlock = some x → (Value.slice A10 n10 c10).ownBlock ≠ some x))
    (fun _ _ i _ => n - (intOf i).toNat)
  case atStart => exact ⟨0, none, 0, 0, none, 0, 0, Nat.zero_le _, rfl, rfl, rfl, HB.out, Nat.le_refl _, HSL.out, by rw [HU0.out]; exact SlOwn.nil _ _ _ _, by rw [HV0.out]; exact SlOwn.nil _ _ _ _, fun x h => by cases h⟩
  case round =>
    obtain ⟨k, A9, n9, c9, A10, n10, c10, hk, rfl, rfl, rfl, hbr, hsr, hsl, ho9, ho10, hdi⟩ := hrel
    have HBr := Lib.hid hbr
    have HO9 := Lib.hid ho9
    have HO10 := Lib.hid ho10
    have HDI := Lib.hid hdi
    have HLU := Lib.hid (HUL.out k)
    have HLV := Lib.hid (HVL.out k)
    have HUk := Lib.hid (HUS.out k)
    have HVk := Lib.hid (HVS.out k)
    by_cases hlt : k < n
    · have hlt' : (k : Int) < (n : Int) := by omega
      have kw1 : IntKind.i64.wrap ((k : Int) + 1) = (k : Int) + 1 := IntWalk.i64_in _ (by omega)
      have hkL : k < L.length := by have := HN.out; omega
      obtain ⟨bb, off, rfl, l0, hcl⟩ := hsl.at_ hkL
      have hat := HAT.out k hkL
      have a0 := hcl k _ hat 0 (by decide)
      have a1 := hcl k _ hat 1 (by decide)
      have a2 := hcl k _ hat 2 (by decide)
      have a3 := hcl k _ hat 3 (by decide)
      obtain ⟨⟨⟨x1, x2⟩, ⟨y1, y2⟩⟩, hx⟩ : ∃ x, N (k + 1) = x := ⟨_, rfl⟩
      rw [hx] at a0 a1 a2 a3 HUk HVk
      change wr.cell? ⟨bb, off + k * 4 + 0, none⟩ = some (.int .i64 x1) at a0
      change wr.cell? ⟨bb, off + k * 4 + 1, none⟩ = some (.int .i64 x2) at a1
      change wr.cell? ⟨bb, off + k * 4 + 2, none⟩ = some (.int .i64 y1) at a2
      change wr.cell? ⟨bb, off + k * 4 + 3, none⟩ = some (.int .i64 y2) at a3
      rw [Nat.add_zero] at a0
      have HSr := Lib.hid hsl
      clear hx hcl hat hbr hsl ho9 ho10 hdi
      obtain ⟨W1, hW1⟩ : ∃ X, X = wr.alloc (Obj.cells #[Value.int IntKind.i64 x1, Value.int IntKind.i64 x2, Value.int IntKind.i64 y1, Value.int IntKind.i64 y2] 71) := ⟨_, rfl⟩
      have HK : Hid (KB w w2.heap.size wr.heap.size ((x1, x2), (y1, y2)) (.slice A9 n9 c9) (U k) (.slice A10 n10 c10) (V k) (some ⟨bb, off, none⟩) L W1) := by
        show KB _ _ _ _ _ _ _ _ _ _ _
        rw [hW1]
        exact ⟨own_alloc HO9.out _, own_alloc HO10.out _, CP.start wr x1 x2 y1 y2 _, HSr.out.alloc _, HBr.out.alloc HBr.out.size _, HDI.out, HLOW.out, fun e => by have := (World.ownsRow.lt HO9.out _ e).2; omega, fun e => by have := (World.ownsRow.lt HO10.out _ e).2; omega⟩
      have hs1 : w2.heap.size ≤ W1.heap.size := by rw [hW1]; simp; omega
      have hg1 : wr.heap.size < W1.heap.size := HK.out.cp.lt
      go_wp2
      rw [← hW1]
      clear hW1 a0 a1 a2 a3
      obtain ⟨_, c0, c1, c2, c3⟩ := HK.out.cp.parts
      simp only at c0 c1 c2 c3
      have HL9 : Hid (∀ x, (Value.slice A9 n9 c9).ownBlock = some x → x < W1.heap.size) := fun x hx => (World.ownsRow.lt HK.out.own9 x hx).2
      have HL10 : Hid (∀ x, (Value.slice A10 n10 c10).ownBlock = some x → x < W1.heap.size) := fun x hx => (World.ownsRow.lt HK.out.own10 x hx).2
      go_region_law (first
        | (have hq := HK10; clear hq; refine step_append_slsw pairS _ rfl _ _ 37 rfl w2.heap.size 25 i0 _ 16 Try.underlying37 hi hz0 hz1 hz2 rfl (by decide) (.slice A9 n9 c9) (U k) rfl (by first | exact HK10.out.own9 | exact (HK10.out.grow _).own9) _ 1 1 [(x1, x2)] rfl rfl (by first | exact HS9.out | exact slAt_one (heap_new rfl)) (by have := HLU.out; simp only [List.length_cons, List.length_nil]; omega) (by first | exact HZ10.out | (have := HZ10.out; simp; omega)) ?_; intro A7 n7 k7 w7 ho7 hg7 hk7; have HKF := Lib.hid (show KB w w2.heap.size wr.heap.size ((x1, x2), (y1, y2)) (.slice A7 n7 k7) (U k ++ [(x1, x2)]) (.slice A8 n8 k8) (V k ++ [(y1, y2)]) (some ⟨bb, off, none⟩) L w7 from (by first | exact HK10.out.app9 hs2 ho7 hg7 hk7 | exact (HK10.out.grow _).app9 hs2 ho7 hg7 hk7)); clear ho7 hg7 hk7)
        | (have hq := HK9; clear hq; refine step_append_slsw pairS _ rfl _ _ 37 rfl w2.heap.size 25 i0 _ 16 Try.underlying37 hi hz0 hz1 hz2 rfl (by decide) (.slice A10 n10 c10) (V k) rfl (by first | exact HK9.out.own10 | exact (HK9.out.grow _).own10) _ 1 1 [(y1, y2)] rfl rfl (by first | exact HS10.out | exact slAt_one (heap_new rfl)) (by have := HLV.out; simp only [List.length_cons, List.length_nil]; omega) (by first | exact HZ9.out | (have := HZ9.out; simp; omega)) ?_; intro A8 n8 k8 w8 ho8 hg8 hk8; have HKF := Lib.hid (show KB w w2.heap.size wr.heap.size ((x1, x2), (y1, y2)) (.slice A7 n7 k7) (U k ++ [(x1, x2)]) (.slice A8 n8 k8) (V k ++ [(y1, y2)]) (some ⟨bb, off, none⟩) L w8 from (by first | exact HK9.out.app10 hs2 ho8 hg8 hk8 | exact (HK9.out.grow _).app10 hs2 ho8 hg8 hk8)); clear ho8 hg8 hk8)
        | (refine step_append_slsw pairS _ rfl _ _ 37 rfl w2.heap.size 25 i0 _ 16 Try.underlying37 hi hz0 hz1 hz2 rfl (by decide) (.slice A9 n9 c9) (U k) rfl (by first | exact (HK.out.grow _).drew.own9 | exact ((HK.out.grow _).grow _).drew.own9) _ 1 1 [(x1, x2)] rfl rfl (by first | exact sl_drew (slAt_one (heap_new rfl)) | exact sl_drew (slAt_one (heap_new (by simp))) | exact sl_drew (SlAt.alloc (slAt_one (heap_new rfl)) _)) (by have := HLU.out; simp only [List.length_cons, List.length_nil]; omega) (by simp; omega) ?_; intro A7 n7 k7 w7 ho7 hg7 hk7; have HZ9 : Hid (w2.heap.size ≤ w7.heap.size) := Nat.le_trans (by simp; omega) hg7.size; have HK9 := Lib.hid (show KB w w2.heap.size wr.heap.size ((x1, x2), (y1, y2)) (.slice A7 n7 k7) (U k ++ [(x1, x2)]) (.slice A10 n10 c10) (V k) (some ⟨bb, off, none⟩) L w7 from (by first | exact (HK.out.grow _).drew.app9 hs2 ho7 hg7 hk7 | exact ((HK.out.grow _).grow _).drew.app9 hs2 ho7 hg7 hk7)); (first | (have HS10 : Hid (SlAt pairS w7 (some ⟨W1.heap.size + 1, 0, none⟩) [(y1, y2)]) := (sl_drew (slAt_one (heap_new (by simp)))).grown hg7 (ne_row HL9.out (by omega))) | (have HS10 : Hid (SlAt pairS w7 (some ⟨W1.heap.size, 0, none⟩) [(y1, y2)]) := (sl_drew (SlAt.alloc (slAt_one (heap_new rfl)) _)).grown hg7 (ne_row HL9.out (by omega))) | skip); obtain ⟨_, c0, c1, c2, c3⟩ := HK9.out.cp.parts; simp only at c0 c1 c2 c3; clear ho7 hg7 hk7)
        | (refine step_append_slsw pairS _ rfl _ _ 37 rfl w2.heap.size 25 i0 _ 16 Try.underlying37 hi hz0 hz1 hz2 rfl (by decide) (.slice A10 n10 c10) (V k) rfl (by first | exact (HK.out.grow _).drew.own10 | exact ((HK.out.grow _).grow _).drew.own10) _ 1 1 [(y1, y2)] rfl rfl (by first | exact sl_drew (slAt_one (heap_new rfl)) | exact sl_drew (slAt_one (heap_new (by simp))) | exact sl_drew (SlAt.alloc (slAt_one (heap_new rfl)) _)) (by have := HLV.out; simp only [List.length_cons, List.length_nil]; omega) (by simp; omega) ?_; intro A8 n8 k8 w8 ho8 hg8 hk8; have HZ10 : Hid (w2.heap.size ≤ w8.heap.size) := Nat.le_trans (by simp; omega) hg8.size; have HK10 := Lib.hid (show KB w w2.heap.size wr.heap.size ((x1, x2), (y1, y2)) (.slice A9 n9 c9) (U k) (.slice A8 n8 k8) (V k ++ [(y1, y2)]) (some ⟨bb, off, none⟩) L w8 from (by first | exact (HK.out.grow _).drew.app10 hs2 ho8 hg8 hk8 | exact ((HK.out.grow _).grow _).drew.app10 hs2 ho8 hg8 hk8)); (first | (have HS9 : Hid (SlAt pairS w8 (some ⟨W1.heap.size + 1, 0, none⟩) [(x1, x2)]) := (sl_drew (slAt_one (heap_new (by simp)))).grown hg8 (ne_row HL10.out (by omega))) | (have HS9 : Hid (SlAt pairS w8 (some ⟨W1.heap.size, 0, none⟩) [(x1, x2)]) := (sl_drew (SlAt.alloc (slAt_one (heap_new rfl)) _)).grown hg8 (ne_row HL10.out (by omega))) | skip); obtain ⟨_, c0, c1, c2, c3⟩ := HK10.out.cp.parts; simp only at c0 c1 c2 c3; clear ho8 hg8 hk8))
      all_goals (
        go_wp2
        go_roundw
        case rel => exact ⟨k + 1, _, _, _, _, _, _, by omega, rfl, rfl, by congr 1, HKF.out.bel, Nat.le_trans hsr (Nat.le_of_lt HKF.out.cp.lt), HKF.out.sl, by rw [HUk.out]; exact HKF.out.own9, by rw [HVk.out]; exact HKF.out.own10, HKF.out.apart⟩
        case measure => (simp [intOf]; omega))
    · obtain rfl : k = n := by omega
      clear hbr hsr hsl ho9 ho10 hdi
      go_wp2
      exact bodyPost_ret (v := .tuple #[.slice A9 n9 c9, .slice A10 n10 c10, .bool R]) (by simp [results, Try.results34, go_sem]) rfl ⟨A9, n9, c9, A10, n10, c10, rfl, by rw [HU.out, ← HN.out]; exact ba_len HO9.out, by rw [HV.out, ← HN.out]; exact ba_len HO10.out, by rw [HU.out, ← HN.out]; exact HO9.out.base hs2, by rw [HV.out, ← HN.out]; exact HO10.out.base hs2, HDI.out, HBr.out⟩
end Go.Proofs.Ytikmkmpekjijpaa
