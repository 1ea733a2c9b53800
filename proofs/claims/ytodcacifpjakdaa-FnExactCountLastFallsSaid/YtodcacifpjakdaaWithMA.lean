/- Rods of all ways are good; both ways of rodsOfAllWays. -/
import Derived.Test.YtodcacifpjakdaaAllR
import Derived.Test.YtodcacifpjakdaaGoodF
namespace Go.Proofs.Ytodcacifpjakdaa
open Go.RowKit

theorem rdL_at {l ys : List Int} (h : ys.length = l.length) {k : Nat} (hk : k < l.length) : (rdL l ys).getD k (0, 0) = (l.getD k 0, ys.getD k 0) := by
  unfold rdL
  rw [List.getD_eq_getElem?_getD, List.getD_eq_getElem?_getD, List.getD_eq_getElem?_getD, List.getElem?_eq_getElem (by rw [List.length_zip, h]; omega), List.getElem?_eq_getElem hk, List.getElem?_eq_getElem (by omega)]
  simp
theorem goodB_rd {L : Int} {l ys : List Int} (hp : plB L l = true) (h : ys.length = l.length) (hm : ∀ y ∈ ys, y = -1 ∨ y = 1) : goodB L (rdL l ys) = true := by
  obtain ⟨⟨h1, h2, h3⟩, ⟨h4, h5⟩, hrow⟩ := (plB_iff L l).1 hp
  unfold goodB
  rw [Bool.and_eq_true]
  refine ⟨by rw [hdr_iff, rdL_len l ys h]; omega, ?_⟩
  rw [List.all_eq_true]
  intro k hk
  rw [List.mem_range, rdL_len l ys h] at hk
  obtain ⟨a0, a1, a2⟩ := rowB_at hrow (List.getElem?_eq_getElem hk)
  have hy := hm _ (List.getElem_mem (by omega : k < ys.length))
  have e1 : l.getD k 0 = l[k] := by rw [List.getD_eq_getElem?_getD, List.getElem?_eq_getElem hk]; rfl
  have e2 : ys.getD k 0 = ys[k] := by rw [List.getD_eq_getElem?_getD, List.getElem?_eq_getElem (by omega)]; rfl
  unfold okAt
  rw [rdL_at h hk, Bool.and_eq_true]
  refine ⟨?_, ?_⟩
  · show isAntB (l.getD k 0) (ys.getD k 0) L = true
    rw [e1, e2]
    unfold isAntB
    rcases hy with hy | hy <;> simp [hy, a0, a1, a2]
  · rw [Bool.or_eq_true]
    cases k with
    | zero => exact .inl rfl
    | succ k =>
      right
      have := rowB_next hrow k hk
      rw [Nat.add_sub_cancel, rdL_at h (by omega)]
      unfold mayB
      rw [Bool.or_eq_true]
      exact .inl (decide_eq_true this)

/-- the rods of all ways, or none -/
theorem rodsOfAll_both (L : Int) (A : Option Addr) (c : Nat) (l : List Int) (w : World) (hn : (l.length : Int) ≤ 9223372036854775807) (hA : SlAt intS w A l) :
    Calls Try.prog 29 #[.int .i64 L, .slice A l.length c] w fun e w' => ∃ A' c' R, e = .returned (.tuple #[.slice A' R.length c', .bool (plB L l)]) ∧ R.length = (if plB L l then 2 ^ l.length else 0) ∧ SlOwn rodS w' w.heap.size 50 (.slice A' R.length c') R ∧ RodsAt w' L l R ∧ Below w.heap.size w w' := by
  cases hp : plB L l with
  | false =>
    refine (rodsOfAll_none L A c l w hn hA hp).mono ?_
    rintro e w1 ⟨rfl, hb⟩
    exact ⟨none, 0, [], rfl, rfl, ⟨rfl, .inl ⟨rfl, rfl⟩⟩, fun j p hp => by simp at hp, hb⟩
  | true =>
    refine (rodsOfAll_any L A c l w hA hp).mono ?_
    rintro e w1 ⟨A', c', R, rfl, hl, ho, hr, hb⟩
    exact ⟨A', c', R, by rw [hl], hl, by rw [hl]; exact ho, hr, hb⟩

end Go.Proofs.Ytodcacifpjakdaa
