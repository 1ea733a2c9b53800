/- Rods held against clues on the model's side: pzFits, any clue. -/
import Derived.Test.YtiodlclaempihaaPuzF
namespace Go.Proofs.Ytiodlclaempihaa
open Go.RowKit

theorem pzFits_any (L k a b : Int) (A : Option Addr) (c : Nat) (l : List (Int × Int)) (w : World) (hc : clB l.length k a b = true) (hg : goodB L l = true) (hA : AntsAt w A l) :
    Calls Try.prog 57 #[.agg #[.int .i64 k, .int .i64 a, .int .i64 b], .agg #[.int .i64 L, .slice A l.length c]] w fun e w' => e = .returned (.bool (fitB L l k a b)) ∧ Below w.heap.size w w' := by
  by_cases h0 : k = 0
  · subst h0; exact pzFits_0 L a b A c l w hc hg hA
  by_cases h1 : k = 1
  · subst h1; exact pzFits_1 L a b A c l w hc hg hA
  by_cases h2 : k = 2
  · subst h2; exact pzFits_2 L a b A c l w hc hg hA
  by_cases h3 : k = 3
  · subst h3; exact pzFits_3 L a b A c l w hc hg hA
  by_cases h4 : k = 4
  · subst h4; exact pzFits_4 L a b A c l w hc hg hA
  by_cases h5 : k = 5
  · subst h5; exact pzFits_5 L a b A c l w hc hg hA
  · exfalso
    unfold clB at hc
    simp [h0, h1, h2, h3, h4, h5] at hc
/-- which ways fit clues: each clue of them -/
def fitAll (L : Int) (l : List (Int × Int)) (cs : List (Int × Int × Int)) : Bool := cs.all fun c => fitB L l c.1 c.2.1 c.2.2
theorem fitAll_snoc (L : Int) (l : List (Int × Int)) (cs : List (Int × Int × Int)) (k : Nat) (h : k < cs.length) :
    fitAll L l (cs.take (k + 1)) = (fitAll L l (cs.take k) && fitB L l cs[k].1 cs[k].2.1 cs[k].2.2) := by
  unfold fitAll
  rw [List.take_succ_eq_append_getElem h, List.all_append]
  simp
end Go.Proofs.Ytiodlclaempihaa
