/- strconv.Atoi at every string, strings.Cut, and impl.parseAnts. -/
import Derived.Test.YtenpmjinbjlpbaaDoorParsJ
import Derived.Test.YtenpmjinbjlpbaaDoorParsT
import Derived.Lib.AtoiErrMem
namespace Go.Proofs.YtenpmjinbjlpbaaDoor
open Go.RowKit

theorem var_below {n : String} {w w' : World} {cs : Array Value} (h : w.var? Tryd.prog n = some cs) (hb : Below w.heap.size w w') : w'.var? Tryd.prog n = some cs := by
  unfold World.var? at *
  cases hg : Tryd.prog.globalNamed n with
  | none => simp [hg] at h
  | some g =>
    simp only [hg, Option.bind_some] at h ⊢
    have hlt : g < w.heap.size := by
      rcases Nat.lt_or_ge g w.heap.size with h' | h'
      · exact h'
      · rw [Array.getElem?_eq_none h'] at h; simp at h
    rw [hb.block g hlt]
    exact h
/-- what Atoi's errors are made of -/
def Errs (w : World) : Prop := (∃ tp p, w.var? Tryd.prog "strconv.ErrSyntax" = some #[.iface tp p]) ∧ (∃ tp p, w.var? Tryd.prog "strconv.ErrRange" = some #[.iface tp p])
theorem Errs.below {w w' : World} (h : Errs w) (hb : Below w.heap.size w w') : Errs w' := by
  obtain ⟨⟨a, b, h1⟩, ⟨c, d, h2⟩⟩ := h
  exact ⟨⟨a, b, var_below h1 hb⟩, ⟨c, d, var_below h2 hb⟩⟩

theorem atoi_ok (s : ByteArray) (hs : s.size ≤ 1048576) (v : Int) (h : Lib.atoiAll s.data.toList = .ok v) (w : World) :
    Calls Tryd.prog 48 #[.string s] w fun e w' => e = .returned (.tuple #[.int .i64 v, .nilIface]) ∧ Below w.heap.size w w' := by
  refine (Any.strconv_Atoi_ok atoi s (by omega) v h w).mono ?_
  rintro e w' ⟨h1, h2⟩
  refine ⟨h1, ?_⟩
  rcases h2 with rfl | ⟨t, rfl⟩
  · exact Below.refl _ _
  · exact Lib.bytesWorld_below _ _ _

theorem atoi_no (s : ByteArray) (hs : s.size ≤ 1048576) (h : ∀ v, Lib.atoiAll s.data.toList ≠ .ok v) (w : World) (hE : Errs w) :
    Calls Tryd.prog 48 #[.string s] w fun e w' => ∃ (v : Int) (t : TypeId) (a : Addr), e = .returned (.tuple #[.int .i64 v, .iface t (.pointer (some a))]) ∧ Below w.heap.size w w' := by
  obtain ⟨⟨a, b, h1⟩, ⟨c, d, h2⟩⟩ := hE
  cases hc : Lib.atoiAll s.data.toList with
  | ok v => exact absurd hc (h v)
  | «syntax» =>
    refine (Any.strconv_Atoi_syntax_var atoi s (by omega) hc a b w h1).mono ?_
    rintro e w' ⟨N, he, _, _, hb⟩
    exact ⟨_, _, _, he, hb⟩
  | range =>
    refine (Any.strconv_Atoi_range_var atoi s (by omega) hc c d w h2).mono ?_
    rintro e w' ⟨N, he, _, _, hb⟩
    exact ⟨_, _, _, he, hb⟩

theorem way_any (x : UInt8) (w : World) :
    Calls Tryd.prog 86 #[.int .u8 x.toNat] w fun e w' => e = .returned (.tuple #[.int .i64 (if x = 108 then -1 else if x = 114 then 1 else 0), .bool (decide (x = 108 ∨ x = 114))]) ∧ w' = w := by
  have e108 : x = 108 ↔ (x.toNat : Int) = 108 := ⟨fun h => by rw [h]; rfl, fun h => UInt8.toNat_inj.mp (by have : (108 : UInt8).toNat = 108 := rfl; omega)⟩
  have e114 : x = 114 ↔ (x.toNat : Int) = 114 := ⟨fun h => by rw [h]; rfl, fun h => UInt8.toNat_inj.mp (by have : (114 : UInt8).toNat = 114 := rfl; omega)⟩
  by_cases h1 : x = 108
  · have i1 := e108.mp h1
    have v : Ending.returned (.tuple #[.int .i64 (if x = 108 then -1 else if x = 114 then 1 else 0), .bool (decide (x = 108 ∨ x = 114))]) = .returned (.tuple #[.int .i64 (-1), .bool true]) := by rw [if_pos h1, decide_eq_true (.inl h1)]
    rw [v]
    clear v e108 e114
    go_enter Tryd.func86, Tryd.ntmps86
    go_wp2
    go_ret2
    exact ⟨rfl, rfl⟩
  · have i1 : ¬ (x.toNat : Int) = 108 := fun h => h1 (e108.mpr h)
    by_cases h2 : x = 114
    · have i2 := e114.mp h2
      have v : Ending.returned (.tuple #[.int .i64 (if x = 108 then -1 else if x = 114 then 1 else 0), .bool (decide (x = 108 ∨ x = 114))]) = .returned (.tuple #[.int .i64 1, .bool true]) := by rw [if_neg h1, if_pos h2, decide_eq_true (.inr h2)]
      rw [v]
      clear v e108 e114
      go_enter Tryd.func86, Tryd.ntmps86
      go_wp2
      go_ret2
      exact ⟨rfl, rfl⟩
    · have i2 : ¬ (x.toNat : Int) = 114 := fun h => h2 (e114.mpr h)
      have v : Ending.returned (.tuple #[.int .i64 (if x = 108 then -1 else if x = 114 then 1 else 0), .bool (decide (x = 108 ∨ x = 114))]) = .returned (.tuple #[.int .i64 0, .bool false]) := by rw [if_neg h1, if_neg h2, decide_eq_false (by rintro (h | h); exact h1 h; exact h2 h)]
      rw [v]
      clear v e108 e114
      go_enter Tryd.func86, Tryd.ntmps86
      go_wp2
      go_ret2
      exact ⟨rfl, rfl⟩
end Go.Proofs.YtenpmjinbjlpbaaDoor
