/- Rows of integers that a call owns, carried over what changes other blocks. -/
import Derived.Test.YtdgcdlcfddjmiaaRows2
namespace Go.Proofs.Ytdgcdlcfddjmiaa
open Go.RowKit

theorem SlOwn.only {α : Type} {S : Shape α} {P : Nat → Prop} {w w' : World} {B : Nat} {e : TypeId} {v : Value} {l : List α} (h : SlOwn S w B e v l) (ho : Only P w w') (h1 : ∀ k, v.ownBlock = some k → ¬ P k) : SlOwn S w' B e v l := by
  refine ⟨h.1, ?_⟩
  rcases h.2 with h2 | ⟨g, cap, cur, hv, hB, hg, h3⟩
  · exact .inl h2
  · exact .inr ⟨g, cap, cur, hv, hB, by rw [ho.block g (Array.getElem?_eq_some_iff.1 hg).1 (h1 g (by rw [hv]; rfl))]; exact hg, h3⟩
theorem RowsQ.only {P : Nat → Prop} {q : List (Nat × Nat × Nat)} {w w' : World} {B : Nat} {v : Value} {R : List (List Int)} (h : RowsQ q w B v R) (ho : Only P w w') (h1 : ∀ k, v.ownBlock = some k → ¬ P k) (h2 : ∀ x, x ∈ q → ¬ P x.1) : RowsQ q w' B v R :=
  ⟨h.len, h.own.only ho h1, fun i x r hx hr => (h.row i x r hx hr).only ho (fun k hk => by
    have e : x.1 = k := by injection hk
    rw [← e]; exact h2 x (List.mem_of_getElem? hx)), h.apart, h.beside⟩
theorem Only.of_row {w w' : World} {row : Option Nat} (h : w.grownBy w' row) : Only (fun g => row = some g) w w' :=
  ⟨h.os, h.tape, h.output, h.size, fun i hi hn => h.block i hi (fun e => hn e.symm)⟩
theorem Only.cell {P : Nat → Prop} {w w' : World} {p : Addr} {v : Value} (h : Only P w w') (hc : w.cell? p = some v) (hn : ¬ P p.block) : w'.cell? p = some v := by
  have hb : Below (p.block + 1) (w) (w) := Below.refl _ _
  have h1 := h.block p.block (World.block_lt_of_cell? _ _ hc) hn
  have e : w'.cell? p = w.cell? p := by
    unfold World.cell?
    rw [h1]
  rw [e]; exact hc
end Go.Proofs.Ytdgcdlcfddjmiaa
