/- The keys of a map, sorted: maps.Keys and slices.Sorted at a map that the call owns. -/
import Derived.Test.YtdoikeglaolipaaShelfY
import Derived.Test.YtdoikeglaolipaaMapAnts
namespace Go.Proofs.Ytdoikeglaolipaa
open Go.RowKit Go.Shelf Go.Sort
open Go.Maps (Keyed)

theorem keys_any (mb : Option Nat) (W : World) : Calls Try.prog 68 #[.map mb] W fun e w' => e = .returned (.func (.func 75) #[] #[.pointer (some ⟨W.heap.size, 0, none⟩)]) ∧ w' = W.alloc (.cells #[.map mb] 80) :=
  (callsIn_wide (n := 5)).1 (AnyZI.keys_in keysA Fence.wide 5 trivial rfl mb W)

theorem sortsKeys (m : Nat) : AnyZI.SortsIn Try.prog sortedA_ren Fence.wide m :=
  ⟨fun blk off cap ss W hH hblk hsz => callsIn_wide.2 (AnyM.slices_Sort_int sortIA blk off cap ss W hH hblk hsz),
   fun p cap W => callsIn_wide.2 (AnyM.slices_Sort_int_none sortIA p cap W)⟩

theorem sorted_any {b k Bm : Nat} {D : VD} (w : World) (hown : w.ownsMap Try.prog 3 heldR b k D) (hk : k ≤ 1000) (hBm : Bm < w.heap.size) (hc : w.cell? ⟨Bm, 0, none⟩ = some (.map (some b))) :
    Calls Try.prog 67 #[.func (.func 75) #[] #[.pointer (some ⟨Bm, 0, none⟩)]] w fun e w' => ∃ A c ss n, e = .returned (.slice A n c) ∧ n = (keysL ss).length ∧ ss.Perm (intKeys D) ∧ SlOwn intS w' w.heap.size 3 (.slice A n c) (keysL ss) ∧ Below w.heap.size w w' := by
  have hs := hown.size_le
  have hseq : SeqGives Fence.wide 2 Try.prog 75 #[.pointer (some ⟨Bm, 0, none⟩)] encZ (fun ss => ss.Perm (intKeys D)) (Maps.size D) w :=
    AnyZI.keys_gives (ρ := keysA_ren) { keysA with } Fence.wide _ trivial rfl (by omega) Bm b k D _ hBm hc hown
  have cS := AnyZI.sorted_in sortedA Fence.wide 5 trivial trivial trivial trivial rfl (by omega) (sortsKeys _) (enters_of Try.func74 (by kernel_rfl) rfl) 75 #[.pointer (some ⟨Bm, 0, none⟩)] trivial (enters_of Try.func75 (by kernel_rfl) rfl) _ _ (by unfold maxLen; omega) (by omega) _ hseq
  change CallsIn _ _ Try.prog 67 _ _ _ at cS
  refine ((callsIn_wide (n := 5)).1 cS).mono ?_
  rintro e w' ⟨v, ss, rfl, hS, hrow, hnil, hb⟩
  have hl : (keysL ss).length = ss.length := by unfold keysL; exact List.length_mergeSort _
  have ho : SlOwn intS w' w.heap.size 3 v (keysL ss) := by
    show World.ownsRow _ _ _ _ _ _ _
    rw [hl]
    have e1 : intS.row (keysL ss) = (ss.mergeSort (fun x y => decide (x ≤ y))).map encZ := by
      show List.flatMap _ _ = _
      unfold keysL
      rw [List.map_eq_flatMap]
      rfl
    rw [e1]
    exact hrow
  obtain ⟨A, c, rfl, _, _⟩ := ho.form
  exact ⟨A, c, ss, _, rfl, rfl, hS, ho, hb⟩
end Go.Proofs.Ytdoikeglaolipaa
