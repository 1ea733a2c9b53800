/- Bytes of strings, ways as letters. -/
import Derived.Test.YtiodlclaempihaaBase
import Derived.Test.YtiodlclaempihaaBits
namespace Go.Proofs.Ytiodlclaempihaa
open Go.RowKit

def btL (l : List UInt8) (k : Nat) : Int := ((l.getD k 0).toNat : Int)
theorem get_btL (s : ByteArray) : ∀ (n : Nat) (h : n < s.size), ((s[n]'h).toNat : Int) = btL s.data.toList n := fun n h => by
  have h' : n < s.data.size := h
  unfold btL
  rw [List.getD_eq_getElem?_getD, Array.getElem?_toList, Array.getElem?_eq_getElem h']
  rfl
theorem len_toList (s : ByteArray) : s.data.toList.length = s.size := Array.length_toList

def wayB (x : UInt8) : Int := if x = 108 then -1 else if x = 114 then 1 else 0
def okB (x : UInt8) : Bool := decide (x = 108 ∨ x = 114)
theorem okB_way {x : UInt8} (h : okB x = true) : wayB x = -1 ∨ wayB x = 1 := by
  unfold okB at h
  rcases of_decide_eq_true h with rfl | rfl
  · exact .inl rfl
  · exact .inr rfl
theorem byte_eq {x : UInt8} {n : Nat} (hn : n < 256) : (x.toNat : Int) = n ↔ x = UInt8.ofNat n := by
  constructor
  · intro h
    apply UInt8.toNat_inj.mp
    rw [UInt8.toNat_ofNat_of_lt' hn]
    omega
  · rintro rfl
    rw [UInt8.toNat_ofNat_of_lt' hn]
theorem ways_ok {b : List UInt8} (h : b.all okB = true) : ∀ y ∈ b.map wayB, y = -1 ∨ y = 1 := by
  intro y hy
  obtain ⟨x, hx, rfl⟩ := List.mem_map.1 hy
  exact okB_way (List.all_eq_true.1 h x hx)
end Go.Proofs.Ytiodlclaempihaa
