/- A map from integers to slices of ants that the call owns, each slice in a row of its own. -/
import Derived.Test.YtdoikeglaolipaaSl
import Derived.Test.YtdoikeglaolipaaGroup
import Derived.Maps.OwnOps
import Derived.Maps.Views
import Derived.Maps.OwnSet
import Derived.Lib.SlKeysI
namespace Go.Proofs.Ytdoikeglaolipaa
open Go.RowKit
open Go.Maps (Keyed)

abbrev VD := DataW Value
def heldR (v : Value) : Option (VD × List MemPlace) := some (.held v, [])
abbrev atV (D : VD) (x : Int) : VD := D.atKey (.int .i64 x) (.held (.slice none 0 0))
theorem isKeyI (x : Int) : WideAt.IsKeyLit (.int .i64 x) := trivial

structure MapAt (w : World) (P : Program) (K e : TypeId) (B b k : Nat) (D : VD) (m : List (Int × Int)) : Prop where
  own : w.ownsMap P K heldR b k D
  base : B ≤ b
  row : ∀ x : Int, ∃ v, atV D x = .held v ∧ SlOwn pairS w B e v (atP m x) ∧ v.ownBlock ≠ some b
  apart : ∀ (x y : Int) (v u : Value), x ≠ y → atV D x = .held v → atV D y = .held u → v.ownBlock = none ∨ v.ownBlock ≠ u.ownBlock
  has : ∀ x : Int, Maps.has D (.int .i64 x) = m.any fun a => a.1 == x

theorem MapAt.made (w : World) (P : Program) (K e : TypeId) : MapAt (w.alloc (.map #[] 0)) P K e w.heap.size w.heap.size 0 (.map []) [] where
  own := World.ownsMap_made w P K heldR
  base := Nat.le_refl _
  row x := ⟨.slice none 0 0, rfl, SlOwn.nil _ _ _ _, by simp [Value.ownBlock]⟩
  apart x y v u _ h _ := by
    have : v = .slice none 0 0 := by injection h.symm
    subst this
    exact .inl rfl
  has x := rfl

theorem MapAt.kept {w w' : World} {P : Program} {K e : TypeId} {B b k : Nat} {D : VD} {m : List (Int × Int)} (h : MapAt w P K e B b k D m) (hb : Below w.heap.size w w') : MapAt w' P K e B b k D m where
  own := h.own.kept (row := none) ⟨hb.os, hb.tape, hb.output, hb.size, fun i hi _ => hb.block i hi⟩ (by simp)
  base := h.base
  row x := by obtain ⟨v, h1, h2, h3⟩ := h.row x; exact ⟨v, h1, h2.below hb, h3⟩
  apart := h.apart
  has := h.has

/-- the row at one place changed in its own block, or anew, and put back -/
theorem MapAt.put {w w0 w1 w2 : World} {P : Program} {K e : TypeId} {B b k : Nat} {D : VD} {m : List (Int × Int)} (h : MapAt w P K e B b k D m) {y : Int × Int} {v v' : Value}
    (hv : atV D y.1 = .held v) (h0 : Below w.heap.size w w0) (h1 : w0.grownBy w1 v.ownBlock) (ho : SlOwn pairS w1 B e v' (atP m y.1 ++ [y])) (hn : v'.ownBlock = v.ownBlock ∨ v'.ownBlock = some w0.heap.size)
    (h2 : w2.ownsMap P K heldR b (k + 1) (D.put (.int .i64 y.1) (.held v'))) (h3 : w1.grownBy w2 (some b)) : MapAt w2 P K e B b (k + 1) (D.put (.int .i64 y.1) (.held v')) (m ++ [y]) := by
  have hbl := h.own.lt
  have hw0 := h0.size
  obtain ⟨vv, e1, own0, nb0⟩ := h.row y.1
  obtain rfl : vv = v := by rw [hv] at e1; injection e1 with e1; exact e1.symm
  have hlt0 : ∀ g, vv.ownBlock = some g → g < w.heap.size := fun g hg => (World.ownsRow.lt own0 g hg).2
  have hnb' : v'.ownBlock ≠ some b := by
    rcases hn with hn | hn
    · rw [hn]; exact nb0
    · rw [hn]; intro e; injection e with e; omega
  have same : atV (D.put (.int .i64 y.1) (.held v')) y.1 = .held v' := Maps.atKey_put_same h.own.isMap (isKeyI _) _ _
  have other : ∀ x : Int, x ≠ y.1 → atV (D.put (.int .i64 y.1) (.held v')) x = atV D x := fun x hx => Maps.atKey_put_other (fun e => hx (by injection e)) _ _
  refine ⟨h2, h.base, fun x => ?_, fun x z u t hxz hu ht => ?_, fun x => ?_⟩
  · by_cases hx : x = y.1
    · subst hx
      refine ⟨v', same, ?_, hnb'⟩
      rw [atP_snoc, if_pos rfl]
      refine ho.kept h3 ?_
      exact .inr hnb'
    · obtain ⟨u, u1, u2, u3⟩ := h.row x
      refine ⟨u, (other x hx).trans u1, ?_, u3⟩
      rw [atP_snoc, if_neg (fun e => hx e.symm)]
      refine ((u2.below h0).kept h1 ?_).kept h3 (.inr u3)
      exact h.apart x y.1 u vv hx u1 hv
  · have fresh : ∀ (x : Int) (u : Value), atV D x = .held u → v'.ownBlock = some w0.heap.size → u.ownBlock = none ∨ u.ownBlock ≠ v'.ownBlock := fun x u hu hn => by
      obtain ⟨u', u1, u2, _⟩ := h.row x
      obtain rfl : u' = u := by rw [hu] at u1; injection u1 with u1; exact u1.symm
      right
      rw [hn]
      intro e
      have := (World.ownsRow.lt u2 _ e).2
      omega
    by_cases hx : x = y.1
    · subst hx
      rw [same] at hu
      obtain rfl : v' = u := by injection hu
      rw [other z (fun e => hxz e.symm)] at ht
      rcases hn with hn | hn
      · rw [hn]; exact h.apart _ z vv t hxz hv ht
      · rcases fresh z t ht hn with e | e
        · right; rw [hn, e]; simp
        · right; exact fun q => e q.symm
    · rw [other x hx] at hu
      by_cases hz : z = y.1
      · subst hz
        rw [same] at ht
        obtain rfl : v' = t := by injection ht
        rcases hn with hn | hn
        · rw [hn]; exact h.apart x _ u vv hx hu hv
        · exact fresh x u hu hn
      · rw [other z hz] at ht
        exact h.apart x z u t hxz hu ht
  · rw [List.any_append]
    by_cases hx : x = y.1
    · subst hx
      rw [Maps.has_put_same h.own.isMap (isKeyI _)]
      simp
    · rw [Maps.has_put_other (fun e => hx (by injection e)), h.has x]
      have : (y.1 == x) = false := by simpa using fun e => hx e.symm
      simp [this]

/-- rows as they are while the places are sorted one by one: those of the places in S are sorted -/
structure MapS (w : World) (P : Program) (K e : TypeId) (B b k : Nat) (D : VD) (m : List (Int × Int)) (S : List Int) : Prop where
  own : w.ownsMap P K heldR b k D
  base : B ≤ b
  row : ∀ x : Int, ∃ v, atV D x = .held v ∧ SlOwn pairS w B e v (if x ∈ S then srtA (atP m x) else atP m x) ∧ v.ownBlock ≠ some b
  apart : ∀ (x y : Int) (v u : Value), x ≠ y → atV D x = .held v → atV D y = .held u → v.ownBlock = none ∨ v.ownBlock ≠ u.ownBlock
theorem MapAt.toS {w : World} {P : Program} {K e : TypeId} {B b k : Nat} {D : VD} {m : List (Int × Int)} (h : MapAt w P K e B b k D m) : MapS w P K e B b k D m [] where
  own := h.own
  base := h.base
  row x := by obtain ⟨v, h1, h2, h3⟩ := h.row x; exact ⟨v, h1, by rw [if_neg (by simp)]; exact h2, h3⟩
  apart := h.apart
theorem MapS.kept {w w' : World} {P : Program} {K e : TypeId} {B b k : Nat} {D : VD} {m : List (Int × Int)} {S : List Int} (h : MapS w P K e B b k D m S) (hb : Below w.heap.size w w') : MapS w' P K e B b k D m S where
  own := h.own.kept (row := none) ⟨hb.os, hb.tape, hb.output, hb.size, fun i hi _ => hb.block i hi⟩ (by simp)
  base := h.base
  row x := by obtain ⟨v, h1, h2, h3⟩ := h.row x; exact ⟨v, h1, h2.below hb, h3⟩
  apart := h.apart
theorem MapS.keptRow {w w' : World} {P : Program} {K e : TypeId} {B b k g : Nat} {D : VD} {m : List (Int × Int)} {S : List Int} (h : MapS w P K e B b k D m S) (hg : w.grownBy w' (some g)) (hne : g < B) : MapS w' P K e B b k D m S where
  own := h.own.kept hg (fun e => by injection e with e; have := h.base; omega)
  base := h.base
  row x := by
    obtain ⟨v, h1, h2, h3⟩ := h.row x
    refine ⟨v, h1, h2.kept hg (.inr fun e => ?_), h3⟩
    have := (World.ownsRow.lt h2 _ e).1
    omega
  apart := h.apart
theorem MapS.sorted {w w' : World} {P : Program} {K e : TypeId} {B b k : Nat} {D : VD} {m : List (Int × Int)} {S : List Int} (h : MapS w P K e B b k D m S) {x : Int} {v : Value} (hx : x ∉ S) (hv : atV D x = .held v)
    (hg : w.grownBy w' v.ownBlock) (ho : SlOwn pairS w' B e v (srtA (atP m x))) : MapS w' P K e B b k D m (S ++ [x]) where
  own := by
    obtain ⟨u, h1, h2, h3⟩ := h.row x
    obtain rfl : u = v := by rw [hv] at h1; injection h1 with h1; exact h1.symm
    exact h.own.kept hg (fun e => h3 e.symm)
  base := h.base
  row y := by
    obtain ⟨u, h1, h2, h3⟩ := h.row y
    by_cases hy : y = x
    · subst hy
      obtain rfl : u = v := by rw [hv] at h1; injection h1 with h1; exact h1.symm
      exact ⟨u, h1, by rw [if_pos (by simp)]; exact ho, h3⟩
    · refine ⟨u, h1, ?_, h3⟩
      have e : (if y ∈ S ++ [x] then srtA (atP m y) else atP m y) = if y ∈ S then srtA (atP m y) else atP m y := by
        by_cases hyS : y ∈ S
        · rw [if_pos hyS, if_pos (by simp [hyS])]
        · rw [if_neg hyS, if_neg (by simp [hyS, hy])]
      rw [e]
      exact h2.kept hg (h.apart y x u v hy h1 hv)
  apart := h.apart

/-- the places, ascending -/
def keysL (ss : List Int) : List Int := ss.mergeSort fun x y => decide (x ≤ y)
theorem keysL_facts {w : World} {P : Program} {K e : TypeId} {B b k : Nat} {D : VD} {m : List (Int × Int)} (hK : Keyed P K) (h : MapAt w P K e B b k D m) (hk : P.underlying K = some (.int .i64)) {ss : List Int} (hs : ss.Perm (intKeys D)) :
    (keysL ss).Pairwise (· < ·) ∧ (∀ x, x ∈ keysL ss ↔ ∃ a ∈ m, a.1 = x) := by
  obtain ⟨es, rfl, hpw⟩ := h.own.tidy hK
  obtain ⟨es', hD, hko⟩ := h.own.keysOf
  obtain rfl : es = es' := by injection hD
  have hki : ∀ p ∈ es, ∃ x, p.1 = .int .i64 x := fun p hp => by
    obtain ⟨v, hv⟩ := hko p hp
    obtain ⟨x, _, hx, _⟩ := Maps.keyOf_i64 hk hv
    exact ⟨x, hx⟩
  have hnd : (intKeys (.map es : VD)).Nodup := by
    show (es.map fun p => intOf p.1).Nodup
    refine List.pairwise_map.2 (hpw.imp_of_mem fun {p q} hp' hq' hne e => hne ?_)
    obtain ⟨a, ha⟩ := hki p hp'
    obtain ⟨c, hc⟩ := hki q hq'
    rw [ha, hc] at e ⊢
    exact congrArg _ e
  have hperm : (keysL ss).Perm (intKeys (.map es : VD)) := (List.mergeSort_perm _ _).trans hs
  refine ⟨?_, fun x => ?_⟩
  · have h1 : (keysL ss).Pairwise (fun a b => decide (a ≤ b) = true) := List.pairwise_mergeSort (fun a b c h1 h2 => by simp only [decide_eq_true_eq] at *; omega) (fun a b => by simp only [Bool.or_eq_true, decide_eq_true_eq]; omega) ss
    have h2 : (keysL ss).Pairwise (· ≠ ·) := hperm.nodup_iff.2 hnd
    refine (h1.and h2).imp ?_
    rintro a c ⟨h3, h4⟩
    simp only [decide_eq_true_eq] at h3
    omega
  · rw [hperm.mem_iff]
    have h3 := h.has x
    rw [Maps.has_eq, Bool.eq_iff_iff, List.any_eq_true, List.any_eq_true] at h3
    show x ∈ es.map (fun p => intOf p.1) ↔ _
    rw [List.mem_map]
    constructor
    · rintro ⟨p, hp, rfl⟩
      obtain ⟨a, ha⟩ := hki p hp
      obtain ⟨c, hc, hc2⟩ := h3.1 ⟨p, hp, by rw [ha]; simp [Lit.sameKey, intOf]⟩
      exact ⟨c, hc, by simpa using hc2⟩
    · rintro ⟨c, hc, hc2⟩
      obtain ⟨p, hp, hp2⟩ := h3.2 ⟨c, hc, by simpa using hc2⟩
      obtain ⟨a, ha⟩ := hki p hp
      rw [ha] at hp2
      exact ⟨p, hp, by rw [ha]; simpa [Lit.sameKey, intOf] using hp2⟩
end Go.Proofs.Ytdoikeglaolipaa
