/- The cursor that the model's drawing functions read their choices with. -/
import Derived.Test.YthfacfoclekcbaaProg
import Derived.Test.YthfacfoclekcbaaSl
namespace Go.Proofs.Ythfacfoclekcbaa
open Go.RowKit

def u8S : Shape Int := ⟨1, fun x => [.int .u8 x], fun _ => rfl, fun _ u hu => by simp at hu; subst hu; rfl, by omega⟩

/-- a cursor lies in memory: its bytes, how many were taken, its seed -/
structure CurAt (w : World) (g : Nat) (B : Option Addr) (nb cb : Nat) (bs : List Int) (a s : Int) : Prop where
  len : bs.length = nb
  code : SlAt u8S w B bs
  ok : ∀ x, x ∈ bs → 0 ≤ x ∧ x ≤ 255
  c0 : w.cell? ⟨g, 0, none⟩ = some (.slice B nb cb)
  c1 : w.cell? ⟨g, 1, none⟩ = some (.int .i64 a)
  c2 : w.cell? ⟨g, 2, none⟩ = some (.int .u64 s)
  fz : ∀ o, w.frozen? ⟨g, o, none⟩ = false
  lt : g < w.heap.size
  ne : ∀ b, B = some b → bs ≠ [] → b.block ≠ g
  pos : 0 ≤ a
  sd : 0 ≤ s ∧ s < 18446744073709551616

theorem u64_range {x S : Int} (h : IntKind.u64.wrap x = S) : 0 ≤ S ∧ S < 18446744073709551616 := by
  have e : IntKind.u64.wrap x = x % 18446744073709551616 := by simp [IntKind.wrap, IntKind.bits, IntKind.signed]
  omega
theorem below_drewN (w : World) (n : Nat) : Below w.heap.size w (w.drewN n) := ⟨rfl, rfl, rfl, Nat.le_refl _, fun _ _ => rfl⟩
theorem grown_drewN (w : World) (n : Nat) (r : Option Nat) : w.grownBy (w.drewN n) r := ⟨rfl, rfl, rfl, Nat.le_refl _, fun _ _ _ => rfl⟩
theorem and255 (x : Int) (h0 : 0 ≤ x) (h1 : x < 18446744073709551616) : 0 ≤ bits BinOp.and IntKind.u64 x 255 ∧ bits BinOp.and IntKind.u64 x 255 ≤ 255 := by
  obtain ⟨n, rfl⟩ : ∃ n : Nat, x = (n : Int) := ⟨x.toNat, by omega⟩
  have e : bits BinOp.and IntKind.u64 (n : Int) 255 = ((n &&& 255 : Nat) : Int) := by
    unfold bits
    have h2 : (BitVec.ofInt 64 (n : Int) &&& BitVec.ofInt 64 255).toNat = n &&& 255 := by
      rw [BitVec.toNat_and, BitVec.toNat_ofInt, BitVec.toNat_ofInt]
      have e1 : ((n : Int) % ((2 ^ 64 : Nat) : Int)).toNat = n := by omega
      rw [e1]
      rfl
    show IntKind.u64.wrap (((BitVec.ofInt 64 (n : Int) &&& BitVec.ofInt 64 255).toNat : Nat) : Int) = _
    rw [h2]
    have := Nat.and_le_right (n := n) (m := 255)
    exact IntWalk.u64_in _ (by omega)
  rw [e]
  have : n &&& 255 ≤ 255 := Nat.and_le_right
  omega
theorem cur_other {w : World} {p q r s : Nat} {v : Value} (h : p ≠ r ∨ q ≠ s) : (w.setCell ⟨p, q, none⟩ v).cell? ⟨r, s, none⟩ = w.cell? ⟨r, s, none⟩ := by
  refine World.cell?_setCell_other _ _ _ _ ?_
  intro e
  injection e with e1 e2
  rcases h with h | h
  · exact h e1
  · exact h e2
theorem cur_same {w : World} {a : Addr} {u v : Value} (h : w.cell? a = some u) : (w.setCell a v).cell? a = some v := World.cell?_setCell_same _ _ _ h
theorem grown_set (W : World) (b o : Nat) (v : Value) : W.grownBy (W.setCell ⟨b, o, none⟩ v) (some b) :=
  ⟨rfl, rfl, rfl, (by simp [World.setCell]), fun k _ hk => Below.heap_setCell _ _ _ k (fun e => hk (by rw [e]))⟩

theorem CurAt.kept {w w' : World} {g nb cb : Nat} {B : Option Addr} {bs : List Int} {a s : Int} (h : CurAt w g B nb cb bs a s) (hb : Below w.heap.size w w') : CurAt w' g B nb cb bs a s :=
  ⟨h.len, h.code.below hb, h.ok, (hb.cell (p := ⟨g, 0, none⟩) h.lt).trans h.c0, (hb.cell (p := ⟨g, 1, none⟩) h.lt).trans h.c1, (hb.cell (p := ⟨g, 2, none⟩) h.lt).trans h.c2,
    fun o => (hb.frozen (p := ⟨g, o, none⟩) h.lt).trans (h.fz o), Nat.lt_of_lt_of_le h.lt hb.size, h.ne, h.pos, h.sd⟩
theorem CurAt.set {w : World} {g nb cb : Nat} {B : Option Addr} {bs : List Int} {a s : Int} (h : CurAt w g B nb cb bs a s) (a' s' : Int) (ha : 0 ≤ a') (hs : 0 ≤ s' ∧ s' < 18446744073709551616) :
    CurAt ((w.setCell ⟨g, 1, none⟩ (.int .i64 a')).setCell ⟨g, 2, none⟩ (.int .u64 s')) g B nb cb bs a' s' := by
  refine ⟨h.len, ?_, h.ok, (cur_other (.inr (by decide))).trans ((cur_other (.inr (by decide))).trans h.c0), (cur_other (.inr (by decide))).trans (cur_same h.c1), cur_same ((cur_other (.inr (by decide))).trans h.c2), fun o => by simpa using h.fz o, by simpa [World.setCell] using h.lt, h.ne, ha, hs⟩
  by_cases hbs : bs = []
  · exact .inl hbs
  rcases h.code with hc | ⟨b, off, hB, hlt, hc⟩
  · exact .inl hc
  · refine .inr ⟨b, off, hB, by simpa [World.setCell] using hlt, fun k x hk j hj => ?_⟩
    have hne : g ≠ b := (h.ne _ hB hbs).symm
    exact (cur_other (.inl hne)).trans ((cur_other (.inl hne)).trans (hc k x hk j hj))

set_option maxHeartbeats 1000000 in
theorem next_any (g nb cb : Nat) (B : Option Addr) (bs : List Int) (a s : Int) (w : World) (h : CurAt w g B nb cb bs a s) (ha : a ≤ 1099511627776) :
    Calls Try.prog 58 #[.pointer (some ⟨g, 0, none⟩)] w fun e w' => ∃ v s', e = .returned (.int .i64 v) ∧ 0 ≤ v ∧ v ≤ 255 ∧ CurAt w' g B nb cb bs (a + 1) s' ∧ w.grownBy w' (some g) := by
  have HC := Lib.hid h
  have c0 := h.c0
  have c1 := h.c1
  have c2 := h.c2
  have f1 := h.fz 1
  have f2 := h.fz 2
  have a0 := h.pos
  clear h
  obtain ⟨k, rfl⟩ : ∃ k : Nat, a = (k : Int) := ⟨a.toNat, by omega⟩
  have hl := HC.out.len
  by_cases hlt : k < nb
  · have hkb : k < bs.length := by omega
    have hbk : bs[k]? = some bs[k] := List.getElem?_eq_getElem hkb
    have hok := HC.out.ok _ (List.getElem_mem hkb)
    obtain ⟨b, off, rfl, hbl, hc⟩ : ∃ b off, B = some ⟨b, off, none⟩ ∧ b < w.heap.size ∧ w.cell? ⟨b, off + k, none⟩ = some (.int .u8 bs[k]) := by
      rcases HC.out.code with h | ⟨b, off, hB, hlt, hc⟩
      · rw [h] at hkb; simp at hkb
      · refine ⟨b, off, hB, hlt, ?_⟩
        have := hc k _ hbk 0 (by decide)
        simpa [u8S] using this
    generalize bs[k] = x at *
    have hk0 : (0 : Int) ≤ (k : Int) := by omega
    have hkn : (k : Int) < (nb : Int) := by omega
    have hkn2 : (k : Int) + 1 ≤ (nb : Int) := by omega
    clear hbk hl hkb
    go_enter Try.func58, Try.ntmps58
    go_wp2
    go_quiet (fail)
    go_wp2
    go_quiet (fail)
    go_wp2
    generalize hS : IntKind.u64.wrap (_ + 1442695040888963407) = S
    have hSb := u64_range hS
    generalize hW0 : w.drewN _ = W0
    have HC0 : Hid (CurAt W0 g (some ⟨b, off, none⟩) nb cb bs (k : Int) s) := by show CurAt _ _ _ _ _ _ _ _; rw [← hW0]; exact HC.out.kept (below_drewN _ _)
    have HG0 : Hid (w.grownBy W0 (some g)) := by show World.grownBy _ _ _; rw [← hW0]; exact grown_drewN _ _ _
    obtain ⟨W, hW⟩ : ∃ W, W = (W0.setCell ⟨g, 1, none⟩ (.int .i64 ((k : Int) + 1))).setCell ⟨g, 2, none⟩ (.int .u64 S) := ⟨_, rfl⟩
    have HC2 : Hid (CurAt W g (some ⟨b, off, none⟩) nb cb bs ((k : Int) + 1) S) := by show CurAt _ _ _ _ _ _ _ _; rw [hW]; exact HC0.out.set _ _ (by omega) hSb
    have HG2 : Hid (w.grownBy W (some g)) := by show World.grownBy _ _ _; rw [hW]; exact (HG0.out.trans (grown_set _ _ _ _)).trans (grown_set _ _ _ _)
    rw [← hW]
    have d0 := HC2.out.c0
    have d1 := HC2.out.c1
    clear hW hW0 c0 c1 c2 f1 f2 hc
    go_quiet (fail)
    go_wp2
    go_ret
    exact ⟨x, S, rfl, hok.1, hok.2, HC2.out.kept (below_drewN _ _), HG2.out.trans (grown_drewN _ _ _)⟩
  · have hkn : ¬ (k : Int) < (nb : Int) := by omega
    have hkn2 : ¬ (k : Int) + 1 ≤ (nb : Int) := by omega
    have hd1 : decide (k < nb) = false := by simpa using hlt
    have hd2 : decide (k + 1 ≤ nb) = false := by simp; omega
    clear hl
    go_enter Try.func58, Try.ntmps58
    go_wp2
    go_quiet (fail)
    go_wp2
    generalize hS : IntKind.u64.wrap (_ + 1442695040888963407) = S
    have hSb := u64_range hS
    generalize hW0 : w.drewN _ = W0
    have HC0 : Hid (CurAt W0 g B nb cb bs (k : Int) s) := by show CurAt _ _ _ _ _ _ _ _; rw [← hW0]; exact HC.out.kept (below_drewN _ _)
    have HG0 : Hid (w.grownBy W0 (some g)) := by show World.grownBy _ _ _; rw [← hW0]; exact grown_drewN _ _ _
    obtain ⟨W, hW⟩ : ∃ W, W = (W0.setCell ⟨g, 1, none⟩ (.int .i64 ((k : Int) + 1))).setCell ⟨g, 2, none⟩ (.int .u64 S) := ⟨_, rfl⟩
    have HC2 : Hid (CurAt W g B nb cb bs ((k : Int) + 1) S) := by show CurAt _ _ _ _ _ _ _ _; rw [hW]; exact HC0.out.set _ _ (by omega) hSb
    have HG2 : Hid (w.grownBy W (some g)) := by show World.grownBy _ _ _; rw [hW]; exact (HG0.out.trans (grown_set _ _ _ _)).trans (grown_set _ _ _ _)
    rw [← hW]
    have d0 := HC2.out.c0
    have d1 := HC2.out.c1
    have d2 := HC2.out.c2
    clear hW hW0 c0 c1 c2 f1 f2
    go_quiet (fail)
    go_wp2
    have hq : 0 ≤ S / 1099511627776 ∧ S / 1099511627776 < 18446744073709551616 := by omega
    have hv := and255 _ hq.1 hq.2
    generalize bits BinOp.and IntKind.u64 (S / 1099511627776) 255 = V at *
    rw [IntWalk.wrap64_in V (by omega)]
    go_ret
    exact ⟨V, S, rfl, hv.1, hv.2, HC2.out.kept (below_drewN _ _), HG2.out.trans (grown_drewN _ _ _)⟩

/-- what a call may turn: the cursor alone -/
structure Took (w w' : World) (g nb cb : Nat) (B : Option Addr) (bs : List Int) (a m : Int) : Prop where
  cur : ∃ a' s', CurAt w' g B nb cb bs a' s' ∧ a' ≤ a + m
  grown : w.grownBy w' (some g)

set_option maxHeartbeats 1000000 in
theorem pick_any (g nb cb : Nat) (B : Option Addr) (bs : List Int) (a s n : Int) (w : World) (h : CurAt w g B nb cb bs a s) (ha : a ≤ 1099511627000) (hn0 : -1000000 ≤ n) (hn : n ≤ 1000000) :
    Calls Try.prog 40 #[.pointer (some ⟨g, 0, none⟩), .int .i64 n] w fun e w' => ∃ v, e = .returned (.int .i64 v) ∧ 0 ≤ v ∧ (v = 0 ∨ v < n) ∧ Took w w' g nb cb B bs a 2 := by
  have HN : Hid (∀ (a s : Int) (w : World), CurAt w g B nb cb bs a s → a ≤ 1099511627776 → Calls Try.prog 58 #[.pointer (some ⟨g, 0, none⟩)] w fun e w' => ∃ v s', e = .returned (.int .i64 v) ∧ 0 ≤ v ∧ v ≤ 255 ∧ CurAt w' g B nb cb bs (a + 1) s' ∧ w.grownBy w' (some g)) := fun a s w h ha => next_any g nb cb B bs a s w h ha
  have HC := Lib.hid h
  clear h
  by_cases h1 : n ≤ 1
  · go_enter Try.func40, Try.ntmps40
    go_wp2
    go_ret
    exact ⟨0, rfl, by omega, .inl rfl, ⟨_, _, HC.out, by omega⟩, World.grownBy.refl _ _⟩
  · by_cases h2 : 200 < n
    · go_enter Try.func40, Try.ntmps40
      go_wp2_with fail
      refine (HN.out _ _ _ HC.out (by omega)).mono ?_
      rintro e w1 ⟨v, s1, rfl, v0, v1, hc1, hg1⟩
      have HC1 := Lib.hid hc1
      have HG1 := Lib.hid hg1
      clear hc1 hg1
      go_wp2_with fail
      refine (HN.out _ _ _ HC1.out (by omega)).mono ?_
      rintro e w2 ⟨u, s2, rfl, u0, u1, hc2, hg2⟩
      have HC2 := Lib.hid hc2
      have HG2 := Lib.hid (HG1.out.trans hg2)
      have hm : (v * 256 + u).tmod n = (v * 256 + u) % n := Int.tmod_eq_emod_of_nonneg (by omega)
      have hm0 : 0 ≤ (v * 256 + u) % n := Int.emod_nonneg _ (by omega)
      have hm1 : (v * 256 + u) % n < n := Int.emod_lt_of_pos _ (by omega)
      have hnz : ¬ n = 0 := by omega
      clear hc2 hg2
      go_wp2
      go_ret
      exact ⟨_, rfl, hm0, .inr hm1, ⟨_, _, HC2.out, by omega⟩, HG2.out⟩
    · go_enter Try.func40, Try.ntmps40
      go_wp2_with fail
      refine (HN.out _ _ _ HC.out (by omega)).mono ?_
      rintro e w1 ⟨v, s1, rfl, v0, v1, hc1, hg1⟩
      have HC1 := Lib.hid hc1
      have HG1 := Lib.hid hg1
      have hm : v.tmod n = v % n := Int.tmod_eq_emod_of_nonneg (by omega)
      have hm0 : 0 ≤ v % n := Int.emod_nonneg _ (by omega)
      have hm1 : v % n < n := Int.emod_lt_of_pos _ (by omega)
      have hnz : ¬ n = 0 := by omega
      clear hc1 hg1
      go_wp2
      go_ret
      exact ⟨_, rfl, hm0, .inr hm1, ⟨_, _, HC1.out, by omega⟩, HG1.out⟩
end Go.Proofs.Ythfacfoclekcbaa
