/- The law FnExactIsDesk returns true at every input, and leaves its arguments as they were. The listed tables of the library lie as the text lays them. -/
import Derived.Test.YtenpmjinbjlpbaaDoorRows
import Derived.Test.YtenpmjinbjlpbaaDoorHelpDk
import Derived.Test.YtenpmjinbjlpbaaDoorOpenDk
import Derived.Test.YtenpmjinbjlpbaaDoorFactA
import Derived.Test.YtenpmjinbjlpbaaDoorFactB
import Derived.Test.YtenpmjinbjlpbaaDoorFactC
import Derived.Test.YtenpmjinbjlpbaaDoorDkA
import Derived.Test.YtenpmjinbjlpbaaDoorTie
import Derived.Test.YtenpmjinbjlpbaaDoorCards
import Derived.Deep.RegionHeld3
import Derived.LaidMore
import Derived.Lay
import Derived.Stop.Joined
import Derived.SevenTiedAt
import Derived.MakeChecks
import Derived.ChangeMaps5
import Derived.Shelf.Vars
namespace Go.Proofs.YtenpmjinbjlpbaaDoor.lIsDesk
open Go.RowKit
open Go.ChangeShapes Go.WideShapes Go.ChangeAt
set_option linter.unusedVariables false

set_option maxHeartbeats 1000000 in
theorem big (L : Int) (A : Option Addr) (c : Nat) (l : List (Int × Int)) (s : ByteArray) (w : World) (hn : (l.length : Int) ≤ 9223372036854775807) (h : (1048576 : Int) < l.length) :
    Calls Tryd.prog 4 #[.agg #[.int .i64 L, .slice A l.length c, .string s]] w fun e w' => e = .returned (.bool true) ∧ Below w.heap.size w w' := by
  have H : Hid (∀ w, Calls Tryd.prog 12 #[.agg #[.int .i64 L, .slice A l.length c, .string s], .int .i64 1048576] w fun e w' => e = .returned (.int .i64 (-1)) ∧ Below w.heap.size w w') :=
    fun w => szDesk_big1 L A c l s w hn h
  clear h hn
  go_enter Tryd.func4, Tryd.ntmps4
  go_wp2_with fail
  refine (H.out _).mono ?_
  rintro e w1 ⟨rfl, hb⟩
  go_wp2
  go_ret
  exact ⟨ret_bool rfl, ((Below.refl _ _).alloc (Nat.le_refl _) _).trans (hb.mono (by simp))⟩

set_option maxHeartbeats 1000000 in
theorem beyond (L : Int) (A : Option Addr) (c : Nat) (l : List (Int × Int)) (s : ByteArray) (w : World) (h : (l.length : Int) ≤ 1048576) (hs : (s.size : Int) ≤ 9223372036854775807) (hr : (1048576 : Int) - l.length - s.size < 0) :
    Calls Tryd.prog 4 #[.agg #[.int .i64 L, .slice A l.length c, .string s]] w fun e w' => e = .returned (.bool true) ∧ Below w.heap.size w w' := by
  have H : Hid (∀ w, Calls Tryd.prog 12 #[.agg #[.int .i64 L, .slice A l.length c, .string s], .int .i64 1048576] w fun e w' => e = .returned (.int .i64 (-1)) ∧ Below w.heap.size w w') :=
    fun w => szDesk_over L A c l s _ w h hs rfl hr
  clear h hs hr
  go_enter Tryd.func4, Tryd.ntmps4
  go_wp2_with fail
  refine (H.out _).mono ?_
  rintro e w1 ⟨rfl, hb⟩
  go_wp2
  go_ret
  exact ⟨ret_bool rfl, ((Below.refl _ _).alloc (Nat.le_refl _) _).trans (hb.mono (by simp))⟩

set_option maxRecDepth 100000 in
set_option maxHeartbeats 4000000 in
theorem fits (L : Int) (A : Option Addr) (c : Nat) (l : List (Int × Int)) (s : ByteArray) (w : World) (h : (l.length : Int) ≤ 1048576) (hr : ¬ (1048576 : Int) - l.length - s.size < 0) (hA : AntsAt w A l) :
    Calls Tryd.prog 4 #[.agg #[.int .i64 L, .slice A l.length c, .string s]] w fun e w' => e = .returned (.bool true) ∧ Below w.heap.size w w' := by
  obtain ⟨r, hre⟩ : ∃ r : Int, r = 1048576 - l.length - s.size := ⟨_, rfl⟩
  have H : Hid (∀ w, Calls Tryd.prog 12 #[.agg #[.int .i64 L, .slice A l.length c, .string s], .int .i64 1048576] w fun e w' => e = .returned (.int .i64 r) ∧ Below w.heap.size w w') :=
    fun w => szDesk_fits L A c l s r w h (by omega) hre (by omega)
  have hz : ¬ r < 0 := by omega
  have hs2 : s.size ≤ 1048576 := by omega
  have HS := Lib.hid (fun W A c h => specIsDesk_any L A c l s W hs2 h)
  have HI := Lib.hid (fun W A c h => implIsDesk_any L A c l s W hs2 h)
  have HA := Lib.hid hA
  clear hA hre hr hs2
  generalize deskB L l s = q at *
  go_enter Tryd.func4, Tryd.ntmps4
  go_wp2_with fail
  refine (H.out _).mono ?_
  rintro e w1 ⟨rfl, hb1⟩
  have HB1 := Lib.hid (((Below.refl _ w).alloc (Nat.le_refl _) _).trans (hb1.mono (by simp)))
  have s1 : w.heap.size < w1.heap.size := by have := hb1.size; simp at this; omega
  have c0 : w1.cell? ⟨w.heap.size, 0, none⟩ = some (.int .i64 L) := by rw [hb1.cell (p := ⟨w.heap.size, 0, none⟩) (by simp)]; simp
  have c1 : w1.cell? ⟨w.heap.size, 1, none⟩ = some (.slice A l.length c) := by rw [hb1.cell (p := ⟨w.heap.size, 1, none⟩) (by simp)]; simp
  have c2 : w1.cell? ⟨w.heap.size, 2, none⟩ = some (.string s) := by rw [hb1.cell (p := ⟨w.heap.size, 2, none⟩) (by simp)]; simp
  clear hb1
  go_wp2_with fail
  refine (toDesk_any L A c l s _ h (HA.out.below HB1.out)).mono ?_
  rintro e w2 ⟨A2, k2, rfl, ho2, hb2⟩
  have HB2 := Lib.hid (HB1.out.trans (hb2.mono HB1.out.size))
  have HA2 := Lib.hid (ho2.ants)
  have c0 := Below.cell_some hb2 c0
  have c1 := Below.cell_some hb2 c1
  have c2 := Below.cell_some hb2 c2
  have s2 : w.heap.size < w2.heap.size := by have := hb2.size; omega
  clear hb2 ho2
  go_wp2_with fail
  refine (HS.out _ _ _ HA2.out).mono ?_
  rintro e w3 ⟨rfl, hb3⟩
  have HB3 := Lib.hid (HB2.out.trans (hb3.mono HB2.out.size))
  have c0 := Below.cell_some hb3 c0
  have c1 := Below.cell_some hb3 c1
  have c2 := Below.cell_some hb3 c2
  have s3 : w.heap.size < w3.heap.size := by have := hb3.size; omega
  clear hb3
  go_wp2_with fail
  refine (toDesk_any L A c l s _ h (HA.out.below HB3.out)).mono ?_
  rintro e w4 ⟨A4, k4, rfl, ho4, hb4⟩
  have HB4 := Lib.hid (HB3.out.trans (hb4.mono HB3.out.size))
  have c0 := Below.cell_some hb4 c0
  have c1 := Below.cell_some hb4 c1
  have c2 := Below.cell_some hb4 c2
  have s4 : w.heap.size < w4.heap.size := by have := hb4.size; omega
  have HA4 := Lib.hid (ho4.ants)
  clear hb4 ho4
  go_wp2_with fail
  refine (HI.out _ _ _ (HA4.out.alloc _)).mono ?_
  rintro e w5 ⟨rfl, hb5⟩
  have HB5 := Lib.hid (HB4.out.trans (((Below.refl _ _).alloc (Nat.le_refl _) _).trans (hb5.mono (by simp)) |>.mono HB4.out.size))
  have s5 : w4.heap.size < w5.heap.size := by have := hb5.size; simp at this; omega
  have c0 := Below.cell_some hb5 (alloc_some c0 _)
  have c1 := Below.cell_some hb5 (alloc_some c1 _)
  have c2 := Below.cell_some hb5 (alloc_some c2 _)
  have d0 : w5.cell? ⟨w4.heap.size, 0, none⟩ = some (.int .i64 L) := by rw [hb5.cell (p := ⟨w4.heap.size, 0, none⟩) (by simp)]; simp
  have d1 : w5.cell? ⟨w4.heap.size, 1, none⟩ = some (.slice A4 l.length k4) := by rw [hb5.cell (p := ⟨w4.heap.size, 1, none⟩) (by simp)]; simp
  have d2 : w5.cell? ⟨w4.heap.size, 2, none⟩ = some (.string s) := by rw [hb5.cell (p := ⟨w4.heap.size, 2, none⟩) (by simp)]; simp
  have HA5 := Lib.hid ((HA4.out.alloc _).below hb5)
  have HAA5 := Lib.hid (HA.out.below HB5.out)
  clear hb5
  go_wp2
  go_region_held3 (fun w' => w'.cell? ⟨w4.heap.size, 0, none⟩ = some (.int .i64 L) ∧ w'.cell? ⟨w4.heap.size, 1, none⟩ = some (.slice A4 l.length k4) ∧ w'.cell? ⟨w4.heap.size, 2, none⟩ = some (.string s) ∧ w'.cell? ⟨w.heap.size, 0, none⟩ = some (.int .i64 L) ∧ w'.cell? ⟨w.heap.size, 1, none⟩ = some (.slice A l.length c) ∧ w'.cell? ⟨w.heap.size, 2, none⟩ = some (.string s))
    (first
      | go_keep
      | exact ⟨Below.cell_some hbx d0, Below.cell_some hbx d1, Below.cell_some hbx d2, Below.cell_some hbx c0, Below.cell_some hbx c1, Below.cell_some hbx c2⟩
      | exact ⟨Below.cell_some hby d0', Below.cell_some hby d1', Below.cell_some hby d2', Below.cell_some hby c0', Below.cell_some hby c1', Below.cell_some hby c2'⟩)
    (first
      | (go_at_call 14; refine (toDesk_any L A c l s w5.drew h HAA5.out).mono ?_; rintro e w6 ⟨A6, k6, rfl, ho6, hbx0⟩; have hbx := below_drew hbx0; clear hbx0; have HA6 := Lib.hid ho6.ants; have HX5 := Lib.hid (HA5.out.below hbx); have d0' := Below.cell_some hbx d0; have d1' := Below.cell_some hbx d1; have d2' := Below.cell_some hbx d2; have c0' := Below.cell_some hbx c0; have c1' := Below.cell_some hbx c1; have c2' := Below.cell_some hbx c2)
      | (go_at_call 9; refine (eqDesk_true L A4 A6 k4 k6 l s _ h HX5.out HA6.out).mono ?_; rintro e w7 ⟨rfl, hby⟩))
  go_wp2
  go_ret
  exact ⟨ret_bool rfl, (HB5.out.trans (hbx.mono HB5.out.size)).trans (hby.mono (by have := hbx.size; have := HB5.out.size; omega))⟩

theorem law (L : Int) (A : Option Addr) (c : Nat) (l : List (Int × Int)) (s : ByteArray) (w : World) (hn : (l.length : Int) ≤ 9223372036854775807) (hs : (s.size : Int) ≤ 9223372036854775807) (hA : AntsAt w A l) :
    Calls Tryd.prog 4 #[.agg #[.int .i64 L, .slice A l.length c, .string s]] w fun e w' => e = .returned (.bool true) ∧ Below w.heap.size w w' := by
  by_cases h : (l.length : Int) ≤ 1048576
  · by_cases hr : (1048576 : Int) - l.length - s.size < 0
    · exact beyond L A c l s w h hs hr
    · exact fits L A c l s w h hr hA
  · exact big L A c l s w hn (by omega)

theorem doorMet (os : Os) (args : Array Value) : laidMetH Tryd.prog Rows.fnExactIsDeskRow.laid ((World.laidAll Tryd.prog os Rows.fnExactIsDeskRow.laid).forCall (fun _ _ => 0) ⟨#[], args, []⟩).memory := by
  rw [MakeChecks.laidMetH_plain _ _ _ (by kernel_rfl)]
  exact laidMet_laidAll _ (by kernel_rfl) (by kernel_rfl)

set_option maxRecDepth 100000 in
theorem lifted (os : Os) (started : os.Started) (H : Type) (enc : TypeId × Value → H) :
    ReturnsInHanded {} Tryd.checked os 4 .any (fun w args => (Rows.fnExactIsDeskSpec.pre enc Tryd.prog Tryd.f4 [] false w args ∧ laidMetH Tryd.prog Rows.fnExactIsDeskRow.laid w) ∧ sizedMet enc Tryd.prog Tryd.f4 (OpenSpec.ofChange Rows.fnExactIsDeskSpec) false w args)
      (Rows.fnExactIsDeskSpec.post enc Tryd.prog Tryd.f4 false true false false) := by
  refine returnsInHanded_of_calls (C := Tryd.checked) own started (by kernel_rfl)
    (ChangeSpec.witness_shaped (enc := enc) (C := Tryd.checked) (os := os) (X := fun w _ => laidMetH Tryd.prog Rows.fnExactIsDeskRow.laid w) false (World.laidAll Tryd.prog os Rows.fnExactIsDeskRow.laid) #[.agg #[.int .i64 0, .slice none 0 0, .string ⟨#[]⟩]] 8 (World.laidAll_os _ _ _) (World.shaped_of_ZipB (by kernel_rfl) (by kernel_rfl)) (by kernel_rfl) (by kernel_rfl) (by kernel_rfl) (doorMet os _)) ?_
  intro w tape i _ hsh _ hok hpre hholds
  obtain ⟨_, _, _, fn', hfn', _, _, _, _, hval0⟩ := hok
  have efn : fn' = Tryd.f4 := Option.some.inj (hfn'.symm.trans Tryd.func4)
  subst efn
  obtain ⟨⟨⟨ds, gs, before, hw, _⟩, _⟩, _⟩ := hpre
  have hW : DataW.Whole enc Tryd.prog Tryd.f4.params.toList Rows.fnExactIsDeskSpec.vars false (w.forCall tape i) i.args.toList ds gs before := DataW.Whole.of_heap (w' := w.forCall tape i) (by rfl) hw
  have hval : ∀ (j : Nat) t v, Tryd.f4.params[j]? = some t → i.args[j]? = some v → Value.okWide Tryd.prog (w.forCall tape i) .any w.heap.size t v := hval0
  clear hw hval0 hsh hholds hfn'
  generalize w.forCall tape i = W at *
  generalize i.args = args at *
  have hW' := hW
  obtain ⟨p, q, hA0, hV, rfl, hfz, hnd⟩ := hW
  have hA : DataW.TrodAll enc Tryd.prog W 0 (fun _ => true) true Tryd.f4.params.toList args.toList ds p := hA0
  rw [Tryd.params4] at hA hval
  obtain ⟨v0, vs0, d0, ds0, p0, q0, hargs, rfl, rfl, h0, r0⟩ := trodAll_cons hA
  obtain ⟨rfl, rfl, rfl⟩ := trodAll_nil r0
  obtain rfl : args = #[v0] := by cases args; simp_all
  obtain ⟨rfl, rfl⟩ := trodVars_none hV
  have k0 := h0
  have lt0 : ∀ x ∈ p0, x.block < W.heap.size := by obtain ⟨m, hm⟩ := k0; exact DataW.trod_lt m _ _ _ hm
  obtain ⟨L, A, c, l, s, rfl, hAt, hlen, hsz⟩ := open_desk (hval 0 35 v0 rfl rfl) h0
  clear hA0
  refine (law L A c l s W hlen (by unfold maxLen at hsz; omega) hAt).mono fun e W' ⟨he, bel⟩ => ?_
  subst he
  exact ChangeSpec.post_blind ⟨_, _, _, [], _, [], hW', trodAll_mk1 (shut_bool Tryd.underlying4 _), (trodAll_cons_mk (Below.trod laidOut (by kernel_rfl) (of_decide_eq_true (by kernel_rfl)) k0 bel lt0) trodAll_mk0), rfl, bel.frame _, fun h => by cases h⟩

theorem closed : joinedFacts Tryd.prog 4 Tryd.f4 Rows.fnExactIsDeskSpec Rows.fnExactIsDeskRow = true := by
  unfold joinedFacts
  repeat' with_reducible refine and_t ?_ ?_
  · kernel_rfl
  · kernel_rfl
  · kernel_rfl
  · kernel_rfl
  · kernel_rfl
  · kernel_rfl
  · kernel_rfl
  · kernel_rfl
  · kernel_rfl
  · kernel_rfl
  · kernel_rfl
  · kernel_rfl
  · kernel_rfl
  · kernel_rfl
  · kernel_rfl
  · kernel_rfl
  · kernel_rfl
  · kernel_rfl
  · kernel_rfl
  · kernel_rfl
  · kernel_rfl
  · kernel_rfl
  · kernel_rfl
  · kernel_rfl
  · kernel_rfl
  · exact factMayEnter
  · exact factLifts
  · exact factMake
  · kernel_rfl
  · kernel_rfl
  · kernel_rfl
  · kernel_rfl

theorem over : Rows.fnExactIsDeskRow.holds Tryd.pinned (OpenSpec.ofChange Rows.fnExactIsDeskSpec) :=
  OpenClaim.holds_of_wide 4 Tryd.f4 rfl rfl rfl rfl rfl rfl rfl ⟨rfl, rfl, rfl, rfl, rfl⟩ rfl rfl rfl rfl rfl (by kernel_rfl) Tryd.func4 closed
    (of_decide_eq_true (by kernel_rfl)) (by unfold Func.isWrapper; first | (rw [if_pos (by decide +kernel)]; kernel_rfl) | (rw [if_neg (by decide +kernel)]; exact ⟨rfl, rfl⟩))
    (fun os started H enc _ => lifted os started H enc)

/-- the row's statement -/
theorem said : Rows.FnExactIsDeskSaid := over

/-- the card: the row, tied to the program's text -/
theorem card : Rows.FnExactIsDeskCardSaid :=
  Claim7.holds_tied_plain_at .later [] [.data, .pinned] true (true, "fab4676b1c6be416231cf11342b9eb982db8c75222987179240ed2357a721673") true
    said (fun _ h => by cases h) (by kernel_rfl) (fun _ h => by cases h) fnExactIsDesk_row_tie rfl ⟨rfl, rfl⟩ (by kernel_rfl) rfl
    (fun f fn hf hfn => by
      obtain rfl : f = 4 := Option.some.inj ((show Tryd.prog.funcNamed "loop.example/g01270/laws.FnExactIsDesk" = some 4 by kernel_rfl).symm.trans hf) |>.symm
      obtain rfl : fn = Tryd.f4 := (Option.some.inj (Tryd.func4.symm.trans hfn)).symm
      exact ⟨by kernel_rfl, fun j t ht => by
        rw [Tryd.params4] at ht
        have hm : t ∈ [35] := by simpa using Array.mem_of_getElem? ht
        have hall : ([35].all fun u => !Tryd.prog.wantsStandIn u) = true := by kernel_rfl
        exact (show Tryd.prog.wantsStandIn t = false by simpa using List.all_eq_true.1 hall t hm)⟩)
    (by kernel_rfl)
#print axioms card

end Go.Proofs.YtenpmjinbjlpbaaDoor.lIsDesk
