/- Of any spans, up to two hundred of them: All says whether each two are apart, and for any two numbers Cover answers the spans that the chapter asks for, or the error, as the given function SpanLists asks; no condition. -/
import Derived.Test.YthjbihbaccnmcaaRall
import Derived.Test.YthjbihbaccnmcaaRcover
import Derived.Test.YthjbihbaccnmcaaSame
import Derived.Test.YthjbihbaccnmcaaWorks
import Derived.Test.YthjbihbaccnmcaaArgs
import Derived.ProofKit
import Derived.OpenShut
import Derived.ShutString
import Derived.ChangeOld
import Derived.Below
import Derived.Deep.Slices
namespace Go.Proofs.Ythjbihbaccnmcaa.spanLists
open Go.ChangeShapes Go.WideShapes Go.ChangeAt Go.RowKit
set_option linter.unusedVariables false

theorem own : ownKnob Try.prog.godebug = none := by kernel_rfl
theorem laidOut : laidOutB Try.prog = true := by kernel_rfl

set_option maxHeartbeats 400000 in
theorem walk_big (x : Option Addr) (len cap : Nat) (A T : Int) (w : World) (h : 200 < len) :
    Calls Try.prog 4 #[.slice x len cap, .int .i64 A, .int .i64 T] w fun e w' => e = .returned (.bool true) ∧ w.grownBy w' none := by
  have h' : (200 : Int) < (len : Int) := by omega
  go_enter Try.func4, Try.ntmps4
  go_wp2
  go_ret
  exact ⟨rfl, gbRefl _ _⟩

set_option maxHeartbeats 1000000 in
theorem core_nil (cap : Nat) (A T E : Int) (K : List (Int × Int)) (w : World)
    (H1 : ∀ w : World, Calls Try.prog 19 #[.int .i64 A, .int .i64 T] w fun e w' => ∃ v, e = .returned (.tuple #[v, .int .i64 E]) ∧ Lst w' w.heap.size v K ∧ w.grownBy w' none)
    (H2 : ∀ w : World, Calls Try.prog 20 #[.int .i64 A, .int .i64 T] w fun e w' => ∃ v, e = .returned (.tuple #[v, .int .i64 E]) ∧ Lst w' w.heap.size v K ∧ w.grownBy w' none) :
    Calls Try.prog 4 #[.slice none 0 cap, .int .i64 A, .int .i64 T] w fun e w' => e = .returned (.bool true) ∧ w.grownBy w' none := by
  go_enter Try.func4, Try.ntmps4
  go_wp2_with fail
  refine (H1 _).mono ?_
  rintro e w1 ⟨v1, rfl, ho1, g1⟩
  have ho1 : Hid (Lst w1 w.heap.size v1 K) := ho1
  go_wp2_with fail
  refine (H2 _).mono ?_
  rintro e w2 ⟨v2, rfl, ho2, g2⟩
  have ho2 : Hid (Lst w2 w1.heap.size v2 K) := ho2
  go_wp2_with fail
  refine (all_none _ _ _).mono ?_
  rintro e w3 ⟨rfl, g3⟩
  go_wp2_with fail
  refine (rall_none _ _ _).mono ?_
  rintro e w4 ⟨rfl, g4⟩
  have G4 := gbTrans (gbTrans (gbAlloc w2 _ none) g3) g4
  go_wp2_with fail
  refine (same_lst _ _ _ v1 v2 K ((ho1.out.kept g2).kept G4) (ho2.out.kept G4)).mono ?_
  rintro e w5 ⟨rfl, g5⟩
  go_wp2
  go_ret
  exact ⟨rfl, gbTrans g1 (gbTrans g2 (gbTrans G4 g5))⟩

set_option maxHeartbeats 1000000 in
theorem core (x : Addr) (len cap : Nat) (L : List (Int × Int)) (A T E : Int) (K : List (Int × Int)) (w : World) (hl : L.length = len) (hx : Row w x L) (hlen : len ≤ 200)
    (H1 : ∀ w : World, Calls Try.prog 19 #[.int .i64 A, .int .i64 T] w fun e w' => ∃ v, e = .returned (.tuple #[v, .int .i64 E]) ∧ Lst w' w.heap.size v K ∧ w.grownBy w' none)
    (H2 : ∀ w : World, Calls Try.prog 20 #[.int .i64 A, .int .i64 T] w fun e w' => ∃ v, e = .returned (.tuple #[v, .int .i64 E]) ∧ Lst w' w.heap.size v K ∧ w.grownBy w' none) :
    Calls Try.prog 4 #[.slice (some x) len cap, .int .i64 A, .int .i64 T] w fun e w' => e = .returned (.bool true) ∧ w.grownBy w' none := by
  have h' : ¬ (200 : Int) < (len : Int) := by omega
  have HX : Hid (Row w x L) := hideIt hx
  have HL : Hid (L.length = len) := hideIt hl
  obtain ⟨b, hb⟩ : ∃ b, M.all L = b := ⟨_, rfl⟩
  have HB : Hid (M.all L = b) := hideIt hb
  clear hx hl hb
  go_enter Try.func4, Try.ntmps4
  go_wp2_with fail
  refine (H1 _).mono ?_
  rintro e w1 ⟨v1, rfl, ho1, g1⟩
  have ho1 : Hid (Lst w1 w.heap.size v1 K) := ho1
  go_wp2_with fail
  refine (H2 _).mono ?_
  rintro e w2 ⟨v2, rfl, ho2, g2⟩
  have ho2 : Hid (Lst w2 w1.heap.size v2 K) := ho2
  have HO1 : Hid (Lst (w2.alloc (.cells #[] 23)) w2.heap.size (.slice (some ⟨w2.heap.size, 0, none⟩) 0 0) []) := hideIt (Lst.lit w2 #[] [] rfl (by decide))
  have HR1 : Hid (Row (w2.alloc (.cells #[] 23)) x L) := hideIt (((HX.out.kept g1).kept g2).kept (gbAlloc _ _ _))
  have HN : Hid (([] : List (Int × Int)).length + len ≤ 1000000) := hideIt (by simp; omega)
  go_wp2_with (at_builtin; refine wpList_append_span rfl (.tmp 26) (.tmp 27) rfl w2.heap.size _ [] rfl HO1.out x len cap L rfl HL.out HR1.out HN.out (by simp) ?_; intro v4 w4 ho4 hg4; have ho4 : Hid (Lst w4 w2.heap.size v4 L) := ho4)
  refine (all_lst _ w2.heap.size v4 L b ho4.out HB.out).mono ?_
  rintro e w5 ⟨rfl, g5⟩
  have G4 : w2.grownBy w4 none := gbNews (gbTrans (gbAlloc w2 _ _) hg4) (fun k e => by cases e; exact Nat.le_refl _)
  have hrow := ((((HX.out.kept g1).kept g2).kept G4).kept g5)
  have hrow : Hid (Row w5 x L) := hrow
  go_wp2_with fail
  refine (rall_rows _ x cap len L HL.out (by omega) hrow.out).mono ?_
  rintro e w6 ⟨rfl, g6⟩
  have G6 := gbTrans G4 (gbTrans g5 g6)
  have HBs : Hid ((b == M.all L) = true) := hideIt (by rw [HB.out]; simp)
  rw [HB.out]
  go_wp2_with fail
  refine (same_lst _ _ _ v1 v2 K ((ho1.out.kept g2).kept G6) (ho2.out.kept G6)).mono ?_
  rintro e w7 ⟨rfl, g7⟩
  go_wp2
  go_ret
  exact ⟨rfl, gbTrans g1 (gbTrans g2 (gbTrans G6 g7))⟩

theorem walk (x : Option Addr) (len cap : Nat) (L : List (Int × Int)) (hl : L.length = len) (A T : Int) (w : World) (hx : (∀ y, x = some y → Row w y L) ∧ (x = none → len = 0)) :
    Calls Try.prog 4 #[.slice x len cap, .int .i64 A, .int .i64 T] w fun e w' => e = .returned (.bool true) ∧ Below w.heap.size w w' := by
  refine endWalk ?_
  by_cases hlen : 200 < len
  · exact walk_big x len cap A T w hlen
  · obtain ⟨E, K, H1, H2⟩ : ∃ (E : Int) (K : List (Int × Int)), (∀ w : World, Calls Try.prog 19 #[.int .i64 A, .int .i64 T] w fun e w' => ∃ v, e = .returned (.tuple #[v, .int .i64 E]) ∧ Lst w' w.heap.size v K ∧ w.grownBy w' none) ∧
        (∀ w : World, Calls Try.prog 20 #[.int .i64 A, .int .i64 T] w fun e w' => ∃ v, e = .returned (.tuple #[v, .int .i64 E]) ∧ Lst w' w.heap.size v K ∧ w.grownBy w' none) := by
      by_cases h : 0 ≤ A ∧ A ≤ T ∧ T ≤ 65536
      · obtain ⟨a, rfl⟩ : ∃ a : Nat, A = (a : Int) := ⟨A.toNat, by omega⟩
        obtain ⟨t, rfl⟩ : ∃ t : Nat, T = (t : Int) := ⟨T.toNat, by omega⟩
        exact ⟨0, M.cover t a, fun w => cover_yes a t w (by omega) (by omega), fun w => rcover_yes a t w (by omega) (by omega)⟩
      · exact ⟨1, [], fun w => (cover_no A T w h).mono fun e w' ⟨he, hw⟩ => ⟨_, he, Lst.nil _ _, by rw [hw]; exact gbRefl _ _⟩, fun w => (rcover_no A T w h).mono fun e w' ⟨he, hw⟩ => ⟨_, he, Lst.nil _ _, by rw [hw]; exact gbRefl _ _⟩⟩
    cases x with
    | none =>
      obtain rfl := hx.2 rfl
      exact core_nil cap A T E K w H1 H2
    | some y => exact core y len cap L A T E K w hl (hx.1 y rfl) (by omega) H1 H2

set_option maxRecDepth 100000 in
theorem lifted (os : Os) (started : os.Started) (H : Type) (enc : TypeId × Value → H) :
    ReturnsInHanded {} Try.checked os 4 .any (Rows.spanListsSpec.pre6 enc Try.prog Try.f4 Rows.spanListsRow.domain false) (Rows.spanListsSpec.post enc Try.prog Try.f4 false true false false) := by
  refine returnsInHanded_of_change (C := Try.checked) own started (by kernel_rfl) Try.func4
    (ChangeSpec.witness6 (enc := enc) (C := Try.checked) false ⟨#[], #[.slice none 0 0, .int .i64 0, .int .i64 0], []⟩ 8 (by kernel_rfl) (by kernel_rfl) (by kernel_rfl) (by kernel_rfl)) ?_
  intro W base args ds gs before hval0 hW hcnd _
  have hval : ∀ (j : Nat) t v, Try.f4.params[j]? = some t → args[j]? = some v → Value.okWide Try.prog W .any base t v := hval0
  have hW' := hW
  obtain ⟨p, q, hA0, hV, rfl, hfz, hnd⟩ := hW
  have hA : DataW.TrodAll enc Try.prog W 0 (fun _ => true) true Try.f4.params.toList args.toList ds p := hA0
  rw [Try.params4] at hA hval
  obtain ⟨v0, vs0, d0, ds0, p0, q0, hargs, rfl, rfl, h0, r0⟩ := trodAll_cons hA
  obtain ⟨v1, vs1, d1, ds1, p1, q1, rfl, rfl, rfl, h1, r1⟩ := trodAll_cons r0
  obtain ⟨v2, vs2, d2, ds2, p2, q2, rfl, rfl, rfl, h2, r2⟩ := trodAll_cons r1
  obtain ⟨rfl, rfl, rfl⟩ := trodAll_nil r2
  obtain rfl : args = #[v0, v1, v2] := by cases args; simp_all
  obtain ⟨rfl, rfl⟩ := trodVars_none hV
  obtain ⟨x0, len0, cap0, rfl⟩ := okWide_slice Try.underlying31 (hval 0 31 v0 rfl rfl)
  obtain ⟨L0, hl0, hx0⟩ := spansArg h0
  have k0 := h0
  have lt0 : ∀ x ∈ p0, x.block < W.heap.size := by obtain ⟨m, hm⟩ := k0; exact DataW.trod_lt m _ _ _ hm
  obtain ⟨a1, rfl, rfl, rfl, w1⟩ := open_int Try.underlying3 (hval 1 3 v1 rfl rfl) h1
  obtain ⟨a2, rfl, rfl, rfl, w2⟩ := open_int Try.underlying3 (hval 2 3 v2 rfl rfl) h2
  clear hA0 hval0
  refine (walk x0 len0 cap0 L0 hl0 a1 a2 W hx0).mono fun e W' ⟨he, bel⟩ => ?_
  subst he
  exact ⟨_, rfl, _, _, _, [], _, [], hW', trodAll_mk1 (shut_bool Try.underlying4 _), (trodAll_cons_mk (Below.trod laidOut (by kernel_rfl) (of_decide_eq_true (by kernel_rfl)) k0 bel lt0) (trodAll_cons_mk (shut_int Try.underlying3 w1) (trodAll_cons_mk (shut_int Try.underlying3 w2) trodAll_mk0))), rfl, bel.frame _, fun h => by cases h⟩

theorem over : Rows.spanListsRow.holds Try.pinned (OpenSpec.ofChange Rows.spanListsSpec) :=
  OpenClaim.holds_of_wide 4 Try.f4 rfl rfl rfl rfl rfl rfl rfl ⟨rfl, rfl, rfl, rfl, rfl⟩ rfl rfl rfl rfl rfl (by kernel_rfl) Try.func4 (by kernel_rfl)
    (of_decide_eq_true (by kernel_rfl)) (by unfold Func.isWrapper; first | (rw [if_pos (by decide +kernel)]; kernel_rfl) | (rw [if_neg (by decide +kernel)]; exact ⟨rfl, rfl⟩))
    (fun os started H enc _ => lifted os started H enc)

theorem proved : Rows.SpanListsSaid := over
end Go.Proofs.Ythjbihbaccnmcaa.spanLists
namespace Go.Proofs.Ythjbihbaccnmcaa
theorem spanLists_holds : Rows.SpanListsSaid := spanLists.proved
#print axioms spanLists_holds
end Go.Proofs.Ythjbihbaccnmcaa
