/- Of whatever stretch below three thousand: no span of its cover can be twice as long, as the given function SpanLong asks; no condition. -/
import Derived.Test.YthjbihbaccnmcaaWorks
import Derived.Test.YthjbihbaccnmcaaChain
import Derived.Test.YthjbihbaccnmcaaArgs
import Derived.ProofKit
import Derived.OpenShut
import Derived.ShutString
import Derived.ChangeOld
import Derived.Below
import Derived.Deep.Slices
namespace Go.Proofs.Ythjbihbaccnmcaa.spanLong
open Go.ChangeShapes Go.WideShapes Go.ChangeAt Go.RowKit
set_option linter.unusedVariables false

theorem own : ownKnob Try.prog.godebug = none := by kernel_rfl
theorem laidOut : laidOutB Try.prog = true := by kernel_rfl

theorem elAll {w : World} {y : Addr} {A B : Int} (h : El w y A B) : (∀ x : Gr w, x.w.cell? y = some (.int .i64 A)) ∧ (∀ x : Gr w, x.w.cell? ⟨y.block, y.off + 1, none⟩ = some (.int .i64 B)) :=
  ⟨fun x => (h.kept x.g).at0, fun x => (h.kept x.g).at1⟩

theorem form2 {w : World} {B : Nat} {v : Value} {L : List (Int × Int)} (h : Lst w B v L) : (v = .slice none 0 0 ∧ L = []) ∨ ∃ x cap, v = .slice (some x) L.length cap ∧ Row w x L := by
  rcases h.form with h | ⟨g, cap, h1, _, _, _, _, h2⟩
  · exact .inl h
  · exact .inr ⟨_, cap, h1, h2⟩

theorem args (a0 : Int) : ∃ U f : Nat, IntKind.u64.wrap a0 = (U : Int) ∧ (U : Int) % 3000 = (f : Int) ∧ f < 3000 := by
  refine ⟨(IntKind.u64.wrap a0).toNat, (IntKind.u64.wrap a0).toNat % 3000, ?_, by simp, Nat.mod_lt _ (by decide)⟩
  rw [IntKind.wrap_u64]; omega


set_option maxRecDepth 10000 in
set_option maxHeartbeats 1000000 in
theorem core0 (a0 a1 : Int) (U V a : Nat) (w : World) (h0 : IntKind.u64.wrap a0 = (U : Int)) (h1 : (U : Int) % 3000 = (a : Int)) (k0 : IntKind.u64.wrap a1 = (V : Int)) (k1 : (V : Int) % 3000 = (a : Int)) (ht : a < 3000) :
    Calls Try.prog 8 #[.int .i64 a0, .int .i64 a1] w fun e w' => e = .returned (.bool true) ∧ w.grownBy w' none := by
  go_enter Try.func8, Try.ntmps8
  go_wp2_with fail
  refine (works_any _).mono ?_
  rintro e w1 ⟨rfl, g1⟩
  go_wp2_with fail
  refine (cover_yes a a _ (by omega) (by omega)).mono ?_
  rintro e w2 ⟨v, rfl, ho, g2⟩
  rw [M.cover_end (by omega)] at ho
  clear h0 h1 k0 k1
  rcases form2 ho with ⟨rfl, hL⟩ | ⟨x, cap, rfl, hrow⟩
  · clear ho hL
    go_wp2
    refine wp_loop_rounds 1 ?_
    rw [rounds_succ]
    go_wp2
    go_ret
    exact ⟨rfl, gbTrans g1 g2⟩
  · clear ho hrow
    go_wp2
    refine wp_loop_rounds 1 ?_
    rw [rounds_succ]
    go_wp2
    go_ret
    exact ⟨rfl, gbTrans g1 g2⟩

set_option maxRecDepth 10000 in
set_option maxHeartbeats 2000000 in
theorem core (a0 a1 : Int) (U V f g a t : Nat) (w : World) (h0 : IntKind.u64.wrap a0 = (U : Int)) (h1 : (U : Int) % 3000 = (f : Int)) (k0 : IntKind.u64.wrap a1 = (V : Int)) (k1 : (V : Int) % 3000 = (g : Int)) (ht : t < 3000) (hs : a < t)
    (hh : (t = f ∧ a = g) ∨ (a = f ∧ t = g)) :
    Calls Try.prog 8 #[.int .i64 a0, .int .i64 a1] w fun e w' => e = .returned (.bool true) ∧ w.grownBy w' none := by
  have hat : a ≤ t := Nat.le_of_lt hs
  have hnt : ¬ t < a := Nat.not_lt.2 hat
  rcases hh with ⟨rfl, rfl⟩ | ⟨rfl, rfl⟩
  all_goals
    go_enter Try.func8, Try.ntmps8
    go_wp2_with fail
    refine (works_any _).mono ?_
    rintro e w1 ⟨rfl, g1⟩
    go_wp2_with fail
    refine (cover_yes a t _ (by omega) (by omega)).mono ?_
    rintro e w2 ⟨v, rfl, ho, g2⟩
    clear h0 h1 k0 k1
    rcases form2 ho with ⟨rfl, hL⟩ | ⟨x, cap, rfl, hrow⟩
    · exfalso
      rw [M.cover_lt hs] at hL; cases hL
    · obtain ⟨len, hlen⟩ : ∃ len, (M.cover t a).length = len := ⟨_, rfl⟩
      have hl3 : len ≤ 3000 := by rw [← hlen]; exact M.cover_len 3000 t a (by omega)
      have HLen : Hid ((M.cover t a).length = len) := hideIt hlen
      have HRow : Hid (Row w2 x (M.cover t a)) := hideIt hrow
      rw [hlen]
      clear hlen hrow ho
      go_wp2
      go_loopg [7] len (fun g s7 wr => ∃ i n : Nat, i + g = len ∧ s7 = .int .i64 i ∧ Hid (a + n = M.st t a i) ∧ w2.grownBy wr none)
      case atStart => exact ⟨0, 0, by omega, rfl, hideIt rfl, gbRefl _ _⟩
      case round =>
        obtain ⟨i, n, hi, rfl, HN, gw⟩ := hrel
        by_cases hlt : i < len
        · have hlt' : (i : Int) < (len : Int) := by omega
          obtain ⟨c, b, m, hr, hb16, _, _, _, _, _, _, hst, hchk, _⟩ := M.cover_fact (Nat.le_of_lt ht) hat HN.out (show i < (M.cover t a).length by rw [HLen.out]; exact hlt)
          obtain ⟨d, hd⟩ : ∃ d : Nat, b + 1 = d := ⟨_, rfl⟩
          have hd' : (b : Int) + 1 = (d : Int) := by omega
          rw [hd'] at hchk
          obtain ⟨r, hrr⟩ : ∃ r, M.chk (c : Int) (d : Int) (t : Int) = r := ⟨_, rfl⟩
          rw [hrr] at hchk
          have HC := fun w => check_is c d t r hrr w
          have hwd : IntKind.i64.wrap (d : Int) = (d : Int) := by rw [IntKind.wrap_i64]; omega
          have HN2 : Hid (a + (n + m) = M.st t a (i + 1)) := hideIt hst
          have E1 : El wr (x.add (i * 2)) c b := (HRow.out i _ hr).kept gw
          have p0 := E1.at0
          have p1 := E1.at1
          have hi0 : (0 : Int) ≤ (i : Int) := by omega
          clear hr hst hrr hd
          go_wp2
          go_region_held3 (fun w' => w'.cell? (x.add (i * 2)) = some (.int .i64 c) ∧ w'.cell? ⟨(x.add (i * 2)).block, (x.add (i * 2)).off + 1, none⟩ = some (.int .i64 b)) (first | go_keep | exact ⟨(E1.kept (gbAllocN (gbDrew (gbRefl _ none)) _)).at0, (E1.kept (gbAllocN (gbDrew (gbRefl _ none)) _)).at1⟩ | fail) (fail)
          rename_i hold
          clear hold
          go_wp2_with fail
          refine (HC _).mono ?_
          rintro e w4 ⟨rfl, g4⟩
          go_wp2
          go_roundg (gk - 1)
          case rel => exact ⟨i + 1, n + m, by omega, by go_num, HN2, gbTrans gw (gbTrans (gbDrew (gbAlloc _ _ _)) g4)⟩
          case measure => omega
        · go_wp2
          go_ret
          exact ⟨rfl, gbTrans g1 (gbTrans g2 gw)⟩

theorem walk (a0 a1 : Int) (w : World) :
    Calls Try.prog 8 #[.int .i64 a0, .int .i64 a1] w fun e w' => e = .returned (.bool true) ∧ Below w.heap.size w w' := by
  refine endWalk ?_
  obtain ⟨U, f, h0, h1, hf⟩ := args a0
  obtain ⟨V, g, k0, k1, hg⟩ := args a1
  by_cases hs : g < f
  · exact core a0 a1 U V f g g f w h0 h1 k0 k1 hf hs (.inl ⟨rfl, rfl⟩)
  · by_cases hs2 : f < g
    · exact core a0 a1 U V f g f g w h0 h1 k0 k1 hg hs2 (.inr ⟨rfl, rfl⟩)
    · obtain rfl : f = g := by omega
      exact core0 a0 a1 U V f w h0 h1 k0 k1 hf

set_option maxRecDepth 100000 in
theorem lifted (os : Os) (started : os.Started) (H : Type) (enc : TypeId × Value → H) :
    ReturnsInHanded {} Try.checked os 8 .any (Rows.spanLongSpec.pre6 enc Try.prog Try.f8 Rows.spanLongRow.domain false) (Rows.spanLongSpec.post enc Try.prog Try.f8 false true false false) := by
  refine returnsInHanded_of_change (C := Try.checked) own started (by kernel_rfl) Try.func8
    (ChangeSpec.witness6 (enc := enc) (C := Try.checked) false ⟨#[], #[.int .i64 0, .int .i64 0], []⟩ 8 (by kernel_rfl) (by kernel_rfl) (by kernel_rfl) (by kernel_rfl)) ?_
  intro W base args ds gs before hval0 hW hcnd _
  have hval : ∀ (j : Nat) t v, Try.f8.params[j]? = some t → args[j]? = some v → Value.okWide Try.prog W .any base t v := hval0
  have hW' := hW
  obtain ⟨p, q, hA0, hV, rfl, hfz, hnd⟩ := hW
  have hA : DataW.TrodAll enc Try.prog W 0 (fun _ => true) true Try.f8.params.toList args.toList ds p := hA0
  rw [Try.params8] at hA hval
  obtain ⟨v0, vs0, d0, ds0, p0, q0, hargs, rfl, rfl, h0, r0⟩ := trodAll_cons hA
  obtain ⟨v1, vs1, d1, ds1, p1, q1, rfl, rfl, rfl, h1, r1⟩ := trodAll_cons r0
  obtain ⟨rfl, rfl, rfl⟩ := trodAll_nil r1
  obtain rfl : args = #[v0, v1] := by cases args; simp_all
  obtain ⟨rfl, rfl⟩ := trodVars_none hV
  obtain ⟨a0, rfl, rfl, rfl, w0⟩ := open_int Try.underlying3 (hval 0 3 v0 rfl rfl) h0
  obtain ⟨a1, rfl, rfl, rfl, w1⟩ := open_int Try.underlying3 (hval 1 3 v1 rfl rfl) h1
  clear hA0 hval0
  refine (walk a0 a1 W).mono fun e W' ⟨he, bel⟩ => ?_
  subst he
  exact ⟨_, rfl, _, _, _, [], _, [], hW', trodAll_mk1 (shut_bool Try.underlying4 _), (trodAll_cons_mk (shut_int Try.underlying3 w0) (trodAll_cons_mk (shut_int Try.underlying3 w1) trodAll_mk0)), rfl, bel.frame _, fun h => by cases h⟩

theorem over : Rows.spanLongRow.holds Try.pinned (OpenSpec.ofChange Rows.spanLongSpec) :=
  OpenClaim.holds_of_wide 8 Try.f8 rfl rfl rfl rfl rfl rfl rfl ⟨rfl, rfl, rfl, rfl, rfl⟩ rfl rfl rfl rfl rfl (by kernel_rfl) Try.func8 (by kernel_rfl)
    (of_decide_eq_true (by kernel_rfl)) (by unfold Func.isWrapper; first | (rw [if_pos (by decide +kernel)]; kernel_rfl) | (rw [if_neg (by decide +kernel)]; exact ⟨rfl, rfl⟩))
    (fun os started H enc _ => lifted os started H enc)

theorem proved : Rows.SpanLongSaid := over
end Go.Proofs.Ythjbihbaccnmcaa.spanLong
namespace Go.Proofs.Ythjbihbaccnmcaa
theorem spanLong_holds : Rows.SpanLongSaid := spanLong.proved
#print axioms spanLong_holds
end Go.Proofs.Ythjbihbaccnmcaa
