/- Of whatever stretch below three thousand, in whichever order its ends come: the spans of its cover are apart, right and rising, lie in it, and their lengths add up to its own, as the given function SpanCovers asks; no condition. -/
import Derived.Test.YthjbihbaccnmcaaWorks
import Derived.Test.YthjbihbaccnmcaaChain
import Derived.Test.YthjbihbaccnmcaaArgs
import Derived.ProofKit
import Derived.OpenShut
import Derived.ShutString
import Derived.ChangeOld
import Derived.Below
import Derived.Deep.Slices
namespace Go.Proofs.Ythjbihbaccnmcaa.spanCovers
open Go.ChangeShapes Go.WideShapes Go.ChangeAt Go.RowKit
set_option linter.unusedVariables false

theorem own : ownKnob Try.prog.godebug = none := by kernel_rfl
theorem laidOut : laidOutB Try.prog = true := by kernel_rfl

theorem elAll {w : World} {y : Addr} {A B : Int} (h : El w y A B) : (∀ x : Gr w, x.w.cell? y = some (.int .i64 A)) ∧ (∀ x : Gr w, x.w.cell? ⟨y.block, y.off + 1, none⟩ = some (.int .i64 B)) :=
  ⟨fun x => (h.kept x.g).at0, fun x => (h.kept x.g).at1⟩

theorem form2 {w : World} {B : Nat} {v : Value} {L : List (Int × Int)} (h : Lst w B v L) : (v = .slice none 0 0 ∧ L = []) ∨ ∃ x cap, v = .slice (some x) L.length cap ∧ Row w x L := by
  rcases h.form with h | ⟨g, cap, h1, _, _, _, _, h2⟩
  · exact .inl h
  · exact .inr ⟨_, cap, h1, h2⟩

theorem args (a0 : Int) : ∃ U f : Nat, IntKind.u64.wrap a0 = (U : Int) ∧ (U : Int) % 3000 = (f : Int) ∧ f < 3000 := by
  refine ⟨(IntKind.u64.wrap a0).toNat, (IntKind.u64.wrap a0).toNat % 3000, ?_, by simp, Nat.mod_lt _ (by decide)⟩
  rw [IntKind.wrap_u64]; omega

set_option maxRecDepth 10000 in
set_option maxHeartbeats 4000000 in
theorem core (a0 a1 : Int) (U V f g a t : Nat) (w : World) (h0 : IntKind.u64.wrap a0 = (U : Int)) (h1 : (U : Int) % 3000 = (f : Int)) (k0 : IntKind.u64.wrap a1 = (V : Int)) (k1 : (V : Int) % 3000 = (g : Int)) (hf : f < 3000) (hg : g < 3000)
    (hs : g < f ∧ a = g ∧ t = f ∨ ¬ g < f ∧ a = f ∧ t = g) :
    Calls Try.prog 6 #[.int .i64 a0, .int .i64 a1] w fun e w' => e = .returned (.bool true) ∧ w.grownBy w' none := by
  have hat : a ≤ t := by omega
  have ht : t < 3000 := by omega
  rcases hs with ⟨hs, rfl, rfl⟩ | ⟨hs, rfl, rfl⟩
  all_goals
    have HA : Hid (M.all (M.cover t a) = true) := hideIt (M.cover_all (by omega))
    go_enter Try.func6, Try.ntmps6
    go_wp2_with fail
    refine (works_any _).mono ?_
    rintro e w1 ⟨rfl, g1⟩
    go_wp2_with fail
    refine (cover_yes a t _ (by omega) (by omega)).mono ?_
    rintro e w2 ⟨v, rfl, ho, g2⟩
    clear h0 h1 k0 k1
    rcases form2 ho with ⟨rfl, hL⟩ | ⟨x, cap, rfl, hrow⟩
    · have hta : t = a := by
        by_cases e : a < t
        · rw [M.cover_lt e] at hL; cases hL
        · omega
      go_wp2_with fail
      refine (all_lst _ _ _ _ true ho HA.out).mono ?_
      rintro e w3 ⟨rfl, g3⟩
      clear ho hL
      go_wp2
      refine wp_loop_rounds 1 ?_
      rw [rounds_succ]
      go_wp2
      go_ret
      exact ⟨ret_bool (by subst hta; simp), gbTrans g1 (gbTrans g2 g3)⟩
    · obtain ⟨len, hlen⟩ : ∃ len, (M.cover t a).length = len := ⟨_, rfl⟩
      have hl3 : len ≤ 3000 := by rw [← hlen]; exact M.cover_len 3000 t a (by omega)
      have HLen : Hid ((M.cover t a).length = len) := hideIt hlen
      have HRow : Hid (Row w2 x (M.cover t a)) := hideIt hrow
      rw [hlen] at ho
      have HO : Hid (Lst w2 w1.heap.size (.slice (some x) len cap) (M.cover t a)) := hideIt ho
      rw [hlen]
      clear hlen hrow ho
      go_wp2_with fail
      refine (all_lst _ _ _ _ true HO.out HA.out).mono ?_
      rintro e w3 ⟨rfl, g3⟩
      go_wp2
      go_loopg [7, 8] len (fun g s7 s8 wr => ∃ i n : Nat, i + g = len ∧ s8 = .int .i64 i ∧ s7 = .int .i64 n ∧ Hid (a + n = M.st t a i) ∧ w3.grownBy wr none)
      case atStart => exact ⟨0, 0, by omega, rfl, rfl, hideIt rfl, gbRefl _ _⟩
      case round =>
        obtain ⟨i, n, hi, rfl, rfl, HN, gw⟩ := hrel
        by_cases hlt : i < len
        · have hlt' : (i : Int) < (len : Int) := by omega
          obtain ⟨c, b, m, hr, hb16, hm, m1, m2, hchk, hn, hac, hst, _, hpre⟩ := M.cover_fact (Nat.le_of_lt ht) hat HN.out (show i < (M.cover t a).length by rw [HLen.out]; exact hlt)
          have h2 := M.shl_val b m hb16 hm
          have HC := fun w => check_is c b t 0 hchk w
          have hac' : ¬ (c : Int) < (a : Int) := Int.not_lt.2 (Int.ofNat_le.2 hac)
          have d1 : decide ((c : Int) < (a : Int)) = false := decide_eq_false hac'
          have d1' : decide (c < a) = false := decide_eq_false (Nat.not_lt.2 hac)
          have HN2 : Hid (a + (n + m) = M.st t a (i + 1)) := hideIt hst
          have E1 : El wr (x.add (i * 2)) c b := ((HRow.out i _ hr).kept g3).kept gw
          obtain ⟨p0, p1⟩ := elAll E1
          have HPre : Hid (∀ i1, i1 + 1 = i → ∃ c1 b1 : Nat, (M.cover t a)[i1]? = some ((c1 : Int), (b1 : Int)) ∧ c1 < c) := hideIt hpre
          clear hr hm hst hchk hpre
          by_cases hi1 : 1 ≤ i
          · obtain ⟨i1, hi1⟩ : ∃ i1, i1 + 1 = i := ⟨i - 1, by omega⟩
            obtain ⟨c1, b1, hr1, hcc1⟩ := HPre.out i1 hi1
            have hlt1 : ¬ (c : Int) ≤ (c1 : Int) := Int.not_le.2 (Int.ofNat_lt.2 hcc1)
            have E3 : El wr (x.add (i1 * 2)) c1 b1 := ((HRow.out i1 _ hr1).kept g3).kept gw
            obtain ⟨q0, q1⟩ := elAll E3
            have hi2 : (i : Int) - 1 = (i1 : Int) := by omega
            have hi3 : (i1 : Int) < (len : Int) := by omega
            have hi4 : (0 : Int) ≤ (i1 : Int) := by omega
            have d2 : decide (0 < i) = true := decide_eq_true (by omega)
            have d2' : decide ((0 : Int) < (i : Int)) = true := decide_eq_true (by omega)
            have d3 : decide ((c : Int) ≤ (c1 : Int)) = false := decide_eq_false hlt1
            have d3' : decide (c ≤ c1) = false := decide_eq_false (Nat.not_le.2 hcc1)
            clear hr1 hcc1
            go_wp2
            refine wp_region_grown (by kernel_rfl) (by kernel_rfl) fun _ => ?_
            repeat (go_big_quiet_step ((go_at_call 11; with_reducible exact callsGr (HC _))))
            refine wpQuiet_nil ?_
            rintro _ ⟨⟨w4, g4⟩, rfl⟩
            have E2 := E1.kept g4
            have y0 := E2.at0
            have y1 := E2.at1
            go_wp2
            go_roundg (gk - 1)
            case rel => exact ⟨i + 1, n + m, by omega, by go_num, by go_num, HN2, gbTrans gw g4⟩
            case measure => omega
          · have d2 : decide (0 < i) = false := decide_eq_false (by omega)
            have d2' : decide ((0 : Int) < (i : Int)) = false := decide_eq_false (by omega)
            clear hi1
            go_wp2
            refine wp_region_grown (by kernel_rfl) (by kernel_rfl) fun _ => ?_
            repeat (go_big_quiet_step ((go_at_call 11; with_reducible exact callsGr (HC _))))
            refine wpQuiet_nil ?_
            rintro _ ⟨⟨w4, g4⟩, rfl⟩
            have E2 := E1.kept g4
            have y0 := E2.at0
            have y1 := E2.at1
            go_wp2
            go_roundg (gk - 1)
            case rel => exact ⟨i + 1, n + m, by omega, by go_num, by go_num, HN2, gbTrans gw g4⟩
            case measure => omega
        · have HF : Hid (a + n = t) := hideIt (M.cover_stop hat HN.out (by rw [HLen.out]; exact hlt))
          have hF : (n : Int) = (t : Int) - (a : Int) := by have := HF.out; omega
          have hF' : ((n : Int) == (t : Int) - (a : Int)) = true := by simpa using hF
          clear hF
          go_wp2
          go_ret
          exact ⟨rfl, gbTrans g1 (gbTrans g2 (gbTrans g3 gw))⟩

theorem walk (a0 a1 : Int) (w : World) :
    Calls Try.prog 6 #[.int .i64 a0, .int .i64 a1] w fun e w' => e = .returned (.bool true) ∧ Below w.heap.size w w' := by
  refine endWalk ?_
  obtain ⟨U, f, h0, h1, hf⟩ := args a0
  obtain ⟨V, g, k0, k1, hg⟩ := args a1
  by_cases hs : g < f
  · exact core a0 a1 U V f g g f w h0 h1 k0 k1 hf hg (.inl ⟨hs, rfl, rfl⟩)
  · exact core a0 a1 U V f g f g w h0 h1 k0 k1 hf hg (.inr ⟨hs, rfl, rfl⟩)

set_option maxRecDepth 100000 in
theorem lifted (os : Os) (started : os.Started) (H : Type) (enc : TypeId × Value → H) :
    ReturnsInHanded {} Try.checked os 6 .any (Rows.spanCoversSpec.pre6 enc Try.prog Try.f6 Rows.spanCoversRow.domain false) (Rows.spanCoversSpec.post enc Try.prog Try.f6 false true false false) := by
  refine returnsInHanded_of_change (C := Try.checked) own started (by kernel_rfl) Try.func6
    (ChangeSpec.witness6 (enc := enc) (C := Try.checked) false ⟨#[], #[.int .i64 0, .int .i64 0], []⟩ 8 (by kernel_rfl) (by kernel_rfl) (by kernel_rfl) (by kernel_rfl)) ?_
  intro W base args ds gs before hval0 hW hcnd _
  have hval : ∀ (j : Nat) t v, Try.f6.params[j]? = some t → args[j]? = some v → Value.okWide Try.prog W .any base t v := hval0
  have hW' := hW
  obtain ⟨p, q, hA0, hV, rfl, hfz, hnd⟩ := hW
  have hA : DataW.TrodAll enc Try.prog W 0 (fun _ => true) true Try.f6.params.toList args.toList ds p := hA0
  rw [Try.params6] at hA hval
  obtain ⟨v0, vs0, d0, ds0, p0, q0, hargs, rfl, rfl, h0, r0⟩ := trodAll_cons hA
  obtain ⟨v1, vs1, d1, ds1, p1, q1, rfl, rfl, rfl, h1, r1⟩ := trodAll_cons r0
  obtain ⟨rfl, rfl, rfl⟩ := trodAll_nil r1
  obtain rfl : args = #[v0, v1] := by cases args; simp_all
  obtain ⟨rfl, rfl⟩ := trodVars_none hV
  obtain ⟨a0, rfl, rfl, rfl, w0⟩ := open_int Try.underlying3 (hval 0 3 v0 rfl rfl) h0
  obtain ⟨a1, rfl, rfl, rfl, w1⟩ := open_int Try.underlying3 (hval 1 3 v1 rfl rfl) h1
  clear hA0 hval0
  refine (walk a0 a1 W).mono fun e W' ⟨he, bel⟩ => ?_
  subst he
  exact ⟨_, rfl, _, _, _, [], _, [], hW', trodAll_mk1 (shut_bool Try.underlying4 _), (trodAll_cons_mk (shut_int Try.underlying3 w0) (trodAll_cons_mk (shut_int Try.underlying3 w1) trodAll_mk0)), rfl, bel.frame _, fun h => by cases h⟩

theorem over : Rows.spanCoversRow.holds Try.pinned (OpenSpec.ofChange Rows.spanCoversSpec) :=
  OpenClaim.holds_of_wide 6 Try.f6 rfl rfl rfl rfl rfl rfl rfl ⟨rfl, rfl, rfl, rfl, rfl⟩ rfl rfl rfl rfl rfl (by kernel_rfl) Try.func6 (by kernel_rfl)
    (of_decide_eq_true (by kernel_rfl)) (by unfold Func.isWrapper; first | (rw [if_pos (by decide +kernel)]; kernel_rfl) | (rw [if_neg (by decide +kernel)]; exact ⟨rfl, rfl⟩))
    (fun os started H enc _ => lifted os started H enc)

theorem proved : Rows.SpanCoversSaid := over
end Go.Proofs.Ythjbihbaccnmcaa.spanCovers
namespace Go.Proofs.Ythjbihbaccnmcaa
theorem spanCovers_holds : Rows.SpanCoversSaid := spanCovers.proved
#print axioms spanCovers_holds
end Go.Proofs.Ythjbihbaccnmcaa
